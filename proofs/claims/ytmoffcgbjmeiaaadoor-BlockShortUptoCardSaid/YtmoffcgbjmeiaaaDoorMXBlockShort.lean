/-
  The law BlockShort, walked.
-/
import Derived.Test.YtmoffcgbjmeiaaaDoorM3
namespace Go.Proofs.YtmoffcgbjmeiaaaDoor
open Go.RowKit

theorem comK_take {L : List KV} {k : Nat} {m : KV} (hm : L[k]? = some m) : comK 0 [] (L.take (k + 1)) = comK 0 [] (L.take k) + comI k (lastK [] (L.take k)) (bl m.1) := by
  have h1 := (List.getElem?_eq_some_iff.1 hm).1
  rw [ctake_snoc hm, comK_snoc, List.length_take, Nat.min_eq_left (by omega), Nat.zero_add]
theorem sumK_take {L : List KV} {k : Nat} {m : KV} (hm : L[k]? = some m) : sumK (L.take (k + 1)) = sumK (L.take k) + (9 + m.1.size + m.2.size) := by
  rw [ctake_snoc hm, sumK_snoc]
theorem comK_le : ∀ (L : List KV) (i : Nat) (prev : List UInt8), comK i prev L ≤ sumK L
  | [], _, _ => Nat.le_refl _
  | m :: r, i, prev => by
    have h1 := comK_le r (i + 1) (bl m.1)
    have h2 := (comI_le i prev (bl m.1)).1
    have h3 : (bl m.1).length = m.1.size := rfl
    rw [comK, sumK]
    omega
theorem wt_take_le {L : List KV} (k : Nat) : sumK (L.take k) ≤ wtK L := Nat.le_trans (sum_wt _) (wtK_take L k)

set_option maxRecDepth 100000 in
set_option maxHeartbeats 8000000 in
theorem lawBlockShort (A : Option Addr) (n c : Nat) (L : List KV) (w : World) (I : PairsIn w A n L) (hT : LaidB w) :
    Calls Tryd.prog 5 #[.slice A n c] w fun e w' => e = .returned (.bool true) ∧ Below w.heap.size w w' := by
  have CL := Lib.hid (light_any A n c L w I)
  have CA := fun W (h : LaidB W) => Lib.hid (alive11_any W h)
  have HT := Lib.hid hT
  by_cases hlt : wtK L ≤ 60000
  · rw [decide_eq_true hlt] at CL
    obtain ⟨k1, k2, k3, k4⟩ := light_short hlt
    have HK := Lib.hid I.at_
    have Hlen := Lib.hid I.at_.len
    have hn : n ≤ 3000 := by rw [Hlen.out]; exact k4
    have CB := fun W (hb : Below w.heap.size w W) => Lib.hid (build_any A n c L W (I.at_.below hb) k3 (by omega) k1 k2 (hT.on hb))
    have Hbd := Lib.hid (blk_bounds k1)
    obtain ⟨rs, re, hr⟩ : ∃ rs re, buildP L = (rs, re) := ⟨_, _, rfl⟩
    rw [hr] at CB
    have Hr := Lib.hid hr
    have Hlt := Lib.hid hlt
    clear hr hlt k1 k2 k3 k4 hT I
    go_enter Tryd.func5, Tryd.ntmps5
    go_wp2_with fail
    refine CL.out.mono ?_
    rintro e w1 ⟨rfl, hb1⟩
    have HB1 := Lib.hid hb1
    have CB1 := CB w1 hb1
    clear hb1 CB CL
    go_wp2_with fail
    refine CB1.out.mono ?_
    rintro e w2 ⟨rfl, hb2⟩
    have HB2 := Lib.hid (HB1.out.trans (hb2.mono HB1.out.size))
    clear hb2 CB1
    dsimp only
    by_cases hre : re = 0
    · subst hre
      obtain ⟨r1, r2, r3, r4⟩ := buildP_ok Hr.out
      have hsz : rs.size = (blkL L).length := by rw [r4, size_mk]
      have Hsz : Hid (rs.size + comK 0 [] L ≤ 8 + sumK L ∧ 8 + 3 * n ≤ rs.size ∧ rs.size ≤ 524288) := Lib.hid (by
        have := Hbd.out
        rw [hsz, Hlen.out]
        exact ⟨this.1, this.2, r3⟩)
      clear r1 r2 r3 r4 hsz Hr Hbd
      go_wp2_with fail
      go_loopw [5, 6, 7] (fun x y i wr => ∃ k : Nat, k ≤ n ∧ i = .int .i64 (k : Int) ∧ x = .int .i64 ((8 + sumK (L.take k) : Nat) : Int) ∧ y = .int .i64 ((comK 0 [] (L.take k) : Nat) : Int) ∧ Hid (Below w.heap.size w wr)) (fun _ _ i _ => n - (intOf i).toNat)
      case atStart => exact ⟨0, by omega, rfl, rfl, rfl, HB2⟩
      case round =>
        obtain ⟨k, hk, rfl, rfl, rfl, HB⟩ := hrel
        obtain ⟨wo, hwo⟩ : ∃ wo, wo = wr := ⟨_, rfl⟩
        subst hwo
        by_cases hkn : k < n
        · have hkL : k < L.length := by have := Hlen.out; omega
          have hm : L[k]? = some L[k] := List.getElem?_eq_getElem hkL
          generalize L[k] = mm at *
          obtain ⟨mk, mv⟩ := mm
          have hs := sumK_take hm
          have hcK := comK_take hm
          have hle := wt_take_le (L := L) (k + 1)
          have hcl := comK_le (L.take k) 0 []
          have hlt := Hlt.out
          dsimp only at hs hcK
          have k0 : (0 : Int) ≤ (k : Int) := by omega
          have k1 : (k : Int) < (n : Int) := by omega
          obtain ⟨t, ht⟩ : ∃ t, 8 + sumK (L.take k) = t := ⟨_, rfl⟩
          obtain ⟨cc, hcc⟩ : ∃ cc, comK 0 [] (L.take k) = cc := ⟨_, rfl⟩
          have hS2 : Hid (8 + sumK (L.take (k + 1)) = t + (9 + mk.size + mv.size)) := Lib.hid (by omega)
          have t1 : t + (9 + mk.size + mv.size) ≤ 60008 := by omega
          have c1 : cc ≤ 60008 := by omega
          rw [hcc] at hcK
          rw [ht, hcc]
          clear hs hle hcl hlt ht hcc hkL
          by_cases h8 : k % 8 = 0
          · have hC2 : Hid (comK 0 [] (L.take (k + 1)) = cc) := Lib.hid (by rw [hcK]; unfold comI; rw [if_pos h8, Nat.add_zero])
            have e8 : ((k : Int) % 8 != 0) = false := by rw [bne_eq_false_iff_eq]; omega
            obtain ⟨g, off, hA, hg, x0, x1⟩ := (HK.out.below HB.out).at_ k _ hm
            subst hA
            dsimp only at x0 x1
            clear hcK h8 hm
            generalize hr8 : (k : Int) % 8 = r8 at *
            go_wp2_with fail
            go_quiet (fail)
            go_wp2_with fail
            have HBq := Lib.hid (below_drewN HB.out nq)
            go_loopw [6, 8] (fun x y W => x = .int .i64 (cc : Int) ∧ y = .int .i64 0 ∧ Hid (Below w.heap.size w W)) (fun _ _ _ => 0)
            case atStart => exact ⟨rfl, rfl, HBq⟩
            case round =>
              obtain ⟨rfl, rfl, HBi⟩ := hrel
              go_wp2_with fail
              go_quiet (fail)
              go_wp2_with fail
              have HBe := Lib.hid (below_drewN HBi.out nq)
              exact ⟨⟨k + 1, by omega, by go_num, by rw [hS2.out]; go_num, by rw [hC2.out], HBe⟩, by simp [intOf]; omega⟩
          · obtain ⟨m', hkm⟩ : ∃ m', k = m' + 1 := ⟨k - 1, by omega⟩
            have hpL : m' < L.length := by have := Hlen.out; omega
            have hp : L[m']? = some L[m'] := List.getElem?_eq_getElem hpL
            generalize L[m'] = pp at *
            obtain ⟨pk, pv⟩ := pp
            have hlk := clastK_take hp
            rw [← hkm] at hlk
            dsimp only at hlk
            have e8 : ((k : Int) % 8 != 0) = true := by rw [bne_iff_ne]; omega
            have hC2 : Hid (comK 0 [] (L.take (k + 1)) = cc + comL (bl mk) (bl pk)) := Lib.hid (by rw [hcK]; unfold comI; rw [if_neg h8, hlk])
            have hcm := (comL_le (bl mk) (bl pk)).1
            rw [bl_len] at hcm
            have g3 : (m' : Int) < (n : Int) := by omega
            have g4 : (0 : Int) ≤ (m' : Int) := by omega
            have g5 : wrap64 ((k : Int) - 1) = (m' : Int) := by unfold wrap64; omega
            have g6 : IntKind.i64.wrap ((k : Int) - 1) = (m' : Int) := by rw [IntKind.wrap_i64]; omega
            obtain ⟨g, off, hA, hg, x0, x1, y0, -⟩ := (HK.out.below HB.out).two hm hp
            subst hA
            dsimp only at x0 x1 y0
            have hla : (bl pk).length = pk.size := rfl
            have hlm : (bl mk).length = mk.size := rfl
            have Hla := Lib.hid hla
            have Hlm := Lib.hid hlm
            obtain ⟨co, hco⟩ : ∃ co, comL (bl mk) (bl pk) = co := ⟨_, rfl⟩
            rw [hco] at hC2 hcm
            have Hco := Lib.hid hco
            clear hcK h8 hm hp hpL hlk hkm hla hlm hco
            generalize hr8 : (k : Int) % 8 = r8 at *
            go_wp2_with fail
            go_quiet (fail)
            go_wp2_with fail
            have HBq := Lib.hid (below_drewN (Below.refl wo.heap.size wo) nq)
            go_loopw [6, 8] (fun x y W => ∃ j : Nat, j ≤ mk.size ∧ j ≤ pk.size ∧ x = .int .i64 ((cc + j : Nat) : Int) ∧ y = .int .i64 (j : Int) ∧ Hid (co = j + comL ((bl mk).drop j) ((bl pk).drop j)) ∧ Hid (Below wo.heap.size wo W)) (fun _ y _ => mk.size - (intOf y).toNat)
            case atStart => exact ⟨0, by omega, by omega, rfl, rfl, Lib.hid (by rw [← Hco.out]; simp), HBq⟩
            case round =>
              obtain ⟨j, hj1, hj2, rfl, rfl, HJ, HBi⟩ := hrel
              have X0 := (HBi.out.cell (p := ⟨g, off + k * 2, none⟩) hg).trans x0
              have Y0 := (HBi.out.cell (p := ⟨g, off + m' * 2, none⟩) hg).trans y0
              have j0 : (0 : Int) ≤ (j : Int) := by omega
              have HBo := Lib.hid (HB.out.trans (HBi.out.mono HB.out.size))
              clear x0 y0
              by_cases hl1 : j < mk.size
              · have l1 : (j : Int) < (mk.size : Int) := by omega
                by_cases hl2 : j < pk.size
                · have l2 : (j : Int) < (pk.size : Int) := by omega
                  by_cases hq : mk[j] = pk[j]
                  · have hk2 : co = (j + 1) + comL ((bl mk).drop (j + 1)) ((bl pk).drop (j + 1)) := by
                      have := HJ.out
                      rw [comL_step (bl mk) (bl pk) j (by rw [Hlm.out]; exact hl1) (by rw [Hla.out]; exact hl2) hq] at this
                      omega
                    have Hk2 := Lib.hid hk2
                    have e2 : ((mk[j].toNat : Int) == (pk[j].toNat : Int)) = true := by rw [beq_iff_eq, hq]
                    clear hk2 hq HJ
                    go_wp2_with fail
                    go_quiet (fail)
                    go_wp2_with fail
                    go_roundw
                    case rel => exact ⟨j + 1, by omega, by omega, by go_num, by go_num, Hk2, Lib.hid (below_drewN HBi.out _)⟩
                    case measure => simp [intOf]; omega
                  · have hk2 : co = j := by
                      have := HJ.out
                      rw [comL_stop (bl mk) (bl pk) j (Or.inr (Or.inr ⟨by rw [Hlm.out]; exact hl1, by rw [Hla.out]; exact hl2, hq⟩))] at this
                      omega
                    have Hk2 := Lib.hid hk2
                    have e2 : ((mk[j].toNat : Int) == (pk[j].toNat : Int)) = false := by
                      rw [beq_eq_false_iff_ne]
                      intro e
                      exact hq (UInt8.toNat_inj.1 (by omega))
                    clear hk2 hq HJ
                    go_wp2_with fail
                    go_quiet (fail)
                    go_wp2_with fail
                    have HBe := Lib.hid (below_drewN HBo.out nq)
                    exact ⟨⟨k + 1, by omega, by go_num, by rw [hS2.out]; go_num, by rw [hC2.out, Hk2.out] <;> go_num, HBe⟩, by simp [intOf]; omega⟩
                · have hk2 : co = j := by
                    have := HJ.out
                    rw [comL_stop (bl mk) (bl pk) j (Or.inr (Or.inl (by rw [Hla.out]; omega)))] at this
                    omega
                  have Hk2 := Lib.hid hk2
                  have l2 : ¬ (j : Int) < (pk.size : Int) := by omega
                  have l3 : decide ((j : Int) < (pk.size : Int)) = false := decide_eq_false l2
                  have l4 : ¬ j < pk.size := hl2
                  clear hk2 HJ
                  go_wp2_with fail
                  go_quiet (fail)
                  go_wp2_with fail
                  have HBe := Lib.hid (below_drewN HBo.out nq)
                  exact ⟨⟨k + 1, by omega, by go_num, by rw [hS2.out]; go_num, by rw [hC2.out, Hk2.out] <;> go_num, HBe⟩, by simp [intOf]; omega⟩
              · have hk2 : co = j := by
                  have := HJ.out
                  rw [comL_stop (bl mk) (bl pk) j (Or.inl (by rw [Hlm.out]; omega))] at this
                  omega
                have Hk2 := Lib.hid hk2
                have l1 : ¬ (j : Int) < (mk.size : Int) := by omega
                have l3 : decide ((j : Int) < (mk.size : Int)) = false := decide_eq_false l1
                clear hk2 HJ
                go_wp2_with fail
                go_quiet (fail)
                go_wp2_with fail
                have HBe := Lib.hid (below_drewN HBo.out nq)
                exact ⟨⟨k + 1, by omega, by go_num, by rw [hS2.out]; go_num, by rw [hC2.out, Hk2.out] <;> go_num, HBe⟩, by simp [intOf]; omega⟩
        · have hkk : L.take k = L := List.take_of_length_le (by have := Hlen.out; omega)
          have k1 : ¬ (k : Int) < (n : Int) := by omega
          rw [hkk]
          obtain ⟨z1, z2, z3⟩ := Hsz.out
          have hle := sum_wt L
          have hlt := Hlt.out
          have hcl := comK_le L 0 []
          obtain ⟨t, ht⟩ : ∃ t, 8 + sumK L = t := ⟨_, rfl⟩
          obtain ⟨cc, hcc⟩ : ∃ cc, comK 0 [] L = cc := ⟨_, rfl⟩
          rw [ht] at z1 ⊢
          rw [hcc] at z1 ⊢
          have t1 : t ≤ 60008 := by omega
          have c1 : cc ≤ 60008 := by omega
          have hkn' : k = n := by omega
          have v1 : (rs.size : Int) ≤ (t : Int) - (cc : Int) := by omega
          have v2 : 8 + 3 * (n : Int) ≤ (rs.size : Int) := by omega
          have CA2 := CA wo (HT.out.on HB.out)
          clear hkk hle hlt hcl ht hcc z1 z2 z3 hkn'
          go_wp2_with fail
          refine CA2.out.mono ?_
          rintro e w3 ⟨rfl, hb3⟩
          have HB3 := Lib.hid (HB.out.trans (hb3.mono HB.out.size))
          clear hb3
          go_wp2_with fail
          go_ret
          exact ⟨rfl, HB3.out⟩
    · have e1 : (re != 0) = true := by rw [bne_iff_ne]; exact hre
      have CA2 := CA w2 (HT.out.on HB2.out)
      clear CA Hr Hbd
      go_wp2_with fail
      refine CA2.out.mono ?_
      rintro e w3 ⟨rfl, hb3⟩
      have HB3 := Lib.hid (HB2.out.trans (hb3.mono HB2.out.size))
      clear hb3
      go_wp2_with fail
      go_ret
      exact ⟨rfl, HB3.out⟩
  · rw [decide_eq_false hlt] at CL
    clear hlt hT I
    go_enter Tryd.func5, Tryd.ntmps5
    go_wp2_with fail
    refine CL.out.mono ?_
    rintro e w1 ⟨rfl, hb1⟩
    have HB1 := Lib.hid hb1
    have CA1 := CA w1 (HT.out.on hb1)
    clear hb1 CA
    go_wp2_with fail
    refine CA1.out.mono ?_
    rintro e w2 ⟨rfl, hb2⟩
    have HB2 := Lib.hid (HB1.out.trans (hb2.mono HB1.out.size))
    clear hb2
    go_wp2_with fail
    go_ret
    exact ⟨rfl, HB2.out⟩
end Go.Proofs.YtmoffcgbjmeiaaaDoor
