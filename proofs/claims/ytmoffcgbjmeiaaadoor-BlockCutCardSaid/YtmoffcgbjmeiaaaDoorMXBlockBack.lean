/-
  The law BlockBack, walked.
-/
import Derived.Test.YtmoffcgbjmeiaaaDoorM3
namespace Go.Proofs.YtmoffcgbjmeiaaaDoor
open Go.RowKit

theorem build_light {L : List KV} (h : wtK L ≤ 60000) {rs : ByteArray} {re : Int} (hr : buildP L = (rs, re)) : (re = 0 ∧ rs.size ≤ 60008 ∧ 8 ≤ rs.size) ∨ (re = 32 ∧ rs = ByteArray.empty) := by
  obtain ⟨h1, h2, _, _⟩ := light_short h
  have hb := blk_bounds h1
  have hs := sum_wt L
  unfold buildP at hr
  split at hr
  · exact Or.inr ⟨(congrArg Prod.snd hr).symm, (congrArg Prod.fst hr).symm⟩
  · rw [if_neg (by rw [h1]; decide), if_neg (by omega)] at hr
    obtain rfl := (congrArg Prod.fst hr)
    refine Or.inl ⟨(congrArg Prod.snd hr).symm, ?_, ?_⟩
    · show (⟨(blkL L).toArray⟩ : ByteArray).size ≤ _
      rw [size_mk]; omega
    · show 8 ≤ (⟨(blkL L).toArray⟩ : ByteArray).size
      rw [size_mk]; omega

set_option maxRecDepth 100000 in
set_option maxHeartbeats 8000000 in
theorem lawBlockBack (A : Option Addr) (n c : Nat) (L : List KV) (at_ : Int) (_ha : (Lit.int .i64 at_).wf = true) (by_ : Int) (_hb : (Lit.int .i64 by_).wf = true) (w : World) (I : PairsIn w A n L) (hT : LaidB w) :
    Calls Tryd.prog 3 #[.slice A n c, .int .i64 at_, .int .i64 by_] w fun e w' => e = .returned (.bool true) ∧ Below w.heap.size w w' := by
  have CL := Lib.hid (light_any A n c L w I)
  have CA := fun W (h : LaidB W) => Lib.hid (alive11_any W h)
  have HT := Lib.hid hT
  by_cases hlt : wtK L ≤ 60000
  · rw [decide_eq_true hlt] at CL
    obtain ⟨k1, k2, k3, k4⟩ := light_short hlt
    have HK := Lib.hid I.at_
    have Hlen := Lib.hid I.at_.len
    have Hok := Lib.hid k3
    have hn : n ≤ 3000 := by rw [Hlen.out]; exact k4
    have CB := fun W (hb : Below w.heap.size w W) => Lib.hid (build_any A n c L W (I.at_.below hb) k3 (by omega) k1 k2 (hT.on hb))
    obtain ⟨rs, re, hr⟩ : ∃ rs re, buildP L = (rs, re) := ⟨_, _, rfl⟩
    rw [hr] at CB
    have hbl := build_light hlt hr
    have Hr := Lib.hid hr
    clear hr hlt k1 k2 k3 k4 hT I
    go_enter Tryd.func3, Tryd.ntmps3
    go_wp2_with fail
    refine CL.out.mono ?_
    rintro e w1 ⟨rfl, hb1⟩
    have HB1 := Lib.hid hb1
    have CB1 := CB w1 hb1
    clear hb1 CB CL
    go_wp2_with fail
    refine CB1.out.mono ?_
    rintro e w2 ⟨rfl, hb2⟩
    have HB2 := Lib.hid (HB1.out.trans (hb2.mono HB1.out.size))
    have L2 := Lib.hid (HT.out.on HB2.out)
    clear hb2 CB1
    dsimp only
    rcases hbl with ⟨rfl, z1, z2⟩ | ⟨rfl, rfl⟩
    · have CP := parse_any rs w2 (by omega) L2.out
      rw [parse_build Hr.out] at CP
      have CP := Lib.hid CP
      go_wp2_with fail
      refine CP.out.mono ?_
      rintro e w3 ⟨v, rfl, ho, hb3⟩
      obtain ⟨av, cv, rfl⟩ := ho.slice
      have HB3 := Lib.hid (HB2.out.trans (hb3.mono HB2.out.size))
      have hKv := ho.keysAt
      rw [← Hlen.out] at hKv
      have CS := Lib.hid (same_at av A n cv c L w3 hKv (HK.out.below HB3.out) (by omega) (fun x hx => by have := Hok.out x hx; exact ⟨by omega, by omega⟩))
      have z3 : ¬ (rs.size : Int) < 8 := by omega
      have hlv : L.length = n := Hlen.out.symm
      rw [hlv]
      clear ho hb3 hKv CP hlv
      go_wp2_with fail
      refine CS.out.mono ?_
      rintro e w6 ⟨rfl, hb6⟩
      have HB6 := Lib.hid (HB3.out.trans (hb6.mono HB3.out.size))
      clear hb6 CS
      have z0 : ((rs.size : Int) == 0) = false := by rw [beq_eq_false_iff_ne]; omega
      have hpos : (0 : Int) < (rs.size : Int) := by omega
      have t1 := Int.tmod_lt_of_pos at_ hpos
      have t2 := Int.lt_tmod_of_pos at_ hpos
      obtain ⟨m, hm, hk⟩ : ∃ m : Nat, m < rs.size ∧ (at_.tmod (rs.size : Int) = (m : Int) ∨ at_.tmod (rs.size : Int) = (m : Int) - (rs.size : Int)) := by
        by_cases hk : 0 ≤ at_.tmod (rs.size : Int)
        · exact ⟨(at_.tmod (rs.size : Int)).toNat, by omega, Or.inl (by omega)⟩
        · exact ⟨(at_.tmod (rs.size : Int) + rs.size).toNat, by omega, Or.inr (by omega)⟩
      obtain ⟨k0, htm⟩ : ∃ k0, at_.tmod (rs.size : Int) = k0 := ⟨_, rfl⟩
      rw [htm] at hk
      clear t1 t2 hpos
      by_cases hby : by_ % 256 = 0
      · have CA6 := CA w6 (HT.out.on HB6.out)
        have hb' : (by_ % 256 == 0) = true := by simp [hby]
        clear hby CA Hr
        rcases hk with rfl | rfl
        all_goals
          go_wp2_with fail
          refine CA6.out.mono ?_
          rintro e w7 ⟨rfl, hb7⟩
          have HB7 := Lib.hid (HB6.out.trans (hb7.mono HB6.out.size))
          clear hb7
          go_wp2_with fail
          go_ret
          exact ⟨rfl, HB7.out⟩
      · obtain ⟨d, hd⟩ : ∃ d : UInt8, d = UInt8.ofNat (rs[m].toNat ^^^ (by_ % 256).toNat) := ⟨_, rfl⟩
        have hx : bits .xor .u8 ((rs[m]'hm).toNat : Int) (by_ % 256) = (d.toNat : Int) := by
          have h1 := u8_xor (rs[m].toNat) (UInt8.toNat_lt _) (by_ % 256).toNat (by omega)
          rw [Int.toNat_of_nonneg (by omega)] at h1
          rw [h1, hd, ← u8_of]
          exact Nat.xor_lt_two_pow (n := 8) (UInt8.toNat_lt _) (by omega)
        have hne : rs[m] ≠ d := by
          intro e
          have h1 := congrArg UInt8.toNat e
          rw [hd, UInt8.toNat_ofNat', Nat.mod_eq_of_lt (Nat.xor_lt_two_pow (n := 8) (UInt8.toNat_lt _) (by omega))] at h1
          have h2 := xor_cancel 0 (by_ % 256).toNat rs[m].toNat (by rw [Nat.zero_xor, Nat.xor_comm]; exact h1)
          omega
        obtain ⟨l, hl⟩ : ∃ l, l = rs.data.toList.set m d := ⟨_, rfl⟩
        have hll : l.length = rs.size := by rw [hl, List.length_set]; rfl
        have hpar : parseP ⟨l.toArray⟩ = ([], 31) := parse_changed (c := d) Hr.out (k := m) hm hne hl
        have hbs := run_bytes_of_string (P := Tryd.prog) w6 9 31 5 rs Tryd.underlying9 Tryd.underlying31 Tryd.underlying5
        generalize grownCap w6 rs.size 0 5 = cap at hbs
        have hrow : ∀ j (hj : j < rs.size), (bytesRow rs cap)[j]? = some (.int .u8 ((rs[j]'hj).toNat : Int)) := fun j hj => bytesRow_at rs cap j hj
        have hrsz : rs.size ≤ (bytesRow rs cap).size := by unfold bytesRow; rw [Array.size_append, Array.size_map]; exact Nat.le_add_right _ _
        generalize bytesRow rs cap = row at *
        have hcell : (w6.alloc (.cells row 5 (row.size, row.size + 1))).cell? ⟨w6.heap.size, m, none⟩ = some (.int .u8 ((rs[m]'hm).toNat : Int)) := (World.cell?_alloc_mark w6 row 5 (row.size, row.size + 1) m).trans (hrow m hm)
        have hfr : (w6.alloc (.cells row 5 (row.size, row.size + 1))).frozen? ⟨w6.heap.size, m, none⟩ = false := by
          rw [World.frozen?_alloc_mark, decide_eq_false (by omega)]; rfl
        have hobj := obj_set (heap_alloc_new w6 (.cells row 5 (row.size, row.size + 1))) m (.int .u8 (d.toNat : Int))
        have hb7 : Hid (Below w.heap.size w (((w6.alloc (.cells row 5 (row.size, row.size + 1))).setCell ⟨w6.heap.size, m, none⟩ (.int .u8 (d.toNat : Int))).drew)) := (below_setCell (below_alloc HB6.out (Nat.le_refl _) _) HB6.out.size _).drew
        have hcb : ∀ j (hj : j < l.length), (row.setIfInBounds m (.int .u8 (d.toNat : Int)))[j]? = some (b8 l[j]) := by
          intro j hj
          have hjs : j < rs.size := by rw [← hll]; exact hj
          rw [Array.getElem?_setIfInBounds]
          have hlj : l[j]? = some l[j] := List.getElem?_eq_getElem hj
          have hl2 : l[j]? = if m = j then some d else rs.data.toList[j]? := by
            rw [hl, List.getElem?_set]
            split
            · rw [if_pos (by simpa using hm)]
            · rfl
          by_cases e : m = j
          · subst e
            rw [if_pos rfl] at hl2
            rw [if_pos rfl, if_pos (by omega)]
            rw [hlj] at hl2
            rw [Option.some.inj hl2]
            rfl
          · rw [if_neg e] at hl2
            rw [if_neg e, hrow j hjs]
            rw [hlj, List.getElem?_eq_getElem (by simpa using hjs)] at hl2
            rw [Option.some.inj hl2]
            rfl
        have hcv : (convert 31 9 (.slice (some ⟨w6.heap.size, 0, none⟩) rs.size cap)).run Tryd.prog (((w6.alloc (.cells row 5 (row.size, row.size + 1))).setCell ⟨w6.heap.size, m, none⟩ (.int .u8 (d.toNat : Int))).drew) = .ok (.string ⟨l.toArray⟩) (((w6.alloc (.cells row 5 (row.size, row.size + 1))).setCell ⟨w6.heap.size, m, none⟩ (.int .u8 (d.toNat : Int))).drew) := bytes_of_obj (w := ((w6.alloc (.cells row 5 (row.size, row.size + 1))).setCell ⟨w6.heap.size, m, none⟩ (.int .u8 (d.toNat : Int))).drew) hobj hll.symm hcb
        have hb' : (by_ % 256 == 0) = false := by simp [hby]
        have CP2 := fun W (h : Below w.heap.size w W) => parse_any ⟨l.toArray⟩ W (by rw [size_mk]; omega) (HT.out.on h)
        rw [hpar] at CP2
        have CP2 := fun W h => Lib.hid (CP2 W h)
        have CP3 := CP2 (((w6.alloc (.cells row 5 (row.size, row.size + 1))).setCell ⟨w6.heap.size, m, none⟩ (.int .u8 (d.toNat : Int))).drew) hb7.out
        clear hobj hcb hrow hl hll hne hd hby HB6 hpar CP2
        rcases hk with rfl | rfl
        all_goals
          go_wp2_with fail
          refine CP3.out.mono ?_
          rintro e w8 ⟨v8, rfl, ho8, hb8⟩
          obtain ⟨a8, c8, rfl⟩ := ho8.slice
          have HB8 := Lib.hid (hb7.out.trans (hb8.mono hb7.out.size))
          have CA8 := CA w8 (HT.out.on HB8.out)
          clear ho8 hb8 CP3 CA hcv hcell hfr hbs hx hb7
          go_wp2_with fail
          refine CA8.out.mono ?_
          rintro e w9 ⟨rfl, hb9⟩
          have HB9 := Lib.hid (HB8.out.trans (hb9.mono HB8.out.size))
          clear hb9
          go_wp2_with fail
          go_ret
          exact ⟨rfl, HB9.out⟩
    · have CA2 := CA w2 L2.out
      clear CA Hr
      go_wp2_with fail
      refine CA2.out.mono ?_
      rintro e w3 ⟨rfl, hb3⟩
      have HB3 := Lib.hid (HB2.out.trans (hb3.mono HB2.out.size))
      clear hb3
      go_wp2_with fail
      go_ret
      exact ⟨rfl, HB3.out⟩
  · rw [decide_eq_false hlt] at CL
    clear hlt hT I
    go_enter Tryd.func3, Tryd.ntmps3
    go_wp2_with fail
    refine CL.out.mono ?_
    rintro e w1 ⟨rfl, hb1⟩
    have HB1 := Lib.hid hb1
    have CA1 := CA w1 (HT.out.on hb1)
    clear hb1 CA
    go_wp2_with fail
    refine CA1.out.mono ?_
    rintro e w2 ⟨rfl, hb2⟩
    have HB2 := Lib.hid (HB1.out.trans (hb2.mono HB1.out.size))
    clear hb2
    go_wp2_with fail
    go_ret
    exact ⟨rfl, HB2.out⟩
end Go.Proofs.YtmoffcgbjmeiaaaDoor
