/-
  The law BlockCut, walked.
-/
import Derived.Test.YtmoffcgbjmeiaaaDoorMXBlockBack
import Derived.Test.YtmoffcgbjmeiaaaDoorM2
namespace Go.Proofs.YtmoffcgbjmeiaaaDoor
open Go.RowKit

theorem parse_facts {b : ByteArray} {l : List KV} {e : Int} (h : parseP b = (l, e)) (_hb : b.size ≤ 1000000) : (e = 0 ∧ buildP l = (b, 0) ∧ longK l = false ∧ (blkL l).length ≤ 524288 ∧ okP l ∧ l.length ≤ 1000000) ∨ (e = 31 ∧ l = []) := by
  rcases parse_ok h with ⟨rfl, h2⟩ | h2
  · obtain ⟨k1, k2, k3, k4⟩ := buildP_ok h2
    have hc := body_count l 0 []
    have h8 := blkL_length l
    exact Or.inl ⟨rfl, h2, k2, k3, fun m hm => by have := longK_ok k2 m hm; omega, by omega⟩
  · exact Or.inr h2

set_option maxRecDepth 100000 in
set_option maxHeartbeats 8000000 in
theorem lawBlockCut (A : Option Addr) (n c : Nat) (L : List KV) (k : Int) (_hk : (Lit.int .i64 k).wf = true) (more : ByteArray) (hmore : more.size ≤ 140737488351232) (w : World) (I : PairsIn w A n L) (hT : LaidB w) :
    Calls Tryd.prog 6 #[.slice A n c, .int .i64 k, .string more] w fun e w' => e = .returned (.bool true) ∧ Below w.heap.size w w' := by
  have CL := Lib.hid (light_any A n c L w I)
  have CA := fun W (h : LaidB W) => Lib.hid (alive11_any W h)
  have HT := Lib.hid hT
  by_cases hlt : wtK L ≤ 60000
  · rw [decide_eq_true hlt] at CL
    by_cases hm3 : more.size ≤ 300
    · have q1 : (more.size : Int) ≤ 300 := by omega
      have q2 : decide ((300 : Int) < (more.size : Int)) = false := decide_eq_false (by omega)
      obtain ⟨k1, k2, k3, k4⟩ := light_short hlt
      have Hlen := Lib.hid I.at_.len
      have hn : n ≤ 3000 := by rw [Hlen.out]; exact k4
      have CB := fun W (hb : Below w.heap.size w W) => Lib.hid (build_any A n c L W (I.at_.below hb) k3 (by omega) k1 k2 (hT.on hb))
      obtain ⟨rs, re, hr⟩ : ∃ rs re, buildP L = (rs, re) := ⟨_, _, rfl⟩
      rw [hr] at CB
      have hbl := build_light hlt hr
      clear hr hlt k1 k2 k3 k4 hT I Hlen
      go_enter Tryd.func6, Tryd.ntmps6
      go_wp2_with fail
      refine CL.out.mono ?_
      rintro e w1 ⟨rfl, hb1⟩
      have HB1 := Lib.hid hb1
      have CB1 := CB w1 hb1
      clear hb1 CB CL
      go_wp2_with fail
      refine CB1.out.mono ?_
      rintro e w2 ⟨rfl, hb2⟩
      have HB2 := Lib.hid (HB1.out.trans (hb2.mono HB1.out.size))
      clear hb2 CB1
      dsimp only
      rcases hbl with ⟨rfl, z1, z2⟩ | ⟨rfl, rfl⟩
      · have z0 : ((rs.size : Int) == 0) = false := by rw [beq_eq_false_iff_ne]; omega
        have hpos : (0 : Int) < (rs.size : Int) := by omega
        have t1 := Int.tmod_lt_of_pos k hpos
        have t2 := Int.lt_tmod_of_pos k hpos
        obtain ⟨m, hm, hk⟩ : ∃ m : Nat, m < rs.size ∧ (k.tmod (rs.size : Int) = (m : Int) ∨ k.tmod (rs.size : Int) = (m : Int) - (rs.size : Int)) := by
          by_cases hk : 0 ≤ k.tmod (rs.size : Int)
          · exact ⟨(k.tmod (rs.size : Int)).toNat, by omega, Or.inl (by omega)⟩
          · exact ⟨(k.tmod (rs.size : Int) + rs.size).toNat, by omega, Or.inr (by omega)⟩
        obtain ⟨k0, htm⟩ : ∃ k0, k.tmod (rs.size : Int) = k0 := ⟨_, rfl⟩
        rw [htm] at hk
        obtain ⟨cat, hcat⟩ : ∃ cat, rs ++ more = cat := ⟨_, rfl⟩
        have hcz : cat.size ≤ 60308 := by rw [← hcat, cat_size]; omega
        have CC := fun W => cat_is (P := Tryd.prog) rs more cat hcat (by omega) W
        have hez : (rs.extract 0 m).size ≤ 60008 := by simp; omega
        have m0 : (0 : Int) ≤ (m : Int) := by omega
        have m1 : (m : Int) ≤ (rs.size : Int) := by omega
        have m5 : decide ((m : Int) < 0) = false := decide_eq_false (by omega)
        have m6 : ¬ (m : Int) < 0 := by omega
        obtain ⟨T, hT3⟩ : ∃ T : List ByteArray, T = [rs.extract 0 m, cat, more] := ⟨_, rfl⟩
        have HT3 := Lib.hid hT3
        have HTl : Hid (T.length = 3 ∧ ∀ s ∈ T, s.size ≤ 1000000) := Lib.hid (by
          rw [hT3]
          refine ⟨rfl, fun s hs => ?_⟩
          simp at hs
          rcases hs with rfl | rfl | rfl <;> omega)
        clear t1 t2 hpos hcat hT3
        rcases hk with rfl | rfl
        all_goals
          go_wp2_with fail
          have b3 : Hid (Blk (w2.alloc (.cells #[.string (rs.extract 0 m), .string cat, .string more] 9)) w2.heap.size 9 (T.map Value.string).toArray) := Lib.hid (by rw [HT3.out]; exact Blk.new _ _ _)
          have HB3 : Hid (Below w.heap.size w (w2.alloc (.cells #[.string (rs.extract 0 m), .string cat, .string more] 9))) := Lib.hid (below_alloc HB2.out (Nat.le_refl _) _)
          generalize w2.alloc (.cells #[.string (rs.extract 0 m), .string cat, .string more] 9) = w3 at *
          generalize w2.heap.size = g at *
          clear CC HT3
          go_loopw [60] (fun i wr => ∃ j : Nat, j ≤ 3 ∧ i = .int .i64 (j : Int) ∧ Hid (Blk wr g 9 (T.map Value.string).toArray) ∧ Hid (Below w.heap.size w wr)) (fun i _ => 3 - (intOf i).toNat)
          case atStart => exact ⟨0, by omega, rfl, b3, HB3⟩
          case round =>
            obtain ⟨j, hj, rfl, HG, HB⟩ := hrel
            by_cases hj3 : j < 3
            · obtain ⟨s, hs⟩ : ∃ s, T[j]? = some s := ⟨_, List.getElem?_eq_getElem (by rw [HTl.out.1]; exact hj3)⟩
              have hsz := HTl.out.2 s (List.mem_of_getElem? hs)
              have hc : wr.cell? ⟨g, j, none⟩ = some (.string s) := by
                rw [HG.out.cell j]
                simp [hs]
              have e1 : (j : Int) < 3 := by omega
              have e2 : (0 : Int) ≤ (j : Int) := by omega
              have CP := parse_any s wr hsz (HT.out.on HB.out)
              obtain ⟨l, er, hp⟩ : ∃ l er, parseP s = (l, er) := ⟨_, _, rfl⟩
              have hpf := parse_facts hp hsz
              rw [hp] at CP
              have CP := Lib.hid CP
              clear hs hp hsz
              dsimp only at CP
              rcases hpf with ⟨rfl, hb, f1, f2, f3, f4⟩ | ⟨rfl, rfl⟩
              · go_wp2_with fail
                refine CP.out.mono ?_
                rintro e w5 ⟨v, rfl, ho, hb5⟩
                obtain ⟨a5, c5, rfl⟩ := ho.slice
                have HB5 := Lib.hid (HB.out.trans (hb5.mono HB.out.size))
                have HG5 := Lib.hid (HG.out.below hb5 HG.out.lt)
                have CBl := build_any a5 l.length c5 l w5 ho.keysAt f3 f4 f1 f2 (HT.out.on HB5.out)
                rw [hb] at CBl
                have CBl := Lib.hid CBl
                clear ho hb5 hb f1 f2 f3 CP
                go_wp2_with fail
                refine CBl.out.mono ?_
                rintro e w6 ⟨rfl, hb6⟩
                have HB6 := Lib.hid (HB5.out.trans (hb6.mono HB5.out.size))
                have HG6 := Lib.hid (HG5.out.below hb6 HG5.out.lt)
                clear hb6
                go_wp2_with fail
                go_roundw
                case rel => exact ⟨j + 1, by omega, by go_num, HG6, HB6⟩
                case measure => simp [intOf]; omega
              · go_wp2_with fail
                refine CP.out.mono ?_
                rintro e w5 ⟨v, rfl, ho, hb5⟩
                obtain ⟨a5, c5, rfl⟩ := ho.slice
                have HB5 := Lib.hid (HB.out.trans (hb5.mono HB.out.size))
                have HG5 := Lib.hid (HG.out.below hb5 HG.out.lt)
                clear ho hb5 CP
                go_wp2_with fail
                go_roundw
                case rel => exact ⟨j + 1, by omega, by go_num, HG5, HB5⟩
                case measure => simp [intOf]; omega
            · obtain rfl : j = 3 := by omega
              have CAr := CA wr (HT.out.on HB.out)
              go_wp2_with fail
              refine CAr.out.mono ?_
              rintro e w9 ⟨rfl, hb9⟩
              have HB9 := Lib.hid (HB.out.trans (hb9.mono HB.out.size))
              clear hb9
              go_wp2_with fail
              go_ret
              exact ⟨rfl, HB9.out⟩
      · have CA2 := CA w2 (HT.out.on HB2.out)
        clear CA
        go_wp2_with fail
        refine CA2.out.mono ?_
        rintro e w3 ⟨rfl, hb3⟩
        have HB3 := Lib.hid (HB2.out.trans (hb3.mono HB2.out.size))
        clear hb3
        go_wp2_with fail
        go_ret
        exact ⟨rfl, HB3.out⟩
    · have q1 : ¬ (more.size : Int) ≤ 300 := by omega
      have q2 : decide ((300 : Int) < (more.size : Int)) = true := decide_eq_true (by omega)
      clear hlt hT I
      go_enter Tryd.func6, Tryd.ntmps6
      go_wp2_with fail
      refine CL.out.mono ?_
      rintro e w1 ⟨rfl, hb1⟩
      have HB1 := Lib.hid hb1
      have CA1 := CA w1 (HT.out.on hb1)
      clear hb1 CA
      go_wp2_with fail
      refine CA1.out.mono ?_
      rintro e w2 ⟨rfl, hb2⟩
      have HB2 := Lib.hid (HB1.out.trans (hb2.mono HB1.out.size))
      clear hb2
      go_wp2_with fail
      go_ret
      exact ⟨rfl, HB2.out⟩
  · rw [decide_eq_false hlt] at CL
    clear hlt hT I
    go_enter Tryd.func6, Tryd.ntmps6
    go_wp2_with fail
    refine CL.out.mono ?_
    rintro e w1 ⟨rfl, hb1⟩
    have HB1 := Lib.hid hb1
    have CA1 := CA w1 (HT.out.on hb1)
    clear hb1 CA
    go_wp2_with fail
    refine CA1.out.mono ?_
    rintro e w2 ⟨rfl, hb2⟩
    have HB2 := Lib.hid (HB1.out.trans (hb2.mono HB1.out.size))
    clear hb2
    go_wp2_with fail
    go_ret
    exact ⟨rfl, HB2.out⟩
end Go.Proofs.YtmoffcgbjmeiaaaDoor
