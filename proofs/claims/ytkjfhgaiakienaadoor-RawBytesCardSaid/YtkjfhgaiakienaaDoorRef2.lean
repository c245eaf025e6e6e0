/-
  Walks over the document's own answer to chapter 1: GetVar.
-/
import Derived.Test.YtkjfhgaiakienaaDoorRef1
import Derived.Test.YtkjfhgaiakienaaDoorVarPlain
import Derived.Deep.RegionHeld3
namespace Go.Proofs.YtkjfhgaiakienaaDoor
open Go.RowKit

def VarIs (g : GV) (v n er : Int) : Prop := match g with
  | .ok a b => v = a ∧ n = b ∧ er = 0
  | .err e => v = 0 ∧ n = 0 ∧ er = e

theorem take_high {s : ByteArray} {k : Nat} (h : ∀ c ∈ s.data.toList.take k, 128 ≤ c.toNat) (hk : k < s.size) (hc : 128 ≤ s[k].toNat) : ∀ c ∈ s.data.toList.take (k + 1), 128 ≤ c.toNat := by
  intro c hm
  rw [List.take_succ_eq_append_getElem (by simpa using hk)] at hm
  rcases List.mem_append.1 hm with h1 | h1
  · exact h c h1
  · rw [List.mem_singleton] at h1
    rw [h1]
    exact hc

set_option maxRecDepth 100000 in
set_option maxHeartbeats 4000000 in
theorem rgetvar_any (s : ByteArray) (w : World) (hs : s.size ≤ 140737488351232) :
    Calls Tryd.prog 16 #[.string s] w fun e w' => ∃ v n er : Int, e = .returned (.tuple #[.int .i64 v, .int .i64 n, .int .i64 er]) ∧ Hid (VarIs (gv s.data.toList 0 0) v n er) ∧ Below w.heap.size w w' := by
  have hlen : s.data.toList.length = s.size := rfl
  obtain ⟨g, hg⟩ : ∃ g, g = gv s.data.toList 0 0 := ⟨_, rfl⟩
  rw [← hg]
  have Hg := Lib.hid hg
  have Hlen := Lib.hid hlen
  clear hg hlen
  go_enter Tryd.func16, Tryd.ntmps16
  go_wp2
  go_loop [5] (fun i => ∃ k : Nat, k ≤ s.size ∧ i = .int .i64 (k : Int) ∧ Hid (∀ c ∈ s.data.toList.take k, 128 ≤ c.toNat)) (fun i => s.size - (intOf i).toNat)
  case atStart => exact ⟨0, by omega, rfl, by show ∀ c ∈ _, _; simp⟩
  case round =>
    obtain ⟨k, hk, rfl, Hh⟩ := hrel
    by_cases hl : k < s.size
    · have hb8 := UInt8.toNat_lt s[k]
      by_cases h128 : 128 ≤ s[k].toNat
      · have Hh2 := Lib.hid (take_high Hh.out hl h128)
        go_wp2
        go_round
        case rel => exact ⟨k + 1, by omega, by go_num, Hh2⟩
        case measure => simp [intOf]; omega
      · by_cases h8 : 8 < k
        · have hgg : g = .err 4 := by
            rw [Hg.out]
            refine gv_high _ 0 0 (by have := Hlen.out; omega) ?_
            intro c hc
            refine Hh.out c ?_
            rw [show k = 9 + (k - 9) from by omega]
            exact List.mem_of_mem_take (i := 9) (by rw [List.take_take, Nat.min_eq_left (by omega)]; exact hc)
          have Hgg := Lib.hid hgg
          clear hgg
          go_wp2
          go_ret3
          exact ⟨_, _, _, rfl, by rw [Hgg.out]; exact Lib.hid ⟨rfl, rfl, rfl⟩, Below.refl _ _⟩
        · have hLl : (s.data.toList.take (k + 1)).length = k + 1 := by rw [List.length_take, Hlen.out]; omega
          have hsplit : s.data.toList.take (k + 1) = s.data.toList.take k ++ [s[k]] := List.take_succ_eq_append_getElem (by simpa using hl)
          have hgg : g = if s[k].toNat = 0 ∧ 0 < k then .err 4 else .ok (val (s.data.toList.take (k + 1))) (k + 1) := by
            have h1 : s.data.toList = s.data.toList.take k ++ s[k] :: s.data.toList.drop (k + 1) := by
              rw [show s[k] :: s.data.toList.drop (k + 1) = s.data.toList.drop k from (List.drop_eq_getElem_cons (by simpa using hl)).symm, List.take_append_drop]
            have h2 : (s.data.toList.take k).length = k := by rw [List.length_take, Hlen.out]; omega
            have h3 := gv_val (s.data.toList.take k) (s.data.toList.drop (k + 1)) s[k] (by omega) 0 0 Hh.out (by omega)
            rw [← h1, h2, ← hsplit] at h3
            rw [Hg.out, h3]
            simp
          have hpv : pv (val (s.data.toList.take (k + 1))) = s.data.toList.take (k + 1) ↔ ¬ (s[k].toNat = 0 ∧ 0 < k) := by
            rw [hsplit]
            have h2 : (s.data.toList.take k).length = k := by rw [List.length_take, Hlen.out]; omega
            constructor
            · rintro h ⟨h3, h4⟩
              exact pv_end _ _ (by intro e; rw [e] at h2; simp at h2; omega) _ h3 h
            · intro h
              exact pv_val _ _ (by omega) Hh.out (by rw [h2]; exact h)
          have Hgg := Lib.hid hgg
          have Hpv := Lib.hid hpv
          have HLl := Lib.hid hLl
          clear hgg hpv hLl hsplit
          go_wp2
          go_loop [6, 7] (fun x i => ∃ j y : Nat, j ≤ k + 1 ∧ i = .int .i64 ((j : Int) - 1) ∧ x = .int .i64 (y : Int) ∧ Hid (y = val ((s.data.toList.take (k + 1)).drop j))) (fun _ i => (intOf i + 1).toNat)
          case atStart => exact ⟨k + 1, 0, by omega, by go_num, rfl, by show _ = _; rw [List.drop_of_length_le (Nat.le_of_eq HLl.out)]; rfl⟩
          case round =>
            obtain ⟨j, y, hj, hi, rfl, Hy⟩ := hrel
            have hyl := val_lt ((s.data.toList.take (k + 1)).drop j)
            rw [← Hy.out, List.length_drop, HLl.out] at hyl
            cases j with
            | succ j =>
              rw [show (((j + 1 : Nat) : Int) - 1) = (j : Int) from by omega] at hi
              subst hi
              have hy56 : y < 72057594037927936 := Nat.lt_of_lt_of_le hyl (Nat.pow_le_pow_right (n := 2) (show 2 > 0 by decide) (show 7 * (k + 1 - (j + 1)) ≤ 56 by omega))
              have hjs : j < s.size := by omega
              have hjb := UInt8.toNat_lt s[j]
              have hst : y * 128 + s[j].toNat % 128 = val ((s.data.toList.take (k + 1)).drop j) := by
                rw [val_drop _ j (by rw [HLl.out]; omega), ← Hy.out, List.getElem_take]
                rfl
              have Hst := Lib.hid hst
              clear hst hyl
              go_wp2
              go_round
              case rel => exact ⟨j, y * 128 + s[j].toNat % 128, by omega, by go_num, by go_num, Hst⟩
              case measure => simp [intOf]
            | zero =>
              subst hi
              have hy63 : y < 9223372036854775808 := Nat.lt_of_lt_of_le hyl (Nat.pow_le_pow_right (n := 2) (show 2 > 0 by decide) (show 7 * (k + 1 - 0) ≤ 63 by omega))
              clear hyl
              obtain ⟨q, hq⟩ : ∃ q : ByteArray, q = ⟨(pv y).toArray⟩ := ⟨_, rfl⟩
              have Hq : ∀ W, Below w.heap.size w W → Calls Tryd.prog 23 #[.int .i64 (y : Int)] W fun e w' => e = .returned (.string q) ∧ Below w.heap.size w w' := by
                intro W hW
                have := rputvar_any y W hy63
                rw [← hq] at this
                exact this.mono fun e w' h => ⟨h.1, hW.trans (h.2.mono hW.size)⟩
              have Hq := Lib.hid Hq
              have B0 := Below.refl w.heap.size w
              have hqe : q.toList = pv y := by rw [Lib.toList_data, hq]
              obtain ⟨n1, hn1⟩ : ∃ n1, n1 = k + 1 := ⟨_, rfl⟩
              have hxe : (s.extract 0 n1).toList = s.data.toList.take (k + 1) := by rw [Lib.toList_data, Lib.extract_data, hn1]; simp
              have hyy : y = val (s.data.toList.take (k + 1)) := Hy.out
              have hk1 : (k : Int) + 1 = (n1 : Int) := by omega
              have hk2 : n1 ≤ s.size := by omega
              have hkw : IntKind.i64.wrap (n1 : Int) = (n1 : Int) := by rw [IntKind.wrap_i64]; omega
              have hk3 : (n1 : Int) ≤ (s.size : Int) := by omega
              have hk4 : (0 : Int) ≤ (n1 : Int) := by omega
              by_cases hz : s[k].toNat = 0 ∧ 0 < k
              · have hgg : g = .err 4 := by rw [Hgg.out, if_pos hz]
                have hne : (q.toList == (s.extract 0 n1).toList) = false := by
                  rw [hqe, hxe, beq_eq_false_iff_ne, hyy]
                  exact fun e => Hpv.out.1 e hz
                have Hge := Lib.hid hgg
                clear hgg hqe hxe hyy hq hz hn1
                go_wp2
                go_region_held3 (fun w' => Below w.heap.size w w') (first | exact B0.drew | assumption)
                  (first | (go_at_call 23; refine (Hq.out _ (by assumption)).mono ?_; rintro e w1 ⟨rfl, hb1⟩))
                go_wp2
                go_ret3
                exact ⟨_, _, _, rfl, by rw [Hge.out]; exact Lib.hid ⟨rfl, rfl, rfl⟩, by assumption⟩
              · have hgg : g = .ok y n1 := by rw [Hgg.out, if_neg hz, hyy, hn1]
                have hne : (q.toList == (s.extract 0 n1).toList) = true := by
                  rw [hqe, hxe, beq_iff_eq, hyy]
                  exact Hpv.out.2 hz
                have Hge := Lib.hid hgg
                clear hgg hqe hxe hyy hq hz hn1
                go_wp2
                go_region_held3 (fun w' => Below w.heap.size w w') (first | exact B0.drew | assumption)
                  (first | (go_at_call 23; refine (Hq.out _ (by assumption)).mono ?_; rintro e w1 ⟨rfl, hb1⟩))
                go_wp2
                go_ret3
                exact ⟨_, _, _, rfl, by rw [Hge.out]; exact Lib.hid ⟨rfl, rfl, rfl⟩, by assumption⟩
    · obtain rfl : k = s.size := by omega
      by_cases h8 : 8 < s.size
      · have hgg : g = .err 4 := by
          rw [Hg.out]
          refine gv_high _ 0 0 (by have := Hlen.out; omega) ?_
          intro c hc
          refine Hh.out c ?_
          rw [List.take_of_length_le (Nat.le_of_eq Hlen.out)]
          exact List.mem_of_mem_take hc
        have Hgg := Lib.hid hgg
        clear hgg
        go_wp2
        go_ret3
        exact ⟨_, _, _, rfl, by rw [Hgg.out]; exact Lib.hid ⟨rfl, rfl, rfl⟩, Below.refl _ _⟩
      · have hgg : g = .err 3 := by
          rw [Hg.out]
          refine gv_begin _ 0 0 (fun c hc => Hh.out c (by rw [List.take_of_length_le (Nat.le_of_eq Hlen.out)]; exact hc)) (by have := Hlen.out; omega)
        have Hgg := Lib.hid hgg
        clear hgg
        go_wp2
        go_ret3
        exact ⟨_, _, _, rfl, by rw [Hgg.out]; exact Lib.hid ⟨rfl, rfl, rfl⟩, Below.refl _ _⟩
end Go.Proofs.YtkjfhgaiakienaaDoor
