/-
  Chapter 3's own answers: valid, above both, below both.
-/
import Derived.Test.YtalacionlbmcpaaGreatDoorBook12
namespace Go.Proofs.YtalacionlbmcpaaGreatDoor
open Go.RowKit

set_option maxRecDepth 100000 in
set_option maxHeartbeats 1000000 in
theorem rvalid_any (A : Option Addr) (n c : Nat) (xs : List Int) (w : World) (I : IntsIn w A n xs) :
    Calls Tryz.prog 21 #[.slice A n c] w fun e w' => e = .returned (.bool (validL xs)) ∧ w = w' := by
  have J := Lib.hid I
  have l := I.len
  have m := I.max
  clear I
  go_enter Tryz.func21, Tryz.ntmps21
  go_wp2_with fail
  go_loop [3] (fun i => ∃ k : Nat, k ≤ n ∧ i = .int .i64 (k : Int) ∧ Hid (∀ j, j < k → 0 ≤ xs.getD j 0 ∧ xs.getD j 0 < 281474976710656)) (fun i => n - (intOf i).toNat)
  case atStart => exact ⟨0, by omega, rfl, fun j hj => absurd hj (by omega)⟩
  case round =>
    obtain ⟨k, hk, rfl, Hle⟩ := hrel
    by_cases hl : k < n
    · obtain ⟨b, o, rfl, _, hc⟩ := J.out.some (by omega)
      have d := hc k hl
      obtain ⟨x, hx⟩ : ∃ x, xs.getD k 0 = x := ⟨_, rfl⟩
      rw [hx] at d
      have Hx := Lib.hid hx
      have hl1 : (k : Int) < (n : Int) := by omega
      clear hc hx
      by_cases hg : 0 ≤ x ∧ x < 281474976710656
      · obtain ⟨g1, g2⟩ := hg
        go_wp2_with fail
        go_round
        case rel =>
          refine ⟨k + 1, by omega, by go_num, fun j hj => ?_⟩
          by_cases hjk : j = k
          · subst hjk; rw [Hx.out]; exact ⟨g1, g2⟩
          · exact Hle.out j (by omega)
        case measure => simp [intOf]; omega
      · have hf : validL xs = false := by
          unfold validL
          refine decide_eq_false fun h => hg ?_
          have := h.2 k (by omega)
          rwa [Hx.out] at this
        have Hf := Lib.hid hf
        clear hf
        by_cases hg1 : x < 0
        · go_wp2_with fail
          go_ret
          exact ⟨by rw [Hf.out]; rfl, rfl⟩
        · have hg2 : 281474976710656 ≤ x := by omega
          go_wp2_with fail
          go_ret
          exact ⟨by rw [Hf.out]; rfl, rfl⟩
    · obtain rfl : k = n := by omega
      by_cases h1 : 1 ≤ (k : Int)
      · by_cases h8 : (k : Int) ≤ 8
        · have hf : validL xs = true := by
            unfold validL
            exact decide_eq_true ⟨⟨by omega, by omega⟩, fun j hj => Hle.out j (by omega)⟩
          have Hf := Lib.hid hf
          clear hf
          go_wp2_with fail
          go_ret
          exact ⟨by rw [Hf.out]; rfl, rfl⟩
        · have hf : validL xs = false := by
            unfold validL
            exact decide_eq_false fun h => h8 (by omega)
          have Hf := Lib.hid hf
          clear hf
          go_wp2_with fail
          go_ret
          exact ⟨by rw [Hf.out]; rfl, rfl⟩
      · have hf : validL xs = false := by
          unfold validL
          exact decide_eq_false fun h => h1 (by omega)
        have Hf := Lib.hid hf
        clear hf
        go_wp2_with fail
        go_ret
        exact ⟨by rw [Hf.out]; rfl, rfl⟩

theorem zip_take (f : Int → Int → Int) (xs ys : List Int) (n k : Nat) (hx : xs.length = n) (hy : ys.length = n) (hk : k < n) : (List.zipWith f xs ys).take (k + 1) = (List.zipWith f xs ys).take k ++ [f (xs.getD k 0) (ys.getD k 0)] := by
  rw [List.take_add_one, List.getElem?_zipWith, List.getElem?_eq_getElem (by omega), List.getElem?_eq_getElem (by omega), List.getD_eq_getElem?_getD, List.getD_eq_getElem?_getD, List.getElem?_eq_getElem (by omega), List.getElem?_eq_getElem (by omega)]
  rfl

set_option maxRecDepth 100000 in
set_option maxHeartbeats 1000000 in
theorem rjoin_any (A1 : Option Addr) (n1 c1 : Nat) (xs : List Int) (A2 : Option Addr) (n2 c2 : Nat) (ys : List Int) (w : World) (I1 : IntsIn w A1 n1 xs) (I2 : IntsIn w A2 n2 ys) (hn : n1 ≤ 100000) :
    Calls Tryz.prog 16 #[.slice A1 n1 c1, .slice A2 n2 c2] w fun e w' => ∃ v, e = .returned v ∧ Nums w' w.heap.size 3 v (joinL xs ys) ∧ Below w.heap.size w w' := by
  obtain ⟨i0, hi0, hz0, hz1, hz2⟩ := info_parts i64info
  have J1 := Lib.hid I1
  have J2 := Lib.hid I2
  have l1 := I1.len
  have l2 := I2.len
  have hn' : (n1 : Int) ≤ 100000 := by omega
  clear I1 I2
  by_cases hne : n1 = n2
  · subst hne
    go_enter Tryz.func16, Tryz.ntmps16
    go_wp2_with fail
    go_loopw [5, 6] (fun o i wr => ∃ k : Nat, k ≤ n1 ∧ i = .int .i64 (k : Int) ∧ Hid (Nums wr w.heap.size 3 o ((List.zipWith (fun x y : Int => if x < y then y else x) xs ys).take k)) ∧ Below w.heap.size w wr) (fun _ i _ => n1 - (intOf i).toNat)
    case atStart => exact ⟨0, by omega, rfl, World.ownsRow_nil _ _ _ _, Below.refl _ _⟩
    case round =>
      obtain ⟨k, hk, rfl, HN, hb⟩ := hrel
      by_cases hl : k < n1
      · have hst := zip_take (fun x y : Int => if x < y then y else x) xs ys n1 k l1 l2 hl
        have hlen : ((List.zipWith (fun x y : Int => if x < y then y else x) xs ys).take k).length = k := by simp; omega
        obtain ⟨b1, o1, rfl, _, hc1⟩ := (J1.out.below hb).some (by omega)
        obtain ⟨b2, o2, rfl, _, hc2⟩ := (J2.out.below hb).some (by omega)
        have d1 := hc1 k hl
        have d2 := hc2 k hl
        obtain ⟨x, hx⟩ : ∃ x, xs.getD k 0 = x := ⟨_, rfl⟩
        obtain ⟨y, hy⟩ : ∃ y, ys.getD k 0 = y := ⟨_, rfl⟩
        rw [hx] at d1 hst
        rw [hy] at d2 hst
        have Hst := Lib.hid hst
        have hl1 : (k : Int) < (n1 : Int) := by omega
        have Q3 : Hid (((List.zipWith (fun x y : Int => if x < y then y else x) xs ys).take k).length + 1 ≤ maxLen) := by unfold Hid maxLen; omega
        have Q4 : Hid ((((List.zipWith (fun x y : Int => if x < y then y else x) xs ys).take k).length + 1) * 8 ≤ 140737488355328) := by unfold Hid; omega
        have hS1 : w.heap.size ≤ wr.heap.size := hb.size
        clear hc1 hc2 hx hy hst hlen
        by_cases hg : y < x
        · have hv : ((fun x y : Int => if x < y then y else x) x y : Int) = x := by dsimp only; split <;> omega
          have Hv := Lib.hid hv
          clear hv
          go_wp2_with fail
          go_quiet (fail)
          go_wp2_with (at_builtin; refine wpList_append_own _ rfl _ _ 23 rfl w.heap.size 3 i0 (.int .i64 0) 1 8 Tryz.underlying23 hi0 hz0 hz1 hz2 rfl (by decide) _ _ _ rfl (World.ownsRow.alloc (HN.out.drewN nq) _) ⟨_, 0, none⟩ 1 1 [.int .i64 x] rfl rfl (cells_new _ _ [_]) (by intro u hu; simp at hu; subst hu; rfl) Q3.out Q4.out (Nat.le_trans hS1 (by simp)) ?_; intro v2 w2 hown2 hgr2 hnil2)
          have HM : Hid (Nums w2 w.heap.size 3 v2 ((List.zipWith (fun x y : Int => if x < y then y else x) xs ys).take (k + 1))) := by
            unfold Hid Nums
            rw [Hst.out, Hv.out, List.length_append, List.map_append]
            exact hown2
          have HB := Lib.hid (grown_below (below_alloc (below_drewN hb nq) (Nat.le_refl _) (.cells #[.int .i64 x] 3)) (Nat.le_refl _) (World.ownsRow.alloc (HN.out.drewN nq) _) hgr2)
          clear hown2 hgr2 hnil2
          go_wp2_with fail
          go_roundw
          case rel => exact ⟨k + 1, by omega, by go_num, HM.out, HB.out⟩
          case measure => simp [intOf]; omega
        · have hv : ((fun x y : Int => if x < y then y else x) x y : Int) = y := by dsimp only; split <;> omega
          have Hv := Lib.hid hv
          clear hv
          go_wp2_with fail
          go_quiet (fail)
          go_wp2_with (at_builtin; refine wpList_append_own _ rfl _ _ 23 rfl w.heap.size 3 i0 (.int .i64 0) 1 8 Tryz.underlying23 hi0 hz0 hz1 hz2 rfl (by decide) _ _ _ rfl (World.ownsRow.alloc (HN.out.drewN nq) _) ⟨_, 0, none⟩ 1 1 [.int .i64 y] rfl rfl (cells_new _ _ [_]) (by intro u hu; simp at hu; subst hu; rfl) Q3.out Q4.out (Nat.le_trans hS1 (by simp)) ?_; intro v2 w2 hown2 hgr2 hnil2)
          have HM : Hid (Nums w2 w.heap.size 3 v2 ((List.zipWith (fun x y : Int => if x < y then y else x) xs ys).take (k + 1))) := by
            unfold Hid Nums
            rw [Hst.out, Hv.out, List.length_append, List.map_append]
            exact hown2
          have HB := Lib.hid (grown_below (below_alloc (below_drewN hb nq) (Nat.le_refl _) (.cells #[.int .i64 y] 3)) (Nat.le_refl _) (World.ownsRow.alloc (HN.out.drewN nq) _) hgr2)
          clear hown2 hgr2 hnil2
          go_wp2_with fail
          go_roundw
          case rel => exact ⟨k + 1, by omega, by go_num, HM.out, HB.out⟩
          case measure => simp [intOf]; omega
      · obtain rfl : k = n1 := by omega
        have HL : Hid ((List.zipWith (fun x y : Int => if x < y then y else x) xs ys).take k = joinL xs ys) := by
          unfold Hid joinL
          rw [if_pos (by omega), List.take_of_length_le (by simp; omega)]
        go_wp2_with fail
        go_ret
        exact ⟨_, rfl, by rw [← HL.out]; exact HN.out, hb⟩
  · go_enter Tryz.func16, Tryz.ntmps16
    go_wp2_with fail
    go_ret
    refine ⟨_, rfl, ?_, Below.refl _ _⟩
    unfold joinL
    rw [if_neg (by omega)]
    exact World.ownsRow_nil _ _ _ _

set_option maxRecDepth 100000 in
set_option maxHeartbeats 1000000 in
theorem rmeet_any (A1 : Option Addr) (n1 c1 : Nat) (xs : List Int) (A2 : Option Addr) (n2 c2 : Nat) (ys : List Int) (w : World) (I1 : IntsIn w A1 n1 xs) (I2 : IntsIn w A2 n2 ys) (hn : n1 ≤ 100000) :
    Calls Tryz.prog 17 #[.slice A1 n1 c1, .slice A2 n2 c2] w fun e w' => ∃ v, e = .returned v ∧ Nums w' w.heap.size 3 v (meetL xs ys) ∧ Below w.heap.size w w' := by
  obtain ⟨i0, hi0, hz0, hz1, hz2⟩ := info_parts i64info
  have J1 := Lib.hid I1
  have J2 := Lib.hid I2
  have l1 := I1.len
  have l2 := I2.len
  have hn' : (n1 : Int) ≤ 100000 := by omega
  clear I1 I2
  by_cases hne : n1 = n2
  · subst hne
    go_enter Tryz.func17, Tryz.ntmps17
    go_wp2_with fail
    go_loopw [5, 6] (fun o i wr => ∃ k : Nat, k ≤ n1 ∧ i = .int .i64 (k : Int) ∧ Hid (Nums wr w.heap.size 3 o ((List.zipWith (fun x y : Int => if y < x then y else x) xs ys).take k)) ∧ Below w.heap.size w wr) (fun _ i _ => n1 - (intOf i).toNat)
    case atStart => exact ⟨0, by omega, rfl, World.ownsRow_nil _ _ _ _, Below.refl _ _⟩
    case round =>
      obtain ⟨k, hk, rfl, HN, hb⟩ := hrel
      by_cases hl : k < n1
      · have hst := zip_take (fun x y : Int => if y < x then y else x) xs ys n1 k l1 l2 hl
        have hlen : ((List.zipWith (fun x y : Int => if y < x then y else x) xs ys).take k).length = k := by simp; omega
        obtain ⟨b1, o1, rfl, _, hc1⟩ := (J1.out.below hb).some (by omega)
        obtain ⟨b2, o2, rfl, _, hc2⟩ := (J2.out.below hb).some (by omega)
        have d1 := hc1 k hl
        have d2 := hc2 k hl
        obtain ⟨x, hx⟩ : ∃ x, xs.getD k 0 = x := ⟨_, rfl⟩
        obtain ⟨y, hy⟩ : ∃ y, ys.getD k 0 = y := ⟨_, rfl⟩
        rw [hx] at d1 hst
        rw [hy] at d2 hst
        have Hst := Lib.hid hst
        have hl1 : (k : Int) < (n1 : Int) := by omega
        have Q3 : Hid (((List.zipWith (fun x y : Int => if y < x then y else x) xs ys).take k).length + 1 ≤ maxLen) := by unfold Hid maxLen; omega
        have Q4 : Hid ((((List.zipWith (fun x y : Int => if y < x then y else x) xs ys).take k).length + 1) * 8 ≤ 140737488355328) := by unfold Hid; omega
        have hS1 : w.heap.size ≤ wr.heap.size := hb.size
        clear hc1 hc2 hx hy hst hlen
        by_cases hg : x < y
        · have hv : ((fun x y : Int => if y < x then y else x) x y : Int) = x := by dsimp only; split <;> omega
          have Hv := Lib.hid hv
          clear hv
          go_wp2_with fail
          go_quiet (fail)
          go_wp2_with (at_builtin; refine wpList_append_own _ rfl _ _ 23 rfl w.heap.size 3 i0 (.int .i64 0) 1 8 Tryz.underlying23 hi0 hz0 hz1 hz2 rfl (by decide) _ _ _ rfl (World.ownsRow.alloc (HN.out.drewN nq) _) ⟨_, 0, none⟩ 1 1 [.int .i64 x] rfl rfl (cells_new _ _ [_]) (by intro u hu; simp at hu; subst hu; rfl) Q3.out Q4.out (Nat.le_trans hS1 (by simp)) ?_; intro v2 w2 hown2 hgr2 hnil2)
          have HM : Hid (Nums w2 w.heap.size 3 v2 ((List.zipWith (fun x y : Int => if y < x then y else x) xs ys).take (k + 1))) := by
            unfold Hid Nums
            rw [Hst.out, Hv.out, List.length_append, List.map_append]
            exact hown2
          have HB := Lib.hid (grown_below (below_alloc (below_drewN hb nq) (Nat.le_refl _) (.cells #[.int .i64 x] 3)) (Nat.le_refl _) (World.ownsRow.alloc (HN.out.drewN nq) _) hgr2)
          clear hown2 hgr2 hnil2
          go_wp2_with fail
          go_roundw
          case rel => exact ⟨k + 1, by omega, by go_num, HM.out, HB.out⟩
          case measure => simp [intOf]; omega
        · have hv : ((fun x y : Int => if y < x then y else x) x y : Int) = y := by dsimp only; split <;> omega
          have Hv := Lib.hid hv
          clear hv
          go_wp2_with fail
          go_quiet (fail)
          go_wp2_with (at_builtin; refine wpList_append_own _ rfl _ _ 23 rfl w.heap.size 3 i0 (.int .i64 0) 1 8 Tryz.underlying23 hi0 hz0 hz1 hz2 rfl (by decide) _ _ _ rfl (World.ownsRow.alloc (HN.out.drewN nq) _) ⟨_, 0, none⟩ 1 1 [.int .i64 y] rfl rfl (cells_new _ _ [_]) (by intro u hu; simp at hu; subst hu; rfl) Q3.out Q4.out (Nat.le_trans hS1 (by simp)) ?_; intro v2 w2 hown2 hgr2 hnil2)
          have HM : Hid (Nums w2 w.heap.size 3 v2 ((List.zipWith (fun x y : Int => if y < x then y else x) xs ys).take (k + 1))) := by
            unfold Hid Nums
            rw [Hst.out, Hv.out, List.length_append, List.map_append]
            exact hown2
          have HB := Lib.hid (grown_below (below_alloc (below_drewN hb nq) (Nat.le_refl _) (.cells #[.int .i64 y] 3)) (Nat.le_refl _) (World.ownsRow.alloc (HN.out.drewN nq) _) hgr2)
          clear hown2 hgr2 hnil2
          go_wp2_with fail
          go_roundw
          case rel => exact ⟨k + 1, by omega, by go_num, HM.out, HB.out⟩
          case measure => simp [intOf]; omega
      · obtain rfl : k = n1 := by omega
        have HL : Hid ((List.zipWith (fun x y : Int => if y < x then y else x) xs ys).take k = meetL xs ys) := by
          unfold Hid meetL
          rw [if_pos (by omega), List.take_of_length_le (by simp; omega)]
        go_wp2_with fail
        go_ret
        exact ⟨_, rfl, by rw [← HL.out]; exact HN.out, hb⟩
  · go_enter Tryz.func17, Tryz.ntmps17
    go_wp2_with fail
    go_ret
    refine ⟨_, rfl, ?_, Below.refl _ _⟩
    unfold meetL
    rw [if_neg (by omega)]
    exact World.ownsRow_nil _ _ _ _
end Go.Proofs.YtalacionlbmcpaaGreatDoor
