/-
  The book of lists: a vector is kept; the reference's order of vectors.
-/
import Derived.Test.YtalacionlbmcpaaGreatDoorBook9
namespace Go.Proofs.YtalacionlbmcpaaGreatDoor
open Go.RowKit

set_option maxRecDepth 100000 in
theorem bvec_any (B bk : Nat) (v1 v2 : Value) (L C : List Value) (A : Option Addr) (n c : Nat) (zs : List Int) (w : World) (hV : VBook w B bk v1 v2 L C) (hLC : L.length = C.length) (h250 : L.length < 250) (I : ∀ W, KeepT 3 w W → IntsIn W A n zs) (hn : n ≤ 100000) (hB : B ≤ w.heap.size) :
    Calls Tryz.prog 28 #[.pointer (some ⟨bk, 0, none⟩), .slice A n c] w fun e w' => e = .returned (.tuple #[]) ∧ ∃ u1 u2 cp, VBook w' B bk u1 u2 (L ++ [.slice A n c]) (C ++ [cp]) ∧ Nums w' w.heap.size 3 cp zs ∧ KeepT 3 w w' ∧ Below B w w' := by
  have H := Lib.hid (bvecs_any B bk v1 v2 L C A n c zs w hV hLC h250 I hn hB)
  clear hV hLC h250 I
  go_enter Tryz.func28, Tryz.ntmps28
  go_wp2_with fail
  refine H.out.mono ?_
  rintro e w' ⟨rfl, u1, u2, cp, hx⟩
  have HX := Lib.hid hx
  clear hx
  go_wp2_with fail
  go_end0
  exact ⟨rfl, u1, u2, cp, HX.out⟩

set_option maxRecDepth 100000 in
set_option maxHeartbeats 1000000 in
theorem rleq_any (A1 : Option Addr) (n1 c1 : Nat) (xs : List Int) (A2 : Option Addr) (n2 c2 : Nat) (ys : List Int) (w : World) (I1 : IntsIn w A1 n1 xs) (I2 : IntsIn w A2 n2 ys) :
    Calls Tryz.prog 23 #[.slice A1 n1 c1, .slice A2 n2 c2] w fun e w' => e = .returned (.bool (leqL xs ys)) ∧ ∃ q, w' = w.drewN q := by
  have J1 := Lib.hid I1
  have J2 := Lib.hid I2
  have l1 := I1.len
  have l2 := I2.len
  have m1 := I1.max
  have m2 := I2.max
  clear I1 I2
  by_cases hne : n1 = n2
  · subst hne
    go_enter Tryz.func23, Tryz.ntmps23
    go_wp2_with fail
    go_loopw [5] (fun i wr => ∃ k q : Nat, k ≤ n1 ∧ i = .int .i64 (k : Int) ∧ Hid (wr = w.drewN q) ∧ Hid (∀ j, j < k → xs.getD j 0 ≤ ys.getD j 0)) (fun i _ => n1 - (intOf i).toNat)
    case atStart => exact ⟨0, 0, by omega, rfl, rfl, fun j hj => absurd hj (by omega)⟩
    case round =>
      obtain ⟨k, q, hk, rfl, Hw, Hle⟩ := hrel
      by_cases hl : k < n1
      · have K1 := J1.out.drewN q
        have K2 := J2.out.drewN q
        rw [← Hw.out] at K1 K2
        obtain ⟨b1, o1, rfl, _, hc1⟩ := K1.some (by omega)
        obtain ⟨b2, o2, rfl, _, hc2⟩ := K2.some (by omega)
        have d1 := hc1 k hl
        have d2 := hc2 k hl
        obtain ⟨x, hx⟩ : ∃ x, xs.getD k 0 = x := ⟨_, rfl⟩
        obtain ⟨y, hy⟩ : ∃ y, ys.getD k 0 = y := ⟨_, rfl⟩
        rw [hx] at d1
        rw [hy] at d2
        have Hx := Lib.hid hx
        have Hy := Lib.hid hy
        have hl1 : (k : Int) < (n1 : Int) := by omega
        clear hc1 hc2 hx hy K1 K2
        by_cases hg : y < x
        · go_wp2_with fail
          go_quiet (fail)
          go_wp2_with fail
          have : leqL xs ys = false := by
            unfold leqL
            refine decide_eq_false fun h => ?_
            have := h.2 k (by omega)
            rw [Hx.out, Hy.out] at this
            omega
          rw [this]
          go_ret
          exact ⟨rfl, drewN_more Hw.out _⟩
        · go_wp2_with fail
          go_quiet (fail)
          go_wp2_with fail
          go_roundw
          case rel =>
            refine ⟨k + 1, _, by omega, by go_num, (by rw [Hw.out, World.drewN_drewN]; rfl), fun j hj => ?_⟩
            by_cases hjk : j = k
            · subst hjk; rw [Hx.out, Hy.out]; omega
            · exact Hle.out j (by omega)
          case measure => simp [intOf]; omega
      · obtain rfl : k = n1 := by omega
        go_wp2_with fail
        have : leqL xs ys = true := by
          unfold leqL
          exact decide_eq_true ⟨by omega, fun j hj => Hle.out j (by omega)⟩
        rw [this]
        go_ret
        exact ⟨rfl, _, Hw.out⟩
  · go_enter Tryz.func23, Tryz.ntmps23
    go_wp2_with fail
    have : leqL xs ys = false := by
      unfold leqL
      exact decide_eq_false fun h => hne (by omega)
    rw [this]
    go_ret
    exact ⟨rfl, 0, rfl⟩

theorem leqL_both (xs ys : List Int) : (leqL xs ys && leqL ys xs) = decide (xs = ys) := by
  by_cases h : xs = ys
  · subst h
    have : leqL xs xs = true := by unfold leqL; exact decide_eq_true ⟨rfl, fun _ _ => Int.le_refl _⟩
    rw [this]; simp
  · rw [decide_eq_false h]
    rw [Bool.and_eq_false_iff]
    by_cases h1 : leqL xs ys = true
    · right
      refine Bool.eq_false_iff.2 fun h2 => h ?_
      unfold leqL at h1 h2
      have a := of_decide_eq_true h1
      have b := of_decide_eq_true h2
      exact list_ext_getD a.1 fun j hj => Int.le_antisymm (a.2 j hj) (b.2 j (by omega))
    · left
      exact Bool.eq_false_iff.2 h1

set_option maxRecDepth 100000 in
set_option maxHeartbeats 1000000 in
theorem rsame_any (A1 : Option Addr) (n1 c1 : Nat) (xs : List Int) (A2 : Option Addr) (n2 c2 : Nat) (ys : List Int) (w : World) (I1 : IntsIn w A1 n1 xs) (I2 : IntsIn w A2 n2 ys) :
    Calls Tryz.prog 15 #[.slice A1 n1 c1, .slice A2 n2 c2] w fun e w' => e = .returned (.bool (decide (xs = ys))) ∧ ∃ q, w' = w.drewN q := by
  rw [← leqL_both]
  have R1 : Hid (∀ q, Calls Tryz.prog 23 #[.slice A1 n1 c1, .slice A2 n2 c2] (w.drewN q) fun e w' => e = .returned (.bool (leqL xs ys)) ∧ ∃ q, w' = w.drewN q) :=
    fun q => (rleq_any A1 n1 c1 xs A2 n2 c2 ys _ (I1.drewN q) (I2.drewN q)).mono fun _ _ h => ⟨h.1, by obtain ⟨r, hr⟩ := h.2; exact ⟨q + r, by rw [hr, World.drewN_drewN]⟩⟩
  have R2 : Hid (∀ q, Calls Tryz.prog 23 #[.slice A2 n2 c2, .slice A1 n1 c1] (w.drewN q) fun e w' => e = .returned (.bool (leqL ys xs)) ∧ ∃ q, w' = w.drewN q) :=
    fun q => (rleq_any A2 n2 c2 ys A1 n1 c1 xs _ (I2.drewN q) (I1.drewN q)).mono fun _ _ h => ⟨h.1, by obtain ⟨r, hr⟩ := h.2; exact ⟨q + r, by rw [hr, World.drewN_drewN]⟩⟩
  clear I1 I2
  obtain ⟨x, hx⟩ : ∃ x, leqL xs ys = x := ⟨_, rfl⟩
  obtain ⟨y, hy⟩ : ∃ y, leqL ys xs = y := ⟨_, rfl⟩
  rw [hx] at R1 ⊢
  rw [hy] at R2 ⊢
  clear hx hy
  cases x with
  | false =>
    go_enter Tryz.func15, Tryz.ntmps15
    go_wp2_with fail
    refine (R1.out 0).mono ?_
    rintro e w1 ⟨rfl, q, hq⟩
    have Hq := Lib.hid hq
    clear hq
    go_wp2_with fail
    go_ret
    exact ⟨rfl, q, Hq.out⟩
  | true =>
    go_enter Tryz.func15, Tryz.ntmps15
    go_wp2_with fail
    refine (R1.out 0).mono ?_
    rintro e w1 ⟨rfl, q, rfl⟩
    go_wp2_with fail
    refine (R2.out q).mono ?_
    rintro e w1 ⟨rfl, q, hq⟩
    have Hq := Lib.hid hq
    clear hq
    cases y with
    | false =>
      go_wp2_with fail
      go_ret
      exact ⟨rfl, q, Hq.out⟩
    | true =>
      go_wp2_with fail
      go_ret
      exact ⟨rfl, q, Hq.out⟩
end Go.Proofs.YtalacionlbmcpaaGreatDoor
