/-
  Walks over package vec, part 1: Leq, Same, isCount, Valid.
-/
import Derived.Test.YtalacionlbmcpaaGreatDoorRows
import Derived.Test.YtalacionlbmcpaaGreatDoorLib
import Derived.Test.YtalacionlbmcpaaGreatDoorView
import Derived.Deep.QuietTactic
import Derived.BigQuiet
namespace Go.Proofs.YtalacionlbmcpaaGreatDoor
open Go.RowKit

/-- Is no time of xs above that of ys? -/
def leqL (xs ys : List Int) : Bool := decide (xs.length = ys.length ∧ ∀ j, j < xs.length → xs.getD j 0 ≤ ys.getD j 0)

theorem IntsIn.drewN {w : World} {A : Option Addr} {n : Nat} {zs : List Int} (h : IntsIn w A n zs) (q : Nat) : IntsIn (w.drewN q) A n zs := ⟨h.len, h.max, h.some, h.wf⟩
theorem drewN_zero (w : World) : w = w.drewN 0 := rfl
theorem drewN_more {w w1 : World} {q : Nat} (h : w1 = w.drewN q) (p : Nat) : ∃ r, w1.drewN p = w.drewN r := ⟨q + p, by rw [h, World.drewN_drewN]⟩

theorem list_ext_getD {xs ys : List Int} (h : xs.length = ys.length) (he : ∀ j, j < xs.length → xs.getD j 0 = ys.getD j 0) : xs = ys := by
  refine List.ext_getElem h fun j h1 h2 => ?_
  have := he j h1
  rwa [List.getD_eq_getElem?_getD, List.getD_eq_getElem?_getD, List.getElem?_eq_getElem h1, List.getElem?_eq_getElem h2] at this

set_option maxRecDepth 100000 in
set_option maxHeartbeats 1000000 in
theorem leq_any (A1 : Option Addr) (n1 c1 : Nat) (xs : List Int) (A2 : Option Addr) (n2 c2 : Nat) (ys : List Int) (w : World) (I1 : IntsIn w A1 n1 xs) (I2 : IntsIn w A2 n2 ys) :
    Calls Tryz.prog 22 #[.slice A1 n1 c1, .slice A2 n2 c2] w fun e w' => e = .returned (.bool (leqL xs ys)) ∧ ∃ q, w' = w.drewN q := by
  have J1 := Lib.hid I1
  have J2 := Lib.hid I2
  have l1 := I1.len
  have l2 := I2.len
  have m1 := I1.max
  have m2 := I2.max
  clear I1 I2
  by_cases hne : n1 = n2
  · subst hne
    go_enter Tryz.func22, Tryz.ntmps22
    go_wp2_with fail
    go_loopw [13] (fun i wr => ∃ k q : Nat, k ≤ n1 ∧ i = .int .i64 (k : Int) ∧ Hid (wr = w.drewN q) ∧ Hid (∀ j, j < k → xs.getD j 0 ≤ ys.getD j 0)) (fun i _ => n1 - (intOf i).toNat)
    case atStart => exact ⟨0, 0, by omega, rfl, rfl, fun j hj => absurd hj (by omega)⟩
    case round =>
      obtain ⟨k, q, hk, rfl, Hw, Hle⟩ := hrel
      by_cases hl : k < n1
      · have K1 := J1.out.drewN q
        have K2 := J2.out.drewN q
        rw [← Hw.out] at K1 K2
        obtain ⟨b1, o1, rfl, _, hc1⟩ := K1.some (by omega)
        obtain ⟨b2, o2, rfl, _, hc2⟩ := K2.some (by omega)
        have d1 := hc1 k hl
        have d2 := hc2 k hl
        obtain ⟨x, hx⟩ : ∃ x, xs.getD k 0 = x := ⟨_, rfl⟩
        obtain ⟨y, hy⟩ : ∃ y, ys.getD k 0 = y := ⟨_, rfl⟩
        rw [hx] at d1
        rw [hy] at d2
        have Hx := Lib.hid hx
        have Hy := Lib.hid hy
        have hl1 : (k : Int) < (n1 : Int) := by omega
        clear hc1 hc2 hx hy K1 K2
        by_cases hg : y < x
        · go_wp2_with fail
          go_quiet (fail)
          go_wp2_with fail
          have : leqL xs ys = false := by
            unfold leqL
            refine decide_eq_false fun h => ?_
            have := h.2 k (by omega)
            rw [Hx.out, Hy.out] at this
            omega
          rw [this]
          go_ret
          exact ⟨rfl, drewN_more Hw.out _⟩
        · go_wp2_with fail
          go_quiet (fail)
          go_wp2_with fail
          go_roundw
          case rel =>
            refine ⟨k + 1, _, by omega, by go_num, (by rw [Hw.out, World.drewN_drewN]; rfl), fun j hj => ?_⟩
            by_cases hjk : j = k
            · subst hjk; rw [Hx.out, Hy.out]; omega
            · exact Hle.out j (by omega)
          case measure => simp [intOf]; omega
      · obtain rfl : k = n1 := by omega
        go_wp2_with fail
        have : leqL xs ys = true := by
          unfold leqL
          exact decide_eq_true ⟨by omega, fun j hj => Hle.out j (by omega)⟩
        rw [this]
        go_ret
        exact ⟨rfl, _, Hw.out⟩
  · go_enter Tryz.func22, Tryz.ntmps22
    go_wp2_with fail
    have : leqL xs ys = false := by
      unfold leqL
      exact decide_eq_false fun h => hne (by omega)
    rw [this]
    go_ret
    exact ⟨rfl, 0, rfl⟩

set_option maxRecDepth 100000 in
set_option maxHeartbeats 1000000 in
theorem equal_any (A1 : Option Addr) (n1 c1 : Nat) (xs : List Int) (A2 : Option Addr) (n2 c2 : Nat) (ys : List Int) (w : World) (I1 : IntsIn w A1 n1 xs) (I2 : IntsIn w A2 n2 ys) :
    Calls Tryz.prog 45 #[.slice A1 n1 c1, .slice A2 n2 c2] w fun e w' => e = .returned (.bool (decide (xs = ys))) ∧ ∃ q, w' = w.drewN q := by
  have J1 := Lib.hid I1
  have J2 := Lib.hid I2
  have l1 := I1.len
  have l2 := I2.len
  have m1 := I1.max
  have m2 := I2.max
  clear I1 I2
  by_cases hne : n1 = n2
  · subst hne
    go_enter Tryz.func45, Tryz.ntmps45
    go_wp2_with fail
    go_loopw [13] (fun i wr => ∃ k q : Nat, k ≤ n1 ∧ i = .int .i64 (k : Int) ∧ Hid (wr = w.drewN q) ∧ Hid (∀ j, j < k → xs.getD j 0 = ys.getD j 0)) (fun i _ => n1 - (intOf i).toNat)
    case atStart => exact ⟨0, 0, by omega, rfl, rfl, fun j hj => absurd hj (by omega)⟩
    case round =>
      obtain ⟨k, q, hk, rfl, Hw, Hle⟩ := hrel
      by_cases hl : k < n1
      · have K1 := J1.out.drewN q
        have K2 := J2.out.drewN q
        rw [← Hw.out] at K1 K2
        obtain ⟨b1, o1, rfl, _, hc1⟩ := K1.some (by omega)
        obtain ⟨b2, o2, rfl, _, hc2⟩ := K2.some (by omega)
        have d1 := hc1 k hl
        have d2 := hc2 k hl
        obtain ⟨x, hx⟩ : ∃ x, xs.getD k 0 = x := ⟨_, rfl⟩
        obtain ⟨y, hy⟩ : ∃ y, ys.getD k 0 = y := ⟨_, rfl⟩
        rw [hx] at d1
        rw [hy] at d2
        have Hx := Lib.hid hx
        have Hy := Lib.hid hy
        have hl1 : (k : Int) < (n1 : Int) := by omega
        clear hc1 hc2 hx hy K1 K2
        by_cases hg : x ≠ y

        · go_wp2_with fail
          go_quiet (fail)
          go_wp2_with fail
          have : decide (xs = ys) = false := by
            refine decide_eq_false fun h => ?_
            have h1 := Hx.out
            rw [h, Hy.out] at h1
            exact hg h1.symm
          rw [this]
          go_ret
          exact ⟨rfl, drewN_more Hw.out _⟩
        · go_wp2_with fail
          go_quiet (fail)
          go_wp2_with fail
          go_roundw
          case rel =>
            refine ⟨k + 1, _, by omega, by go_num, (by rw [Hw.out, World.drewN_drewN]; rfl), fun j hj => ?_⟩
            by_cases hjk : j = k
            · subst hjk; rw [Hx.out, Hy.out]; exact Decidable.of_not_not hg
            · exact Hle.out j (by omega)
          case measure => simp [intOf]; omega
      · obtain rfl : k = n1 := by omega
        go_wp2_with fail
        have : decide (xs = ys) = true := by
          exact decide_eq_true (list_ext_getD (by omega) (fun j hj => Hle.out j (by omega)))
        rw [this]
        go_ret
        exact ⟨rfl, _, Hw.out⟩
  · go_enter Tryz.func45, Tryz.ntmps45
    go_wp2_with fail
    have : decide (xs = ys) = false := by
      exact decide_eq_false fun h => hne (by rw [← l1, ← l2, h])
    rw [this]
    go_ret
    exact ⟨rfl, 0, rfl⟩

set_option maxRecDepth 100000 in
theorem same_any (A1 : Option Addr) (n1 c1 : Nat) (xs : List Int) (A2 : Option Addr) (n2 c2 : Nat) (ys : List Int) (w : World) (I1 : IntsIn w A1 n1 xs) (I2 : IntsIn w A2 n2 ys) :
    Calls Tryz.prog 24 #[.slice A1 n1 c1, .slice A2 n2 c2] w fun e w' => e = .returned (.bool (decide (xs = ys))) ∧ ∃ q, w' = w.drewN q := by
  have E := Lib.hid (equal_any A1 n1 c1 xs A2 n2 c2 ys w I1 I2)
  clear I1 I2
  go_enter Tryz.func24, Tryz.ntmps24
  go_wp2_with fail
  refine E.out.mono ?_
  rintro e w' ⟨rfl, q, rfl⟩
  go_wp2_with fail
  go_ret
  exact ⟨rfl, q, rfl⟩

theorem isCount_any (z : Int) (w : World) :
    Calls Tryz.prog 34 #[.int .i64 z] w fun e w' => e = .returned (.bool (decide (1 ≤ z ∧ z ≤ 8))) ∧ w = w' := by
  by_cases h1 : 1 ≤ z
  · have h1' : decide (1 ≤ z) = true := decide_eq_true h1
    have e : decide (1 ≤ z ∧ z ≤ 8) = decide (z ≤ 8) := by simp [h1]
    rw [e]
    go_enter Tryz.func34, Tryz.ntmps34
    go_wp2
    go_ret
    exact ⟨rfl, rfl⟩
  · have e : decide (1 ≤ z ∧ z ≤ 8) = false := by simp [h1]
    rw [e]
    go_enter Tryz.func34, Tryz.ntmps34
    go_wp2
    go_ret
    exact ⟨rfl, rfl⟩

/-- Is it a vector? -/
def validL (xs : List Int) : Bool := decide ((1 ≤ xs.length ∧ xs.length ≤ 8) ∧ ∀ j, j < xs.length → 0 ≤ xs.getD j 0 ∧ xs.getD j 0 < 281474976710656)

set_option maxRecDepth 100000 in
set_option maxHeartbeats 1000000 in
theorem valid_any (A : Option Addr) (n c : Nat) (xs : List Int) (w : World) (I : IntsIn w A n xs) :
    Calls Tryz.prog 20 #[.slice A n c] w fun e w' => e = .returned (.bool (validL xs)) ∧ w = w' := by
  have J := Lib.hid I
  have l := I.len
  have m := I.max
  clear I
  by_cases hn : 1 ≤ (n : Int) ∧ (n : Int) ≤ 8
  · have hd : decide (1 ≤ (n : Int) ∧ (n : Int) ≤ 8) = true := decide_eq_true hn
    go_enter Tryz.func20, Tryz.ntmps20
    go_wp2_with fail
    refine (isCount_any n w).mono ?_
    rw [hd]
    rintro e w' ⟨rfl, rfl⟩
    clear hd
    go_wp2_with fail
    go_loop [11] (fun i => ∃ k : Nat, k ≤ n ∧ i = .int .i64 (k : Int) ∧ Hid (∀ j, j < k → 0 ≤ xs.getD j 0 ∧ xs.getD j 0 < 281474976710656)) (fun i => n - (intOf i).toNat)
    case atStart => exact ⟨0, by omega, rfl, fun j hj => absurd hj (by omega)⟩
    case round =>
      obtain ⟨k, hk, rfl, Hle⟩ := hrel
      by_cases hl : k < n
      · obtain ⟨b, o, rfl, _, hc⟩ := J.out.some (by omega)
        have d := hc k hl
        obtain ⟨x, hx⟩ : ∃ x, xs.getD k 0 = x := ⟨_, rfl⟩
        rw [hx] at d
        have Hx := Lib.hid hx
        have hl1 : (k : Int) < (n : Int) := by omega
        clear hc hx
        by_cases hg : 0 ≤ x ∧ x < 281474976710656
        · obtain ⟨g1, g2⟩ := hg
          go_wp2_with fail
          go_round
          case rel =>
            refine ⟨k + 1, by omega, by go_num, fun j hj => ?_⟩
            by_cases hjk : j = k
            · subst hjk; rw [Hx.out]; exact ⟨g1, g2⟩
            · exact Hle.out j (by omega)
          case measure => simp [intOf]; omega
        · have hf : validL xs = false := by
            unfold validL
            refine decide_eq_false fun h => hg ?_
            have := h.2 k (by omega)
            rwa [Hx.out] at this
          have Hf := Lib.hid hf
          clear hf
          by_cases hg1 : x < 0
          · go_wp2_with fail
            go_ret
            exact ⟨by rw [Hf.out]; rfl, rfl⟩
          · have hg2 : 281474976710656 ≤ x := by omega
            go_wp2_with fail
            go_ret
            exact ⟨by rw [Hf.out]; rfl, rfl⟩
      · obtain rfl : k = n := by omega
        have hf : validL xs = true := by
          unfold validL
          exact decide_eq_true ⟨⟨by omega, by omega⟩, fun j hj => Hle.out j (by omega)⟩
        have Hf := Lib.hid hf
        clear hf
        go_wp2_with fail
        go_ret
        exact ⟨by rw [Hf.out]; rfl, rfl⟩
  · have hd : decide (1 ≤ (n : Int) ∧ (n : Int) ≤ 8) = false := decide_eq_false hn
    have hf : validL xs = false := by
      unfold validL
      exact decide_eq_false fun h => hn ⟨by omega, by omega⟩
    rw [hf]
    go_enter Tryz.func20, Tryz.ntmps20
    go_wp2_with fail
    refine (isCount_any n w).mono ?_
    rw [hd]
    rintro e w' ⟨rfl, rfl⟩
    clear hd
    go_wp2_with fail
    go_ret
    exact ⟨rfl, rfl⟩
end Go.Proofs.YtalacionlbmcpaaGreatDoor
