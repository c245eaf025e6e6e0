/-
  Walks over package real, part 3: Scale.
-/
import Derived.Test.YtalacionlbmcpaaReal1
import Derived.Test.YtalacionlbmcpaaF64p
namespace Go.Proofs.Ytalacionlbmcpaa
open Go.RowKit

/-- The time that passes, within its bounds. -/
def CapIs (n z : Int) : Prop := (n < 0 ∧ z = 0) ∨ (0 ≤ n ∧ n ≤ 281474976710656 ∧ z = n) ∨ (281474976710656 < n ∧ z = 281474976710656)
theorem capIs (n : Int) : CapIs n (capN n : Int) := by
  unfold CapIs capN
  split
  · exact Or.inl ⟨by omega, rfl⟩
  · split
    · exact Or.inr (Or.inr ⟨by omega, rfl⟩)
    · exact Or.inr (Or.inl ⟨by omega, by omega, by omega⟩)
theorem capN_le (n : Int) : capN n ≤ 281474976710656 := by
  unfold capN
  split
  · omega
  · split <;> omega

set_option maxRecDepth 100000 in
set_option maxHeartbeats 1000000 in
theorem fscale_nan (n z : Int) (x : Nat) (w : World) (hc : CapIs n z) (hx : isN x = true) :
    Calls Try.prog 22 #[.int .i64 n, .float .f64 x] w fun e w' => e = .returned (.int .i64 z) ∧ w = w' := by
  have C := Lib.hid (isnan_any x w)
  rw [hx] at C
  rcases hc with ⟨h1, rfl⟩ | ⟨h1, h2, rfl⟩ | ⟨h1, rfl⟩
  all_goals
    go_enter Try.func22, Try.ntmps22
    go_wp2_with fail
    refine C.out.mono ?_
    rintro e w' ⟨rfl, rfl⟩
    go_wp2_with fail
    go_ret
    exact ⟨rfl, rfl⟩

set_option maxRecDepth 100000 in
set_option maxHeartbeats 1000000 in
theorem fscale_zero (n : Int) (x : Nat) (w : World) (hc : CapIs n 0) (hx : isN x = false) :
    Calls Try.prog 22 #[.int .i64 n, .float .f64 x] w fun e w' => e = .returned (.int .i64 0) ∧ w = w' := by
  have C := Lib.hid (isnan_any x w)
  rw [hx] at C
  rcases hc with ⟨h1, h0⟩ | ⟨h1, h2, rfl⟩ | ⟨h1, h0⟩
  · clear h0
    go_enter Try.func22, Try.ntmps22
    go_wp2_with fail
    refine C.out.mono ?_
    rintro e w' ⟨rfl, rfl⟩
    go_wp2_with fail
    go_ret
    exact ⟨rfl, rfl⟩
  · go_enter Try.func22, Try.ntmps22
    go_wp2_with fail
    refine C.out.mono ?_
    rintro e w' ⟨rfl, rfl⟩
    go_wp2_with fail
    go_ret
    exact ⟨rfl, rfl⟩
  · exact absurd h0 (by decide)

set_option maxRecDepth 100000 in
set_option maxHeartbeats 1000000 in
theorem fscale_still (n z : Int) (x : Nat) (w : World) (hc : CapIs n z) (h0 : z ≠ 0) (hx : isN x = false) (hk : nkey x ≤ 0) :
    Calls Try.prog 22 #[.int .i64 n, .float .f64 x] w fun e w' => e = .returned (.int .i64 0) ∧ w = w' := by
  have C := Lib.hid (isnan_any x w)
  rw [hx] at C
  have hq := leq_eq x 0
  rw [hx, show isN 0 = false from by decide, show nkey 0 = 0 from by decide, decide_eq_true hk] at hq
  simp only [Bool.not_false, Bool.true_and] at hq
  have hq0 : (z == 0) = false := by rw [beq_eq_false_iff_ne]; exact h0
  clear hk h0
  rcases hc with ⟨h1, rfl⟩ | ⟨h1, h2, rfl⟩ | ⟨h1, rfl⟩
  · exact absurd hq0 (by decide)
  all_goals
    go_enter Try.func22, Try.ntmps22
    go_wp2_with fail
    refine C.out.mono ?_
    rintro e w' ⟨rfl, rfl⟩
    go_wp2_with fail
    go_ret
    exact ⟨rfl, rfl⟩

set_option maxRecDepth 100000 in
set_option maxHeartbeats 2000000 in
theorem fscale_far (n z : Int) (m x : Nat) (w : World) (hc : CapIs n z) (hz : z = (m : Int)) (h0 : m ≠ 0) (hm : m ≤ 281474976710656) (hx : isN x = false) (hk : 0 < nkey x) :
    Calls Try.prog 22 #[.int .i64 n, .float .f64 x] w fun e w' => e = .returned (.int .i64 (goesN m x : Int)) ∧ w = w' := by
  have hs : isNeg x = false := by
    cases hg : isNeg x
    · rfl
    · unfold nkey at hk
      rw [hg, if_pos rfl] at hk
      omega
  have hfi := floatOfInt_nat m (by omega)
  have hmul := mul_far m x h0 hm hx hs
  rw [← hfi, ← hz] at hmul
  have hmul : ∀ W : World, (binOp .mul 22 (.float .f64 (floatOfInt .f64 z)) (.float .f64 x)).run Try.prog W = .ok (.float .f64 (farR m x)) W := fun W => run_float_arith W .mul 22 .f64 _ _ _ hmul
  have hq := leq_eq x 0
  rw [hx, show isN 0 = false from by decide, show nkey 0 = 0 from by decide, decide_eq_false (by omega)] at hq
  simp only [Bool.not_false, Bool.true_and] at hq
  have hq0 : (z == 0) = false := by rw [beq_eq_false_iff_ne]; omega
  have hfar := farR_le m x
  have hg := geq_eq (farR m x) 4823355200913801216
  rw [isN_small _ hfar, isN_small 4823355200913801216 (by decide), nkey_small (farR m x) (by unfold infR at hfar; omega), nkey_small 4823355200913801216 (by decide)] at hg
  simp only [Bool.not_false, Bool.true_and] at hg
  have hI : farR m x < 4823355200913801216 → ∀ W : World, (convert 22 3 (.float .f64 (farR m x))).run Try.prog W = .ok (.int .i64 ((magOf (farR m x) / 2 ^ 1074 : Nat) : Int)) W := fun h W =>
    run_convert_float_int W 22 3 .f64 .i64 _ _ (by kernel_rfl) Try.underlying3 (int_far _ h).1
  have C := Lib.hid (isnan_any x w)
  rw [hx] at C
  unfold goesN
  generalize farR m x = r at *
  clear hx hk hs hfi hfar hm
  by_cases hr : 4823355200913801216 ≤ r
  · rw [if_pos hr]
    rw [decide_eq_true (by omega)] at hg
    clear hI hr
    rcases hc with ⟨h1, rfl⟩ | ⟨h1, h2, rfl⟩ | ⟨h1, rfl⟩
    · exact absurd hq0 (by decide)
    all_goals
      clear hz
      go_enter Try.func22, Try.ntmps22
      go_wp2_with fail
      refine C.out.mono ?_
      rintro e w' ⟨rfl, rfl⟩
      go_wp2_with fail
      go_ret
      exact ⟨rfl, rfl⟩
  · rw [if_neg hr]
    rw [decide_eq_false (by omega)] at hg
    have hI := hI (by omega)
    generalize magOf r / 2 ^ 1074 = q at *
    clear hr
    rcases hc with ⟨h1, rfl⟩ | ⟨h1, h2, rfl⟩ | ⟨h1, rfl⟩
    · exact absurd hq0 (by decide)
    all_goals
      clear hz
      go_enter Try.func22, Try.ntmps22
      go_wp2_with fail
      refine C.out.mono ?_
      rintro e w' ⟨rfl, rfl⟩
      go_wp2_with fail
      go_ret
      exact ⟨rfl, rfl⟩

theorem fscale_any (n : Int) (x : Nat) (w : World) :
    Calls Try.prog 22 #[.int .i64 n, .float .f64 x] w fun e w' => e = .returned (.int .i64 (scaleN (capN n) x : Int)) ∧ w = w' := by
  have hc := capIs n
  have hm := capN_le n
  generalize capN n = m at *
  unfold scaleN
  cases hx : isN x
  · simp only [Bool.false_eq_true, if_false]
    by_cases h0 : m = 0
    · subst h0
      rw [if_pos rfl]
      exact fscale_zero n x w hc hx
    · rw [if_neg h0]
      by_cases hk : nkey x ≤ 0
      · rw [if_pos hk]
        exact fscale_still n _ x w hc (by omega) hx hk
      · rw [if_neg hk]
        exact fscale_far n _ m x w hc rfl h0 hm hx (by omega)
  · simp only [if_true]
    exact fscale_nan n _ x w hc hx
end Go.Proofs.Ytalacionlbmcpaa
