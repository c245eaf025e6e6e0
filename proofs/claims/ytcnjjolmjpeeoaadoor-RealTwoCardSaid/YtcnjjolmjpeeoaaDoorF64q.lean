/-
  The greatest and the least of numbers, by their ranks (no program is named).
-/
import Derived.Test.YtcnjjolmjpeeoaaDoorReal1
import Derived.RowKit
namespace Go.Proofs.YtcnjjolmjpeeoaaDoor
open Go.RowKit

theorem wf_f64 {a : Nat} (h : (Lit.float .f64 a).wf = true) : a < 18446744073709551616 := by
  simp [Lit.wf] at h
  exact h

theorem maxN_lt {a b : Nat} (ha : a < 18446744073709551616) (hb : b < 18446744073709551616) : maxN a b < 18446744073709551616 := by unfold maxN; split <;> assumption
theorem minN_lt {a b : Nat} (ha : a < 18446744073709551616) (hb : b < 18446744073709551616) : minN a b < 18446744073709551616 := by unfold minN; split <;> assumption

theorem rank_max (a b : Nat) : rankN (maxN a b) = max (rankN a) (rankN b) := by
  unfold maxN
  rcases Nat.lt_trichotomy (rankN a) (rankN b) with h | h | h
  · rw [cmpN_lt h, if_pos (by decide)]; omega
  · rw [cmpN_eq h, if_neg (by decide)]; omega
  · rw [cmpN_gt h, if_neg (by decide)]; omega
theorem rank_min (a b : Nat) : rankN (minN a b) = min (rankN a) (rankN b) := by
  unfold minN
  rcases Nat.lt_trichotomy (rankN a) (rankN b) with h | h | h
  · rw [cmpN_lt h, if_neg (by decide)]; omega
  · rw [cmpN_eq h, if_neg (by decide)]; omega
  · rw [cmpN_gt h, if_pos (by decide)]; omega

theorem same_true {a b : Nat} (h : rankN a = rankN b) : (cmpN a b == 0) = true := by rw [beq_iff_eq]; exact cmpN_eq h
theorem same_false {a b : Nat} (h : rankN a ≠ rankN b) : (cmpN a b == 0) = false := by rw [beq_eq_false_iff_ne]; intro e; exact h ((cmpN_zero a b).1 e)
theorem cmp_le {a b : Nat} (h : rankN a ≤ rankN b) : cmpN a b ≤ 0 := by unfold cmpN; split <;> (try split) <;> omega
theorem rank_nanw : rankN 9221120237041090561 = 0 := by decide
end Go.Proofs.YtcnjjolmjpeeoaaDoor
