/-
  RealTwo: what Frexp and Ldexp make of a word.
-/
import Derived.Test.YtcnjjolmjpeeoaaDoorTwoW
import Derived.Test.YtcnjjolmjpeeoaaDoorF64q
namespace Go.Proofs.YtcnjjolmjpeeoaaDoor
open Go.RowKit

/-- A float's call that only answers. -/
def Ans (f : Nat) (args : Array Value) (v : Value) : Prop := ∀ W : World, Calls Tryd.prog f args W fun r w' => r = .returned v ∧ W = w'

theorem order_words (z Z : Nat) (hz : z ≤ infR) (hZ : Z ≤ infR) : (FloatKind.f64.format.order z Z == some .eq) = decide (z = Z) := by
  have hc : infR = 9218868437227405312 := rfl
  rw [eql_eq, isN_small z hz, isN_small Z hZ, nkey_small z (by omega), nkey_small Z (by omega)]
  simp only [Bool.not_false, Bool.true_and]
  exact decide_eq_decide.2 (by omega)

theorem two_back (s R : Nat) (hs : s < 18446744073709551616) (hr : rung s = R) (hR : R ≤ infR) (f : Nat) (e' : Int) (hfl : f < 4503599627370496) :
    ∃ y a z x, Ans 12 #[.float .f64 s] (.tuple #[.float .f64 y, .int .i64 x]) ∧ Ans 13 #[.float .f64 y] (.float .f64 a) ∧ Ans 11 #[.float .f64 a, .int .i64 53] (.float .f64 z) ∧
      (-100000 ≤ x ∧ x ≤ 100000) ∧ ((FloatKind.f64.format.order z (1075 * 4503599627370496 + f) == some .eq) && (x == e')) = decide (R ≠ 0 ∧ R ≠ infR ∧ fieldN R = f ∧ expN R = e') ∧
      (R = infR → (FloatKind.f64.format.order z (1075 * 4503599627370496 + f) == some .eq) = false) := by
  have hc : infR = 9218868437227405312 := rfl
  by_cases h0 : R = 0
  · refine ⟨s, 0, 0, 0, fun W => frexpW_of s s 0 W (frexp_zero s hs (by omega) W), fun W => ?_, fun W => ldexpW_of 0 53 0 W (ldexp_zero 53 W), by omega, ?_, fun h => absurd h (by omega)⟩
    · have := abs_any s hs W
      rwa [hr, h0] at this
    · rw [order_words 0 _ (by omega) (by omega), decide_eq_false (show ¬ (0 = 1075 * 4503599627370496 + f) by omega), decide_eq_false (fun h => h.1 h0)]
      rfl
  · by_cases h1 : R = infR
    · refine ⟨s, 9218868437227405312, 9218868437227405312, 0, fun W => frexpW_of s s 0 W (frexp_inf s hs (by omega) W), fun W => ?_, fun W => ldexpW_of _ 53 _ W (ldexp_inf 53 W), by omega, ?_, fun _ => ?_⟩
      · have := abs_any s hs W
        rwa [hr, h1] at this
      · rw [order_words 9218868437227405312 _ (by omega) (by omega), decide_eq_false (show ¬ (9218868437227405312 = 1075 * 4503599627370496 + f) by omega), decide_eq_false (fun h => h.2.1 h1)]
        rfl
      · rw [order_words 9218868437227405312 _ (by omega) (by omega)]
        exact decide_eq_false (by omega)
    · have key : ∀ (f' : Nat) (x : Int), f' < 4503599627370496 → fieldN R = f' → expN R = x →
          ((FloatKind.f64.format.order (1075 * 4503599627370496 + f') (1075 * 4503599627370496 + f) == some .eq) && (x == e')) = decide (R ≠ 0 ∧ R ≠ infR ∧ fieldN R = f ∧ expN R = e') := by
        intro f' x hf' e1 e2
        rw [order_words _ _ (by omega) (by omega), e1, e2]
        by_cases a1 : f' = f
        · by_cases a2 : x = e'
          · rw [decide_eq_true (show 1075 * 4503599627370496 + f' = 1075 * 4503599627370496 + f by omega), beq_iff_eq.2 a2, decide_eq_true ⟨h0, h1, a1, a2⟩]; rfl
          · rw [beq_eq_false_iff_ne.2 a2, Bool.and_false]
            exact (decide_eq_false (fun h => a2 h.2.2.2)).symm
        · rw [decide_eq_false (show ¬ (1075 * 4503599627370496 + f' = 1075 * 4503599627370496 + f) by omega), Bool.false_and]
          exact (decide_eq_false (fun h => a1 h.2.2.1)).symm
      by_cases h2 : R < 4503599627370496
      · obtain ⟨f', hf, hfl'⟩ := lead_parts R h0 (by omega)
        obtain ⟨q1, q2, q3⟩ := wordN_facts (isNeg s) 1022 f' (by omega) hfl'
        obtain ⟨l1, l2, l3, l4⟩ := bitLen_facts R h0 (by omega)
        refine ⟨wordN (isNeg s) 1022 f', 1022 * 4503599627370496 + f', 1075 * 4503599627370496 + f', (Lib.bitLen R : Int) - 1074, fun W => frexpW_of _ _ _ W ?_, fun W => ?_, fun W => ldexpW_of _ 53 _ W ?_, by omega, key f' _ hfl' ?_ ?_, fun h => absurd h h1⟩
        · have := frexp_low s f' hs (by omega) (by omega) (by rw [hr]; exact hf) hfl' W
          rwa [hr] at this
        · have := abs_any (wordN (isNeg s) 1022 f') q1 W
          rwa [q3] at this
        · exact ldexp_word 1022 f' 53 W hfl' (by decide) (by decide) (by decide) (by decide)
        · unfold fieldN; rw [if_pos h2]; omega
        · unfold expN; rw [if_pos h2]
      · have hfl' : R % 4503599627370496 < 4503599627370496 := Nat.mod_lt _ (by decide)
        obtain ⟨q1, q2, q3⟩ := wordN_facts (isNeg s) 1022 (R % 4503599627370496) (by omega) hfl'
        refine ⟨wordN (isNeg s) 1022 (R % 4503599627370496), 1022 * 4503599627370496 + R % 4503599627370496, 1075 * 4503599627370496 + R % 4503599627370496, ((R / 4503599627370496 : Nat) : Int) - 1022, fun W => frexpW_of _ _ _ W ?_, fun W => ?_, fun W => ldexpW_of _ 53 _ W ?_, by omega, key _ _ hfl' ?_ ?_, fun h => absurd h h1⟩
        · have := frexp_norm s hs (by omega) (by omega) W
          rwa [hr] at this
        · have := abs_any (wordN (isNeg s) 1022 (R % 4503599627370496)) q1 W
          rwa [q3] at this
        · exact ldexp_word 1022 (R % 4503599627370496) 53 W hfl' (by decide) (by decide) (by decide) (by decide)
        · unfold fieldN; rw [if_neg h2]
        · unfold expN; rw [if_neg h2]

theorem sgn_facts (neg : Bool) (R : Nat) (hR : R ≤ infR) : sgnW neg R < 18446744073709551616 ∧ rung (sgnW neg R) = R := by
  have hc : infR = 9218868437227405312 := rfl
  obtain ⟨p1, p2⟩ := small_parts R (by omega)
  cases neg with
  | false => rw [sgnW_false]; exact ⟨by omega, p2⟩
  | true =>
    rw [sgnW_true, neg_word R (by omega), p1]
    simp only [Bool.false_eq_true, if_false]
    refine ⟨by omega, ?_⟩
    unfold rung
    omega
end Go.Proofs.YtcnjjolmjpeeoaaDoor
