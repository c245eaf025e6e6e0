/-
  Numbers made of digits and a power of two: how math.Ldexp makes them (plain, then walked).
-/
import Derived.Test.YtcnjjolmjpeeoaaDoorAliveR
import Derived.Test.YtcnjjolmjpeeoaaDoorTextPlain
namespace Go.Proofs.YtcnjjolmjpeeoaaDoor
open Go.RowKit

theorem log2_len (m : Nat) (h0 : m ≠ 0) (hm : m < 9007199254740992) : m.log2 = Lib.bitLen m - 1 := by
  obtain ⟨l1, l2, l3, l4⟩ := bitLen_facts m h0 hm
  rw [Nat.log2_eq_iff h0]
  exact ⟨l4, by rw [show Lib.bitLen m - 1 + 1 = Lib.bitLen m from by omega]; exact l3⟩

theorem lead (m : Nat) (h0 : m ≠ 0) (hm : m < 9007199254740992) : 4503599627370496 ≤ m * 2 ^ (53 - Lib.bitLen m) ∧ m * 2 ^ (53 - Lib.bitLen m) < 9007199254740992 := by
  obtain ⟨l1, l2, l3, l4⟩ := bitLen_facts m h0 hm
  constructor
  · have h1 : 2 ^ (Lib.bitLen m - 1) * 2 ^ (53 - Lib.bitLen m) ≤ m * 2 ^ (53 - Lib.bitLen m) := Nat.mul_le_mul_right _ l4
    rw [← Nat.pow_add, show Lib.bitLen m - 1 + (53 - Lib.bitLen m) = 52 from by omega] at h1
    exact h1
  · have h1 : m * 2 ^ (53 - Lib.bitLen m) < 2 ^ Lib.bitLen m * 2 ^ (53 - Lib.bitLen m) := Nat.mul_lt_mul_of_pos_right l3 (Nat.two_pow_pos _)
    rw [← Nat.pow_add, show Lib.bitLen m + (53 - Lib.bitLen m) = 53 from by omega] at h1
    exact h1

theorem rungOf_norm (m : Nat) (p : Int) (h0 : m ≠ 0) (hm : m < 9007199254740992) (h : -1074 ≤ p + (Lib.bitLen m : Int) - 53) :
    rungOf m p = (p + (Lib.bitLen m : Int) - 53 + 1074).toNat * 4503599627370496 + m * 2 ^ (53 - Lib.bitLen m) := by
  obtain ⟨l1, l2, l3, l4⟩ := bitLen_facts m h0 hm
  have hL : lastP m p = p + (Lib.bitLen m : Int) - 53 := by unfold lastP; rw [log2_len m h0 hm]; omega
  unfold rungOf keptN
  rw [hL, show (p - (p + (Lib.bitLen m : Int) - 53)).toNat = 53 - Lib.bitLen m from by omega, show (p + (Lib.bitLen m : Int) - 53 - p).toNat = 0 from by omega]
  have := hround_mul (m * 2 ^ (53 - Lib.bitLen m)) 1 (by decide)
  rw [Nat.mul_one] at this
  rw [show (2 : Nat) ^ 0 = 1 from rfl, this]

theorem fltR_norm (m : Nat) (h0 : m ≠ 0) (hm : m < 9007199254740992) : fltR m = (Lib.bitLen m + 1021) * 4503599627370496 + m * 2 ^ (53 - Lib.bitLen m) := by
  obtain ⟨l1, l2, l3, l4⟩ := bitLen_facts m h0 hm
  unfold fltR
  rw [if_neg h0, rungOf_norm m 0 h0 hm (by omega), show (0 + (Lib.bitLen m : Int) - 53 + 1074).toNat = Lib.bitLen m + 1021 from by omega]

theorem magOf_norm (E f : Nat) (hf : f < 4503599627370496) (hE : 1 ≤ E) : magOf (E * 4503599627370496 + f) = (4503599627370496 + f) * 2 ^ (E - 1) := by
  unfold magOf
  rw [if_neg (by omega), show (E * 4503599627370496 + f) % 4503599627370496 = f from by omega, show (E * 4503599627370496 + f) / 4503599627370496 = E from by omega]

/-- What is in units of the least one is its own rung's magnitude. -/
theorem rung_mag (r : Nat) (h0 : r ≠ 0) : rungOf (magOf r) (-1074) = r := by
  by_cases hr : r < 4503599627370496
  · have hm : magOf r = r := by unfold magOf; rw [if_pos hr]
    rw [hm]
    apply (magOf_eq _ _).1
    rw [rungOf_exact r (-1074) h0 (by omega) (by decide), hm]
    rw [show ((-1074 : Int) + 1074).toNat = 0 from by decide, Nat.pow_zero, Nat.mul_one]
  · have hm : magOf r = (4503599627370496 + r % 4503599627370496) * 2 ^ (r / 4503599627370496 - 1) := by unfold magOf; rw [if_neg hr]
    apply (magOf_eq _ _).1
    rw [hm, rungOf_scale _ _ _ (by omega), rungOf_exact _ _ (by omega) (by omega) (by omega)]
    congr 2
    omega

theorem mul_words (x y : Nat) (hx : x < infR) (hy : y < infR) : floatBits .mul .f64 x y = some (mulR (magOf x) (magOf y)) := by
  have hc : infR = 9218868437227405312 := rfl
  obtain ⟨p1, p2⟩ := small_parts x (by omega)
  obtain ⟨q1, q2⟩ := small_parts y (by omega)
  show Ieee.double.mul x y = _
  rw [mul_fin x y (by omega) (by omega), p1, q1, p2, q2, word_pp]

theorem mul_one_word (y : Nat) (hy : y < infR) (h0 : y ≠ 0) : floatBits .mul .f64 4607182418800017408 y = some y := by
  rw [mul_words 4607182418800017408 y (by decide) hy]
  obtain ⟨T, hT⟩ : ∃ T, T = 1074 := ⟨_, rfl⟩
  have h1 : magOf 4607182418800017408 = 2 ^ T := by rw [hT]; decide +kernel
  have hm0 : magOf y ≠ 0 := fun e => h0 ((magOf_zero y).1 e)
  have hp : 2 ^ T ≠ 0 := Nat.ne_of_gt (Nat.two_pow_pos T)
  have hz : (-2148 + (T : Int)) = -1074 := by omega
  unfold mulR
  rw [h1, if_neg (Nat.mul_ne_zero hp hm0), Nat.mul_comm, rungOf_scale (magOf y) T (-2148) hm0, hz, rung_mag y h0, Nat.min_eq_left (by omega)]

/-- What Ldexp makes of m and e. -/
def ldN (m : Nat) (e : Int) : Nat := min (rungOf m e) infR

/-! ### Bits -/
theorem and_2047 (a : Nat) (h : a < 2048) : bits .and .i64 (a : Int) 2047 = (a : Int) := by
  have h1 : a &&& 2047 = a := by
    have := Nat.and_two_pow_sub_one_eq_mod a 11
    rw [show (2 : Nat) ^ 11 - 1 = 2047 from by decide, show (2 : Nat) ^ 11 = 2048 from by decide] at this
    omega
  show IntKind.i64.wrap ((BitVec.ofInt 64 (a : Int) &&& BitVec.ofInt 64 ((2047 : Nat) : Int)).toNat : Int) = _
  rw [BitVec.toNat_and, ofInt_i64 a (by omega), ofInt_i64 2047 (by decide), h1, IntKind.wrap_i64]
  omega
theorem andNot_exp (r : Nat) (h : r < 9223372036854775808) : bits .andNot .u64 (r : Int) 9218868437227405312 = ((r % 4503599627370496 : Nat) : Int) := by
  show IntKind.u64.wrap ((BitVec.ofInt 64 (r : Int) &&& ~~~ BitVec.ofInt 64 ((9218868437227405312 : Nat) : Int)).toNat : Int) = _
  have hm := Nat.and_two_pow_sub_one_eq_mod r 52
  have hs := and_sign r (by omega)
  rw [(small_parts r h).1] at hs
  have hor : (9227875636482146303 : Nat) = 9223372036854775808 ||| (2 ^ 52 - 1) := by decide
  rw [BitVec.toNat_and, BitVec.toNat_not, ofInt_u64 r (by omega), ofInt_u64 _ (by decide), show (2 ^ 64 - 1 - 9218868437227405312 : Nat) = 9227875636482146303 from by decide, hor, Nat.and_or_distrib_left, hs, hm]
  simp only [Bool.false_eq_true, if_false, Nat.zero_or]
  rw [show (2 : Nat) ^ 52 = 4503599627370496 from by decide, wrap_u64_nat _ (by omega)]
theorem or_exp (f E : Nat) (hf : f < 4503599627370496) (hE : E < 2048) : bits .or .u64 (f : Int) ((E : Int) * 4503599627370496) = ((E * 4503599627370496 + f : Nat) : Int) := by
  have h1 : f ||| E * 4503599627370496 = E * 4503599627370496 + f := by
    have := Nat.two_pow_add_eq_or_of_lt (i := 52) (b := f) hf E
    rw [Nat.or_comm, Nat.mul_comm]
    exact this.symm
  have h2 := u64_or_nat f (E * 4503599627370496) (by omega) (by omega)
  rw [h1] at h2
  rw [show ((E : Int) * 4503599627370496) = ((E * 4503599627370496 : Nat) : Int) from by omega]
  exact h2

/-! ### Small functions of package math -/
set_option maxRecDepth 100000 in
theorem abs_any (x : Nat) (hx : x < 18446744073709551616) (w : World) : Calls Tryd.prog 13 #[.float .f64 x] w fun e w' => e = .returned (.float .f64 (rung x)) ∧ w = w' := by
  have hfb := run_float64bits x
  have hfr := run_float64frombits
  have h1 := andNot_rung x hx
  have H1 : Hid ((bits .andNot .u64 (x : Int) 9223372036854775808).toNat = rung x) := by rw [h1]; rfl
  clear h1 hx
  go_enter Tryd.func13, Tryd.ntmps13
  go_wp2_with fail
  go_ret
  exact ⟨ret_float H1.out, rfl⟩
theorem misnan_any (x : Nat) (w : World) : Calls Tryd.prog 72 #[.float .f64 x] w fun e w' => e = .returned (.bool (isN x)) ∧ w = w' := by
  rw [← neq_self x]
  go_enter Tryd.func72, Tryd.ntmps72
  go_wp2_with fail
  go_ret
  exact ⟨rfl, rfl⟩
theorem inf_test (r : Nat) (h : r < 9223372036854775808) : (FloatKind.f64.format.order r 9218868437227405311 == some .gt) = decide (r = infR) := by
  have hc : infR = 9218868437227405312 := rfl
  rw [gtr_eq, show isN 9218868437227405311 = false from by decide, nkey_small r h, show nkey 9218868437227405311 = 9218868437227405311 from by decide]
  unfold isN
  rw [(small_parts r h).2, Bool.eq_iff_iff]
  simp
  omega
set_option maxRecDepth 100000 in
theorem isinf_any (x : Nat) (hx : x < 18446744073709551616) (w : World) : Calls Tryd.prog 15 #[.float .f64 x, .int .i64 0] w fun e w' => e = .returned (.bool (decide (rung x = infR))) ∧ w = w' := by
  have C := Lib.hid (abs_any x hx w)
  have ht := inf_test (rung x) (rung_lt x)
  rw [← ht]
  clear ht hx
  go_enter Tryd.func15, Tryd.ntmps15
  go_wp2_with fail
  refine C.out.mono ?_
  rintro e w' ⟨rfl, rfl⟩
  go_wp2_with fail
  go_ret
  exact ⟨rfl, rfl⟩
theorem lss_small (r : Nat) (h1 : r ≤ infR) (h2 : 4503599627370496 ≤ r) : (FloatKind.f64.format.order r 4503599627370496 == some .lt) = false := by
  have hc : infR = 9218868437227405312 := rfl
  rw [lss_eq, isN_small r h1, isN_small 4503599627370496 (by decide), nkey_small r (by omega), nkey_small 4503599627370496 (by decide), decide_eq_false (by omega)]
  rfl
set_option maxRecDepth 100000 in
theorem normalize_big (x : Nat) (hx : x < 18446744073709551616) (h1 : rung x ≤ infR) (h2 : 4503599627370496 ≤ rung x) (w : World) :
    Calls Tryd.prog 73 #[.float .f64 x] w fun e w' => e = .returned (.tuple #[.float .f64 x, .int .i64 0]) ∧ w = w' := by
  have C := Lib.hid (abs_any x hx w)
  have ht := lss_small (rung x) h1 h2
  clear hx h1 h2
  go_enter Tryd.func73, Tryd.ntmps73
  go_wp2_with fail
  refine C.out.mono ?_
  rintro e w' ⟨rfl, rfl⟩
  go_wp2_with fail
  go_ret2
  exact ⟨rfl, rfl⟩
end Go.Proofs.YtcnjjolmjpeeoaaDoor
