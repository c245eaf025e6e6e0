/-
  The walk over math.Frexp (for RealTwo).
-/
import Derived.Test.YtcnjjolmjpeeoaaDoorLd2
namespace Go.Proofs.YtcnjjolmjpeeoaaDoor
open Go.RowKit

theorem and_2047u (a : Nat) (h : a < 4096) : bits .and .u64 (a : Int) 2047 = ((a % 2048 : Nat) : Int) := by
  have h1 := Nat.and_two_pow_sub_one_eq_mod a 11
  rw [show (2 : Nat) ^ 11 - 1 = 2047 from by decide, show (2 : Nat) ^ 11 = 2048 from by decide] at h1
  have h2 := u64_and_nat a 2047 (by omega) (by decide)
  rw [h1] at h2
  exact h2

set_option maxRecDepth 100000 in
set_option maxHeartbeats 1000000 in
theorem frexp_zero (x : Nat) (hx : x < 18446744073709551616) (h0 : rung x = 0) (w : World) :
    Calls Tryd.prog 44 #[.float .f64 x] w fun e w' => e = .returned (.tuple #[.float .f64 x, .int .i64 0]) ∧ w = w' := by
  have hn : isN x = false := by unfold isN; rw [h0]; decide
  have t1 : (FloatKind.f64.format.order x 0 == some .eq) = true := by
    rw [eql_eq, hn, show isN 0 = false from by decide, show nkey 0 = 0 from by decide]
    have : nkey x = 0 := by unfold nkey; rw [h0]; split <;> rfl
    rw [this]; rfl
  clear hn h0 hx
  go_enter Tryd.func44, Tryd.ntmps44
  go_wp2_with fail
  go_ret2
  exact ⟨rfl, rfl⟩

set_option maxRecDepth 100000 in
set_option maxHeartbeats 1000000 in
theorem frexp_inf (x : Nat) (hx : x < 18446744073709551616) (h0 : rung x = infR) (w : World) :
    Calls Tryd.prog 44 #[.float .f64 x] w fun e w' => e = .returned (.tuple #[.float .f64 x, .int .i64 0]) ∧ w = w' := by
  have hn : isN x = false := by unfold isN; rw [h0]; decide
  have t1 : (FloatKind.f64.format.order x 0 == some .eq) = false := by
    rw [eql_eq, hn, show isN 0 = false from by decide, show nkey 0 = 0 from by decide]
    have : nkey x ≠ 0 := by unfold nkey; rw [h0]; split <;> decide
    rw [decide_eq_false this]; rfl
  have I := isinf_any x hx w
  rw [decide_eq_true h0] at I
  have I := Lib.hid I
  clear hn h0 hx
  go_enter Tryd.func44, Tryd.ntmps44
  go_wp2_with fail
  refine I.out.mono ?_
  rintro e w' ⟨rfl, rfl⟩
  go_wp2_with fail
  go_ret2
  exact ⟨rfl, rfl⟩

/-- A word of a sign, a power's field and a fraction. -/
def wordN (s : Bool) (E f : Nat) : Nat := (if s then 9223372036854775808 else 0) + E * 4503599627370496 + f

theorem wordN_parts (x : Nat) (hx : x < 18446744073709551616) : x = wordN (isNeg x) (rung x / 4503599627370496) (rung x % 4503599627370496) := by
  unfold wordN
  rcases word_parts x hx with ⟨h1, h2, h3⟩ | ⟨h1, h2, h3⟩ <;> rw [h1] <;> simp <;> omega

/-- The power's field taken out and another one put in. -/
theorem field_swap (x : Nat) (hx : x < 18446744073709551616) :
    bits .or .u64 (bits .andNot .u64 (x : Int) 9218868437227405312) 4602678819172646912 = ((wordN (isNeg x) 1022 (rung x % 4503599627370496) : Nat) : Int) := by
  have hs : ∃ s : Nat, s < 2 ∧ x / 9223372036854775808 = s := ⟨x / 9223372036854775808, by omega, rfl⟩
  have h1 : bits .andNot .u64 (x : Int) 9218868437227405312 = (((if isNeg x then 9223372036854775808 else 0) + rung x % 4503599627370496 : Nat) : Int) := by
    show IntKind.u64.wrap ((BitVec.ofInt 64 (x : Int) &&& ~~~ BitVec.ofInt 64 ((9218868437227405312 : Nat) : Int)).toNat : Int) = _
    have hm := Nat.and_two_pow_sub_one_eq_mod x 52
    have hsg := and_sign x hx
    have hor : (9227875636482146303 : Nat) = 9223372036854775808 ||| (2 ^ 52 - 1) := by decide
    rw [BitVec.toNat_and, BitVec.toNat_not, ofInt_u64 x hx, ofInt_u64 _ (by decide), show (2 ^ 64 - 1 - 9218868437227405312 : Nat) = 9227875636482146303 from by decide, hor, Nat.and_or_distrib_left, hsg, hm, show (2 : Nat) ^ 52 = 4503599627370496 from by decide]
    have hr : x % 4503599627370496 = rung x % 4503599627370496 := by unfold rung; omega
    rw [hr]
    have hf : rung x % 4503599627370496 < 4503599627370496 := Nat.mod_lt _ (by decide)
    generalize rung x % 4503599627370496 = f at *
    cases isNeg x
    · simp only [Bool.false_eq_true, if_false, Nat.zero_or, Nat.zero_add]
      exact wrap_u64_nat _ (by omega)
    · simp only [if_true]
      rw [Nat.or_comm, or_sign f (by omega), Nat.add_comm]
      exact wrap_u64_nat _ (by omega)
  rw [h1]
  unfold wordN
  have hf : rung x % 4503599627370496 < 4503599627370496 := Nat.mod_lt _ (by decide)
  generalize rung x % 4503599627370496 = f at *
  have h2 := or_exp f 1022 hf (by decide)
  rw [show ((1022 : Nat) : Int) * 4503599627370496 = ((4602678819172646912 : Nat) : Int) from by decide] at h2
  have h3 : f ||| 4602678819172646912 = 1022 * 4503599627370496 + f := by
    have := Nat.two_pow_add_eq_or_of_lt (i := 52) (b := f) hf 1022
    rw [show (2 : Nat) ^ 52 * 1022 = 4602678819172646912 from by decide] at this
    rw [Nat.or_comm]
    omega
  cases isNeg x
  · simp only [Bool.false_eq_true, if_false, Nat.zero_add]
    have := u64_or_nat f 4602678819172646912 (by omega) (by decide)
    rw [h3] at this
    exact this
  · simp only [if_true]
    have h4 : (9223372036854775808 + f) ||| 4602678819172646912 = 9223372036854775808 + 1022 * 4503599627370496 + f := by
      have a1 : 9223372036854775808 + f = f ||| 9223372036854775808 := by rw [or_sign f (by omega)]; omega
      rw [a1, Nat.or_assoc, Nat.or_comm 9223372036854775808, ← Nat.or_assoc, h3, or_sign _ (by omega)]
      omega
    have := u64_or_nat (9223372036854775808 + f) 4602678819172646912 (by omega) (by decide)
    rw [h4] at this
    exact this

set_option maxRecDepth 100000 in
set_option maxHeartbeats 1000000 in
theorem frexp_norm (x : Nat) (hx : x < 18446744073709551616) (h1 : 4503599627370496 ≤ rung x) (h2 : rung x < infR) (w : World) :
    Calls Tryd.prog 44 #[.float .f64 x] w fun e w' => e = .returned (.tuple #[.float .f64 (wordN (isNeg x) 1022 (rung x % 4503599627370496)), .int .i64 (((rung x / 4503599627370496 : Nat) : Int) - 1022)]) ∧ w = w' := by
  have hc : infR = 9218868437227405312 := rfl
  have hn : isN x = false := by unfold isN; exact decide_eq_false (by omega)
  have t1 : (FloatKind.f64.format.order x 0 == some .eq) = false := by
    rw [eql_eq, hn, show isN 0 = false from by decide, show nkey 0 = 0 from by decide]
    have : nkey x ≠ 0 := by unfold nkey; split <;> omega
    rw [decide_eq_false this]; rfl
  have I := isinf_any x hx w
  rw [decide_eq_false (by omega)] at I
  have I := Lib.hid I
  have N := misnan_any x w
  rw [hn] at N
  have N := Lib.hid N
  have Z := Lib.hid (normalize_big x hx (by omega) h1 w)
  have hfb := run_float64bits x
  have hfr := run_float64frombits
  have hsw : Hid ((bits .or .u64 (bits .andNot .u64 (x : Int) 9218868437227405312) 4602678819172646912).toNat = wordN (isNeg x) 1022 (rung x % 4503599627370496)) := by
    show _ = _
    rw [field_swap x hx]; rfl
  have ha := and_2047u (x / 4503599627370496) (by omega)
  have hb : (x / 4503599627370496) % 2048 = rung x / 4503599627370496 := by unfold rung; omega
  rw [hb, show ((x / 4503599627370496 : Nat) : Int) = (x : Int) / 4503599627370496 from by omega] at ha
  have hq : rung x / 4503599627370496 ≤ 2046 := by omega
  obtain ⟨E, hE⟩ : ∃ E, E = rung x / 4503599627370496 := ⟨_, rfl⟩
  rw [← hE] at ha hq ⊢
  have hee : (E : Int) - 1022 = (E : Int) - 1023 + 1 := by omega
  rw [hee]
  have hq2 : (E : Int) ≤ 2046 := by omega
  clear hn hb hE h1 h2 hc hx hq hee
  go_enter Tryd.func44, Tryd.ntmps44
  go_wp2_with fail
  refine I.out.mono ?_
  rintro e w' ⟨rfl, rfl⟩
  go_wp2_with fail
  refine N.out.mono ?_
  rintro e w' ⟨rfl, rfl⟩
  go_wp2_with fail
  refine Z.out.mono ?_
  rintro e w' ⟨rfl, rfl⟩
  go_wp2_with fail
  go_ret2
  exact ⟨by rw [← hsw.out]; rfl, rfl⟩
end Go.Proofs.YtcnjjolmjpeeoaaDoor
