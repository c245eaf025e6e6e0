/-
  The walks over math.Ldexp of any normal number, and over math.Frexp of the least ones (for RealTwo).
-/
import Derived.Test.YtcnjjolmjpeeoaaDoorFr
import Derived.Test.YtcnjjolmjpeeoaaDoorF64d
namespace Go.Proofs.YtcnjjolmjpeeoaaDoor
open Go.RowKit

set_option maxRecDepth 100000 in
set_option maxHeartbeats 2000000 in
theorem ldexp_word (E f : Nat) (e : Int) (w : World) (hf : f < 4503599627370496) (h1 : 1 ≤ E) (h2 : E ≤ 2046) (hlo : 1 ≤ (E : Int) + e) (hhi : (E : Int) + e ≤ 2046) :
    Calls Tryd.prog 42 #[.float .f64 (E * 4503599627370496 + f), .int .i64 e] w fun r w' => r = .returned (.float .f64 (((E : Int) + e).toNat * 4503599627370496 + f)) ∧ w = w' := by
  have hc : infR = 9218868437227405312 := rfl
  obtain ⟨r, hr⟩ : ∃ r, r = E * 4503599627370496 + f := ⟨_, rfl⟩
  rw [← hr]
  obtain ⟨p1, p2⟩ := small_parts r (by omega)
  have hfb := run_float64bits r
  have hfr := run_float64frombits
  have T1 : (FloatKind.f64.format.order r 0 == some .eq) = false := by
    rw [eql_eq, isN_small r (by omega), isN_small 0 (by decide), nkey_small r (by omega), nkey_small 0 (by decide), decide_eq_false (by omega)]; rfl
  have I := isinf_any r (by omega) w
  rw [p2, decide_eq_false (by omega)] at I
  have I := Lib.hid I
  have N := misnan_any r w
  rw [isN_small r (by omega)] at N
  have N := Lib.hid N
  have Z := Lib.hid (normalize_big r (by omega) (by omega) (by omega) w)
  have hE : (r : Int) / 4503599627370496 = (E : Int) := by omega
  have hE2 := and_2047 E (by omega)
  have hand := andNot_exp r (by omega)
  rw [show r % 4503599627370496 = f from by omega] at hand
  have hd1 : decide (e + ((E : Int) - 1023) < -1075) = false := decide_eq_false (by omega)
  have hd2 : decide (1023 < e + ((E : Int) - 1023)) = false := decide_eq_false (by omega)
  have hd3 : decide (e + ((E : Int) - 1023) < -1022) = false := decide_eq_false (by omega)
  obtain ⟨F, hF⟩ : ∃ F : Nat, F = ((E : Int) + e).toNat := ⟨_, rfl⟩
  have hFi : e + ((E : Int) - 1023) + 1023 = (F : Int) := by omega
  rw [← hF]
  have hor := or_exp f F hf (by omega)
  have hF48 : (F : Int) ≤ 2046 := by omega
  have he0 : -2046 ≤ e := by omega
  have he1 : e ≤ 2046 := by omega
  have hE48 : (E : Int) ≤ 2046 := by omega
  have hmul := fun W : World => run_float_arith (P := Tryd.prog) W .mul 24 .f64 _ _ _ (mul_one_word (F * 4503599627370496 + f) (by omega) (by omega))
  clear hc hr hF hlo hhi p1 p2 h1 h2
  go_enter Tryd.func42, Tryd.ntmps42
  go_wp2_with fail
  refine I.out.mono ?_
  rintro e w' ⟨rfl, rfl⟩
  go_wp2_with fail
  refine N.out.mono ?_
  rintro e w' ⟨rfl, rfl⟩
  go_wp2_with fail
  refine Z.out.mono ?_
  rintro e w' ⟨rfl, rfl⟩
  go_wp2_with fail
  go_ret
  exact ⟨rfl, rfl⟩

set_option maxRecDepth 100000 in
theorem ldexp_zero (e : Int) (w : World) : Calls Tryd.prog 42 #[.float .f64 0, .int .i64 e] w fun r w' => r = .returned (.float .f64 0) ∧ w = w' := by
  have T1 : (FloatKind.f64.format.order 0 0 == some .eq) = true := by decide
  go_enter Tryd.func42, Tryd.ntmps42
  go_wp2_with fail
  go_ret
  exact ⟨rfl, rfl⟩

theorem lead_parts (R : Nat) (h0 : R ≠ 0) (hm : R < 9007199254740992) : ∃ f, R * 2 ^ (53 - Lib.bitLen R) = 4503599627370496 + f ∧ f < 4503599627370496 := by
  obtain ⟨f, _, hf, hfe⟩ := flt_field R h0 hm
  exact ⟨f, hfe, hf⟩

/-- A least number times 2^52. -/
theorem mul_low (x f : Nat) (hx : x < 18446744073709551616) (h0 : rung x ≠ 0) (h1 : rung x < 4503599627370496) (hf : rung x * 2 ^ (53 - Lib.bitLen (rung x)) = 4503599627370496 + f) (hfl : f < 4503599627370496) :
    floatBits .mul .f64 x 4841369599423283200 = some (wordN (isNeg x) (Lib.bitLen (rung x)) f) := by
  have hc : infR = 9218868437227405312 := rfl
  obtain ⟨l1, l2, l3, l4⟩ := bitLen_facts (rung x) h0 (by omega)
  have hR : magOf (rung x) = rung x := by unfold magOf; rw [if_pos h1]
  obtain ⟨T, hT⟩ : ∃ T, T = 1126 := ⟨_, rfl⟩
  have hy : magOf (rung 4841369599423283200) = 2 ^ T := by rw [hT]; decide +kernel
  have hz : (-2148 + (T : Int)) = -1022 := by omega
  have hp : 2 ^ T ≠ 0 := Nat.ne_of_gt (Nat.two_pow_pos T)
  show Ieee.double.mul x 4841369599423283200 = _
  rw [mul_fin x 4841369599423283200 (by omega) (by decide), hR, hy]
  unfold mulR
  rw [if_neg (Nat.mul_ne_zero h0 hp), rungOf_scale (rung x) T (-2148) h0, hz, rungOf_norm (rung x) (-1022) h0 (by omega) (by omega), hf]
  have hn : (-1022 + (Lib.bitLen (rung x) : Int) - 53 + 1074).toNat = Lib.bitLen (rung x) - 1 := by omega
  rw [hn, show isNeg 4841369599423283200 = false from by decide, Bool.xor_false, word_eq]
  generalize Lib.bitLen (rung x) = l at *
  have e1 : (l - 1) * 4503599627370496 + (4503599627370496 + f) = l * 4503599627370496 + f := by omega
  rw [e1, Nat.min_eq_left (by omega)]
  unfold wordN
  cases isNeg x
  · simp only [Bool.false_eq_true, if_false, Nat.zero_add]
  · simp only [if_true, Nat.add_assoc]

theorem wordN_facts (s : Bool) (E f : Nat) (hE : E ≤ 2046) (hf : f < 4503599627370496) : wordN s E f < 18446744073709551616 ∧ isNeg (wordN s E f) = s ∧ rung (wordN s E f) = E * 4503599627370496 + f := by
  unfold wordN
  cases s
  · simp only [Bool.false_eq_true, if_false, Nat.zero_add]
    obtain ⟨p1, p2⟩ := small_parts (E * 4503599627370496 + f) (by omega)
    exact ⟨by omega, p1, p2⟩
  · simp only [if_true]
    refine ⟨by omega, ?_, ?_⟩
    · rw [word_neg _ (by omega)]; exact decide_eq_true (by omega)
    · unfold rung; omega

theorem lss_low (r : Nat) (h : r < 4503599627370496) : (FloatKind.f64.format.order r 4503599627370496 == some .lt) = true := by
  have hc : infR = 9218868437227405312 := rfl
  rw [lss_eq, isN_small r (by omega), isN_small 4503599627370496 (by decide), nkey_small r (by omega), nkey_small 4503599627370496 (by decide), decide_eq_true (by omega)]
  rfl

set_option maxRecDepth 100000 in
theorem normalize_low (x f : Nat) (hx : x < 18446744073709551616) (h0 : rung x ≠ 0) (h1 : rung x < 4503599627370496) (hf : rung x * 2 ^ (53 - Lib.bitLen (rung x)) = 4503599627370496 + f) (hfl : f < 4503599627370496) (w : World) :
    Calls Tryd.prog 73 #[.float .f64 x] w fun e w' => e = .returned (.tuple #[.float .f64 (wordN (isNeg x) (Lib.bitLen (rung x)) f), .int .i64 (-52)]) ∧ w = w' := by
  have C := Lib.hid (abs_any x hx w)
  have ht := lss_low (rung x) h1
  have hmul := fun W : World => run_float_arith (P := Tryd.prog) W .mul 24 .f64 _ _ _ (mul_low x f hx h0 h1 hf hfl)
  generalize wordN (isNeg x) (Lib.bitLen (rung x)) f = z at *
  clear hx h0 h1 hf hfl
  go_enter Tryd.func73, Tryd.ntmps73
  go_wp2_with fail
  refine C.out.mono ?_
  rintro e w' ⟨rfl, rfl⟩
  go_wp2_with fail
  go_ret2
  exact ⟨rfl, rfl⟩

theorem field_of_rung (z l f : Nat) (h : rung z = l * 4503599627370496 + f) (hl : l < 2048) (hf : f < 4503599627370496) : (z / 4503599627370496) % 2048 = l := by
  unfold rung at h
  omega

set_option maxRecDepth 100000 in
set_option maxHeartbeats 1000000 in
theorem frexp_low (x f : Nat) (hx : x < 18446744073709551616) (h0 : rung x ≠ 0) (h1 : rung x < 4503599627370496) (hf : rung x * 2 ^ (53 - Lib.bitLen (rung x)) = 4503599627370496 + f) (hfl : f < 4503599627370496) (w : World) :
    Calls Tryd.prog 44 #[.float .f64 x] w fun e w' => e = .returned (.tuple #[.float .f64 (wordN (isNeg x) 1022 f), .int .i64 ((Lib.bitLen (rung x) : Int) - 1074)]) ∧ w = w' := by
  have hc : infR = 9218868437227405312 := rfl
  obtain ⟨l1, l2, l3, l4⟩ := bitLen_facts (rung x) h0 (by omega)
  have hn : isN x = false := by unfold isN; exact decide_eq_false (by omega)
  have t1 : (FloatKind.f64.format.order x 0 == some .eq) = false := by
    rw [eql_eq, hn, show isN 0 = false from by decide, show nkey 0 = 0 from by decide]
    have : nkey x ≠ 0 := by unfold nkey; split <;> omega
    rw [decide_eq_false this]; rfl
  have I := isinf_any x hx w
  rw [decide_eq_false (by omega)] at I
  have I := Lib.hid I
  have N := misnan_any x w
  rw [hn] at N
  have N := Lib.hid N
  have Z := normalize_low x f hx h0 h1 hf hfl w
  obtain ⟨z1, z2, z3⟩ := wordN_facts (isNeg x) (Lib.bitLen (rung x)) f (by omega) hfl
  have hsw0 := field_swap (wordN (isNeg x) (Lib.bitLen (rung x)) f) z1
  rw [z2, z3, show (Lib.bitLen (rung x) * 4503599627370496 + f) % 4503599627370496 = f from by omega] at hsw0
  have ha := and_2047u (wordN (isNeg x) (Lib.bitLen (rung x)) f / 4503599627370496) (by omega)
  have hb : (wordN (isNeg x) (Lib.bitLen (rung x)) f / 4503599627370496) % 2048 = Lib.bitLen (rung x) := by
    exact field_of_rung _ _ f z3 (by omega) hfl
  rw [hb] at ha
  generalize wordN (isNeg x) (Lib.bitLen (rung x)) f = z at *
  rw [show ((z / 4503599627370496 : Nat) : Int) = (z : Int) / 4503599627370496 from by omega] at ha
  have hfb := run_float64bits z
  have hfr := run_float64frombits
  have hsw : Hid ((bits .or .u64 (bits .andNot .u64 (z : Int) 9218868437227405312) 4602678819172646912).toNat = wordN (isNeg x) 1022 f) := by
    show _ = _
    rw [hsw0]; rfl
  have Z := Lib.hid Z
  generalize wordN (isNeg x) 1022 f = y at *
  generalize Lib.bitLen (rung x) = l at *
  have hee : (l : Int) - 1074 = -52 + ((l : Int) - 1023 + 1) := by omega
  rw [hee]
  clear hn hb h0 h1 hf hfl hc hx hee hsw0 z1 z2 z3 l3 l4
  go_enter Tryd.func44, Tryd.ntmps44
  go_wp2_with fail
  refine I.out.mono ?_
  rintro e w' ⟨rfl, rfl⟩
  go_wp2_with fail
  refine N.out.mono ?_
  rintro e w' ⟨rfl, rfl⟩
  go_wp2_with fail
  refine Z.out.mono ?_
  rintro e w' ⟨rfl, rfl⟩
  go_wp2_with fail
  go_ret2
  exact ⟨by rw [← hsw.out]; rfl, rfl⟩
end Go.Proofs.YtcnjjolmjpeeoaaDoor
