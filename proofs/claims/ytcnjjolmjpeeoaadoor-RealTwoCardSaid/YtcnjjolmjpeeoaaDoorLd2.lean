/-
  The walk over math.Ldexp of a whole number as a float64.
-/
import Derived.Test.YtcnjjolmjpeeoaaDoorLd
namespace Go.Proofs.YtcnjjolmjpeeoaaDoor
open Go.RowKit

set_option maxRecDepth 100000 in
/-- The parts of a word: its power's field and its fraction. -/
theorem flt_field (m : Nat) (h0 : m ≠ 0) (hm : m < 9007199254740992) : ∃ f, fltR m = (Lib.bitLen m + 1022) * 4503599627370496 + f ∧ f < 4503599627370496 ∧ m * 2 ^ (53 - Lib.bitLen m) = 4503599627370496 + f := by
  obtain ⟨g1, g2⟩ := lead m h0 hm
  have h := fltR_norm m h0 hm
  generalize m * 2 ^ (53 - Lib.bitLen m) = x at *
  obtain ⟨f, hf⟩ : ∃ f, x = 4503599627370496 + f := ⟨x - 4503599627370496, by omega⟩
  have q1 : fltR m = (Lib.bitLen m + 1022) * 4503599627370496 + f := by
    have a1 : ∀ l C : Nat, (l + 1021) * C + (C + f) = (l + 1022) * C + f := fun l C => by
      rw [show l + 1022 = (l + 1021) + 1 from rfl, Nat.add_mul (l + 1021) 1 C, Nat.one_mul, Nat.add_assoc]
    rw [h, hf]
    exact a1 _ _
  have q2 : f < 4503599627370496 := by omega
  exact ⟨f, q1, q2, hf⟩

theorem ld_over (m : Nat) (e : Int) (h0 : m ≠ 0) (hm : m < 9007199254740992) (h : 1024 < (Lib.bitLen m : Int) + e) : ldN m e = infR := by
  obtain ⟨l1, l2, l3, l4⟩ := bitLen_facts m h0 hm
  have hc : infR = 9218868437227405312 := rfl
  obtain ⟨g1, g2⟩ := lead m h0 hm
  unfold ldN
  rw [rungOf_norm m e h0 hm (by omega), Nat.min_eq_right]
  have : 2046 ≤ (e + (Lib.bitLen m : Int) - 53 + 1074).toNat := by omega
  have := Nat.mul_le_mul_right 4503599627370496 this
  omega
theorem ld_under (m : Nat) (e : Int) (h0 : m ≠ 0) (hm : m < 9007199254740992) (h : (Lib.bitLen m : Int) + e < -1074) : ldN m e = 0 := by
  obtain ⟨l1, l2, l3, l4⟩ := bitLen_facts m h0 hm
  have hL : lastP m e = -1074 := by unfold lastP; rw [log2_len m h0 hm]; omega
  unfold ldN rungOf keptN
  rw [hL, show (-1074 + 1074 : Int).toNat = 0 from by decide, show (e - -1074).toNat = 0 from by omega, Nat.pow_zero, Nat.mul_one]
  have h2 : 2 * m < 2 ^ (-1074 - e).toNat := by
    have : 2 ^ (Lib.bitLen m + 1) ≤ 2 ^ (-1074 - e).toNat := Nat.pow_le_pow_right (by decide) (by omega)
    rw [Nat.pow_succ] at this
    omega
  rw [hround_small m _ h2]
  simp
theorem ld_norm (m : Nat) (e : Int) (f : Nat) (h0 : m ≠ 0) (hm : m < 9007199254740992) (hf : m * 2 ^ (53 - Lib.bitLen m) = 4503599627370496 + f) (h1 : -1021 ≤ (Lib.bitLen m : Int) + e) (h2 : (Lib.bitLen m : Int) + e ≤ 1024) :
    ldN m e = (e + (Lib.bitLen m : Int) + 1022).toNat * 4503599627370496 + f := by
  have hc : infR = 9218868437227405312 := rfl
  obtain ⟨l1, l2, l3, l4⟩ := bitLen_facts m h0 hm
  obtain ⟨g1, g2⟩ := lead m h0 hm
  unfold ldN
  rw [rungOf_norm m e h0 hm (by omega), hf]
  obtain ⟨E, hE⟩ : ∃ E : Nat, E = (e + (Lib.bitLen m : Int) + 1022).toNat := ⟨_, rfl⟩
  rw [show (e + (Lib.bitLen m : Int) - 53 + 1074).toNat = E - 1 from by omega, ← hE]
  have : 1 ≤ E := by omega
  have : E ≤ 2046 := by omega
  rw [Nat.min_eq_left (by omega)]
  omega
/-- Of the least numbers: rounded once, as the product with 2^-53 rounds. -/
theorem ld_low (m : Nat) (e : Int) (f : Nat) (h0 : m ≠ 0) (hm : m < 9007199254740992) (hf : m * 2 ^ (53 - Lib.bitLen m) = 4503599627370496 + f) (hfl : f < 4503599627370496) (h1 : -1074 ≤ (Lib.bitLen m : Int) + e) (h2 : (Lib.bitLen m : Int) + e < -1021) :
    floatBits .mul .f64 4368491638549381120 ((e + (Lib.bitLen m : Int) + 1075).toNat * 4503599627370496 + f) = some (ldN m e) := by
  have hc : infR = 9218868437227405312 := rfl
  obtain ⟨l1, l2, l3, l4⟩ := bitLen_facts m h0 hm
  obtain ⟨E, hE⟩ : ∃ E : Nat, E = (e + (Lib.bitLen m : Int) + 1075).toNat := ⟨_, rfl⟩
  rw [← hE, mul_words _ _ (by decide) (by omega), magOf_norm E f hfl (by omega), ← hf]
  obtain ⟨T, hT⟩ : ∃ T, T = 1021 := ⟨_, rfl⟩
  have h3 : magOf 4368491638549381120 = 2 ^ T := by rw [hT]; decide +kernel
  rw [h3]
  unfold mulR ldN
  have e1 : ∀ U : Nat, U * (m * 2 ^ (53 - Lib.bitLen m) * 2 ^ (E - 1)) = m * (U * (2 ^ (53 - Lib.bitLen m) * 2 ^ (E - 1))) := fun U => by
    rw [Nat.mul_assoc, Nat.mul_left_comm]
  have e2 : 2 ^ T * (2 ^ (53 - Lib.bitLen m) * 2 ^ (E - 1)) = 2 ^ (T + (53 - Lib.bitLen m) + (E - 1)) := by rw [← Nat.pow_add, ← Nat.pow_add, Nat.add_assoc]
  have e3 : (-2148 + ((T + (53 - Lib.bitLen m) + (E - 1) : Nat) : Int)) = e := by omega
  have e4 := rungOf_scale m (T + (53 - Lib.bitLen m) + (E - 1)) (-2148) h0
  rw [e3] at e4
  have e5 : m * 2 ^ (T + (53 - Lib.bitLen m) + (E - 1)) ≠ 0 := Nat.mul_ne_zero h0 (Nat.ne_of_gt (Nat.two_pow_pos _))
  rw [e1, e2]
  generalize m * 2 ^ (T + (53 - Lib.bitLen m) + (E - 1)) = q at *
  rw [if_neg e5, e4]

set_option maxRecDepth 100000 in
set_option maxHeartbeats 2000000 in
theorem ldexp_any (m : Nat) (e : Int) (w : World) (h0 : m ≠ 0) (hm : m < 9007199254740992) (he0 : -100000000000000000 ≤ e) (he1 : e ≤ 100000000000000000) :
    Calls Tryd.prog 42 #[.float .f64 (fltR m), .int .i64 e] w fun r w' => r = .returned (.float .f64 (ldN m e)) ∧ w = w' := by
  have hc : infR = 9218868437227405312 := rfl
  obtain ⟨l1, l2, l3, l4⟩ := bitLen_facts m h0 hm
  obtain ⟨f, hr, hfl, hf⟩ := flt_field m h0 hm
  have hov := ld_over m e h0 hm
  have hun := ld_under m e h0 hm
  have hno := ld_norm m e f h0 hm hf
  have hlo := ld_low m e f h0 hm hf hfl
  clear hf l3 l4
  generalize fltR m = r at *
  generalize ldN m e = z at *
  generalize Lib.bitLen m = l at *
  clear h0 hm
  obtain ⟨p1, p2⟩ := small_parts r (by omega)
  have hfb := run_float64bits r
  have hfr := run_float64frombits
  have T1 : (FloatKind.f64.format.order r 0 == some .eq) = false := by
    rw [eql_eq, isN_small r (by omega), isN_small 0 (by decide), nkey_small r (by omega), nkey_small 0 (by decide), decide_eq_false (by omega)]; rfl
  have T2 : (FloatKind.f64.format.order r 0 == some .lt) = false := by
    rw [lss_eq, isN_small r (by omega), isN_small 0 (by decide), nkey_small r (by omega), nkey_small 0 (by decide), decide_eq_false (by omega)]; rfl
  have I := isinf_any r (by omega) w
  rw [p2, decide_eq_false (by omega)] at I
  have I := Lib.hid I
  have N := misnan_any r w
  rw [isN_small r (by omega)] at N
  have N := Lib.hid N
  have Z := Lib.hid (normalize_big r (by omega) (by omega) (by omega) w)
  have hE : (r : Int) / 4503599627370496 = (l : Int) + 1022 := by omega
  have hE2 := and_2047 (l + 1022) (by omega)
  rw [show ((l + 1022 : Nat) : Int) = (l : Int) + 1022 from by omega] at hE2
  have hand := andNot_exp r (by omega)
  rw [show r % 4503599627370496 = f from by omega] at hand
  clear p1 p2
  by_cases hA : (l : Int) + e < -1074
  · have hz := hun hA
    rw [hz]
    have hC := copysign_any 0 r (by decide) (by omega) w
    rw [show copysignN 0 r = 0 from by unfold copysignN; rw [(small_parts r (by omega)).1]; rfl] at hC
    have hC := Lib.hid hC
    have hd1 : decide (e + ((l : Int) + 1022 - 1023) < -1075) = true := decide_eq_true (by omega)
    clear hov hun hno hlo hc hr hfl hand
    go_enter Tryd.func42, Tryd.ntmps42
    go_wp2_with fail
    refine I.out.mono ?_
    rintro e w' ⟨rfl, rfl⟩
    go_wp2_with fail
    refine N.out.mono ?_
    rintro e w' ⟨rfl, rfl⟩
    go_wp2_with fail
    refine Z.out.mono ?_
    rintro e w' ⟨rfl, rfl⟩
    go_wp2_with fail
    refine hC.out.mono ?_
    rintro e w' ⟨rfl, rfl⟩
    go_wp2_with fail
    go_ret
    exact ⟨rfl, rfl⟩
  · have hd1 : decide (e + ((l : Int) + 1022 - 1023) < -1075) = false := decide_eq_false (by omega)
    by_cases hB : 1024 < (l : Int) + e
    · have hz := hov hB
      rw [hz]
      have hd2 : decide (1023 < e + ((l : Int) + 1022 - 1023)) = true := decide_eq_true (by omega)
      clear hov hun hno hlo hc hr hfl hand
      go_enter Tryd.func42, Tryd.ntmps42
      go_wp2_with fail
      refine I.out.mono ?_
      rintro e w' ⟨rfl, rfl⟩
      go_wp2_with fail
      refine N.out.mono ?_
      rintro e w' ⟨rfl, rfl⟩
      go_wp2_with fail
      refine Z.out.mono ?_
      rintro e w' ⟨rfl, rfl⟩
      go_wp2_with fail
      refine (minf_any _).mono ?_
      rintro e w' ⟨rfl, rfl⟩
      go_wp2_with fail
      go_ret
      exact ⟨rfl, rfl⟩
    · have hd2 : decide (1023 < e + ((l : Int) + 1022 - 1023)) = false := decide_eq_false (by omega)
      by_cases hD : (l : Int) + e < -1021
      · have hd3 : decide (e + ((l : Int) + 1022 - 1023) < -1022) = true := decide_eq_true (by omega)
        have hm := hlo (by omega) hD
        obtain ⟨E, hEE⟩ : ∃ E : Nat, E = (e + (l : Int) + 1075).toNat := ⟨_, rfl⟩
        have hEi : e + ((l : Int) + 1022 - 1023) + 53 + 1023 = (E : Int) := by omega
        rw [← hEE] at hm
        have hor := or_exp f E hfl (by omega)
        have hE48 : (E : Int) ≤ 2046 := by omega
        have hmul := fun W : World => run_float_arith (P := Tryd.prog) W .mul 24 .f64 _ _ _ hm
        clear hov hun hno hlo hc hr hfl hm hEE hA hB hD
        go_enter Tryd.func42, Tryd.ntmps42
        go_wp2_with fail
        refine I.out.mono ?_
        rintro e w' ⟨rfl, rfl⟩
        go_wp2_with fail
        refine N.out.mono ?_
        rintro e w' ⟨rfl, rfl⟩
        go_wp2_with fail
        refine Z.out.mono ?_
        rintro e w' ⟨rfl, rfl⟩
        go_wp2_with fail
        go_ret
        exact ⟨rfl, rfl⟩
      · have hd3 : decide (e + ((l : Int) + 1022 - 1023) < -1022) = false := decide_eq_false (by omega)
        have hz := hno (by omega) (by omega)
        rw [hz]
        obtain ⟨E, hEE⟩ : ∃ E : Nat, E = (e + (l : Int) + 1022).toNat := ⟨_, rfl⟩
        have hEi : e + ((l : Int) + 1022 - 1023) + 1023 = (E : Int) := by omega
        rw [← hEE]
        have hor := or_exp f E hfl (by omega)
        have hE48 : (E : Int) ≤ 2046 := by omega
        have hmul := fun W : World => run_float_arith (P := Tryd.prog) W .mul 24 .f64 _ _ _ (mul_one_word (E * 4503599627370496 + f) (by omega) (by omega))
        clear hov hun hno hlo hc hr hfl hz hEE hA hB hD
        go_enter Tryd.func42, Tryd.ntmps42
        go_wp2_with fail
        refine I.out.mono ?_
        rintro e w' ⟨rfl, rfl⟩
        go_wp2_with fail
        refine N.out.mono ?_
        rintro e w' ⟨rfl, rfl⟩
        go_wp2_with fail
        refine Z.out.mono ?_
        rintro e w' ⟨rfl, rfl⟩
        go_wp2_with fail
        go_ret
        exact ⟨rfl, rfl⟩
end Go.Proofs.YtcnjjolmjpeeoaaDoor
