/-
  Walks over the document's own answer to chapter 2: Scale.
-/
import Derived.Test.YtalacionlbmcpaaRefR0
import Derived.Test.YtalacionlbmcpaaReal3
namespace Go.Proofs.Ytalacionlbmcpaa
open Go.RowKit Ieee

theorem integral_far (r : Nat) (h : r < 4823355200913801216) : (Ieee.double.read r).integral .down = .number false (magOf r / 2 ^ 1074) 0 := by
  obtain ⟨p1, p2⟩ := small_parts r (by omega)
  have hw := whole_fin .down (Or.inr rfl) r (by unfold infR; omega) p1
  obtain ⟨m, k, e, _⟩ := read_fin r (by rw [p2]; unfold infR; omega)
  rw [p2] at hw
  rw [e, p1] at hw ⊢
  unfold Datum.toInt at hw
  unfold Datum.integral at hw ⊢
  generalize magOf r / 2 ^ 1074 = q at *
  dsimp only at hw ⊢
  generalize Toward.down.cut false (m <<< (-1074 + (k : Int)).toNat) (-(-1074 + (k : Int))).toNat = c at *
  have hw := Option.some.inj hw
  unfold signed at hw
  simp only [Bool.false_eq_true, if_false, Nat.shiftLeft_zero] at hw
  have : c = q := by omega
  rw [this]

theorem floor_word (r : Nat) (h : r < 4823355200913801216) : FloatKind.f64.encode ((FloatKind.f64.decode r).integral .down) = fltR (magOf r / 2 ^ 1074) := by
  have hl := (int_far r h).2
  have h1 : FloatKind.f64.encode ((FloatKind.f64.decode r).integral .down) = Ieee.double.write ((Ieee.double.read r).integral .down) := rfl
  rw [h1, integral_far r h]
  generalize magOf r / 2 ^ 1074 = q at *
  have h2 := floatOfInt_nat q (by omega)
  rw [← h2]
  show Ieee.double.nearest false q 0 = Ieee.double.nearest (decide ((q : Int) < 0)) (q : Int).natAbs 0
  rw [decide_eq_false (by omega), Int.natAbs_natCast]

theorem run_archFloor (r : Nat) (h : r < 4823355200913801216) (w : World) : (callFunc 27 #[.float .f64 r]).run Try.prog w = .ok (.value (.float .f64 (fltR (magOf r / 2 ^ 1074)))) w := by
  rw [run_callFunc_extern (e := Extern.MathFloor.toIntegral "math.archFloor" .down) Try.func27 (by kernel_rfl) (by kernel_rfl) (by kernel_rfl) (by kernel_rfl)]
  obtain ⟨p1, p2⟩ := small_parts r (by omega)
  obtain ⟨m, k, e, _⟩ := read_fin r (by rw [p2]; unfold infR; omega)
  have hd : FloatKind.f64.decode r = .number (isNeg r) m (-1074 + (k : Int)) := e
  have hf := floor_word r h
  generalize fltR (magOf r / 2 ^ 1074) = z at *
  rw [hd] at hf
  have key : ∀ d : Datum, d.isNaN = false → FloatKind.f64.decode r = d → Extern.MathFloor.toIntegral "math.archFloor" .down #[.float .f64 r] = pure (.float .f64 (FloatKind.f64.encode (d.integral .down))) := by
    intro d hn hdd
    subst hdd
    show (match FloatKind.f64.decode r with | .nan s t => _ | d => (pure (.float .f64 (FloatKind.f64.encode (d.integral .down))) : Sem Value)) = _
    generalize FloatKind.f64.decode r = d at *
    cases d with
    | nan s t => cases hn
    | number s m i => rfl
    | infinity s => rfl
  rw [key _ rfl hd, hf]
  rfl

set_option maxRecDepth 100000 in
theorem floor_any (r : Nat) (h : r < 4823355200913801216) (w : World) :
    Calls Try.prog 26 #[.float .f64 r] w fun e w' => e = .returned (.float .f64 (fltR (magOf r / 2 ^ 1074))) ∧ w = w' := by
  have hr := run_archFloor r h
  generalize fltR (magOf r / 2 ^ 1074) = z at *
  clear h
  go_enter Try.func26, Try.ntmps26
  go_wp2_with fail
  go_ret
  exact ⟨rfl, rfl⟩

theorem int_floor (q : Nat) (h : q < 281474976710656) : floatToIntVal .f64 (fltR q) .i64 = some (q : Int) := by
  have hmag := fltR_mag q (by omega)
  have h48 : fltR 281474976710656 = 4823355200913801216 := by decide +kernel
  have hlt : fltR q < 4823355200913801216 := by
    rw [← h48, ← magOf_lt, hmag, fltR_mag 281474976710656 (by decide)]
    have hp := Nat.two_pow_pos 1074
    clear hmag
    generalize 2 ^ 1074 = U at *
    exact Nat.mul_lt_mul_of_pos_right h hp
  have hi := (int_far (fltR q) hlt).1
  rw [hmag] at hi
  have ed : ∀ U : Nat, 0 < U → q * U / U = q := fun U hU => Nat.mul_div_cancel q hU
  rw [ed _ (Nat.two_pow_pos 1074)] at hi
  exact hi

set_option maxRecDepth 100000 in
set_option maxHeartbeats 1000000 in
theorem qscale_nan (n z : Int) (x : Nat) (w : World) (hc : CapIs n z) (hx : isN x = true) :
    Calls Try.prog 23 #[.int .i64 n, .float .f64 x] w fun e w' => e = .returned (.int .i64 z) ∧ w = w' := by
  have C := Lib.hid (qisnan_any x w)
  rw [hx] at C
  rcases hc with ⟨h1, rfl⟩ | ⟨h1, h2, rfl⟩ | ⟨h1, rfl⟩
  all_goals
    go_enter Try.func23, Try.ntmps23
    go_wp2_with fail
    refine C.out.mono ?_
    rintro e w' ⟨rfl, rfl⟩
    go_wp2_with fail
    go_ret
    exact ⟨rfl, rfl⟩

set_option maxRecDepth 100000 in
set_option maxHeartbeats 1000000 in
theorem qscale_still (n z : Int) (x : Nat) (w : World) (hc : CapIs n z) (hx : isN x = false) (hk : nkey x ≤ 0) :
    Calls Try.prog 23 #[.int .i64 n, .float .f64 x] w fun e w' => e = .returned (.int .i64 0) ∧ w = w' := by
  have C := Lib.hid (qisnan_any x w)
  rw [hx] at C
  have hq := leq_eq x 0
  rw [hx, show isN 0 = false from by decide, show nkey 0 = 0 from by decide, decide_eq_true hk] at hq
  simp only [Bool.not_false, Bool.true_and] at hq
  clear hk
  rcases hc with ⟨h1, rfl⟩ | ⟨h1, h2, rfl⟩ | ⟨h1, rfl⟩
  all_goals
    go_enter Try.func23, Try.ntmps23
    go_wp2_with fail
    refine C.out.mono ?_
    rintro e w' ⟨rfl, rfl⟩
    go_wp2_with fail
    go_ret
    exact ⟨rfl, rfl⟩

set_option maxRecDepth 100000 in
set_option maxHeartbeats 1000000 in
theorem qscale_zero (n z : Int) (x : Nat) (w : World) (hc : CapIs n z) (hz : z = 0) (hx : isN x = false) (hk : 0 < nkey x) :
    Calls Try.prog 23 #[.int .i64 n, .float .f64 x] w fun e w' => e = .returned (.int .i64 0) ∧ w = w' := by
  have C := Lib.hid (qisnan_any x w)
  rw [hx] at C
  have hq := leq_eq x 0
  rw [hx, show isN 0 = false from by decide, show nkey 0 = 0 from by decide, decide_eq_false (by omega)] at hq
  simp only [Bool.not_false, Bool.true_and] at hq
  clear hk
  rcases hc with ⟨h1, _⟩ | ⟨h1, h2, h3⟩ | ⟨h1, h3⟩
  · clear hz
    go_enter Try.func23, Try.ntmps23
    go_wp2_with fail
    refine C.out.mono ?_
    rintro e w' ⟨rfl, rfl⟩
    go_wp2_with fail
    go_ret
    exact ⟨rfl, rfl⟩
  · obtain rfl : n = 0 := by omega
    clear hz h3
    go_enter Try.func23, Try.ntmps23
    go_wp2_with fail
    refine C.out.mono ?_
    rintro e w' ⟨rfl, rfl⟩
    go_wp2_with fail
    go_ret
    exact ⟨rfl, rfl⟩
  · omega

set_option maxRecDepth 100000 in
set_option maxHeartbeats 2000000 in
theorem qscale_far (n z : Int) (m x : Nat) (w : World) (hc : CapIs n z) (hz : z = (m : Int)) (h0 : m ≠ 0) (hm : m ≤ 281474976710656) (hx : isN x = false) (hk : 0 < nkey x) :
    Calls Try.prog 23 #[.int .i64 n, .float .f64 x] w fun e w' => e = .returned (.int .i64 (goesN m x : Int)) ∧ w = w' := by
  have hs : isNeg x = false := by
    cases hg : isNeg x
    · rfl
    · unfold nkey at hk
      rw [hg, if_pos rfl] at hk
      omega
  have hfi := floatOfInt_nat m (by omega)
  have hmul := mul_far m x h0 hm hx hs
  rw [← hfi, ← hz] at hmul
  have hmul : ∀ W : World, (binOp .mul 22 (.float .f64 (floatOfInt .f64 z)) (.float .f64 x)).run Try.prog W = .ok (.float .f64 (farR m x)) W := fun W => run_float_arith W .mul 22 .f64 _ _ _ hmul
  have hq := leq_eq x 0
  rw [hx, show isN 0 = false from by decide, show nkey 0 = 0 from by decide, decide_eq_false (by omega)] at hq
  simp only [Bool.not_false, Bool.true_and] at hq
  have hq0 : (z == 0) = false := by rw [beq_eq_false_iff_ne]; omega
  have hfar := farR_le m x
  have hg := geq_eq (farR m x) 4823355200913801216
  rw [isN_small _ hfar, isN_small 4823355200913801216 (by decide), nkey_small (farR m x) (by unfold infR at hfar; omega), nkey_small 4823355200913801216 (by decide)] at hg
  simp only [Bool.not_false, Bool.true_and] at hg
  have hF := fun h W => Lib.hid (floor_any (farR m x) h W)
  have hI : farR m x < 4823355200913801216 → ∀ W : World, (convert 22 3 (.float .f64 (fltR (magOf (farR m x) / 2 ^ 1074)))).run Try.prog W = .ok (.int .i64 ((magOf (farR m x) / 2 ^ 1074 : Nat) : Int)) W := fun h W =>
    run_convert_float_int W 22 3 .f64 .i64 _ _ (by kernel_rfl) Try.underlying3 (int_floor _ (int_far _ h).2)
  have C := Lib.hid (qisnan_any x w)
  rw [hx] at C
  unfold goesN
  generalize farR m x = r at *
  clear hx hk hs hfi hfar hm
  by_cases hr : 4823355200913801216 ≤ r
  · rw [if_pos hr]
    rw [decide_eq_true (by omega)] at hg
    clear hI hr hF
    rcases hc with ⟨h1, rfl⟩ | ⟨h1, h2, rfl⟩ | ⟨h1, rfl⟩
    · exact absurd hq0 (by decide)
    all_goals
      clear hz
      go_enter Try.func23, Try.ntmps23
      go_wp2_with fail
      refine C.out.mono ?_
      rintro e w' ⟨rfl, rfl⟩
      go_wp2_with fail
      go_ret
      exact ⟨rfl, rfl⟩
  · rw [if_neg hr]
    rw [decide_eq_false (by omega)] at hg
    have hI := hI (by omega)
    have hF := hF (by omega)
    generalize magOf r / 2 ^ 1074 = q at *
    clear hr
    rcases hc with ⟨h1, rfl⟩ | ⟨h1, h2, rfl⟩ | ⟨h1, rfl⟩
    · exact absurd hq0 (by decide)
    all_goals
      clear hz
      go_enter Try.func23, Try.ntmps23
      go_wp2_with fail
      refine C.out.mono ?_
      rintro e w' ⟨rfl, rfl⟩
      go_wp2_with fail
      refine (hF _).out.mono ?_
      rintro e w' ⟨rfl, rfl⟩
      go_wp2_with fail
      go_ret
      exact ⟨rfl, rfl⟩

theorem qscale_any (n : Int) (x : Nat) (w : World) :
    Calls Try.prog 23 #[.int .i64 n, .float .f64 x] w fun e w' => e = .returned (.int .i64 (scaleN (capN n) x : Int)) ∧ w = w' := by
  have hc := capIs n
  have hm := capN_le n
  generalize capN n = m at *
  unfold scaleN
  cases hx : isN x
  · simp only [Bool.false_eq_true, if_false]
    by_cases hk : nkey x ≤ 0
    · rw [if_pos hk, ite_self]
      exact qscale_still n _ x w hc hx hk
    · rw [if_neg hk]
      by_cases h0 : m = 0
      · subst h0
        rw [if_pos rfl]
        exact qscale_zero n _ x w hc rfl hx (by omega)
      · rw [if_neg h0]
        exact qscale_far n _ m x w hc rfl h0 hm hx (by omega)
  · simp only [if_true]
    exact qscale_nan n _ x w hc hx
end Go.Proofs.Ytalacionlbmcpaa
