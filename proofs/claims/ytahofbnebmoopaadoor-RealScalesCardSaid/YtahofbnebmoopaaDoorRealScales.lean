/-
  RealScales: a faster clock goes further, a longer time too; never past the end, never back; at the speed 1 as far as time goes.
-/
import Derived.Test.YtahofbnebmoopaaDoorAliveR
import Derived.Test.YtahofbnebmoopaaDoorF64q
namespace Go.Proofs.YtahofbnebmoopaaDoor
open Go.RowKit

theorem capN_mono {n m : Int} (h : n ≤ m) : capN n ≤ capN m := by
  unfold capN
  split
  · omega
  · split
    · rw [if_neg (by omega), if_pos (by omega)]; omega
    · rw [if_neg (by omega)]; split <;> omega

theorem scale_nanw (m : Nat) : scaleN m 9221120237041090561 = m := by unfold scaleN; rw [show isN 9221120237041090561 = true from by decide]; rfl
theorem scale_neg0 (m : Nat) : scaleN m 9223372036854775808 = 0 := by
  unfold scaleN
  rw [show isN 9223372036854775808 = false from by decide, if_pos (show nkey 9223372036854775808 ≤ 0 from by decide)]
  simp
theorem scale_minf (m : Nat) : scaleN m 18442240474082181120 = 0 := by
  unfold scaleN
  rw [show isN 18442240474082181120 = false from by decide, if_pos (show nkey 18442240474082181120 ≤ 0 from by decide)]
  simp
theorem run_cap (n : Int) (W : World) : (Builtin.max_ #[3, 3] 3 #[.int .i64 n, .int .i64 0]).run Tryd.prog W = .ok (.int .i64 (if n < 0 then 0 else n)) W := by
  simp [Builtin.max_, Builtin.max2]
theorem run_cup (n : Int) (W : World) : (Builtin.min_ #[3, 3] 3 #[.int .i64 n, .int .i64 281474976710656]).run Tryd.prog W = .ok (.int .i64 (if 281474976710656 < n then 281474976710656 else n)) W := by
  simp [Builtin.min_, Builtin.min2]
theorem cap_cup (n z : Int) (h : CapIs n z) : (if 281474976710656 < (if n < 0 then 0 else n) then 281474976710656 else (if n < 0 then 0 else n)) = z := by
  rcases h with ⟨h1, rfl⟩ | ⟨h1, h2, rfl⟩ | ⟨h1, rfl⟩
  · rw [if_pos h1]; rfl
  · rw [if_neg (show ¬ z < 0 by omega), if_neg (by omega)]
  · rw [if_neg (show ¬ n < 0 by omega), if_pos h1]
theorem scale_inf1 : scaleN (capN 1) 9218868437227405312 = 281474976710656 := by decide +kernel

set_option maxRecDepth 100000 in
set_option maxHeartbeats 16000000 in
theorem lawRealScales (n : Int) (_hn : (Lit.int .i64 n).wf = true) (m : Int) (_hm : (Lit.int .i64 m).wf = true) (a : Nat) (_ha : (Lit.float .f64 a).wf = true) (b : Nat) (_hb : (Lit.float .f64 b).wf = true) (w : World) (hL : LaidR w) :
    Calls Tryd.prog 11 #[.int .i64 n, .int .i64 m, .float .f64 a, .float .f64 b] w fun e w' => e = .returned (.bool true) ∧ Below w.heap.size w w' := by
  have Al := Lib.hid (aliveR_any w hL)
  have hcn := capIs n
  have hcl := capN_le n
  have C1 := fun W => (fscale_any n a W)
  have C2 := fun W => (fscale_any m a W)
  have C3 := fun W => (fscale_any n b W)
  have C4 := fun W => (fscale_any n 4607182418800017408 W)
  have C5 := fun W => (fscale_any n 9221120237041090561 W)
  have C6 := fun W => (fscale_any n 9223372036854775808 W)
  have C7 := fun W => (fscale_any n 18442240474082181120 W)
  have C8 := fun W => (fscale_any 1 9218868437227405312 W)
  rw [scaleN_one _ hcl] at C4
  rw [scale_nanw] at C5
  rw [scale_neg0] at C6
  rw [scale_minf] at C7
  rw [scale_inf1] at C8
  have D1 := fun W => copysign_any 0 13830554455654793216 (by decide) (by decide) W
  rw [al_copy] at D1
  have hx0 : ((scaleN (capN n) a : Nat) : Int) ≤ 281474976710656 := by have := scaleN_le (capN n) a hcl; omega
  have hx1 : 0 ≤ ((scaleN (capN n) a : Nat) : Int) := by omega
  have hxm : n ≤ m → ((scaleN (capN n) a : Nat) : Int) ≤ (scaleN (capN m) a : Nat) := fun h => by have := scaleN_longer a (capN_mono h); omega
  have hxb : (FloatKind.f64.format.order a b == some .lt || FloatKind.f64.format.order a b == some .eq) = true → ((scaleN (capN n) a : Nat) : Int) ≤ (scaleN (capN n) b : Nat) := by
    intro h
    rw [leq_eq] at h
    simp at h
    have := scaleN_faster (capN n) h.1.1 h.1.2 h.2
    omega
  have hq := cap_cup n _ hcn
  have hmax := run_cap n
  have hmin := run_cup (if n < 0 then 0 else n)
  rw [hq] at hmin
  generalize (if n < 0 then 0 else n) = mx at *
  generalize ((capN n : Nat) : Int) = z at *
  clear hq hcn
  generalize ((scaleN (capN n) a : Nat) : Int) = x at *
  generalize ((scaleN (capN m) a : Nat) : Int) = y at *
  generalize ((scaleN (capN n) b : Nat) : Int) = v at *
  generalize hl : (FloatKind.f64.format.order a b == some .lt || FloatKind.f64.format.order a b == some .eq) = l at *
  have C1 := fun W => Lib.hid (C1 W)
  have C2 := fun W => Lib.hid (C2 W)
  have C3 := fun W => Lib.hid (C3 W)
  have C4 := fun W => Lib.hid (C4 W)
  have C5 := fun W => Lib.hid (C5 W)
  have C6 := fun W => Lib.hid (C6 W)
  have C7 := fun W => Lib.hid (C7 W)
  have C8 := fun W => Lib.hid (C8 W)
  have D1 := fun W => Lib.hid (D1 W)
  have t1 : decide (x < 0) = false := decide_eq_false (by omega)
  have t2 : decide (281474976710656 < x) = false := decide_eq_false (by omega)
  clear hL hcl hx0 hx1
  by_cases hnm : n ≤ m
  · have t0 : decide (n ≤ m) = true := decide_eq_true hnm
    have t3 : decide (y < x) = false := decide_eq_false (by have := hxm hnm; omega)
    clear hxm hnm
    cases l
    · clear hxb
      go_enter Tryd.func11, Tryd.ntmps11
      go_wp2_with fail
      refine (C1 _).out.mono ?_
      rintro e w' ⟨rfl, rfl⟩
      go_wp2_with fail
      refine (C2 _).out.mono ?_
      rintro e w' ⟨rfl, rfl⟩
      go_wp2_with fail
      refine Al.out.mono ?_
      rintro e w1 ⟨rfl, hb1⟩
      go_wp2_with fail
      refine (C4 _).out.mono ?_
      rintro e w' ⟨rfl, rfl⟩
      go_wp2_with fail
      refine (D1 _).out.mono ?_
      rintro e w' ⟨rfl, rfl⟩
      go_wp2_with fail
      refine (C6 _).out.mono ?_
      rintro e w' ⟨rfl, rfl⟩
      go_wp2_with fail
      refine (mnan_any _).mono ?_
      rintro e w' ⟨rfl, rfl⟩
      go_wp2_with fail
      refine (C5 _).out.mono ?_
      rintro e w' ⟨rfl, rfl⟩
      go_wp2_with fail
      refine (C4 _).out.mono ?_
      rintro e w' ⟨rfl, rfl⟩
      go_wp2_with fail
      refine (mminf_any _).mono ?_
      rintro e w' ⟨rfl, rfl⟩
      go_wp2_with fail
      refine (C7 _).out.mono ?_
      rintro e w' ⟨rfl, rfl⟩
      go_wp2_with fail
      refine (minf_any _).mono ?_
      rintro e w' ⟨rfl, rfl⟩
      go_wp2_with fail
      refine (C8 _).out.mono ?_
      rintro e w' ⟨rfl, rfl⟩
      go_wp2_with fail
      go_ret
      exact ⟨rfl, hb1⟩
    · have t4 : decide (v < x) = false := decide_eq_false (by have := hxb rfl; omega)
      clear hxb
      go_enter Tryd.func11, Tryd.ntmps11
      go_wp2_with fail
      refine (C1 _).out.mono ?_
      rintro e w' ⟨rfl, rfl⟩
      go_wp2_with fail
      refine (C2 _).out.mono ?_
      rintro e w' ⟨rfl, rfl⟩
      go_wp2_with fail
      refine (C3 _).out.mono ?_
      rintro e w' ⟨rfl, rfl⟩
      go_wp2_with fail
      refine Al.out.mono ?_
      rintro e w1 ⟨rfl, hb1⟩
      go_wp2_with fail
      refine (C4 _).out.mono ?_
      rintro e w' ⟨rfl, rfl⟩
      go_wp2_with fail
      refine (D1 _).out.mono ?_
      rintro e w' ⟨rfl, rfl⟩
      go_wp2_with fail
      refine (C6 _).out.mono ?_
      rintro e w' ⟨rfl, rfl⟩
      go_wp2_with fail
      refine (mnan_any _).mono ?_
      rintro e w' ⟨rfl, rfl⟩
      go_wp2_with fail
      refine (C5 _).out.mono ?_
      rintro e w' ⟨rfl, rfl⟩
      go_wp2_with fail
      refine (C4 _).out.mono ?_
      rintro e w' ⟨rfl, rfl⟩
      go_wp2_with fail
      refine (mminf_any _).mono ?_
      rintro e w' ⟨rfl, rfl⟩
      go_wp2_with fail
      refine (C7 _).out.mono ?_
      rintro e w' ⟨rfl, rfl⟩
      go_wp2_with fail
      refine (minf_any _).mono ?_
      rintro e w' ⟨rfl, rfl⟩
      go_wp2_with fail
      refine (C8 _).out.mono ?_
      rintro e w' ⟨rfl, rfl⟩
      go_wp2_with fail
      go_ret
      exact ⟨rfl, hb1⟩
  · have t0 : decide (n ≤ m) = false := decide_eq_false hnm
    clear hxm hnm
    cases l
    · clear hxb
      go_enter Tryd.func11, Tryd.ntmps11
      go_wp2_with fail
      refine (C1 _).out.mono ?_
      rintro e w' ⟨rfl, rfl⟩
      go_wp2_with fail
      refine Al.out.mono ?_
      rintro e w1 ⟨rfl, hb1⟩
      go_wp2_with fail
      refine (C4 _).out.mono ?_
      rintro e w' ⟨rfl, rfl⟩
      go_wp2_with fail
      refine (D1 _).out.mono ?_
      rintro e w' ⟨rfl, rfl⟩
      go_wp2_with fail
      refine (C6 _).out.mono ?_
      rintro e w' ⟨rfl, rfl⟩
      go_wp2_with fail
      refine (mnan_any _).mono ?_
      rintro e w' ⟨rfl, rfl⟩
      go_wp2_with fail
      refine (C5 _).out.mono ?_
      rintro e w' ⟨rfl, rfl⟩
      go_wp2_with fail
      refine (C4 _).out.mono ?_
      rintro e w' ⟨rfl, rfl⟩
      go_wp2_with fail
      refine (mminf_any _).mono ?_
      rintro e w' ⟨rfl, rfl⟩
      go_wp2_with fail
      refine (C7 _).out.mono ?_
      rintro e w' ⟨rfl, rfl⟩
      go_wp2_with fail
      refine (minf_any _).mono ?_
      rintro e w' ⟨rfl, rfl⟩
      go_wp2_with fail
      refine (C8 _).out.mono ?_
      rintro e w' ⟨rfl, rfl⟩
      go_wp2_with fail
      go_ret
      exact ⟨rfl, hb1⟩
    · have t4 : decide (v < x) = false := decide_eq_false (by have := hxb rfl; omega)
      clear hxb
      go_enter Tryd.func11, Tryd.ntmps11
      go_wp2_with fail
      refine (C1 _).out.mono ?_
      rintro e w' ⟨rfl, rfl⟩
      go_wp2_with fail
      refine (C3 _).out.mono ?_
      rintro e w' ⟨rfl, rfl⟩
      go_wp2_with fail
      refine Al.out.mono ?_
      rintro e w1 ⟨rfl, hb1⟩
      go_wp2_with fail
      refine (C4 _).out.mono ?_
      rintro e w' ⟨rfl, rfl⟩
      go_wp2_with fail
      refine (D1 _).out.mono ?_
      rintro e w' ⟨rfl, rfl⟩
      go_wp2_with fail
      refine (C6 _).out.mono ?_
      rintro e w' ⟨rfl, rfl⟩
      go_wp2_with fail
      refine (mnan_any _).mono ?_
      rintro e w' ⟨rfl, rfl⟩
      go_wp2_with fail
      refine (C5 _).out.mono ?_
      rintro e w' ⟨rfl, rfl⟩
      go_wp2_with fail
      refine (C4 _).out.mono ?_
      rintro e w' ⟨rfl, rfl⟩
      go_wp2_with fail
      refine (mminf_any _).mono ?_
      rintro e w' ⟨rfl, rfl⟩
      go_wp2_with fail
      refine (C7 _).out.mono ?_
      rintro e w' ⟨rfl, rfl⟩
      go_wp2_with fail
      refine (minf_any _).mono ?_
      rintro e w' ⟨rfl, rfl⟩
      go_wp2_with fail
      refine (C8 _).out.mono ?_
      rintro e w' ⟨rfl, rfl⟩
      go_wp2_with fail
      go_ret
      exact ⟨rfl, hb1⟩
end Go.Proofs.YtahofbnebmoopaaDoor
