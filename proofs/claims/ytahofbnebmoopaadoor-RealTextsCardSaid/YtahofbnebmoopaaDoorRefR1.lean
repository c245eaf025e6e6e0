/-
  Walks over the document's own answer to chapter 2: key, Compare, Same, Max, Min, Put, Ratio.
-/
import Derived.Test.YtahofbnebmoopaaDoorReal2
import Derived.Test.YtahofbnebmoopaaDoorReal5
import Derived.Test.YtahofbnebmoopaaDoorReal9
import Derived.Test.YtahofbnebmoopaaDoorRef1
namespace Go.Proofs.YtahofbnebmoopaaDoor
open Go.RowKit

set_option maxHeartbeats 400000 in
theorem qisnan_any (x : Nat) (w : World) : Calls Tryd.prog 52 #[.float .f64 x] w fun e w' => e = .returned (.bool (isN x)) ∧ w = w' := by
  rw [← neq_self x]
  go_enter Tryd.func52, Tryd.ntmps52
  go_wp2_with fail
  go_ret
  exact ⟨rfl, rfl⟩

set_option maxRecDepth 100000 in
set_option maxHeartbeats 1000000 in
theorem qkey_any (x : Nat) (hx : x < 18446744073709551616) (w : World) :
    Calls Tryd.prog 46 #[.float .f64 x] w fun e w' => e = .returned (.tuple #[.int .i64 ((rankN x / 4294967296 : Nat) : Int), .int .i64 ((rankN x % 4294967296 : Nat) : Int)]) ∧ w = w' := by
  have C := Lib.hid (qisnan_any x w)
  have hfb := run_float64bits x
  cases hn : isN x
  · rw [hn] at C
    rcases word_parts x hx with ⟨h1, h2, h3⟩ | ⟨h1, h2, h3⟩
    · have hr : rankN x = 18446744073709551615 - x := by unfold rankN; rw [hn, h1]; rfl
      have r1 : ((rankN x / 4294967296 : Nat) : Int) = 4294967295 - (x : Int) / 4294967296 := by rw [hr]; omega
      have r2 : ((rankN x % 4294967296 : Nat) : Int) = 4294967295 - (x : Int) % 4294967296 := by rw [hr]; omega
      rw [r1, r2]
      have hd : decide ((2147483648 : Int) ≤ (x : Int) / 4294967296) = true := decide_eq_true (by omega)
      have hq : (x : Int) / 4294967296 ≤ 4294967295 := by omega
      have hq0 : 0 ≤ (x : Int) / 4294967296 := by omega
      clear hr r1 r2 h1 h2 h3 hn
      go_enter Tryd.func46, Tryd.ntmps46
      go_wp2_with fail
      refine C.out.mono ?_
      rintro e w' ⟨rfl, rfl⟩
      go_wp2_with fail
      go_ret2
      exact ⟨rfl, rfl⟩
    · have hr : rankN x = x + 9223372036854775808 := by unfold rankN; rw [hn, h1]; rfl
      have r1 : ((rankN x / 4294967296 : Nat) : Int) = (x : Int) / 4294967296 + 2147483648 := by rw [hr]; omega
      have r2 : ((rankN x % 4294967296 : Nat) : Int) = (x : Int) % 4294967296 := by rw [hr]; omega
      rw [r1, r2]
      have hd : decide ((2147483648 : Int) ≤ (x : Int) / 4294967296) = false := decide_eq_false (by omega)
      have hq : (x : Int) / 4294967296 ≤ 4294967295 := by omega
      have hq0 : 0 ≤ (x : Int) / 4294967296 := by omega
      clear hr r1 r2 h1 h2 h3 hn
      go_enter Tryd.func46, Tryd.ntmps46
      go_wp2_with fail
      refine C.out.mono ?_
      rintro e w' ⟨rfl, rfl⟩
      go_wp2_with fail
      go_ret2
      exact ⟨rfl, rfl⟩
  · rw [hn] at C
    rw [rank_nan x hn]
    go_enter Tryd.func46, Tryd.ntmps46
    go_wp2_with fail
    refine C.out.mono ?_
    rintro e w' ⟨rfl, rfl⟩
    go_wp2_with fail
    go_ret2
    exact ⟨rfl, rfl⟩

set_option maxRecDepth 100000 in
set_option maxHeartbeats 2000000 in
theorem qcompare_any (x y : Nat) (hx : x < 18446744073709551616) (hy : y < 18446744073709551616) (w : World) :
    Calls Tryd.prog 16 #[.float .f64 x, .float .f64 y] w fun e w' => e = .returned (.int .i64 (cmpN x y)) ∧ w = w' := by
  have C := fun W => Lib.hid (qkey_any x hx W)
  have D := fun W => Lib.hid (qkey_any y hy W)
  have hc : (((rankN x / 4294967296 : Nat) : Int) < ((rankN y / 4294967296 : Nat) : Int) ∧ cmpN x y = -1) ∨
      (((rankN x / 4294967296 : Nat) : Int) = ((rankN y / 4294967296 : Nat) : Int) ∧ ((rankN x % 4294967296 : Nat) : Int) < ((rankN y % 4294967296 : Nat) : Int) ∧ cmpN x y = -1) ∨
      (((rankN x / 4294967296 : Nat) : Int) = ((rankN y / 4294967296 : Nat) : Int) ∧ ((rankN x % 4294967296 : Nat) : Int) = ((rankN y % 4294967296 : Nat) : Int) ∧ cmpN x y = 0) ∨
      (((rankN x / 4294967296 : Nat) : Int) = ((rankN y / 4294967296 : Nat) : Int) ∧ ((rankN y % 4294967296 : Nat) : Int) < ((rankN x % 4294967296 : Nat) : Int) ∧ cmpN x y = 1) ∨
      (((rankN y / 4294967296 : Nat) : Int) < ((rankN x / 4294967296 : Nat) : Int) ∧ cmpN x y = 1) := by
    rcases Nat.lt_trichotomy (rankN x) (rankN y) with h | h | h
    · rw [cmpN_lt h]; omega
    · rw [cmpN_eq h]; omega
    · rw [cmpN_gt h]; omega
  generalize cmpN x y = c at *
  generalize ((rankN x / 4294967296 : Nat) : Int) = a at *
  generalize ((rankN x % 4294967296 : Nat) : Int) = b at *
  generalize ((rankN y / 4294967296 : Nat) : Int) = p at *
  generalize ((rankN y % 4294967296 : Nat) : Int) = q at *
  clear hx hy
  rcases hc with ⟨h1, rfl⟩ | ⟨rfl, h2, rfl⟩ | ⟨rfl, rfl, rfl⟩ | ⟨rfl, h2, rfl⟩ | ⟨h1, rfl⟩
  all_goals
    go_enter Tryd.func16, Tryd.ntmps16
    go_wp2_with fail
    refine (C _).out.mono ?_
    rintro e w' ⟨rfl, rfl⟩
    go_wp2_with fail
    refine (D _).out.mono ?_
    rintro e w' ⟨rfl, rfl⟩
    go_wp2_with fail
    go_ret
    exact ⟨rfl, rfl⟩

set_option maxHeartbeats 400000 in
theorem qsame_any (x y : Nat) (hx : x < 18446744073709551616) (hy : y < 18446744073709551616) (w : World) :
    Calls Tryd.prog 18 #[.float .f64 x, .float .f64 y] w fun e w' => e = .returned (.bool (cmpN x y == 0)) ∧ w = w' := by
  have S := Lib.hid (qcompare_any x y hx hy w)
  go_enter Tryd.func18, Tryd.ntmps18
  go_wp2_with fail
  refine S.out.mono ?_
  rintro e w' ⟨rfl, rfl⟩
  go_wp2_with fail
  go_ret
  exact ⟨rfl, rfl⟩

set_option maxHeartbeats 400000 in
theorem qmax_any (x y : Nat) (hx : x < 18446744073709551616) (hy : y < 18446744073709551616) (w : World) :
    Calls Tryd.prog 23 #[.float .f64 x, .float .f64 y] w fun e w' => e = .returned (.float .f64 (maxN x y)) ∧ w = w' := by
  have S := Lib.hid (qcompare_any x y hx hy w)
  unfold maxN
  generalize cmpN x y = c at *
  by_cases h : c < 0
  · rw [if_pos h]
    go_enter Tryd.func23, Tryd.ntmps23
    go_wp2_with fail
    refine S.out.mono ?_
    rintro e w' ⟨rfl, rfl⟩
    go_wp2_with fail
    go_ret
    exact ⟨rfl, rfl⟩
  · rw [if_neg h]
    go_enter Tryd.func23, Tryd.ntmps23
    go_wp2_with fail
    refine S.out.mono ?_
    rintro e w' ⟨rfl, rfl⟩
    go_wp2_with fail
    go_ret
    exact ⟨rfl, rfl⟩

set_option maxHeartbeats 400000 in
theorem qmin_any (x y : Nat) (hx : x < 18446744073709551616) (hy : y < 18446744073709551616) (w : World) :
    Calls Tryd.prog 25 #[.float .f64 x, .float .f64 y] w fun e w' => e = .returned (.float .f64 (minN x y)) ∧ w = w' := by
  have S := Lib.hid (qcompare_any x y hx hy w)
  unfold minN
  generalize cmpN x y = c at *
  by_cases h : 0 < c
  · rw [if_pos h]
    go_enter Tryd.func25, Tryd.ntmps25
    go_wp2_with fail
    refine S.out.mono ?_
    rintro e w' ⟨rfl, rfl⟩
    go_wp2_with fail
    go_ret
    exact ⟨rfl, rfl⟩
  · rw [if_neg h]
    go_enter Tryd.func25, Tryd.ntmps25
    go_wp2_with fail
    refine S.out.mono ?_
    rintro e w' ⟨rfl, rfl⟩
    go_wp2_with fail
    go_ret
    exact ⟨rfl, rfl⟩

set_option maxRecDepth 100000 in
set_option maxHeartbeats 1000000 in
theorem qratio_any (a b : Int) (w : World) :
    Calls Tryd.prog 27 #[.int .i64 a, .int .i64 b] w fun e w' => RatP w (floatBits .quo .f64 (floatOfInt .f64 a) (floatOfInt .f64 b)) e w' := by
  cases h : floatBits .quo .f64 (floatOfInt .f64 a) (floatOfInt .f64 b) with
  | some r =>
    have hq := fun W : World => run_float_arith (P := Tryd.prog) W .quo 22 .f64 _ _ _ h
    clear h
    go_enter Tryd.func27, Tryd.ntmps27
    go_wp2_with fail
    go_ret
    exact ⟨rfl, rfl⟩
  | none =>
    have hq := run_quo_nan _ _ h
    have hz := Lib.hid (fun W => tapeNan_is W (floatOfInt .f64 a) (floatOfInt .f64 b))
    clear h
    go_enter Tryd.func27, Tryd.ntmps27
    go_wp2_with fail
    go_ret
    exact ⟨_, rfl, (hz.out _).1, (hz.out _).2, (Below.refl _ _).drew⟩

/-! ### Put -/
theorem be_cat (m : Nat) : ∀ (n v : Nat), be v (n + m) = be (v / 2 ^ (8 * m)) n ++ be v m
  | 0, v => by simp [be]
  | n + 1, v => by
    rw [show n + 1 + m = (n + m) + 1 from by omega, be_succ, be_succ, be_cat m n v, List.cons_append, Nat.div_div_eq_div_mul, ← Nat.pow_add]
    congr 6
    omega
theorem be_half (v : Nat) : be v 8 = be (v / 4294967296) 4 ++ be (v % 4294967296) 4 := by
  have h := be_cat 4 4 v
  have h2 := be_mod v 4
  rw [show (2 : Nat) ^ (8 * 4) = 4294967296 from by decide] at h h2
  rw [← h2]
  exact h

theorem rput4 (v : Nat) (w : World) (hv : v < 4294967296) :
    Calls Tryd.prog 47 #[.int .i64 (v : Int), .int .i64 4] w fun e w' => e = .returned (.tuple #[.string ⟨(be v 4).toArray⟩, .int .i64 0]) ∧ Below w.heap.size w w' := by
  refine (rput_any (v : Int) 4 w (by omega)).mono ?_
  rintro e w' ⟨s, er, rfl, hp, hb⟩
  rcases hp.out with ⟨rfl, _, _, _, _, rfl⟩ | ⟨_, _, h⟩
  · exact ⟨by rw [Int.toNat_natCast]; rfl, hb⟩
  · rw [show (2 : Int) ^ (8 * (4 : Int).toNat) = 4294967296 from by decide] at h
    omega

set_option maxRecDepth 100000 in
set_option maxHeartbeats 1000000 in
theorem qput_any (x : Nat) (hx : x < 18446744073709551616) (w : World) :
    Calls Tryd.prog 14 #[.float .f64 x] w fun e w' => e = .returned (.string ⟨(be (rankN x) 8).toArray⟩) ∧ Below w.heap.size w w' := by
  have K := fun W => Lib.hid (qkey_any x hx W)
  have hr := rankN_lt x hx
  have P1 := fun W => Lib.hid (rput4 (rankN x / 4294967296) W (by omega))
  have P2 := fun W => Lib.hid (rput4 (rankN x % 4294967296) W (by omega))
  rw [be_half]
  have l1 := be_length (rankN x / 4294967296) 4
  have l2 := be_length (rankN x % 4294967296) 4
  generalize rankN x / 4294967296 = a at *
  generalize rankN x % 4294967296 = b at *
  have hcat := run_cat (be a 4) (be b 4) (by omega) (by omega)
  generalize be a 4 = p at *
  generalize be b 4 = q at *
  clear l1 l2 hr hx
  go_enter Tryd.func14, Tryd.ntmps14
  go_wp2_with fail
  refine (K _).out.mono ?_
  rintro e w' ⟨rfl, rfl⟩
  go_wp2_with fail
  refine (P1 _).out.mono ?_
  rintro e w1 ⟨rfl, hb1⟩
  go_wp2_with fail
  refine (P2 _).out.mono ?_
  rintro e w2 ⟨rfl, hb2⟩
  have hb2 := hb1.trans (hb2.mono hb1.size)
  go_wp2_with fail
  go_ret
  exact ⟨rfl, hb2⟩
end Go.Proofs.YtahofbnebmoopaaDoor
