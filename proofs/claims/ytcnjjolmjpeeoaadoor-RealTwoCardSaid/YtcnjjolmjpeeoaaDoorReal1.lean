/-
  Walks over package real, part 1: nan, sign, rank, the order.
-/
import Derived.Test.YtcnjjolmjpeeoaaDoorRows
import Derived.Test.YtcnjjolmjpeeoaaDoorF64o
import Derived.WalkKit
import Derived.WalkSpells
import Derived.WalkLawsBesides
import Derived.Laws.Externs
import Derived.Lib.Hide
namespace Go.Proofs.YtcnjjolmjpeeoaaDoor
open Go.RowKit

theorem run_float64bits (x : Nat) (w : World) : (callFunc 46 #[.float .f64 x]).run Tryd.prog w = .ok (.value (.int .u64 (x : Int))) w := by
  rw [run_callFunc_extern (e := Extern.MathFloatBits.float64bits) Tryd.func46 (by kernel_rfl) (by kernel_rfl) (by kernel_rfl) (by kernel_rfl)]
  rfl
theorem run_neg_float (x : Nat) (w : World) : (Op.unary .neg (.float .f64 x)).run Tryd.prog w = .ok (.float .f64 (Op.negFloat .f64 x)) w := rfl

set_option maxHeartbeats 400000 in
theorem isnan_any (x : Nat) (w : World) : Calls Tryd.prog 60 #[.float .f64 x] w fun e w' => e = .returned (.bool (isN x)) ∧ w = w' := by
  rw [← neq_self x]
  go_enter Tryd.func60, Tryd.ntmps60
  go_wp2_with fail
  go_ret
  exact ⟨rfl, rfl⟩

set_option maxHeartbeats 400000 in
theorem signed_any (x : Nat) (hx : x < 18446744073709551616) (w : World) : Calls Tryd.prog 61 #[.float .f64 x] w fun e w' => e = .returned (.bool (isNeg x)) ∧ w = w' := by
  have hfb := run_float64bits x
  rw [← and_sign_int x hx]
  go_enter Tryd.func61, Tryd.ntmps61
  go_wp2_with fail
  go_ret
  exact ⟨rfl, rfl⟩

theorem xor_max_int (x : Nat) (hx : x < 18446744073709551616) : bits .xor .u64 18446744073709551615 (x : Int) = ((18446744073709551615 - x : Nat) : Int) := u64_not_nat x hx

set_option maxHeartbeats 400000 in
theorem rank_any (x : Nat) (hx : x < 18446744073709551616) (w : World) : Calls Tryd.prog 64 #[.float .f64 x] w fun e w' => e = .returned (.int .u64 (rankN x : Int)) ∧ w = w' := by
  have hfb := run_float64bits x
  have hs := and_sign_int x hx
  have C := Lib.hid (isnan_any x w)
  cases hn : isN x
  · rw [hn] at C
    cases hg : isNeg x
    · have hr : rankN x = x + 9223372036854775808 := by unfold rankN; rw [hn, hg]; rfl
      have hlt : x < 9223372036854775808 := by
        rcases word_parts x hx with ⟨h1, h2, h3⟩ | ⟨h1, h2, h3⟩
        · rw [hg] at h1; cases h1
        · omega
      have ho := or_sign_int x hlt
      rw [hg] at hs
      rw [hr, ← ho]
      clear hr ho
      go_enter Tryd.func64, Tryd.ntmps64
      go_wp2_with fail
      refine C.out.mono ?_
      rintro e w' ⟨rfl, rfl⟩
      go_wp2_with fail
      go_ret
      exact ⟨rfl, rfl⟩
    · have hr : rankN x = 18446744073709551615 - x := by unfold rankN; rw [hn, hg]; rfl
      have ho := xor_max_int x hx
      rw [hg] at hs
      rw [hr, ← ho]
      clear hr ho
      go_enter Tryd.func64, Tryd.ntmps64
      go_wp2_with fail
      refine C.out.mono ?_
      rintro e w' ⟨rfl, rfl⟩
      go_wp2_with fail
      go_ret
      exact ⟨rfl, rfl⟩
  · rw [hn] at C
    rw [rank_nan x hn]
    go_enter Tryd.func64, Tryd.ntmps64
    go_wp2_with fail
    refine C.out.mono ?_
    rintro e w' ⟨rfl, rfl⟩
    go_wp2_with fail
    go_ret
    exact ⟨rfl, rfl⟩

def sgnC (s t : Bool) : Int := if s == t then 0 else if s then -1 else 1

set_option maxHeartbeats 400000 in
theorem comparesigns_any (x y : Nat) (hx : x < 18446744073709551616) (hy : y < 18446744073709551616) (w : World) :
    Calls Tryd.prog 63 #[.float .f64 x, .float .f64 y] w fun e w' => e = .returned (.int .i64 (sgnC (isNeg x) (isNeg y))) ∧ w = w' := by
  have C := Lib.hid (signed_any x hx w)
  have D := Lib.hid (signed_any y hy w)
  generalize isNeg x = s at *
  generalize isNeg y = t at *
  clear hx hy
  cases s <;> cases t
  all_goals
    go_enter Tryd.func63, Tryd.ntmps63
    go_wp2_with fail
    refine C.out.mono ?_
    rintro e w' ⟨rfl, rfl⟩
    go_wp2_with fail
    refine D.out.mono ?_
    rintro e w' ⟨rfl, rfl⟩
    go_wp2_with fail
  all_goals first
    | (go_ret; exact ⟨rfl, rfl⟩)
    | (refine C.out.mono ?_
       rintro e w' ⟨rfl, rfl⟩
       go_wp2_with fail
       go_ret
       exact ⟨rfl, rfl⟩)

set_option maxHeartbeats 1000000 in
theorem fcompare_any (x y : Nat) (hx : x < 18446744073709551616) (hy : y < 18446744073709551616) (w : World) :
    Calls Tryd.prog 29 #[.float .f64 x, .float .f64 y] w fun e w' => e = .returned (.int .i64 (cmpN x y)) ∧ w = w' := by
  have C := Lib.hid (isnan_any x w)
  have D := Lib.hid (isnan_any y w)
  have S := Lib.hid (comparesigns_any x y hx hy w)
  have hl := lss_eq x y
  have hg := gtr_eq x y
  have he := eql_eq x y
  cases nx : isN x <;> cases ny : isN y <;> rw [nx, ny] at hl hg he <;> rw [nx] at C <;> rw [ny] at D <;> simp only [Bool.not_true, Bool.not_false, Bool.true_and, Bool.false_and, Bool.and_false, Bool.and_true] at hl hg he
  · obtain ⟨r1, r2, r3, r4⟩ := rank_cases x y hx hy nx ny
    rcases Int.lt_trichotomy (nkey x) (nkey y) with h | h | h
    · rw [decide_eq_true h] at hl
      rw [cmpN_lt (r1 h)]
      clear r1 r2 r3 r4 hg he S C D
      go_enter Tryd.func29, Tryd.ntmps29
      go_wp2_with fail
      go_ret
      exact ⟨rfl, rfl⟩
    · rw [decide_eq_true h] at he
      rw [decide_eq_false (show ¬ nkey x < nkey y by omega)] at hl
      rw [decide_eq_false (show ¬ nkey y < nkey x by omega)] at hg
      have hc : cmpN x y = sgnC (isNeg x) (isNeg y) := by
        obtain ⟨q1, q2, q3, q4⟩ := rank_cases y x hy hx ny nx
        cases hs : isNeg x <;> cases ht : isNeg y
        · exact cmpN_eq (r3 h (by rw [hs, ht]))
        · exact cmpN_gt (q4 h.symm ht hs)
        · exact cmpN_lt (r4 h hs ht)
        · exact cmpN_eq (r3 h (by rw [hs, ht]))
      rw [hc]
      clear hc r1 r2 r3 r4 C D
      go_enter Tryd.func29, Tryd.ntmps29
      go_wp2_with fail
      refine S.out.mono ?_
      rintro e w' ⟨rfl, rfl⟩
      go_wp2_with fail
      go_ret
      exact ⟨rfl, rfl⟩
    · rw [decide_eq_true h] at hg
      rw [decide_eq_false (show ¬ nkey x < nkey y by omega)] at hl
      rw [cmpN_gt (r2 h)]
      clear r1 r2 r3 r4 he S C D
      go_enter Tryd.func29, Tryd.ntmps29
      go_wp2_with fail
      go_ret
      exact ⟨rfl, rfl⟩
  · have := rank_pos x hx nx
    have h2 := rank_nan y ny
    rw [cmpN_gt (by omega)]
    clear this h2 S
    go_enter Tryd.func29, Tryd.ntmps29
    go_wp2_with fail
    refine C.out.mono ?_
    rintro e w' ⟨rfl, rfl⟩
    go_wp2_with fail
    go_ret
    exact ⟨rfl, rfl⟩
  · have := rank_pos y hy ny
    have h2 := rank_nan x nx
    rw [cmpN_lt (by omega)]
    clear this h2 S
    go_enter Tryd.func29, Tryd.ntmps29
    go_wp2_with fail
    refine C.out.mono ?_
    rintro e w' ⟨rfl, rfl⟩
    go_wp2_with fail
    refine D.out.mono ?_
    rintro e w' ⟨rfl, rfl⟩
    go_wp2_with fail
    go_ret
    exact ⟨rfl, rfl⟩
  · rw [cmpN_eq (show rankN x = rankN y by rw [rank_nan x nx, rank_nan y ny])]
    clear S
    go_enter Tryd.func29, Tryd.ntmps29
    go_wp2_with fail
    refine C.out.mono ?_
    rintro e w' ⟨rfl, rfl⟩
    go_wp2_with fail
    refine D.out.mono ?_
    rintro e w' ⟨rfl, rfl⟩
    go_wp2_with fail
    go_ret
    exact ⟨rfl, rfl⟩

set_option maxHeartbeats 400000 in
theorem fsame_any (x y : Nat) (hx : x < 18446744073709551616) (hy : y < 18446744073709551616) (w : World) :
    Calls Tryd.prog 16 #[.float .f64 x, .float .f64 y] w fun e w' => e = .returned (.bool (cmpN x y == 0)) ∧ w = w' := by
  have S := Lib.hid (fcompare_any x y hx hy w)
  go_enter Tryd.func16, Tryd.ntmps16
  go_wp2_with fail
  refine S.out.mono ?_
  rintro e w' ⟨rfl, rfl⟩
  go_wp2_with fail
  go_ret
  exact ⟨rfl, rfl⟩

def maxN (x y : Nat) : Nat := if cmpN x y < 0 then y else x
def minN (x y : Nat) : Nat := if cmpN x y > 0 then y else x

end Go.Proofs.YtcnjjolmjpeeoaaDoor
