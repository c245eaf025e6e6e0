/-
  RealMeets: the greatest of three is the same in whatever order they come; a number meets itself; the one is no other than the two.
-/
import Derived.Test.YtahofbnebmoopaaDoorAliveR
import Derived.Test.YtahofbnebmoopaaDoorF64q
namespace Go.Proofs.YtahofbnebmoopaaDoor
open Go.RowKit

set_option maxRecDepth 100000 in
set_option maxHeartbeats 8000000 in
theorem lawRealMeets (a : Nat) (ha : (Lit.float .f64 a).wf = true) (b : Nat) (hb : (Lit.float .f64 b).wf = true) (c : Nat) (hc : (Lit.float .f64 c).wf = true) (w : World) (hL : LaidR w) :
    Calls Tryd.prog 10 #[.float .f64 a, .float .f64 b, .float .f64 c] w fun e w' => e = .returned (.bool true) ∧ Below w.heap.size w w' := by
  have Ha := Lib.hid (wf_f64 ha)
  have Hb := Lib.hid (wf_f64 hb)
  have Hc := Lib.hid (wf_f64 hc)
  clear ha hb hc
  have hm : rankN (maxN a (maxN b c)) = max (rankN a) (max (rankN b) (rankN c)) := by rw [rank_max, rank_max]
  have hn : rankN (minN a (minN b c)) = min (rankN a) (min (rankN b) (rankN c)) := by rw [rank_min, rank_min]
  have t1 : (cmpN (maxN a (maxN b c)) (maxN (maxN c a) b) == 0) = true := same_true (by rw [hm, rank_max, rank_max]; omega)
  have t2 : (cmpN (minN a (minN b c)) (minN (minN c a) b) == 0) = true := same_true (by rw [hn, rank_min, rank_min]; omega)
  have t3 : (cmpN (maxN a a) a == 0) = true := same_true (by rw [rank_max]; omega)
  have t4 : cmpN (minN a (minN b c)) (maxN a (maxN b c)) ≤ 0 := cmp_le (by rw [hm, hn]; omega)
  have t5 : (cmpN (maxN a (minN a b)) a == 0) = true := same_true (by rw [rank_max, rank_min]; omega)
  have t6 : (cmpN (maxN a 9221120237041090561) a == 0) = true := same_true (by rw [rank_max, rank_nanw]; omega)
  have hor : (cmpN (maxN a (maxN b c)) a == 0) = true ∨ ((cmpN (maxN a (maxN b c)) a == 0) = false ∧ ((cmpN (maxN a (maxN b c)) b == 0) = true ∨ ((cmpN (maxN a (maxN b c)) b == 0) = false ∧ (cmpN (maxN a (maxN b c)) c == 0) = true))) := by
    by_cases h1 : rankN (maxN a (maxN b c)) = rankN a
    · exact Or.inl (same_true h1)
    · refine Or.inr ⟨same_false h1, ?_⟩
      by_cases h2 : rankN (maxN a (maxN b c)) = rankN b
      · exact Or.inl (same_true h2)
      · exact Or.inr ⟨same_false h2, same_true (by omega)⟩
  have Al := Lib.hid (aliveR_any w hL)
  have Mabc := Lib.hid (maxN_lt Ha.out (maxN_lt Hb.out Hc.out))
  have Nabc := Lib.hid (minN_lt Ha.out (minN_lt Hb.out Hc.out))
  clear hm hn hL
  rcases hor with h1 | ⟨h1, h2 | ⟨h2, h3⟩⟩
  all_goals
    go_enter Tryd.func10, Tryd.ntmps10
    go_wp2_with fail
    refine (fmax_any _ _ Hb.out Hc.out _).mono ?_
    rintro e w' ⟨rfl, rfl⟩
    go_wp2_with fail
    refine (fmax_any _ _ Ha.out (maxN_lt Hb.out Hc.out) _).mono ?_
    rintro e w' ⟨rfl, rfl⟩
    go_wp2_with fail
    refine (fmin_any _ _ Hb.out Hc.out _).mono ?_
    rintro e w' ⟨rfl, rfl⟩
    go_wp2_with fail
    refine (fmin_any _ _ Ha.out (minN_lt Hb.out Hc.out) _).mono ?_
    rintro e w' ⟨rfl, rfl⟩
    go_wp2_with fail
    refine (fmax_any _ _ Hc.out Ha.out _).mono ?_
    rintro e w' ⟨rfl, rfl⟩
    go_wp2_with fail
    refine (fmax_any _ _ (maxN_lt Hc.out Ha.out) Hb.out _).mono ?_
    rintro e w' ⟨rfl, rfl⟩
    go_wp2_with fail
    refine (fsame_any _ _ Mabc.out (maxN_lt (maxN_lt Hc.out Ha.out) Hb.out) _).mono ?_
    rintro e w' ⟨rfl, rfl⟩
    go_wp2_with fail
    refine (fmin_any _ _ Hc.out Ha.out _).mono ?_
    rintro e w' ⟨rfl, rfl⟩
    go_wp2_with fail
    refine (fmin_any _ _ (minN_lt Hc.out Ha.out) Hb.out _).mono ?_
    rintro e w' ⟨rfl, rfl⟩
    go_wp2_with fail
    refine (fsame_any _ _ Nabc.out (minN_lt (minN_lt Hc.out Ha.out) Hb.out) _).mono ?_
    rintro e w' ⟨rfl, rfl⟩
    go_wp2_with fail
    refine (fmax_any _ _ Ha.out Ha.out _).mono ?_
    rintro e w' ⟨rfl, rfl⟩
    go_wp2_with fail
    refine (fsame_any _ _ (maxN_lt Ha.out Ha.out) Ha.out _).mono ?_
    rintro e w' ⟨rfl, rfl⟩
    go_wp2_with fail
    refine Al.out.mono ?_
    rintro e w' ⟨rfl, hb1⟩
    go_wp2_with fail
    refine (fsame_any _ _ Mabc.out Ha.out _).mono ?_
    rintro e w' ⟨rfl, rfl⟩
    go_wp2_with fail
  · skip
    refine (fcompare_any _ _ Nabc.out Mabc.out _).mono ?_
    rintro e w' ⟨rfl, rfl⟩
    go_wp2_with fail
    refine (fmin_any _ _ Ha.out Hb.out _).mono ?_
    rintro e w' ⟨rfl, rfl⟩
    go_wp2_with fail
    refine (fmax_any _ _ Ha.out (minN_lt Ha.out Hb.out) _).mono ?_
    rintro e w' ⟨rfl, rfl⟩
    go_wp2_with fail
    refine (fsame_any _ _ (maxN_lt Ha.out (minN_lt Ha.out Hb.out)) Ha.out _).mono ?_
    rintro e w' ⟨rfl, rfl⟩
    go_wp2_with fail
    refine (mnan_any _).mono ?_
    rintro e w' ⟨rfl, rfl⟩
    go_wp2_with fail
    refine (fmax_any _ _ Ha.out (by decide) _).mono ?_
    rintro e w' ⟨rfl, rfl⟩
    go_wp2_with fail
    refine (fsame_any _ _ (maxN_lt Ha.out (by decide)) Ha.out _).mono ?_
    rintro e w' ⟨rfl, rfl⟩
    go_wp2_with fail
    go_ret
    exact ⟨rfl, hb1⟩
  · refine (fsame_any _ _ Mabc.out Hb.out _).mono ?_
    rintro e w' ⟨rfl, rfl⟩
    go_wp2_with fail
    refine (fcompare_any _ _ Nabc.out Mabc.out _).mono ?_
    rintro e w' ⟨rfl, rfl⟩
    go_wp2_with fail
    refine (fmin_any _ _ Ha.out Hb.out _).mono ?_
    rintro e w' ⟨rfl, rfl⟩
    go_wp2_with fail
    refine (fmax_any _ _ Ha.out (minN_lt Ha.out Hb.out) _).mono ?_
    rintro e w' ⟨rfl, rfl⟩
    go_wp2_with fail
    refine (fsame_any _ _ (maxN_lt Ha.out (minN_lt Ha.out Hb.out)) Ha.out _).mono ?_
    rintro e w' ⟨rfl, rfl⟩
    go_wp2_with fail
    refine (mnan_any _).mono ?_
    rintro e w' ⟨rfl, rfl⟩
    go_wp2_with fail
    refine (fmax_any _ _ Ha.out (by decide) _).mono ?_
    rintro e w' ⟨rfl, rfl⟩
    go_wp2_with fail
    refine (fsame_any _ _ (maxN_lt Ha.out (by decide)) Ha.out _).mono ?_
    rintro e w' ⟨rfl, rfl⟩
    go_wp2_with fail
    go_ret
    exact ⟨rfl, hb1⟩
  · refine (fsame_any _ _ Mabc.out Hb.out _).mono ?_
    rintro e w' ⟨rfl, rfl⟩
    go_wp2_with fail
    refine (fsame_any _ _ Mabc.out Hc.out _).mono ?_
    rintro e w' ⟨rfl, rfl⟩
    go_wp2_with fail
    refine (fcompare_any _ _ Nabc.out Mabc.out _).mono ?_
    rintro e w' ⟨rfl, rfl⟩
    go_wp2_with fail
    refine (fmin_any _ _ Ha.out Hb.out _).mono ?_
    rintro e w' ⟨rfl, rfl⟩
    go_wp2_with fail
    refine (fmax_any _ _ Ha.out (minN_lt Ha.out Hb.out) _).mono ?_
    rintro e w' ⟨rfl, rfl⟩
    go_wp2_with fail
    refine (fsame_any _ _ (maxN_lt Ha.out (minN_lt Ha.out Hb.out)) Ha.out _).mono ?_
    rintro e w' ⟨rfl, rfl⟩
    go_wp2_with fail
    refine (mnan_any _).mono ?_
    rintro e w' ⟨rfl, rfl⟩
    go_wp2_with fail
    refine (fmax_any _ _ Ha.out (by decide) _).mono ?_
    rintro e w' ⟨rfl, rfl⟩
    go_wp2_with fail
    refine (fsame_any _ _ (maxN_lt Ha.out (by decide)) Ha.out _).mono ?_
    rintro e w' ⟨rfl, rfl⟩
    go_wp2_with fail
    go_ret
    exact ⟨rfl, hb1⟩
end Go.Proofs.YtahofbnebmoopaaDoor
