/-
  RealTexts: every bytes and texts that are read, or their error, as the document's own answer tells.
-/
import Derived.Test.YtahofbnebmoopaaDoorAliveR
import Derived.Test.YtahofbnebmoopaaDoorF64q
import Derived.Test.YtahofbnebmoopaaDoorRefR2
import Derived.Test.YtahofbnebmoopaaDoorRefR5
namespace Go.Proofs.YtahofbnebmoopaaDoor
open Go.RowKit

/-- Both answers of eight bytes. -/
theorem get_same (x : Nat) (hx : x < 18446744073709551616) :
    (getF x).1 < 18446744073709551616 ∧ (qgetF x).1 < 18446744073709551616 ∧ (getF x).2 = (qgetF x).2 ∧ (cmpN (getF x).1 (qgetF x).1 == 0) = true := by
  by_cases h0 : x = 0
  · subst h0
    have e1 : getF 0 = (18446744073709551615, 0) := by decide
    have e2 : qgetF 0 = (9221120237041090561, 0) := by decide
    rw [e1, e2]
    exact ⟨by decide, by decide, rfl, by decide⟩
  · have hu := unrankN_lt x hx
    have hq : qgetF x = if isN (unrankN x) then (0, 4) else (unrankN x, 0) := by unfold qgetF; rw [if_neg h0]
    cases hn : isN (unrankN x)
    · have hr : rankN (unrankN x) = x := by
        unfold rankN
        rw [hn]
        unfold unrankN
        rcases word_parts x hx with ⟨h1, h2, h3⟩ | ⟨h1, h2, h3⟩
        · rw [h1]
          simp only [Bool.false_eq_true, if_false, if_true]
          have hs : isNeg (x - 9223372036854775808) = false := (small_parts _ (by omega)).1
          rw [hs]
          simp only [Bool.false_eq_true, if_false]
          omega
        · rw [h1]
          simp only [Bool.false_eq_true, if_false]
          have hs : isNeg (18446744073709551615 - x) = true := by rw [word_neg _ (by omega)]; exact decide_eq_true (by omega)
          rw [hs]
          simp only [if_true]
          omega
      have hg : getF x = (unrankN x, 0) := by unfold getF; rw [if_pos hr]
      rw [hn] at hq
      simp only [Bool.false_eq_true, if_false] at hq
      rw [hg, hq]
      exact ⟨hu, hu, rfl, same_true rfl⟩
    · have hr : rankN (unrankN x) ≠ x := by rw [rank_nan _ hn]; exact fun e => h0 e.symm
      have hg : getF x = (0, 4) := by unfold getF; rw [if_neg hr]
      rw [hn] at hq
      simp only [if_true] at hq
      rw [hg, hq]
      exact ⟨by decide, by decide, rfl, by decide⟩

/-- What both answer of bytes: words that are the same, one error. -/
theorem get_both (b : ByteArray) (hb : b.size ≤ 140737488351232) : ∃ (x y : Nat) (e : Int), x < 18446744073709551616 ∧ y < 18446744073709551616 ∧ (cmpN x y == 0) = true ∧
    (∀ W : World, Calls Tryd.prog 30 #[.string b] W fun r w' => r = .returned (.tuple #[.float .f64 x, .int .i64 e]) ∧ W = w') ∧
    (∀ W : World, Calls Tryd.prog 31 #[.string b] W fun r w' => r = .returned (.tuple #[.float .f64 y, .int .i64 e]) ∧ W = w') := by
  by_cases h : b.size = 8
  · have hlt : getL b.data.toList < 18446744073709551616 := by
      have := getL_lt b.data.toList
      rw [show b.data.toList.length = 8 from h] at this
      exact this
    obtain ⟨g1, g2, g3, g4⟩ := get_same _ hlt
    refine ⟨_, _, _, g1, g2, g4, fun W => fget_ok b W h, fun W => ?_⟩
    rw [g3]
    exact qget_ok b W h
  · exact ⟨0, 0, 4, by decide, by decide, by decide, fun W => fget_bad b W h (by omega), fun W => qget_bad b W h (by omega)⟩

theorem pack_lt (m : Nat) (p : Int) (h0 : m ≠ 0) (hm : m < 9007199254740992) (h1 : -1074 ≤ p) (h2 : (Lib.bitLen m : Int) + p ≤ 1024) : packN m p < 9223372036854775808 := by
  rw [← pack_ld m p h0 hm h1 h2]
  have : ldN m p ≤ infR := Nat.min_le_right _ _
  have hc : infR = 9218868437227405312 := rfl
  omega
theorem join_lt (m : Nat) (p : Int) (f : Nat) (h : joinN m p = some f) : f < 9223372036854775808 := by
  unfold joinN at h
  by_cases h1 : 9007199254740992 ≤ m
  · rw [if_pos h1] at h; cases h
  · rw [if_neg h1] at h
    by_cases h0 : m = 0
    · rw [if_pos h0] at h; injection h with h; omega
    · rw [if_neg h0] at h
      by_cases hq : p + (tzN m : Int) < -1074 ∨ 1024 < (Lib.bitLen (oddN m) : Int) + (p + (tzN m : Int))
      · rw [if_pos hq] at h; cases h
      · rw [if_neg hq] at h
        injection h with h
        rw [← h]
        exact pack_lt _ _ (oddN_pos m h0 (by omega)) (Nat.lt_of_le_of_lt (Nat.div_le_self _ _) (by omega)) (by omega) (by omega)
theorem parseN_lt (l : List UInt8) : (parseN l).1 < 18446744073709551616 := by
  unfold parseN
  split
  · decide
  · split
    · decide
    · split
      · decide
      · split
        · decide
        · split
          · decide
          · rename_i f hj
            have := join_lt _ _ f hj
            have hn := neg_word f (by omega)
            rw [(small_parts f this).1] at hn
            simp only [Bool.false_eq_true, if_false] at hn
            dsimp only
            split <;> omega

set_option maxRecDepth 100000 in
set_option maxHeartbeats 8000000 in
theorem texts_long (b s : ByteArray) (w : World) (hL : LaidR w) (h : 3000 < s.size) :
    Calls Tryd.prog 4 #[.string b, .string s] w fun e w' => e = .returned (.bool true) ∧ Below w.heap.size w w' := by
  have Al := Lib.hid (aliveR_any w hL)
  clear hL
  go_enter Tryd.func4, Tryd.ntmps4
  go_wp2_with fail
  refine Al.out.mono ?_
  rintro e w1 ⟨rfl, hb1⟩
  go_wp2_with fail
  go_ret
  exact ⟨rfl, hb1⟩

set_option maxRecDepth 100000 in
set_option maxHeartbeats 8000000 in
theorem texts_short (b s : ByteArray) (w : World) (hL : LaidR w) (hb : b.size ≤ 140737488351232) (h : s.size ≤ 3000) :
    Calls Tryd.prog 4 #[.string b, .string s] w fun e w' => e = .returned (.bool true) ∧ Below w.heap.size w w' := by
  obtain ⟨x, y, er, hx, hy, t1, G1, G2⟩ := get_both b hb
  have G1 := fun W => Lib.hid (G1 W)
  have G2 := fun W => Lib.hid (G2 W)
  have S1 := fun W => Lib.hid (qsame_any x y hx hy W)
  have P1 := Lib.hid (parse_any s w hL (by omega))
  have P2 := fun W => Lib.hid (qparse_any s W (by omega))
  have hv := parseN_lt s.data.toList
  obtain ⟨v, f, hvf⟩ : ∃ v f, parseN s.data.toList = (v, f) := ⟨_, _, rfl⟩
  rw [hvf] at P1 P2 hv
  have S2 := fun W => Lib.hid (qsame_any v v hv hv W)
  have t2 : (cmpN v v == 0) = true := same_true rfl
  have t3 : (er == er) = true := beq_self_eq_true _
  have t4 : (f == f) = true := beq_self_eq_true _
  have Al := fun W hbw => Lib.hid (aliveR_any W (hL.on hbw))
  clear hL hx hy hv hvf hb
  go_enter Tryd.func4, Tryd.ntmps4
  go_wp2_with fail
  refine (G1 _).out.mono ?_
  rintro e w' ⟨rfl, rfl⟩
  go_wp2_with fail
  refine (G2 _).out.mono ?_
  rintro e w' ⟨rfl, rfl⟩
  go_wp2_with fail
  refine P1.out.mono ?_
  rintro e w1 ⟨rfl, hb1⟩
  go_wp2_with fail
  refine (P2 _).out.mono ?_
  rintro e w2 ⟨rfl, hb2⟩
  have hb2 := hb1.trans (hb2.mono hb1.size)
  go_wp2_with fail
  refine (Al _ hb2).out.mono ?_
  rintro e w3 ⟨rfl, hb3⟩
  have hb3 := hb2.trans (hb3.mono hb2.size)
  go_wp2_with fail
  refine (S1 _).out.mono ?_
  rintro e w' ⟨rfl, rfl⟩
  go_wp2_with fail
  refine (S2 _).out.mono ?_
  rintro e w' ⟨rfl, rfl⟩
  go_wp2_with fail
  go_ret
  exact ⟨rfl, hb3⟩

theorem lawRealTexts (b : ByteArray) (hb : b.size ≤ 140737488351232) (s : ByteArray) (_hs : s.size ≤ 140737488351232) (w : World) (hL : LaidR w) :
    Calls Tryd.prog 4 #[.string b, .string s] w fun e w' => e = .returned (.bool true) ∧ Below w.heap.size w w' := by
  by_cases h : 3000 < s.size
  · exact texts_long b s w hL h
  · exact texts_short b s w hL hb (by omega)
end Go.Proofs.YtahofbnebmoopaaDoor
