/-
  RealTurned: a number with the other sign stands on the other side, and its text has the sign too.
-/
import Derived.Test.YtahofbnebmoopaaDoorAliveR
import Derived.Test.YtahofbnebmoopaaDoorF64q
namespace Go.Proofs.YtahofbnebmoopaaDoor
open Go.RowKit

def ngW (x : Nat) : Nat := Op.negFloat .f64 x
theorem run_ng (x : Nat) (w : World) : (Op.unary .neg (.float .f64 x)).run Tryd.prog w = .ok (.float .f64 (ngW x)) w := rfl

theorem ng_facts (x : Nat) (hx : x < 18446744073709551616) (h : isN x = false) :
    ngW x < 18446744073709551616 ∧ isN (ngW x) = false ∧ rankN (ngW x) = 18446744073709551615 - rankN x ∧ rung (ngW x) = rung x ∧ isNeg (ngW x) = !isNeg x := by
  have e := neg_word x hx
  have hi : rung x ≤ infR := by simpa [isN] using h
  have hlt : ngW x < 18446744073709551616 := by
    show Op.negFloat .f64 x < _
    rw [e]
    rcases word_parts x hx with ⟨h1, h2, h3⟩ | ⟨h1, h2, h3⟩ <;> rw [h1] <;> simp <;> omega
  have hr : rung (ngW x) = rung x ∧ isNeg (ngW x) = !isNeg x := by
    show rung (Op.negFloat .f64 x) = _ ∧ isNeg (Op.negFloat .f64 x) = _
    rw [e]
    rcases word_parts x hx with ⟨h1, h2, h3⟩ | ⟨h1, h2, h3⟩
    · rw [h1]
      simp only [if_true]
      have : x - 9223372036854775808 = rung x := by omega
      rw [this]
      obtain ⟨q1, q2⟩ := small_parts (rung x) h3
      exact ⟨q2, q1⟩
    · rw [h1]
      simp only [Bool.false_eq_true, if_false]
      have hneg : isNeg (x + 9223372036854775808) = true := by rw [word_neg _ (by omega)]; exact decide_eq_true (by omega)
      refine ⟨?_, hneg⟩
      rcases word_parts (x + 9223372036854775808) (by omega) with ⟨k1, k2, k3⟩ | ⟨k1, k2, k3⟩
      · omega
      · rw [hneg] at k1; cases k1
  have hn : isN (ngW x) = false := by unfold isN; rw [hr.1]; exact h
  refine ⟨hlt, hn, ?_, hr.1, hr.2⟩
  unfold rankN
  rw [hn, h, hr.2]
  have hw := e
  show (if false = true then 0 else if (!isNeg x) = true then 18446744073709551615 - Op.negFloat .f64 x else Op.negFloat .f64 x + 9223372036854775808) = _
  rw [e]
  rcases word_parts x hx with ⟨h1, h2, h3⟩ | ⟨h1, h2, h3⟩ <;> rw [h1] <;> simp <;> omega

theorem text_ng (x : Nat) (hx : x < 18446744073709551616) (h : isN x = false) :
    (isNeg x = true ∧ textN x = 45 :: textN (ngW x)) ∨ (isNeg x = false ∧ textN (ngW x) = 45 :: textN x) := by
  obtain ⟨f1, f2, f3, f4, f5⟩ := ng_facts x hx h
  unfold textN
  rw [h, f2, f4, f5]
  cases hs : isNeg x
  · exact Or.inr ⟨rfl, rfl⟩
  · exact Or.inl ⟨rfl, rfl⟩
theorem textlen (x : Nat) : (textN x).length ≤ 1000 := by
  unfold textN
  cases hn : isN x
  · have hr : rung x ≤ infR := by simpa [isN] using hn
    have := unsN_len (rung x) hr
    cases isNeg x
    · simp only [Bool.false_eq_true, if_false]; omega
    · simp only [Bool.false_eq_true, if_false, if_true, List.length_cons]; omega
  · simp

set_option maxRecDepth 100000 in
set_option maxHeartbeats 8000000 in
theorem turned_nan (a b : Nat) (w : World) (hL : LaidR w) (h : isN a = true ∨ (isN a = false ∧ isN b = true)) :
    Calls Tryd.prog 7 #[.float .f64 a, .float .f64 b] w fun e w' => e = .returned (.bool true) ∧ Below w.heap.size w w' := by
  have Al := Lib.hid (aliveR_any w hL)
  have e1 := neq_self a
  have e2 := neq_self b
  clear hL
  rcases h with h | ⟨h1, h2⟩
  · rw [h] at e1
    clear e2
    go_enter Tryd.func7, Tryd.ntmps7
    go_wp2_with fail
    refine Al.out.mono ?_
    rintro e w1 ⟨rfl, hb1⟩
    go_wp2_with fail
    go_ret
    exact ⟨rfl, hb1⟩
  · rw [h1] at e1
    rw [h2] at e2
    go_enter Tryd.func7, Tryd.ntmps7
    go_wp2_with fail
    refine Al.out.mono ?_
    rintro e w1 ⟨rfl, hb1⟩
    go_wp2_with fail
    go_ret
    exact ⟨rfl, hb1⟩

theorem cons_ne (s : List UInt8) : (s == 45 :: 45 :: s) = false := by
  rw [beq_eq_false_iff_ne]
  intro h
  have := congrArg List.length h
  simp at this
  omega

set_option maxRecDepth 100000 in
set_option maxHeartbeats 8000000 in
theorem turned_num (a b : Nat) (ha : a < 18446744073709551616) (hb : b < 18446744073709551616) (w : World) (hL : LaidR w) (na : isN a = false) (nb : isN b = false) :
    Calls Tryd.prog 7 #[.float .f64 a, .float .f64 b] w fun e w' => e = .returned (.bool true) ∧ Below w.heap.size w w' := by
  obtain ⟨a1, a2, a3, a4, a5⟩ := ng_facts a ha na
  obtain ⟨b1, b2, b3, b4, b5⟩ := ng_facts b hb nb
  have ra := rankN_lt a ha
  have rb := rankN_lt b hb
  have e1 := neq_self a
  have e2 := neq_self b
  rw [na] at e1
  rw [nb] at e2
  have C1 := fun W hbw => Lib.hid (text_any a ha W (hL.on hbw))
  have C2 := fun W hbw => text_any (ngW a) a1 W (hL.on hbw)
  have C3 := fun W => fcompare_any (ngW a) (ngW b) a1 b1 W
  have C4 := fun W => Lib.hid (fcompare_any b a hb ha W)
  have hcmp : cmpN (ngW a) (ngW b) = cmpN b a := by
    unfold cmpN
    rw [a3, b3]
    rcases Nat.lt_trichotomy (rankN a) (rankN b) with k | k | k
    · rw [if_neg (by omega), if_pos (by omega), if_neg (by omega), if_pos (by omega)]
    · rw [if_neg (by omega), if_neg (by omega), if_neg (by omega), if_neg (by omega)]
    · rw [if_pos (by omega), if_pos (by omega)]
  rw [hcmp] at C3
  have C3 := fun W => Lib.hid (C3 W)
  have C5 := fun W => Lib.hid (fmin_any a b ha hb W)
  have C6 := fun W => Lib.hid (fmax_any (ngW a) (ngW b) a1 b1 W)
  have hmx : isN (maxN (ngW a) (ngW b)) = false := by unfold maxN; split <;> assumption
  obtain ⟨m1, m2, m3, m4, m5⟩ := ng_facts (maxN (ngW a) (ngW b)) (maxN_lt a1 b1) hmx
  have C7 := fun W => Lib.hid (fsame_any (minN a b) (ngW (maxN (ngW a) (ngW b))) (minN_lt ha hb) m1 W)
  have t1 : (cmpN (minN a b) (ngW (maxN (ngW a) (ngW b))) == 0) = true := same_true (by rw [rank_min, m3, rank_max, a3, b3]; omega)
  have Al := fun W hbw => Lib.hid (aliveR_any W (hL.on hbw))
  have hng := run_ng
  have tl := textlen a
  have tl2 := textlen (ngW a)
  have tt := text_ng a ha na
  have hceq : ((cmpN b a : Int) == cmpN b a) = true := beq_self_eq_true _
  generalize textN a = s at *
  generalize textN (ngW a) = t at *
  clear hL a1 a2 a3 a4 a5 b1 b2 b3 b4 b5 m1 m2 m3 m4 m5 hmx hcmp na nb ra rb ha hb
  rcases tt with ⟨_, rfl⟩ | ⟨_, rfl⟩
  · have k1 := run_cat [45] t (by decide) (by omega)
    have C2 := fun W hbw => Lib.hid (C2 W hbw)
    clear tl tl2
    go_enter Tryd.func7, Tryd.ntmps7
    go_wp2_with fail
    refine (C1 _ (Below.refl _ _)).out.mono ?_
    rintro e w1 ⟨rfl, hb1⟩
    go_wp2_with fail
    refine (C2 _ hb1).out.mono ?_
    rintro e w2 ⟨rfl, hb2⟩
    have hb2 := hb1.trans (hb2.mono hb1.size)
    go_wp2_with fail
    refine (Al _ hb2).out.mono ?_
    rintro e w3 ⟨rfl, hb3⟩
    have hb3 := hb2.trans (hb3.mono hb2.size)
    go_wp2_with fail
    refine (C3 _).out.mono ?_
    rintro e w' ⟨rfl, rfl⟩
    go_wp2_with fail
    refine (C4 _).out.mono ?_
    rintro e w' ⟨rfl, rfl⟩
    go_wp2_with fail
    refine (C5 _).out.mono ?_
    rintro e w' ⟨rfl, rfl⟩
    go_wp2_with fail
    refine (C6 _).out.mono ?_
    rintro e w' ⟨rfl, rfl⟩
    go_wp2_with fail
    refine (C7 _).out.mono ?_
    rintro e w' ⟨rfl, rfl⟩
    go_wp2_with fail
    go_ret
    exact ⟨rfl, hb3⟩
  · have k1 := run_cat [45] (45 :: s) (by decide) (by omega)
    have k2 := run_cat [45] s (by decide) (by omega)
    have C2 := fun W hbw => Lib.hid (C2 W hbw)
    have hne := cons_ne s
    clear tl tl2
    go_enter Tryd.func7, Tryd.ntmps7
    go_wp2_with fail
    refine (C1 _ (Below.refl _ _)).out.mono ?_
    rintro e w1 ⟨rfl, hb1⟩
    go_wp2_with fail
    refine (C2 _ hb1).out.mono ?_
    rintro e w2 ⟨rfl, hb2⟩
    have hb2 := hb1.trans (hb2.mono hb1.size)
    go_wp2_with fail
    refine (Al _ hb2).out.mono ?_
    rintro e w3 ⟨rfl, hb3⟩
    have hb3 := hb2.trans (hb3.mono hb2.size)
    go_wp2_with fail
    refine (C3 _).out.mono ?_
    rintro e w' ⟨rfl, rfl⟩
    go_wp2_with fail
    refine (C4 _).out.mono ?_
    rintro e w' ⟨rfl, rfl⟩
    go_wp2_with fail
    refine (C5 _).out.mono ?_
    rintro e w' ⟨rfl, rfl⟩
    go_wp2_with fail
    refine (C6 _).out.mono ?_
    rintro e w' ⟨rfl, rfl⟩
    go_wp2_with fail
    refine (C7 _).out.mono ?_
    rintro e w' ⟨rfl, rfl⟩
    go_wp2_with fail
    go_ret
    exact ⟨rfl, hb3⟩

theorem lawRealTurned (a : Nat) (ha : (Lit.float .f64 a).wf = true) (b : Nat) (hb : (Lit.float .f64 b).wf = true) (w : World) (hL : LaidR w) :
    Calls Tryd.prog 7 #[.float .f64 a, .float .f64 b] w fun e w' => e = .returned (.bool true) ∧ Below w.heap.size w w' := by
  cases na : isN a
  · cases nb : isN b
    · exact turned_num a b (wf_f64 ha) (wf_f64 hb) w hL na nb
    · exact turned_nan a b w hL (Or.inr ⟨na, nb⟩)
  · exact turned_nan a b w hL (Or.inl na)
end Go.Proofs.YtahofbnebmoopaaDoor
