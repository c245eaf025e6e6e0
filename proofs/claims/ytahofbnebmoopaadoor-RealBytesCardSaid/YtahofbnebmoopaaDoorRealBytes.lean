/-
  RealBytes: two numbers have the same bytes just if they are the same, the same text too.
-/
import Derived.Test.YtahofbnebmoopaaDoorAliveR
import Derived.Test.YtahofbnebmoopaaDoorF64q
import Derived.Test.YtahofbnebmoopaaDoorTextPlain
namespace Go.Proofs.YtahofbnebmoopaaDoor
open Go.RowKit

theorem be_same (a b : Nat) (ha : a < 18446744073709551616) (hb : b < 18446744073709551616) : (be (rankN a) 8 == be (rankN b) 8) = (cmpN a b == 0) := by
  rw [Bool.eq_iff_iff, beq_iff_eq, beq_iff_eq]
  constructor
  · intro h
    have h1 := getL_be 8 (rankN a) (rankN_lt a ha)
    have h2 := getL_be 8 (rankN b) (rankN_lt b hb)
    rw [h, h2] at h1
    exact cmpN_eq h1.symm
  · intro h
    rw [(cmpN_zero a b).1 h]
theorem text_nan (x : Nat) (h : isN x = true) : textN x = [110, 97, 110] := by unfold textN; rw [h]; rfl
theorem text_same (a b : Nat) (ha : a < 18446744073709551616) (hb : b < 18446744073709551616) : (textN a == textN b) = (cmpN a b == 0) := by
  rw [Bool.eq_iff_iff, beq_iff_eq, beq_iff_eq]
  constructor
  · intro h
    cases na : isN a
    · have h1 := parse_text a ha na
      cases nb : isN b
      · have h2 := parse_text b hb nb
        rw [h, h2] at h1
        injection h1 with h1 _
        rw [h1]
        exact cmpN_self a
      · rw [h, text_nan b nb] at h1
        have h3 : parseN [110, 97, 110] = (9221120237041090561, 0) := by decide
        rw [h3] at h1
        injection h1 with h1 _
        rw [← h1] at na
        exact absurd na (by decide)
    · cases nb : isN b
      · have h2 := parse_text b hb nb
        rw [← h, text_nan a na] at h2
        have h3 : parseN [110, 97, 110] = (9221120237041090561, 0) := by decide
        rw [h3] at h2
        injection h2 with h2 _
        rw [← h2] at nb
        exact absurd nb (by decide)
      · exact cmpN_eq (by rw [rank_nan a na, rank_nan b nb])
  · intro h
    have h := (cmpN_zero a b).1 h
    cases na : isN a
    · rw [rank_inj a b ha hb na h]
    · cases nb : isN b
      · have := rank_pos b hb nb
        rw [rank_nan a na] at h
        omega
      · rw [text_nan a na, text_nan b nb]
theorem uns_len24 (r : Nat) (h : r ≤ infR) : (unsN r).length ≤ 22 := by
  unfold unsN
  split
  · decide
  · split
    · decide
    · rename_i h0 h1
      have hM := spM_lt r
      have hE := spE_lt r h0 (by omega)
      split
      · rename_i hw
        unfold whole at hw
        have hw := of_decide_eq_true hw
        have hlt := len_lt (spM r) (spE r).toNat (by omega) (by omega)
        rw [itoa_nat]
        have := nd_le (spM r * 2 ^ (spE r).toNat) 16 (by omega) (by decide)
        omega
      · have h2 := itoa_le5 (spE r) (by omega) (by omega)
        rw [itoa_nat]
        have := nd_le (spM r) 16 (by omega) (by decide)
        simp only [List.length_append, List.length_cons]
        omega
theorem text_len24 (x : Nat) : (textN x).length ≤ 24 := by
  unfold textN
  cases hn : isN x
  · have hr : rung x ≤ infR := by simpa [isN] using hn
    have := uns_len24 (rung x) hr
    cases isNeg x
    · simp only [Bool.false_eq_true, if_false]; omega
    · simp only [Bool.false_eq_true, if_false, if_true, List.length_cons]; omega
  · simp

set_option maxRecDepth 100000 in
set_option maxHeartbeats 8000000 in
theorem lawRealBytes (a : Nat) (ha : (Lit.float .f64 a).wf = true) (b : Nat) (hb : (Lit.float .f64 b).wf = true) (w : World) (hL : LaidR w) :
    Calls Tryd.prog 6 #[.float .f64 a, .float .f64 b] w fun e w' => e = .returned (.bool true) ∧ Below w.heap.size w w' := by
  have ha := wf_f64 ha
  have hb := wf_f64 hb
  have C1 := fun W => Lib.hid (fsame_any a b ha hb W)
  have C2 := fun W => Lib.hid (fput_any a ha W)
  have C3 := fun W => Lib.hid (fput_any b hb W)
  have C4 := fun W hbw => Lib.hid (text_any a ha W (hL.on hbw))
  have C5 := fun W hbw => Lib.hid (text_any b hb W (hL.on hbw))
  have Al := Lib.hid (aliveR_any w hL)
  have hl8 : (be (rankN a) 8).length = 8 := be_length _ _
  have f1 := be_same a b ha hb
  have f2 := text_same a b ha hb
  have f3 := text_len24 a
  generalize be (rankN a) 8 = p at *
  generalize be (rankN b) 8 = q at *
  generalize textN a = s at *
  generalize textN b = t at *
  generalize (cmpN a b == 0) = d at *
  have f4 : ((p.length : Int) == 8) = true := by rw [beq_iff_eq]; omega
  have f5 : decide ((s.length : Int) ≤ 24) = true := decide_eq_true (by omega)
  clear hL ha hb hl8 f3
  cases d
  all_goals
    go_enter Tryd.func6, Tryd.ntmps6
    go_wp2_with fail
    refine (C1 _).out.mono ?_
    rintro e w' ⟨rfl, rfl⟩
    go_wp2_with fail
    refine Al.out.mono ?_
    rintro e w1 ⟨rfl, hb1⟩
    go_wp2_with fail
    refine (C2 _).out.mono ?_
    rintro e w2 ⟨rfl, hb2⟩
    have hb2 := hb1.trans (hb2.mono hb1.size)
    go_wp2_with fail
    refine (C3 _).out.mono ?_
    rintro e w3 ⟨rfl, hb3⟩
    have hb3 := hb2.trans (hb3.mono hb2.size)
    go_wp2_with fail
    refine (C4 _ hb3).out.mono ?_
    rintro e w4 ⟨rfl, hb4⟩
    have hb4 := hb3.trans (hb4.mono hb3.size)
    go_wp2_with fail
    refine (C5 _ hb4).out.mono ?_
    rintro e w5 ⟨rfl, hb5⟩
    have hb5 := hb4.trans (hb5.mono hb4.size)
    go_wp2_with fail
    refine (C2 _).out.mono ?_
    rintro e w6 ⟨rfl, hb6⟩
    have hb6 := hb5.trans (hb6.mono hb5.size)
    go_wp2_with fail
    refine (C4 _ hb6).out.mono ?_
    rintro e w7 ⟨rfl, hb7⟩
    have hb7 := hb6.trans (hb7.mono hb6.size)
    go_wp2_with fail
    go_ret
    exact ⟨rfl, hb7⟩
end Go.Proofs.YtahofbnebmoopaaDoor
