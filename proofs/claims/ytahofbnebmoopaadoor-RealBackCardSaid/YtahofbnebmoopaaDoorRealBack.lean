/-
  RealBack: bytes and texts of a number are the same number, with all its edges.
-/
import Derived.Test.YtahofbnebmoopaaDoorAliveR
import Derived.Test.YtahofbnebmoopaaDoorF64q
import Derived.Test.YtahofbnebmoopaaDoorTextPlain
namespace Go.Proofs.YtahofbnebmoopaaDoor
open Go.RowKit

theorem getF_rank (x : Nat) (hx : x < 18446744073709551616) (h : isN x = false) : getF (rankN x) = (x, 0) := by
  unfold getF
  rw [unrank_rank x hx h, if_pos rfl]
theorem getF_zero : getF 0 = (18446744073709551615, 0) := by decide
theorem textnan (x : Nat) (h : isN x = true) : textN x = [110, 97, 110] := by unfold textN; rw [h]; rfl
theorem text_len100 (x : Nat) : (textN x).length ≤ 101 := by
  unfold textN
  cases hn : isN x
  · have hr : rung x ≤ infR := by simpa [isN] using hn
    have := unsN_len (rung x) hr
    cases isNeg x
    · simp only [Bool.false_eq_true, if_false]; omega
    · simp only [Bool.false_eq_true, if_false, if_true, List.length_cons]; omega
  · simp

set_option maxRecDepth 100000 in
set_option maxHeartbeats 8000000 in
theorem lawRealBack (a : Nat) (ha : (Lit.float .f64 a).wf = true) (w : World) (hL : LaidR w) :
    Calls Tryd.prog 8 #[.float .f64 a] w fun e w' => e = .returned (.bool true) ∧ Below w.heap.size w w' := by
  have ha := wf_f64 ha
  have hl8 : (be (rankN a) 8).length = 8 := be_length _ _
  have hgl := getL_be 8 (rankN a) (rankN_lt a ha)
  have ht := text_len100 a
  have C1 := fun W => Lib.hid (fput_any a ha W)
  have C2 := fun W => fget_ok ⟨(be (rankN a) 8).toArray⟩ W (by rw [size_mk, hl8])
  rw [show (⟨(be (rankN a) 8).toArray⟩ : ByteArray).data.toList = be (rankN a) 8 from rfl, hgl] at C2
  have C3 := fun W hbw => Lib.hid (text_any a ha W (hL.on hbw))
  have C4 := fun W hbw => parse_any ⟨(textN a).toArray⟩ W (hL.on hbw) (by rw [size_mk]; omega)
  rw [show (⟨(textN a).toArray⟩ : ByteArray).data.toList = textN a from rfl] at C4
  have Al := fun W hbw => Lib.hid (aliveR_any W (hL.on hbw))
  have hns := neq_self a
  have hfb := run_float64bits
  generalize be (rankN a) 8 = p at *
  cases hn : isN a
  · rw [getF_rank a ha hn] at C2
    rw [parse_text a ha hn] at C4
    have C2 := fun W => Lib.hid (C2 W)
    have C4 := fun W hbw => Lib.hid (C4 W hbw)
    have S := fun W => Lib.hid (fsame_any a a ha ha W)
    have hs : (cmpN a a == 0) = true := same_true rfl
    rw [hn] at hns
    have hq : ((a : Int) == (a : Int)) = true := beq_self_eq_true _
    generalize textN a = s at *
    clear hL hl8 hgl ht hn ha
    go_enter Tryd.func8, Tryd.ntmps8
    go_wp2_with fail
    refine (C1 _).out.mono ?_
    rintro e w1 ⟨rfl, hb1⟩
    go_wp2_with fail
    refine (C2 _).out.mono ?_
    rintro e w' ⟨rfl, rfl⟩
    go_wp2_with fail
    refine (C3 _ hb1).out.mono ?_
    rintro e w2 ⟨rfl, hb2⟩
    have hb2 := hb1.trans (hb2.mono hb1.size)
    go_wp2_with fail
    refine (C4 _ hb2).out.mono ?_
    rintro e w3 ⟨rfl, hb3⟩
    have hb3 := hb2.trans (hb3.mono hb2.size)
    go_wp2_with fail
    refine (S _).out.mono ?_
    rintro e w' ⟨rfl, rfl⟩
    go_wp2_with fail
    refine (S _).out.mono ?_
    rintro e w' ⟨rfl, rfl⟩
    go_wp2_with fail
    refine (Al _ hb3).out.mono ?_
    rintro e w4 ⟨rfl, hb4⟩
    have hb4 := hb3.trans (hb4.mono hb3.size)
    go_wp2_with fail
    go_ret
    exact ⟨rfl, hb4⟩
  · rw [rank_nan a hn, getF_zero] at C2
    rw [textnan a hn] at C3 C4
    rw [show parseN [110, 97, 110] = (9221120237041090561, 0) from by decide] at C4
    have C2 := fun W => Lib.hid (C2 W)
    have C4 := fun W hbw => Lib.hid (C4 W hbw)
    have S1 := fun W => Lib.hid (fsame_any 18446744073709551615 a (by decide) ha W)
    have S2 := fun W => Lib.hid (fsame_any 9221120237041090561 a (by decide) ha W)
    have hs1 : (cmpN 18446744073709551615 a == 0) = true := same_true (by rw [rank_nan a hn]; decide)
    have hs2 : (cmpN 9221120237041090561 a == 0) = true := same_true (by rw [rank_nan a hn]; decide)
    rw [hn] at hns
    have hq1 : (FloatKind.f64.format.order 18446744073709551615 18446744073709551615 != some .eq) = true := by rw [neq_self]; decide
    have hq2 : (FloatKind.f64.format.order 9221120237041090561 9221120237041090561 != some .eq) = true := by rw [neq_self]; decide
    clear hL hl8 hgl ht hn ha
    go_enter Tryd.func8, Tryd.ntmps8
    go_wp2_with fail
    refine (C1 _).out.mono ?_
    rintro e w1 ⟨rfl, hb1⟩
    go_wp2_with fail
    refine (C2 _).out.mono ?_
    rintro e w' ⟨rfl, rfl⟩
    go_wp2_with fail
    refine (C3 _ hb1).out.mono ?_
    rintro e w2 ⟨rfl, hb2⟩
    have hb2 := hb1.trans (hb2.mono hb1.size)
    go_wp2_with fail
    refine (C4 _ hb2).out.mono ?_
    rintro e w3 ⟨rfl, hb3⟩
    have hb3 := hb2.trans (hb3.mono hb2.size)
    go_wp2_with fail
    refine (S1 _).out.mono ?_
    rintro e w' ⟨rfl, rfl⟩
    go_wp2_with fail
    refine (S2 _).out.mono ?_
    rintro e w' ⟨rfl, rfl⟩
    go_wp2_with fail
    refine (Al _ hb3).out.mono ?_
    rintro e w4 ⟨rfl, hb4⟩
    have hb4 := hb3.trans (hb4.mono hb3.size)
    go_wp2_with fail
    refine (C3 _ hb4).out.mono ?_
    rintro e w5 ⟨rfl, hb5⟩
    have hb5 := hb4.trans (hb5.mono hb4.size)
    go_wp2_with fail
    go_ret
    exact ⟨rfl, hb5⟩
end Go.Proofs.YtahofbnebmoopaaDoor
