/-
  RealNumbers: every two numbers: their bytes, order, texts; what is divided and how far a clock goes, as the document's own answer tells.
-/
import Derived.Test.YtahofbnebmoopaaDoorAliveR
import Derived.Test.YtahofbnebmoopaaDoorF64q
import Derived.Test.YtahofbnebmoopaaDoorRefR3
import Derived.Test.YtahofbnebmoopaaDoorRefR4
namespace Go.Proofs.YtahofbnebmoopaaDoor
open Go.RowKit

set_option maxRecDepth 100000 in
set_option maxHeartbeats 8000000 in
theorem lawRealNumbers (a : Nat) (ha : (Lit.float .f64 a).wf = true) (b : Nat) (hb : (Lit.float .f64 b).wf = true) (n : Int) (_hn : (Lit.int .i64 n).wf = true) (m : Int) (_hm : (Lit.int .i64 m).wf = true) (w : World) (hL : LaidR w) :
    Calls Tryd.prog 3 #[.float .f64 a, .float .f64 b, .int .i64 n, .int .i64 m] w fun e w' => e = .returned (.bool true) ∧ Below w.heap.size w w' := by
  have ha := wf_f64 ha
  have hb := wf_f64 hb
  have P1 := fun W => Lib.hid (fput_any a ha W)
  have P2 := fun W => Lib.hid (qput_any a ha W)
  have C1 := fun W => Lib.hid (fcompare_any a b ha hb W)
  have C2 := fun W => Lib.hid (qcompare_any a b ha hb W)
  have S1 := fun W => Lib.hid (fsame_any a b ha hb W)
  have S2 := fun W => Lib.hid (qsame_any a b ha hb W)
  have T1 := fun W hbw => Lib.hid (text_any a ha W (hL.on hbw))
  have T2 := fun W => Lib.hid (qtext_any a ha W)
  have Al := fun W hbw => Lib.hid (aliveR_any W (hL.on hbw))
  have M1 := fun W => Lib.hid (fmax_any a b ha hb W)
  have M2 := fun W => Lib.hid (qmax_any a b ha hb W)
  have M3 := fun W => Lib.hid (qsame_any (maxN a b) (maxN a b) (maxN_lt ha hb) (maxN_lt ha hb) W)
  have N1 := fun W => Lib.hid (fmin_any a b ha hb W)
  have N2 := fun W => Lib.hid (qmin_any a b ha hb W)
  have N3 := fun W => Lib.hid (qsame_any (minN a b) (minN a b) (minN_lt ha hb) (minN_lt ha hb) W)
  have R1 := fun W => fratio_any n m W
  have R2 := fun W => qratio_any n m W
  have K1 := fun W => Lib.hid (fscale_any n a W)
  have K2 := fun W => Lib.hid (qscale_any n a W)
  have t1 : (cmpN (maxN a b) (maxN a b) == 0) = true := same_true rfl
  have t2 : (cmpN (minN a b) (minN a b) == 0) = true := same_true rfl
  generalize be (rankN a) 8 = p at *
  generalize textN a = s at *
  have t3 : (p != p) = false := bne_self_eq_false _
  have t4 : (s != s) = false := bne_self_eq_false _
  have t5 : (cmpN a b != cmpN a b) = false := bne_self_eq_false _
  have t6 : ((cmpN a b == 0) != (cmpN a b == 0)) = false := bne_self_eq_false _
  have t7 : ((scaleN (capN n) a : Int) == (scaleN (capN n) a : Int)) = true := beq_self_eq_true _
  generalize (scaleN (capN n) a : Int) = k at *
  clear hL ha hb
  cases hr : floatBits .quo .f64 (floatOfInt .f64 n) (floatOfInt .f64 m) with
  | some r =>
    have hrl : r < 18446744073709551616 := wf_f64 (floatBits_wf hr)
    rw [hr] at R1 R2
    have R1 := fun W => Lib.hid (R1 W)
    have R2 := fun W => Lib.hid (R2 W)
    have R3 := fun W => Lib.hid (qsame_any r r hrl hrl W)
    have t8 : (cmpN r r == 0) = true := same_true rfl
    clear hr hrl
    go_enter Tryd.func3, Tryd.ntmps3
    go_wp2_with fail
    refine (P1 _).out.mono ?_
    rintro e w1 ⟨rfl, hb1⟩
    go_wp2_with fail
    refine (P2 _).out.mono ?_
    rintro e w2 ⟨rfl, hb2⟩
    have hb2 := hb1.trans (hb2.mono hb1.size)
    go_wp2_with fail
    refine (C1 _).out.mono ?_
    rintro e w' ⟨rfl, rfl⟩
    go_wp2_with fail
    refine (C2 _).out.mono ?_
    rintro e w' ⟨rfl, rfl⟩
    go_wp2_with fail
    refine (S1 _).out.mono ?_
    rintro e w' ⟨rfl, rfl⟩
    go_wp2_with fail
    refine (S2 _).out.mono ?_
    rintro e w' ⟨rfl, rfl⟩
    go_wp2_with fail
    refine (T1 _ hb2).out.mono ?_
    rintro e w3 ⟨rfl, hb3⟩
    have hb3 := hb2.trans (hb3.mono hb2.size)
    go_wp2_with fail
    refine (T2 _).out.mono ?_
    rintro e w4 ⟨rfl, hb4⟩
    have hb4 := hb3.trans (hb4.mono hb3.size)
    go_wp2_with fail
    refine (Al _ hb4).out.mono ?_
    rintro e w5 ⟨rfl, hb5⟩
    have hb5 := hb4.trans (hb5.mono hb4.size)
    go_wp2_with fail
    refine (M1 _).out.mono ?_
    rintro e w' ⟨rfl, rfl⟩
    go_wp2_with fail
    refine (M2 _).out.mono ?_
    rintro e w' ⟨rfl, rfl⟩
    go_wp2_with fail
    refine (M3 _).out.mono ?_
    rintro e w' ⟨rfl, rfl⟩
    go_wp2_with fail
    refine (N1 _).out.mono ?_
    rintro e w' ⟨rfl, rfl⟩
    go_wp2_with fail
    refine (N2 _).out.mono ?_
    rintro e w' ⟨rfl, rfl⟩
    go_wp2_with fail
    refine (N3 _).out.mono ?_
    rintro e w' ⟨rfl, rfl⟩
    go_wp2_with fail
    refine (R1 _).out.mono ?_
    rintro e w' ⟨rfl, rfl⟩
    go_wp2_with fail
    refine (R2 _).out.mono ?_
    rintro e w' ⟨rfl, rfl⟩
    go_wp2_with fail
    refine (R3 _).out.mono ?_
    rintro e w' ⟨rfl, rfl⟩
    go_wp2_with fail
    refine (K1 _).out.mono ?_
    rintro e w' ⟨rfl, rfl⟩
    go_wp2_with fail
    refine (K2 _).out.mono ?_
    rintro e w' ⟨rfl, rfl⟩
    go_wp2_with fail
    go_ret
    exact ⟨rfl, hb5⟩
  | none =>
    rw [hr] at R1 R2
    have R1 := fun W => Lib.hid (R1 W)
    have R2 := fun W => Lib.hid (R2 W)
    clear hr
    go_enter Tryd.func3, Tryd.ntmps3
    go_wp2_with fail
    refine (P1 _).out.mono ?_
    rintro e w1 ⟨rfl, hb1⟩
    go_wp2_with fail
    refine (P2 _).out.mono ?_
    rintro e w2 ⟨rfl, hb2⟩
    have hb2 := hb1.trans (hb2.mono hb1.size)
    go_wp2_with fail
    refine (C1 _).out.mono ?_
    rintro e w' ⟨rfl, rfl⟩
    go_wp2_with fail
    refine (C2 _).out.mono ?_
    rintro e w' ⟨rfl, rfl⟩
    go_wp2_with fail
    refine (S1 _).out.mono ?_
    rintro e w' ⟨rfl, rfl⟩
    go_wp2_with fail
    refine (S2 _).out.mono ?_
    rintro e w' ⟨rfl, rfl⟩
    go_wp2_with fail
    refine (T1 _ hb2).out.mono ?_
    rintro e w3 ⟨rfl, hb3⟩
    have hb3 := hb2.trans (hb3.mono hb2.size)
    go_wp2_with fail
    refine (T2 _).out.mono ?_
    rintro e w4 ⟨rfl, hb4⟩
    have hb4 := hb3.trans (hb4.mono hb3.size)
    go_wp2_with fail
    refine (Al _ hb4).out.mono ?_
    rintro e w5 ⟨rfl, hb5⟩
    have hb5 := hb4.trans (hb5.mono hb4.size)
    go_wp2_with fail
    refine (M1 _).out.mono ?_
    rintro e w' ⟨rfl, rfl⟩
    go_wp2_with fail
    refine (M2 _).out.mono ?_
    rintro e w' ⟨rfl, rfl⟩
    go_wp2_with fail
    refine (M3 _).out.mono ?_
    rintro e w' ⟨rfl, rfl⟩
    go_wp2_with fail
    refine (N1 _).out.mono ?_
    rintro e w' ⟨rfl, rfl⟩
    go_wp2_with fail
    refine (N2 _).out.mono ?_
    rintro e w' ⟨rfl, rfl⟩
    go_wp2_with fail
    refine (N3 _).out.mono ?_
    rintro e w' ⟨rfl, rfl⟩
    go_wp2_with fail
    refine (R1 _).out.mono ?_
    rintro e w6 ⟨z1, rfl, hz1, hl1, hb6⟩
    have hb6 := hb5.trans (hb6.mono hb5.size)
    go_wp2_with fail
    refine (R2 _).out.mono ?_
    rintro e w7 ⟨z2, rfl, hz2, hl2, hb7⟩
    have hb7 := hb6.trans (hb7.mono hb6.size)
    have t8 : (cmpN z1 z2 == 0) = true := same_true (by rw [rank_nan z1 hz1.out, rank_nan z2 hz2.out])
    have R3 := Lib.hid (qsame_any z1 z2 hl1 hl2 w7)
    clear hl1 hl2
    go_wp2_with fail
    refine R3.out.mono ?_
    rintro e w' ⟨rfl, rfl⟩
    go_wp2_with fail
    refine (K1 _).out.mono ?_
    rintro e w' ⟨rfl, rfl⟩
    go_wp2_with fail
    refine (K2 _).out.mono ?_
    rintro e w' ⟨rfl, rfl⟩
    go_wp2_with fail
    go_ret
    exact ⟨rfl, hb7⟩
end Go.Proofs.YtahofbnebmoopaaDoor
