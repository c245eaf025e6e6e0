/-
  RealRatios: a part of a part: what is divided by itself is one, by nothing an edge with its sign.
-/
import Derived.Test.YtahofbnebmoopaaDoorAliveR
import Derived.Test.YtahofbnebmoopaaDoorF64q
import Derived.Test.YtahofbnebmoopaaDoorReal9
import Derived.OpenShut
namespace Go.Proofs.YtahofbnebmoopaaDoor
open Go.RowKit

theorem eq_self (s : Bool) (r : Nat) (h : r ≤ infR) : (FloatKind.f64.format.order (Ieee.double.word s r) (Ieee.double.word s r) == some .eq) = true := by
  rw [eql_self, (word_facts s r h).2.2.1]; rfl
theorem word_gt (r t : Nat) (h : r ≤ infR) (ht : t ≤ infR) (hlt : t < r) : (FloatKind.f64.format.order (Ieee.double.word false r) t == some .gt) = true := by
  have hc : infR = 9218868437227405312 := rfl
  rw [gtr_eq, (word_facts false r h).2.2.1, isN_small t ht, word_key false r h, nkey_small t (by omega)]
  simp
  exact hlt
theorem word_lt0 (r : Nat) (h : r ≤ infR) (h0 : 0 < r) : (FloatKind.f64.format.order (Ieee.double.word true r) 0 == some .lt) = true := by
  rw [lss_eq, (word_facts true r h).2.2.1, word_key true r h, show isN 0 = false from by decide, show nkey 0 = 0 from by decide]
  simp
  omega
theorem word_zero (s : Bool) : (FloatKind.f64.format.order (Ieee.double.word s 0) 0 == some .eq) = true := by
  cases s <;> decide
theorem ninf_lt : (FloatKind.f64.format.order (Ieee.double.word true infR) 18438243695727462560 == some .lt) = true := by decide
theorem one_one : (FloatKind.f64.format.order 4607182418800017408 4607182418800017408 != some .eq) = false := by decide
theorem ratio_at {a b : Int} {r : Nat} (h : floatBits .quo .f64 (floatOfInt .f64 a) (floatOfInt .f64 b) = some r) (w : World) :
    Calls Tryd.prog 26 #[.int .i64 a, .int .i64 b] w fun e w' => e = .returned (.float .f64 r) ∧ w = w' := by
  have := fratio_any a b w
  rw [h] at this
  exact this
theorem ratio_none {a b : Int} (h : floatBits .quo .f64 (floatOfInt .f64 a) (floatOfInt .f64 b) = none) (w : World) :
    Calls Tryd.prog 26 #[.int .i64 a, .int .i64 b] w fun e w' => ∃ z, e = .returned (.float .f64 z) ∧ Hid (isN z = true) ∧ z < 18446744073709551616 ∧ Below w.heap.size w w' := by
  have := fratio_any a b w
  rw [h] at this
  exact this

set_option maxRecDepth 100000 in
set_option maxHeartbeats 4000000 in
theorem ratios_00 (a b : Int) (w : World) (hL : LaidR w) :
    Calls Tryd.prog 5 #[.int .i64 0, .int .i64 0] w fun e w' => e = .returned (.bool true) ∧ Below w.heap.size w w' := by
  have C := fun W => Lib.hid (ratio_none div_zero_zero W)
  have Al := fun W hbw => Lib.hid (aliveR_any W (hL.on hbw))
  clear hL
  go_enter Tryd.func5, Tryd.ntmps5
  go_wp2_with fail
  refine (C _).out.mono ?_
  rintro e w1 ⟨z, rfl, hz, _, hb1⟩
  go_wp2_with fail
  refine (C _).out.mono ?_
  rintro e w2 ⟨z2, rfl, hz2, _, hb2⟩
  have hb2 := hb1.trans (hb2.mono hb1.size)
  have e2 := eql_self z2
  rw [hz2.out] at e2
  go_wp2_with fail
  refine (Al _ hb2).out.mono ?_
  rintro e w3 ⟨rfl, hb3⟩
  have hb3 := hb2.trans (hb3.mono hb2.size)
  go_wp2_with fail
  go_ret
  exact ⟨rfl, hb3⟩

set_option maxRecDepth 100000 in
set_option maxHeartbeats 4000000 in
theorem ratios_0p (a b : Int) (w : World) (hL : LaidR w) (hb : 0 < b) (hb0 : -9223372036854775808 ≤ b) (hb1 : b ≤ 9223372036854775807) :
    Calls Tryd.prog 5 #[.int .i64 0, .int .i64 b] w fun e w' => e = .returned (.bool true) ∧ Below w.heap.size w w' := by
  have D := div_of_zero b hb0 (by omega) (by omega)
  have C := fun W => Lib.hid (ratio_at D W)
  have C0 := fun W => Lib.hid (ratio_none div_zero_zero W)
  have Al := fun W hbw => Lib.hid (aliveR_any W (hL.on hbw))
  have e1 := eq_self (decide (b < 0)) 0 (Nat.zero_le _)
  have e3 := word_zero (decide (b < 0))
  generalize Ieee.double.word (decide (b < 0)) 0 = x at *
  have hbz : (b == 0) = false := by rw [beq_eq_false_iff_ne]; omega
  clear hL D hb0 hb1
  go_enter Tryd.func5, Tryd.ntmps5
  go_wp2_with fail
  refine (C _).out.mono ?_
  rintro e w' ⟨rfl, rfl⟩
  go_wp2_with fail
  refine (C0 _).out.mono ?_
  rintro e w2 ⟨z2, rfl, hz2, _, hb2⟩
  have e2 := eql_self z2
  rw [hz2.out] at e2
  go_wp2_with fail
  refine (Al _ hb2).out.mono ?_
  rintro e w3 ⟨rfl, hb3⟩
  have hb3 := hb2.trans (hb3.mono hb2.size)
  go_wp2_with fail
  go_ret
  exact ⟨rfl, hb3⟩

set_option maxRecDepth 100000 in
set_option maxHeartbeats 4000000 in
theorem ratios_0n (a b : Int) (w : World) (hL : LaidR w) (hb : b < 0) (hb0 : -9223372036854775808 ≤ b) (hb1 : b ≤ 9223372036854775807) :
    Calls Tryd.prog 5 #[.int .i64 0, .int .i64 b] w fun e w' => e = .returned (.bool true) ∧ Below w.heap.size w w' := by
  have D := div_of_zero b hb0 (by omega) (by omega)
  have C := fun W => Lib.hid (ratio_at D W)
  have C0 := fun W => Lib.hid (ratio_none div_zero_zero W)
  have Al := fun W hbw => Lib.hid (aliveR_any W (hL.on hbw))
  have e1 := eq_self (decide (b < 0)) 0 (Nat.zero_le _)
  have e3 := word_zero (decide (b < 0))
  generalize Ieee.double.word (decide (b < 0)) 0 = x at *
  have hbz : (b == 0) = false := by rw [beq_eq_false_iff_ne]; omega
  clear hL D hb0 hb1
  go_enter Tryd.func5, Tryd.ntmps5
  go_wp2_with fail
  refine (C _).out.mono ?_
  rintro e w' ⟨rfl, rfl⟩
  go_wp2_with fail
  refine (C0 _).out.mono ?_
  rintro e w2 ⟨z2, rfl, hz2, _, hb2⟩
  have e2 := eql_self z2
  rw [hz2.out] at e2
  go_wp2_with fail
  refine (Al _ hb2).out.mono ?_
  rintro e w3 ⟨rfl, hb3⟩
  have hb3 := hb2.trans (hb3.mono hb2.size)
  go_wp2_with fail
  go_ret
  exact ⟨rfl, hb3⟩

set_option maxRecDepth 100000 in
set_option maxHeartbeats 4000000 in
theorem ratios_p0 (a b : Int) (w : World) (hL : LaidR w) (ha : 0 < a) (ha0 : -9223372036854775808 ≤ a) (ha1 : a ≤ 9223372036854775807) :
    Calls Tryd.prog 5 #[.int .i64 a, .int .i64 0] w fun e w' => e = .returned (.bool true) ∧ Below w.heap.size w w' := by
  have Dy := div_zero a ha0 (by omega) (by omega)
  have Ds := div_self' a ha0 (by omega) (by omega)
  rw [decide_eq_false (by omega)] at Dy
  have Cy := fun W => Lib.hid (ratio_at Dy W)
  have Cs := fun W => Lib.hid (ratio_at Ds W)
  have Al := fun W hbw => Lib.hid (aliveR_any W (hL.on hbw))
  have hone := one_one
  have haz : (a == 0) = false := by rw [beq_eq_false_iff_ne]; omega
  have haz' : (a != 0) = true := by rw [bne_iff_ne]; omega
  have ey := word_gt infR 9214871658872686752 (Nat.le_refl _) (by decide) (by decide)
  have ex := eq_self false infR (Nat.le_refl _)
  generalize Ieee.double.word false infR = y at *
  clear hL Dy Ds ha0 ha1
  go_enter Tryd.func5, Tryd.ntmps5
  go_wp2_with fail
  refine (Cy _).out.mono ?_
  rintro e w' ⟨rfl, rfl⟩
  go_wp2_with fail
  refine (Cy _).out.mono ?_
  rintro e w' ⟨rfl, rfl⟩
  go_wp2_with fail
  refine (Cs _).out.mono ?_
  rintro e w' ⟨rfl, rfl⟩
  go_wp2_with fail
  refine (Al _ (Below.refl _ _)).out.mono ?_
  rintro e w3 ⟨rfl, hb3⟩
  go_wp2_with fail
  go_ret
  exact ⟨rfl, hb3⟩

set_option maxRecDepth 100000 in
set_option maxHeartbeats 4000000 in
theorem ratios_pp (a b : Int) (w : World) (hL : LaidR w) (ha : 0 < a) (ha0 : -9223372036854775808 ≤ a) (ha1 : a ≤ 9223372036854775807) (hb : 0 < b) (hb0 : -9223372036854775808 ≤ b) (hb1 : b ≤ 9223372036854775807) :
    Calls Tryd.prog 5 #[.int .i64 a, .int .i64 b] w fun e w' => e = .returned (.bool true) ∧ Below w.heap.size w w' := by
  have Dy := div_zero a ha0 (by omega) (by omega)
  have Ds := div_self' a ha0 (by omega) (by omega)
  rw [decide_eq_false (by omega)] at Dy
  have Cy := fun W => Lib.hid (ratio_at Dy W)
  have Cs := fun W => Lib.hid (ratio_at Ds W)
  have Al := fun W hbw => Lib.hid (aliveR_any W (hL.on hbw))
  have hone := one_one
  have haz : (a == 0) = false := by rw [beq_eq_false_iff_ne]; omega
  have haz' : (a != 0) = true := by rw [bne_iff_ne]; omega
  have ey := word_gt infR 9214871658872686752 (Nat.le_refl _) (by decide) (by decide)
  obtain ⟨r, Dx, r0, r1⟩ := div_some a b ha0 (by omega) (by omega) hb0 (by omega) (by omega)
  rw [decide_eq_false (show ¬ a < 0 by omega), decide_eq_false (show ¬ b < 0 by omega), show (false ^^ false) = false from rfl] at Dx
  have Cx := fun W => Lib.hid (ratio_at Dx W)
  have ex := eq_self false r r1
  have ex2 := word_gt r 0 r1 (Nat.zero_le _) r0
  have hbz : (b == 0) = false := by rw [beq_eq_false_iff_ne]; omega
  generalize Ieee.double.word false r = x at *
  generalize Ieee.double.word false infR = y at *
  clear hL Dy Ds Dx r0 r1 ha0 ha1 hb0 hb1
  go_enter Tryd.func5, Tryd.ntmps5
  go_wp2_with fail
  refine (Cx _).out.mono ?_
  rintro e w' ⟨rfl, rfl⟩
  go_wp2_with fail
  refine (Cy _).out.mono ?_
  rintro e w' ⟨rfl, rfl⟩
  go_wp2_with fail
  refine (Cs _).out.mono ?_
  rintro e w' ⟨rfl, rfl⟩
  go_wp2_with fail
  refine (Al _ (Below.refl _ _)).out.mono ?_
  rintro e w3 ⟨rfl, hb3⟩
  go_wp2_with fail
  go_ret
  exact ⟨rfl, hb3⟩

set_option maxRecDepth 100000 in
set_option maxHeartbeats 4000000 in
theorem ratios_pn (a b : Int) (w : World) (hL : LaidR w) (ha : 0 < a) (ha0 : -9223372036854775808 ≤ a) (ha1 : a ≤ 9223372036854775807) (hb : b < 0) (hb0 : -9223372036854775808 ≤ b) (hb1 : b ≤ 9223372036854775807) :
    Calls Tryd.prog 5 #[.int .i64 a, .int .i64 b] w fun e w' => e = .returned (.bool true) ∧ Below w.heap.size w w' := by
  have Dy := div_zero a ha0 (by omega) (by omega)
  have Ds := div_self' a ha0 (by omega) (by omega)
  rw [decide_eq_false (by omega)] at Dy
  have Cy := fun W => Lib.hid (ratio_at Dy W)
  have Cs := fun W => Lib.hid (ratio_at Ds W)
  have Al := fun W hbw => Lib.hid (aliveR_any W (hL.on hbw))
  have hone := one_one
  have haz : (a == 0) = false := by rw [beq_eq_false_iff_ne]; omega
  have haz' : (a != 0) = true := by rw [bne_iff_ne]; omega
  have ey := word_gt infR 9214871658872686752 (Nat.le_refl _) (by decide) (by decide)
  obtain ⟨r, Dx, r0, r1⟩ := div_some a b ha0 (by omega) (by omega) hb0 (by omega) (by omega)
  rw [decide_eq_false (show ¬ a < 0 by omega), decide_eq_true (show b < 0 by omega), show (false ^^ true) = true from rfl] at Dx
  have Cx := fun W => Lib.hid (ratio_at Dx W)
  have ex := eq_self true r r1
  have hbz : (b == 0) = false := by rw [beq_eq_false_iff_ne]; omega
  generalize Ieee.double.word true r = x at *
  generalize Ieee.double.word false infR = y at *
  clear hL Dy Ds Dx r0 r1 ha0 ha1 hb0 hb1
  go_enter Tryd.func5, Tryd.ntmps5
  go_wp2_with fail
  refine (Cx _).out.mono ?_
  rintro e w' ⟨rfl, rfl⟩
  go_wp2_with fail
  refine (Cy _).out.mono ?_
  rintro e w' ⟨rfl, rfl⟩
  go_wp2_with fail
  refine (Cs _).out.mono ?_
  rintro e w' ⟨rfl, rfl⟩
  go_wp2_with fail
  refine (Al _ (Below.refl _ _)).out.mono ?_
  rintro e w3 ⟨rfl, hb3⟩
  go_wp2_with fail
  go_ret
  exact ⟨rfl, hb3⟩

set_option maxRecDepth 100000 in
set_option maxHeartbeats 4000000 in
theorem ratios_n0 (a b : Int) (w : World) (hL : LaidR w) (ha : a < 0) (ha0 : -9223372036854775808 ≤ a) (ha1 : a ≤ 9223372036854775807) :
    Calls Tryd.prog 5 #[.int .i64 a, .int .i64 0] w fun e w' => e = .returned (.bool true) ∧ Below w.heap.size w w' := by
  have Dy := div_zero a ha0 (by omega) (by omega)
  have Ds := div_self' a ha0 (by omega) (by omega)
  rw [decide_eq_true (by omega)] at Dy
  have Cy := fun W => Lib.hid (ratio_at Dy W)
  have Cs := fun W => Lib.hid (ratio_at Ds W)
  have Al := fun W hbw => Lib.hid (aliveR_any W (hL.on hbw))
  have hone := one_one
  have haz : (a == 0) = false := by rw [beq_eq_false_iff_ne]; omega
  have haz' : (a != 0) = true := by rw [bne_iff_ne]; omega
  have ey := ninf_lt
  have ex := eq_self true infR (Nat.le_refl _)
  generalize Ieee.double.word true infR = y at *
  clear hL Dy Ds ha0 ha1
  go_enter Tryd.func5, Tryd.ntmps5
  go_wp2_with fail
  refine (Cy _).out.mono ?_
  rintro e w' ⟨rfl, rfl⟩
  go_wp2_with fail
  refine (Cy _).out.mono ?_
  rintro e w' ⟨rfl, rfl⟩
  go_wp2_with fail
  refine (Cs _).out.mono ?_
  rintro e w' ⟨rfl, rfl⟩
  go_wp2_with fail
  refine (Al _ (Below.refl _ _)).out.mono ?_
  rintro e w3 ⟨rfl, hb3⟩
  go_wp2_with fail
  go_ret
  exact ⟨rfl, hb3⟩

set_option maxRecDepth 100000 in
set_option maxHeartbeats 4000000 in
theorem ratios_np (a b : Int) (w : World) (hL : LaidR w) (ha : a < 0) (ha0 : -9223372036854775808 ≤ a) (ha1 : a ≤ 9223372036854775807) (hb : 0 < b) (hb0 : -9223372036854775808 ≤ b) (hb1 : b ≤ 9223372036854775807) :
    Calls Tryd.prog 5 #[.int .i64 a, .int .i64 b] w fun e w' => e = .returned (.bool true) ∧ Below w.heap.size w w' := by
  have Dy := div_zero a ha0 (by omega) (by omega)
  have Ds := div_self' a ha0 (by omega) (by omega)
  rw [decide_eq_true (by omega)] at Dy
  have Cy := fun W => Lib.hid (ratio_at Dy W)
  have Cs := fun W => Lib.hid (ratio_at Ds W)
  have Al := fun W hbw => Lib.hid (aliveR_any W (hL.on hbw))
  have hone := one_one
  have haz : (a == 0) = false := by rw [beq_eq_false_iff_ne]; omega
  have haz' : (a != 0) = true := by rw [bne_iff_ne]; omega
  have ey := ninf_lt
  obtain ⟨r, Dx, r0, r1⟩ := div_some a b ha0 (by omega) (by omega) hb0 (by omega) (by omega)
  rw [decide_eq_true (show a < 0 by omega), decide_eq_false (show ¬ b < 0 by omega), show (true ^^ false) = true from rfl] at Dx
  have Cx := fun W => Lib.hid (ratio_at Dx W)
  have ex := eq_self true r r1
  have ex2 := word_lt0 r r1 r0
  have hbz : (b == 0) = false := by rw [beq_eq_false_iff_ne]; omega
  generalize Ieee.double.word true r = x at *
  generalize Ieee.double.word true infR = y at *
  clear hL Dy Ds Dx r0 r1 ha0 ha1 hb0 hb1
  go_enter Tryd.func5, Tryd.ntmps5
  go_wp2_with fail
  refine (Cx _).out.mono ?_
  rintro e w' ⟨rfl, rfl⟩
  go_wp2_with fail
  refine (Cy _).out.mono ?_
  rintro e w' ⟨rfl, rfl⟩
  go_wp2_with fail
  refine (Cs _).out.mono ?_
  rintro e w' ⟨rfl, rfl⟩
  go_wp2_with fail
  refine (Al _ (Below.refl _ _)).out.mono ?_
  rintro e w3 ⟨rfl, hb3⟩
  go_wp2_with fail
  go_ret
  exact ⟨rfl, hb3⟩

set_option maxRecDepth 100000 in
set_option maxHeartbeats 4000000 in
theorem ratios_nn (a b : Int) (w : World) (hL : LaidR w) (ha : a < 0) (ha0 : -9223372036854775808 ≤ a) (ha1 : a ≤ 9223372036854775807) (hb : b < 0) (hb0 : -9223372036854775808 ≤ b) (hb1 : b ≤ 9223372036854775807) :
    Calls Tryd.prog 5 #[.int .i64 a, .int .i64 b] w fun e w' => e = .returned (.bool true) ∧ Below w.heap.size w w' := by
  have Dy := div_zero a ha0 (by omega) (by omega)
  have Ds := div_self' a ha0 (by omega) (by omega)
  rw [decide_eq_true (by omega)] at Dy
  have Cy := fun W => Lib.hid (ratio_at Dy W)
  have Cs := fun W => Lib.hid (ratio_at Ds W)
  have Al := fun W hbw => Lib.hid (aliveR_any W (hL.on hbw))
  have hone := one_one
  have haz : (a == 0) = false := by rw [beq_eq_false_iff_ne]; omega
  have haz' : (a != 0) = true := by rw [bne_iff_ne]; omega
  have ey := ninf_lt
  obtain ⟨r, Dx, r0, r1⟩ := div_some a b ha0 (by omega) (by omega) hb0 (by omega) (by omega)
  rw [decide_eq_true (show a < 0 by omega), decide_eq_true (show b < 0 by omega), show (true ^^ true) = false from rfl] at Dx
  have Cx := fun W => Lib.hid (ratio_at Dx W)
  have ex := eq_self false r r1
  have hbz : (b == 0) = false := by rw [beq_eq_false_iff_ne]; omega
  generalize Ieee.double.word false r = x at *
  generalize Ieee.double.word true infR = y at *
  clear hL Dy Ds Dx r0 r1 ha0 ha1 hb0 hb1
  go_enter Tryd.func5, Tryd.ntmps5
  go_wp2_with fail
  refine (Cx _).out.mono ?_
  rintro e w' ⟨rfl, rfl⟩
  go_wp2_with fail
  refine (Cy _).out.mono ?_
  rintro e w' ⟨rfl, rfl⟩
  go_wp2_with fail
  refine (Cs _).out.mono ?_
  rintro e w' ⟨rfl, rfl⟩
  go_wp2_with fail
  refine (Al _ (Below.refl _ _)).out.mono ?_
  rintro e w3 ⟨rfl, hb3⟩
  go_wp2_with fail
  go_ret
  exact ⟨rfl, hb3⟩

theorem lawRealRatios (a : Int) (ha : (Lit.int .i64 a).wf = true) (b : Int) (hb : (Lit.int .i64 b).wf = true) (w : World) (hL : LaidR w) :
    Calls Tryd.prog 5 #[.int .i64 a, .int .i64 b] w fun e w' => e = .returned (.bool true) ∧ Below w.heap.size w w' := by
  have h1 := bounds_i64 ha
  have h2 := bounds_i64 hb
  rcases Int.lt_trichotomy a 0 with h | rfl | h <;> rcases Int.lt_trichotomy b 0 with k | rfl | k
  · exact ratios_nn a b w hL h (by omega) (by omega) k (by omega) (by omega)
  · exact ratios_n0 a 0 w hL h (by omega) (by omega)
  · exact ratios_np a b w hL h (by omega) (by omega) k (by omega) (by omega)
  · exact ratios_0n 0 b w hL k (by omega) (by omega)
  · exact ratios_00 0 0 w hL
  · exact ratios_0p 0 b w hL k (by omega) (by omega)
  · exact ratios_pn a b w hL h (by omega) (by omega) k (by omega) (by omega)
  · exact ratios_p0 a 0 w hL h (by omega) (by omega)
  · exact ratios_pp a b w hL h (by omega) (by omega) k (by omega) (by omega)
end Go.Proofs.YtahofbnebmoopaaDoor
