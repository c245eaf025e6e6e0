/-
  StampTicks: at the speed one, time that goes by in two pieces goes by as in one; at no speed it stands.
-/
import Derived.Test.YtalacionlbmcpaaStamp2
namespace Go.Proofs.Ytalacionlbmcpaa
open Go.RowKit
theorem tick_one {t n : Int} (h0 : 0 ≤ t) (hn : 0 ≤ n) (h : t + n ≤ 281474976710655) : tickN t n 4607182418800017408 = t + n := by
  have hc : (capN n : Int) = n := by
    have := capIs n
    rcases this with ⟨h1, _⟩ | ⟨_, _, h3⟩ | ⟨h1, _⟩
    · omega
    · exact h3
    · omega
  unfold tickN
  rw [scaleN_one _ (capN_le n), hc, if_neg (by omega)]
theorem scale_zero (m : Nat) : scaleN m 0 = 0 := by
  unfold scaleN
  rw [show isN 0 = false from by decide, if_pos (show nkey 0 ≤ 0 from by decide)]
  simp
theorem tick_zero (t n : Int) (h : t ≤ 281474976710655) : tickN t n 0 = t := by
  unfold tickN
  rw [scale_zero, if_neg (by omega)]
  omega

set_option maxRecDepth 100000 in
set_option maxHeartbeats 1000000 in
theorem stampTicks_bad (n m : Int) (w : World) (h : n < 0 ∨ m < 0 ∨ 1099511627776 < n ∨ 1099511627776 < m) :
    Calls Try.prog 6 #[.int .i64 n, .int .i64 m] w fun e w' => e = .returned (.bool true) ∧ Below w.heap.size w w' := by
  by_cases h1 : n < 0
  · go_enter Try.func6, Try.ntmps6
    go_wp2_with fail
    refine (alive4_any _).mono ?_
    rintro e w1 ⟨rfl, hb⟩
    go_wp2_with fail
    go_ret
    exact ⟨rfl, hb⟩
  · by_cases h2 : m < 0
    · go_enter Try.func6, Try.ntmps6
      go_wp2_with fail
      refine (alive4_any _).mono ?_
      rintro e w1 ⟨rfl, hb⟩
      go_wp2_with fail
      go_ret
      exact ⟨rfl, hb⟩
    · by_cases h3 : 1099511627776 < n
      · go_enter Try.func6, Try.ntmps6
        go_wp2_with fail
        refine (alive4_any _).mono ?_
        rintro e w1 ⟨rfl, hb⟩
        go_wp2_with fail
        go_ret
        exact ⟨rfl, hb⟩
      · have h4 : 1099511627776 < m := by omega
        clear h
        go_enter Try.func6, Try.ntmps6
        go_wp2_with fail
        refine (alive4_any _).mono ?_
        rintro e w1 ⟨rfl, hb⟩
        go_wp2_with fail
        go_ret
        exact ⟨rfl, hb⟩

set_option maxRecDepth 100000 in
set_option maxHeartbeats 2000000 in
theorem lawStampTicks (n : Int) (_hn : (Lit.int .i64 n).wf = true) (m : Int) (_hm : (Lit.int .i64 m).wf = true) (w : World) :
    Calls Try.prog 6 #[.int .i64 n, .int .i64 m] w fun e w' => e = .returned (.bool true) ∧ Below w.heap.size w w' := by
  by_cases hbad : n < 0 ∨ m < 0 ∨ 1099511627776 < n ∨ 1099511627776 < m
  · exact stampTicks_bad n m w hbad
  have g1 : decide (n < 0) = false := decide_eq_false (by omega)
  have g2 : decide (m < 0) = false := decide_eq_false (by omega)
  have g3 : decide (1099511627776 < n) = false := decide_eq_false (by omega)
  have g4 : decide (1099511627776 < m) = false := decide_eq_false (by omega)
  have e1 := Lib.hid ((tick_one (t := 0) (n := n) (by decide) (by omega) (by omega)).trans (Int.zero_add n))
  have e2 := Lib.hid (tick_one (t := n) (n := m) (by omega) (by omega) (by omega))
  have e3 := Lib.hid (tick_one (t := 0) (n := n + m) (by decide) (by omega) (by omega))
  have e4 := Lib.hid (tick_zero 0 n (by decide))
  have f1 : IntKind.i64.wrap (n + m) = n + m := IntWalk.i64_in _ (by omega)
  have f2 : wrap64 (n + m) = n + m := IntWalk.wrap64_in _ (by omega)
  have hn0 := Lib.hid (show 0 ≤ n by omega)
  have hn1 := Lib.hid (show n ≤ 281474976710655 by omega)
  clear hbad
  go_enter Try.func6, Try.ntmps6
  go_wp2_with fail
  refine (snew_clk 4607182418800017408 w).mono ?_
  rintro e w1 ⟨p1, rfl, q1, s1, A1, hb⟩
  replace A1 := Lib.hid A1
  go_wp2_with fail
  refine (snew_clk 4607182418800017408 w1).mono ?_
  rintro e w2 ⟨p2, rfl, q2, s2, B1, hb2⟩
  replace A1 := Lib.hid (A1.out.below hb2 s1)
  replace B1 := Lib.hid B1
  replace hb := hb.trans (hb2.mono hb.size)
  have r2 := Nat.le_trans hb2.size (Nat.le_refl _)
  go_wp2_with fail
  refine (snew_clk 0 w2).mono ?_
  rintro e w3 ⟨p3, rfl, q3, s3, C1, hb3⟩
  replace A1 := Lib.hid (A1.out.below hb3 (by omega))
  replace B1 := Lib.hid (B1.out.below hb3 s2)
  replace C1 := Lib.hid C1
  have n12 : p1 ≠ p2 := by omega
  have n13 : p1 ≠ p3 := by omega
  have n23 : p2 ≠ p3 := by omega
  have c1 := Lib.hid (show w.heap.size ≤ p1 from q1)
  have c2 := Lib.hid (show w.heap.size ≤ p2 by have := hb.size; omega)
  have c3 := Lib.hid (show w.heap.size ≤ p3 by have := hb.size; omega)
  replace hb := hb.trans (hb3.mono hb.size)
  clear hb2 hb3 q1 q2 q3 s1 s2 s3 r2
  have N12 := Lib.hid n12
  have N13 := Lib.hid n13
  have N23 := Lib.hid n23
  clear n12 n13 n23
  go_wp2_with fail
  refine (stick_clk n A1.out (by decide) (by decide)).mono ?_
  rw [e1.out]
  rintro e w4 ⟨rfl, A2, G⟩
  replace A2 := Lib.hid A2
  replace B1 := Lib.hid (blk_by B1.out G N12.out.symm)
  replace C1 := Lib.hid (blk_by C1.out G N13.out.symm)
  replace hb := below_grow hb G (Nat.le_refl _) c1.out
  clear A1 G
  go_wp2_with fail
  refine (stick_clk m A2.out hn0.out hn1.out).mono ?_
  rw [e2.out]
  rintro e w5 ⟨rfl, A3, G⟩
  replace A3 := Lib.hid A3
  replace B1 := Lib.hid (blk_by B1.out G N12.out.symm)
  replace C1 := Lib.hid (blk_by C1.out G N13.out.symm)
  replace hb := below_grow hb G (Nat.le_refl _) c1.out
  clear A2 G
  go_wp2_with fail
  refine (stick_clk (n + m) B1.out (by decide) (by decide)).mono ?_
  rw [e3.out]
  rintro e w6 ⟨rfl, B2, G⟩
  replace B2 := Lib.hid B2
  replace A3 := Lib.hid (blk_by A3.out G N12.out)
  replace C1 := Lib.hid (blk_by C1.out G N23.out.symm)
  replace hb := below_grow hb G (Nat.le_refl _) c2.out
  clear B1 G
  go_wp2_with fail
  refine (stick_clk n C1.out (by decide) (by decide)).mono ?_
  rw [e4.out]
  rintro e w7 ⟨rfl, C2, G⟩
  replace C2 := Lib.hid C2
  replace A3 := Lib.hid (blk_by A3.out G N13.out)
  replace B2 := Lib.hid (blk_by B2.out G N23.out)
  replace hb := below_grow hb G (Nat.le_refl _) c3.out
  clear C1 G
  go_wp2_with fail
  refine (alive4_any _).mono ?_
  rintro e w8 ⟨rfl, hb8⟩
  replace A3 := Lib.hid (A3.out.below hb8 A3.out.lt)
  replace B2 := Lib.hid (B2.out.below hb8 B2.out.lt)
  replace C2 := Lib.hid (C2.out.below hb8 C2.out.lt)
  replace hb := hb.trans (hb8.mono hb.size)
  clear hb8
  rw [Int.zero_add] at B2
  go_wp2_with fail
  refine (snow_any p1 _ _ _ w8 A3.out).mono ?_
  rintro e w9 ⟨rfl, rfl⟩
  go_wp2_with fail
  refine (snow_any p2 _ _ _ w9 B2.out).mono ?_
  rintro e w10 ⟨rfl, rfl⟩
  go_wp2_with fail
  refine (snow_any p1 _ _ _ w10 A3.out).mono ?_
  rintro e w11 ⟨rfl, rfl⟩
  go_wp2_with fail
  refine (snow_any p3 _ _ _ w11 C2.out).mono ?_
  rintro e w12 ⟨rfl, rfl⟩
  go_wp2_with fail
  go_ret
  exact ⟨rfl, hb⟩
end Go.Proofs.Ytalacionlbmcpaa
