/-
  StampEnds: at the end of time no time is given out any more, and nothing changes.
-/
import Derived.Test.YtalacionlbmcpaaStamp2
import Derived.LoopTactic
namespace Go.Proofs.Ytalacionlbmcpaa
open Go.RowKit

theorem ends_next (l : Int) (h : l < 281474976710655) (h0 : 0 ≤ l) : nextN 0 l 0 = some (l + 1) := by
  unfold nextN
  rw [if_neg (show ¬ l < 0 by omega), if_neg (by omega), if_pos (by omega)]
theorem next_over (a : Int) : nextN 0 281474976710655 a = none := by
  unfold nextN
  by_cases h : 281474976710655 < a
  · rw [if_pos h, if_pos (by omega)]
  · rw [if_neg h, if_pos (by omega)]
theorem seen_over : seenN 281474976710655 281474976710656 = 281474976710655 := by decide
theorem seen_ends (b : Int) (h0 : 0 ≤ b) (h1 : b ≤ 1000) : seenN 0 (281474976710655 - b) = 281474976710655 - b := by
  unfold seenN
  rw [if_neg (by omega), if_pos (by omega)]

set_option maxRecDepth 100000 in
set_option maxHeartbeats 1000000 in
theorem stampEnds_bad (b : Int) (w : World) (h : b < 0 ∨ 1000 < b) :
    Calls Try.prog 7 #[.int .i64 b] w fun e w' => e = .returned (.bool true) ∧ Below w.heap.size w w' := by
  by_cases h1 : b < 0
  · go_enter Try.func7, Try.ntmps7
    go_wp2_with fail
    refine (alive4_any _).mono ?_
    rintro e w1 ⟨rfl, hb⟩
    go_wp2_with fail
    go_ret
    exact ⟨rfl, hb⟩
  · have h4 : 1000 < b := by omega
    clear h
    go_enter Try.func7, Try.ntmps7
    go_wp2_with fail
    refine (alive4_any _).mono ?_
    rintro e w1 ⟨rfl, hb⟩
    go_wp2_with fail
    go_ret
    exact ⟨rfl, hb⟩

set_option maxRecDepth 100000 in
set_option maxHeartbeats 2000000 in
theorem lawStampEnds (b : Int) (_hn : (Lit.int .i64 b).wf = true) (w : World) :
    Calls Try.prog 7 #[.int .i64 b] w fun e w' => e = .returned (.bool true) ∧ Below w.heap.size w w' := by
  by_cases hbad : b < 0 ∨ 1000 < b
  · exact stampEnds_bad b w hbad
  have g1 : decide (b < 0) = false := decide_eq_false (by omega)
  have g2 : decide (1000 < b) = false := decide_eq_false (by omega)
  have f1 : IntKind.i64.wrap (281474976710655 - b) = 281474976710655 - b := IntWalk.i64_in _ (by omega)
  have f2 : wrap64 (281474976710655 - b) = 281474976710655 - b := IntWalk.wrap64_in _ (by omega)
  have f3 : IntKind.i64.wrap (281474976710656 - b) = 281474976710656 - b := IntWalk.i64_in _ (by omega)
  have f4 : wrap64 (281474976710656 - b) = 281474976710656 - b := IntWalk.wrap64_in _ (by omega)
  have e1 := Lib.hid (seen_ends b (by omega) (by omega))
  have b0 := Lib.hid (show 0 ≤ b by omega)
  have b1 := Lib.hid (show b ≤ 1000 by omega)
  clear hbad
  go_enter Try.func7, Try.ntmps7
  go_wp2_with fail
  refine (snew_clk 4607182418800017408 w).mono ?_
  rintro e w1 ⟨p, rfl, q1, s1, A1, hb⟩
  replace A1 := Lib.hid A1
  go_wp2_with fail
  refine (sseen_clk (281474976710655 - b) A1.out).mono ?_
  rw [e1.out]
  rintro e w2 ⟨rfl, A2, G⟩
  replace A2 := Lib.hid A2
  replace hb := below_grow hb G (Nat.le_refl _) q1
  clear A1 G s1
  have q1 := Lib.hid q1
  have hb := Lib.hid hb
  go_wp2_with fail
  go_loopw [4] (fun i wr => ∃ k : Nat, i = .int .i64 (k : Int) ∧ (k : Int) ≤ b ∧ Hid (Blk wr p 30 (clk 0 (281474976710655 - b + (k : Int)) 4607182418800017408)) ∧ Hid (Below w.heap.size w wr)) (fun i _ => b.toNat - (intOf i).toNat)
  case atStart => exact ⟨0, rfl, b0.out, by rw [show (281474976710655 - b + ((0 : Nat) : Int)) = 281474976710655 - b by omega]; exact A2.out, hb.out⟩
  case round =>
    obtain ⟨k, rfl, hk, A3, hb3⟩ := hrel
    have k3 : (k : Int) ≤ 1000 := by have := b1.out; omega
    by_cases hl : (k : Int) < b
    · have e2 := ends_next (281474976710655 - b + (k : Int)) (by omega) (by have := b1.out; omega)
      have c1 : ((281474976710655 - b + (k : Int) + 1) == (281474976710656 - b + (k : Int))) = true := by rw [beq_iff_eq]; omega
      have e3 : IntKind.i64.wrap (281474976710656 - b + (k : Int)) = 281474976710656 - b + (k : Int) := IntWalk.i64_in _ (by have := b1.out; omega)
      have e4 : wrap64 (281474976710656 - b + (k : Int)) = 281474976710656 - b + (k : Int) := IntWalk.wrap64_in _ (by have := b1.out; omega)
      have C := Lib.hid (snext_clk 0 A3.out (by decide) (by have := b1.out; omega) e2)
      have e5 := Lib.hid (show 281474976710655 - b + (k : Int) + 1 = 281474976710655 - b + ((k + 1 : Nat) : Int) by omega)
      clear e2 A3
      generalize 281474976710655 - b + (k : Int) + 1 = s at *
      go_wp2_with fail
      refine C.out.mono ?_
      rintro e w3 ⟨rfl, A4, G⟩
      replace A4 := Lib.hid A4
      have hb4 := Lib.hid (below_grow hb3.out G (Nat.le_refl _) q1.out)
      clear G C hb3
      go_wp2_with fail
      go_roundw
      case rel => exact ⟨k + 1, by go_num, by omega, by rw [← e5.out]; exact A4, hb4⟩
      case measure => simp [intOf]; omega
    · obtain hkb : (k : Int) = b := by omega
      have A4 : Hid (Blk wr p 30 (clk 0 281474976710655 4607182418800017408)) := by
        rw [show (281474976710655 - b + (k : Int)) = 281474976710655 by omega] at A3
        exact A3
      have hkk : decide ((k : Int) < b) = false := decide_eq_false hl
      clear A3 hkb
      have N := fun a => Lib.hid (snext_over p 0 281474976710655 a _ wr A4.out (next_over a))
      go_wp2_with fail
      refine (N 0).out.mono ?_
      rintro e w3 ⟨rfl, rfl⟩
      go_wp2_with fail
      refine (N 281474976710656).out.mono ?_
      rintro e w3 ⟨rfl, rfl⟩
      go_wp2_with fail
      refine (sseen_clk 281474976710656 A4.out).mono ?_
      rw [seen_over]
      rintro e w4 ⟨rfl, A5, G⟩
      replace A5 := Lib.hid A5
      have hb4 := below_grow hb3.out G (Nat.le_refl _) q1.out
      clear N G
      go_wp2_with fail
      refine (alive4_any _).mono ?_
      rintro e w5 ⟨rfl, hb5⟩
      replace A5 := Lib.hid (A5.out.below hb5 A5.out.lt)
      replace hb4 := hb4.trans (hb5.mono hb4.size)
      clear hb5
      go_wp2_with fail
      refine (slast_any p _ _ _ w5 A5.out).mono ?_
      rintro e w6 ⟨rfl, rfl⟩
      go_wp2_with fail
      go_ret
      exact ⟨rfl, hb4⟩
end Go.Proofs.Ytalacionlbmcpaa
