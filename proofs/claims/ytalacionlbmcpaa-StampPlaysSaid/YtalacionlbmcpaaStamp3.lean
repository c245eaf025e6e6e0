/-
  The document's own clock: New, Tick, Next, Seen.
-/
import Derived.Test.YtalacionlbmcpaaStamp2
import Derived.Test.YtalacionlbmcpaaRefR4
namespace Go.Proofs.Ytalacionlbmcpaa
open Go.RowKit

theorem rnew_clk (f : Nat) (w : World) :
    Calls Try.prog 10 #[.float .f64 f] w fun e w' => ∃ p, e = .returned (.pointer (some ⟨p, 0, none⟩)) ∧ w.heap.size ≤ p ∧ p < w'.heap.size ∧ Blk w' p 39 (clk 0 0 f) ∧ Below w.heap.size w w' := by
  have h : Calls Try.prog 10 #[.float .f64 f] w fun e w' => e = .returned (.pointer (some ⟨w.heap.size, 0, none⟩)) ∧ w' = w.alloc (.cells (clk 0 0 f) 39) := by
    go_enter Try.func10, Try.ntmps10
    go_wp2_with fail
    go_ret
    exact ⟨rfl, rfl⟩
  exact h.mono fun _ _ ⟨he, hw⟩ => ⟨w.heap.size, he, Nat.le_refl _, by subst hw; simp, by subst hw; exact Blk.new w _ _, by subst hw; exact (Below.refl _ w).alloc (Nat.le_refl _) _⟩

set_option maxRecDepth 100000 in
set_option maxHeartbeats 1000000 in
theorem rtick_clk {p : Nat} {t l : Int} (n : Int) {f : Nat} {w : World} (hB : Blk w p 39 (clk t l f)) (h0 : 0 ≤ t) (h1 : t ≤ 281474976710655) :
    Calls Try.prog 12 #[.pointer (some ⟨p, 0, none⟩), .int .i64 n] w fun e w' => e = .returned (.tuple #[]) ∧ Blk w' p 39 (clk (tickN t n f) l f) ∧ w.grownBy w' (some p) := by
  have c0 : w.cell? ⟨p, 0, none⟩ = some (.int .i64 t) := hB.cell 0
  have c2 : w.cell? ⟨p, 2, none⟩ = some (.float .f64 f) := hB.cell 2
  have z0 := hB.frozen 0
  have C := fun W => Lib.hid ((qscale_any n f W).mono (fun _ _ h => And.intro h.1 h.2.symm))
  have hle := scaleN_le (capN n) f (capN_le n)
  unfold tickN
  have hz : 0 ≤ ((scaleN (capN n) f : Nat) : Int) ∧ ((scaleN (capN n) f : Nat) : Int) ≤ 281474976710656 := by omega
  have HB := Lib.hid hB
  clear hle hB
  generalize ((scaleN (capN n) f : Nat) : Int) = z at *
  have e1 : IntKind.i64.wrap (t + z) = t + z := IntWalk.i64_in _ (by omega)
  have e2 : wrap64 (t + z) = t + z := IntWalk.wrap64_in _ (by omega)
  have d0 : ((w.setCell ⟨p, 0, none⟩ (.int .i64 (t + z))).drew).cell? ⟨p, 0, none⟩ = some (.int .i64 (t + z)) := (HB.out.set_ 0 _).drew.cell 0
  have y0 := ((HB.out.set_ 0 (.int .i64 (t + z))).drew).frozen 0
  by_cases h : 281474976710655 < t + z
  · rw [if_pos h]
    clear hz h0 h1
    go_enter Try.func12, Try.ntmps12
    go_wp2_with fail
    go_still_tail 14, (by kernel_rfl)
    still_call (C _).out
    repeat still_step
    refine wpStill_nil ?_
    change wpList _ _ _ _ _ w.drew
    go_wp2_with fail
    go_end0
    exact ⟨rfl, ((HB.out.set_ 0 _).set_ 0 _).drew, only_drew (only_setCell (only_setCell (grow_refl w (some p)) (Or.inl rfl) _) (Or.inl rfl) _)⟩
  · rw [if_neg h]
    clear hz h0 h1
    go_enter Try.func12, Try.ntmps12
    go_wp2_with fail
    go_still_tail 14, (by kernel_rfl)
    still_call (C _).out
    repeat still_step
    refine wpStill_nil ?_
    change wpList _ _ _ _ _ w.drew
    go_wp2_with fail
    go_end0
    exact ⟨rfl, (HB.out.set_ 0 _).drew, only_drew (only_setCell (grow_refl w (some p)) (Or.inl rfl) _)⟩

theorem nextN_none {t l a : Int} (h : nextN t l a = none) : 281474976710655 ≤ l ∨ 281474976710655 ≤ a := by
  unfold nextN at h
  by_cases g : l < a
  · rw [if_pos g] at h
    by_cases k : 281474976710655 ≤ a
    · exact Or.inr k
    · rw [if_neg k] at h; cases h
  · rw [if_neg g] at h
    by_cases k : 281474976710655 ≤ l
    · exact Or.inl k
    · rw [if_neg k] at h; cases h
theorem nextN_some {t l a s : Int} (h : nextN t l a = some s) : l < 281474976710655 ∧ a < 281474976710655 ∧ ((s = t ∧ l < t ∧ a < t) ∨ (s = l + 1 ∧ t ≤ l ∧ a ≤ l) ∨ (s = a + 1 ∧ t ≤ a ∧ l < a)) := by
  unfold nextN at h
  by_cases g : l < a
  · rw [if_pos g] at h
    by_cases k : 281474976710655 ≤ a
    · rw [if_pos k] at h; cases h
    · rw [if_neg k] at h
      have h := Option.some.inj h
      by_cases m : t < a + 1
      · rw [if_pos m] at h; omega
      · rw [if_neg m] at h; omega
  · rw [if_neg g] at h
    by_cases k : 281474976710655 ≤ l
    · rw [if_pos k] at h; cases h
    · rw [if_neg k] at h
      have h := Option.some.inj h
      by_cases m : t < l + 1
      · rw [if_pos m] at h; omega
      · rw [if_neg m] at h; omega

set_option maxRecDepth 100000 in
set_option maxHeartbeats 1000000 in
theorem rnext_over {p : Nat} {t l : Int} (a : Int) {f : Nat} {w : World} (hB : Blk w p 39 (clk t l f)) (h0 : 0 ≤ t) (h1 : t ≤ 281474976710655) (hl : 0 ≤ l) (hl1 : l ≤ 281474976710655) (h : nextN t l a = none) :
    Calls Try.prog 14 #[.pointer (some ⟨p, 0, none⟩), .int .i64 a] w fun e w' => e = .returned (.tuple #[.int .i64 0, .int .i64 11]) ∧ w' = w := by
  have c0 : w.cell? ⟨p, 0, none⟩ = some (.int .i64 t) := hB.cell 0
  have c1 : w.cell? ⟨p, 1, none⟩ = some (.int .i64 l) := hB.cell 1
  have h := nextN_none h
  have e1 : IntKind.i64.wrap (l + 1) = l + 1 := IntWalk.i64_in _ (by omega)
  have e2 : wrap64 (l + 1) = l + 1 := IntWalk.wrap64_in _ (by omega)
  clear hB
  by_cases k1 : t ≤ l
  · by_cases k2 : l + 1 ≤ a
    · have k3 : 281474976710655 ≤ a := by omega
      clear h
      go_enter Try.func14, Try.ntmps14
      go_wp2_with fail
      go_ret2
      exact ⟨rfl, rfl⟩
    · have k3 : 281474976710655 < l + 1 := by omega
      clear h
      go_enter Try.func14, Try.ntmps14
      go_wp2_with fail
      go_ret2
      exact ⟨rfl, rfl⟩
  · have k2 : t ≤ a := by omega
    have k3 : 281474976710655 ≤ a := by omega
    clear h
    go_enter Try.func14, Try.ntmps14
    go_wp2_with fail
    go_ret2
    exact ⟨rfl, rfl⟩

set_option maxRecDepth 100000 in
set_option maxHeartbeats 1000000 in
theorem rnext_clk {p : Nat} {t l : Int} (a : Int) {s : Int} {f : Nat} {w : World} (hB : Blk w p 39 (clk t l f)) (h0 : 0 ≤ t) (h1 : t ≤ 281474976710655) (hl : 0 ≤ l) (h : nextN t l a = some s) :
    Calls Try.prog 14 #[.pointer (some ⟨p, 0, none⟩), .int .i64 a] w fun e w' => e = .returned (.tuple #[.int .i64 s, .int .i64 0]) ∧ Blk w' p 39 (clk t s f) ∧ w.grownBy w' (some p) := by
  have H : Calls Try.prog 14 #[.pointer (some ⟨p, 0, none⟩), .int .i64 a] w fun e w' => e = .returned (.tuple #[.int .i64 s, .int .i64 0]) ∧ w' = w.setCell ⟨p, 1, none⟩ (.int .i64 s) := by
    have c0 : w.cell? ⟨p, 0, none⟩ = some (.int .i64 t) := hB.cell 0
    have c1 : w.cell? ⟨p, 1, none⟩ = some (.int .i64 l) := hB.cell 1
    have z1 := hB.frozen 1
    obtain ⟨g1, g2, g⟩ := nextN_some h
    have e1 : IntKind.i64.wrap (l + 1) = l + 1 := IntWalk.i64_in _ (by omega)
    have e2 : wrap64 (l + 1) = l + 1 := IntWalk.wrap64_in _ (by omega)
    clear hB h
    rcases g with ⟨rfl, k1, k2⟩ | ⟨rfl, k1, k2⟩ | ⟨rfl, k1, k2⟩
    · by_cases k3 : a < 0
      · have k4 : ¬ s < 1 := by omega
        go_enter Try.func14, Try.ntmps14
        go_wp2_with fail
        go_ret2
        exact ⟨rfl, rfl⟩
      · have k4 : ¬ s < 1 := by omega
        go_enter Try.func14, Try.ntmps14
        go_wp2_with fail
        go_ret2
        exact ⟨rfl, rfl⟩
    · by_cases k3 : a < 0
      · have k4 : ¬ l + 1 < 1 := by omega
        go_enter Try.func14, Try.ntmps14
        go_wp2_with fail
        go_ret2
        exact ⟨rfl, rfl⟩
      · have k4 : ¬ l + 1 < 1 := by omega
        go_enter Try.func14, Try.ntmps14
        go_wp2_with fail
        go_ret2
        exact ⟨rfl, rfl⟩
    · have k3 : ¬ a < 0 := by omega
      have e3 : IntKind.i64.wrap (a + 1) = a + 1 := IntWalk.i64_in _ (by omega)
      have e4 : wrap64 (a + 1) = a + 1 := IntWalk.wrap64_in _ (by omega)
      by_cases k4 : t ≤ l
      · have k5 : l + 1 ≤ a := by omega
        have k6 : a + 1 ≤ 281474976710655 := by omega
        go_enter Try.func14, Try.ntmps14
        go_wp2_with fail
        go_ret2
        exact ⟨rfl, rfl⟩
      · have k6 : a + 1 ≤ 281474976710655 := by omega
        go_enter Try.func14, Try.ntmps14
        go_wp2_with fail
        go_ret2
        exact ⟨rfl, rfl⟩
  exact H.mono fun _ _ ⟨he, hw⟩ => ⟨he, by subst hw; exact hB.set_ 1 _, by subst hw; exact grow_set0 _⟩

set_option maxRecDepth 100000 in
set_option maxHeartbeats 1000000 in
theorem rseen_clk {p : Nat} {t l : Int} (a : Int) {f : Nat} {w : World} (hB : Blk w p 39 (clk t l f)) :
    Calls Try.prog 16 #[.pointer (some ⟨p, 0, none⟩), .int .i64 a] w fun e w' => e = .returned (.tuple #[]) ∧ Blk w' p 39 (clk t (seenN l a) f) ∧ w.grownBy w' (some p) := by
  have H : Calls Try.prog 16 #[.pointer (some ⟨p, 0, none⟩), .int .i64 a] w fun e w' => e = .returned (.tuple #[]) ∧ (w' = w ∧ seenN l a = l ∨ w' = w.setCell ⟨p, 1, none⟩ (.int .i64 (seenN l a))) := by
    have c1 : w.cell? ⟨p, 1, none⟩ = some (.int .i64 l) := hB.cell 1
    have z1 := hB.frozen 1
    have S1 : (281474976710655 < a ∨ ¬ l < a) → seenN l a = l := by
      intro h
      unfold seenN
      by_cases g : 281474976710655 < a
      · rw [if_pos g]
      · rw [if_neg g, if_neg (by omega)]
    have S2 : ¬ (281474976710655 < a ∨ ¬ l < a) → seenN l a = a := by
      intro h
      unfold seenN
      rw [if_neg (by omega), if_pos (by omega)]
    clear hB
    by_cases h : 281474976710655 < a ∨ ¬ l < a
    · have S := Lib.hid (S1 h)
      clear S1 S2
      by_cases g : l < a
      · have g2 : ¬ a < 281474976710656 := by omega
        clear h
        go_enter Try.func16, Try.ntmps16
        go_wp2_with fail
        go_end0
        exact ⟨rfl, Or.inl ⟨rfl, S.out⟩⟩
      · clear h
        go_enter Try.func16, Try.ntmps16
        go_wp2_with fail
        go_end0
        exact ⟨rfl, Or.inl ⟨rfl, S.out⟩⟩
    · have S := Lib.hid (S2 h)
      clear S1 S2
      have g1 : l < a := by omega
      have g2 : a < 281474976710656 := by omega
      clear h
      go_enter Try.func16, Try.ntmps16
      go_wp2_with fail
      go_end0
      exact ⟨rfl, Or.inr (by rw [S.out])⟩
  exact H.mono fun _ _ ⟨he, hw⟩ => by
    rcases hw with ⟨rfl, hs⟩ | rfl
    · exact ⟨he, by rw [hs]; exact hB, grow_refl _ _⟩
    · exact ⟨he, hB.set_ 1 _, grow_set0 _⟩
end Go.Proofs.Ytalacionlbmcpaa
