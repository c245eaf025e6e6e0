/-
  Package net, part 2: has, between, full, lose, number, New.
-/
import Derived.Test.YtlogdbbaefpapaaNet1
namespace Go.Proofs.Ytlogdbbaefpapaa
open Go.RowKit Go.Maps

def wayB (n a b : Int) : Bool := decide (0 ≤ a) && decide (a < n) && (decide (0 ≤ b) && decide (b < n)) && !(a == b)

set_option maxHeartbeats 400000 in
theorem has_any (p : Nat) (n i : Int) (w : World) (c0 : w.cell? ⟨p, 0, none⟩ = some (.int .i64 n)) :
    Calls Try.prog 41 #[.pointer (some ⟨p, 0, none⟩), .int .i64 i] w fun e w' => e = .returned (.bool (decide (0 ≤ i) && decide (i < n))) ∧ w' = w := by
  by_cases h1 : 0 ≤ i
  · by_cases h2 : i < n
    · have g1 : decide (0 ≤ i) = true := by simp [h1]
      have g2 : decide (i < n) = true := by simp [h2]
      go_enter Try.func41, Try.ntmps41
      go_wp2
      go_ret
      all_goals simp [h1, h2]
    · have g1 : decide (0 ≤ i) = true := by simp [h1]
      have g2 : decide (i < n) = false := by simp; omega
      go_enter Try.func41, Try.ntmps41
      go_wp2
      go_ret
      all_goals simp
  · have g1 : decide (0 ≤ i) = false := by simp; omega
    go_enter Try.func41, Try.ntmps41
    go_wp2
    go_ret
    all_goals simp

set_option maxHeartbeats 400000 in
theorem has_nil (i : Int) (w : World) :
    Calls Try.prog 41 #[.pointer none, .int .i64 i] w fun e w' => e = .returned (.bool false) ∧ w' = w := by
  go_enter Try.func41, Try.ntmps41
  go_wp2
  go_ret
  all_goals exact ⟨rfl, rfl⟩

theorem grown_set {a w : World} {row : Option Nat} (h : a.grownBy w row) {p : Addr} (hp : a.heap.size ≤ p.block) (u : Value) : a.grownBy (w.setCell p u) row :=
  ⟨h.os, h.tape, h.output, by simpa [World.setCell] using h.size, fun i hi hne => (Below.heap_setCell w p u i (by rintro rfl; omega)).trans (h.block i hi hne)⟩
theorem between_end {w : World} {p : Nat} {t : Array Value} {R : Ending → World → Prop} {a b : Int} (B : Blk w p 55 #[.int .i64 a, .int .i64 b]) (h6 : t[6]?.getD undef = .pointer (some ⟨p, 0, none⟩)) (h : R (.returned (.agg #[.int .i64 a, .int .i64 b])) w) :
    bodyPost Try.prog Try.f28 R .ret { tmps := t, defers := [] } w := by
  have c0 := B.cell 0
  have c1 := B.cell 1
  refine bodyPost_ret (v := .agg #[.int .i64 a, .int .i64 b]) ?_ rfl h
  simp at c0 c1
  simp [results, Try.results28, go_sem, c0, c1, h6]

set_option maxHeartbeats 1000000 in
theorem between_any (p : Nat) (n a b : Int) (w : World) (c0 : w.cell? ⟨p, 0, none⟩ = some (.int .i64 n)) :
    Calls Try.prog 28 #[.pointer (some ⟨p, 0, none⟩), .int .i64 a, .int .i64 b] w fun e w' =>
      ((wayB n a b = true ∧ e = .returned (.agg #[.int .i64 a, .int .i64 b])) ∨ (wayB n a b = false ∧ e = gaveUp 1)) ∧ w.grownBy w' none := by
  have c1 : (w.alloc (.cells #[.int .i64 0, .int .i64 0] 55)).cell? ⟨p, 0, none⟩ = some (.int .i64 n) := (World.grownBy_alloc w _ none).cell c0 (by simp)
  have hg : Hid (w.grownBy (w.alloc (.cells #[.int .i64 0, .int .i64 0] 55)) none) := World.grownBy_alloc w _ none
  have hB : Hid (Blk (w.alloc (.cells #[.int .i64 0, .int .i64 0] 55)) w.heap.size 55 #[.int .i64 0, .int .i64 0]) := Blk.new _ _ _
  obtain ⟨x, hx⟩ : ∃ x, x = (decide (0 ≤ a) && decide (a < n)) := ⟨_, rfl⟩
  obtain ⟨y, hy⟩ : ∃ y, y = (decide (0 ≤ b) && decide (b < n)) := ⟨_, rfl⟩
  have hwy : Hid (wayB n a b = (x && y && !(a == b))) := by rw [hx, hy]; rfl
  have A1 := Lib.hid (has_any p n a _ c1)
  have A2 := Lib.hid (has_any p n b _ c1)
  rw [← hx] at A1
  rw [← hy] at A2
  clear c1 c0 hx hy
  go_enter Try.func28, Try.ntmps28
  go_wp2_with fail
  generalize w.alloc (.cells #[.int .i64 0, .int .i64 0] 55) = w1 at *
  refine A1.out.mono ?_
  rintro e w2 ⟨rfl, rfl⟩
  cases x
  · go_wp2
    exact ⟨rfl, Or.inr ⟨by rw [hwy.out]; rfl, rfl⟩, hg.out⟩
  · go_wp2_with fail
    refine A2.out.mono ?_
    rintro e w3 ⟨rfl, rfl⟩
    cases y
    · go_wp2
      exact ⟨rfl, Or.inr ⟨by rw [hwy.out]; rfl, rfl⟩, hg.out⟩
    · by_cases hab : a = b
      · have g : (a == b) = true := by simp [hab]
        clear hab
        go_wp2
        exact ⟨rfl, Or.inr ⟨by rw [hwy.out, g]; rfl, rfl⟩, hg.out⟩
      · have g : (a == b) = false := by simp [hab]
        clear hab
        have b0 := hB.out.cell 0
        have b1 := hB.out.cell 1
        have z0 := hB.out.frozen 0
        have z1 := hB.out.frozen 1
        go_wp2
        exact between_end ((hB.out.set_ 0 _).set_ 1 _) rfl ⟨Or.inl ⟨by rw [hwy.out, g]; rfl, rfl⟩, grown_set (grown_set hg.out (Nat.le_refl _) _) (Nat.le_refl _) _⟩

set_option maxHeartbeats 1000000 in
theorem between_nil (a b : Int) (w : World) :
    Calls Try.prog 28 #[.pointer none, .int .i64 a, .int .i64 b] w fun e w' => e = gaveUp 1 ∧ w.grownBy w' none := by
  have hg : Hid (w.grownBy (w.alloc (.cells #[.int .i64 0, .int .i64 0] 55)) none) := World.grownBy_alloc w _ none
  have A1 := Lib.hid (has_nil a (w.alloc (.cells #[.int .i64 0, .int .i64 0] 55)))
  go_enter Try.func28, Try.ntmps28
  go_wp2_with fail
  refine A1.out.mono ?_
  rintro e w2 ⟨rfl, rfl⟩
  go_wp2
  exact ⟨rfl, rfl, hg.out⟩

set_option maxHeartbeats 400000 in
theorem full_any (p : Nat) (A : Option Addr) (n c : Nat) (w : World) (c2 : w.cell? ⟨p, 2, none⟩ = some (.slice A n c)) :
    Calls Try.prog 29 #[.pointer (some ⟨p, 0, none⟩)] w fun e w' => e = .returned (.bool (decide (400 ≤ n))) ∧ w' = w := by
  go_enter Try.func29, Try.ntmps29
  go_wp2
  go_ret
  have e : decide ((400 : Int) ≤ (n : Int)) = decide (400 ≤ n) := decide_eq_decide.2 (by omega)
  exact ⟨congrArg (fun x => Ending.returned (.bool x)) e, rfl⟩

set_option maxHeartbeats 400000 in
theorem lose_any (p : Nat) (x : Int) (w : World) (c3 : w.cell? ⟨p, 3, none⟩ = some (.int .i64 x)) (f3 : w.frozen? ⟨p, 3, none⟩ = false) (h0 : 0 ≤ x) (hx : x < 9223372036854775807) :
    Calls Try.prog 30 #[.pointer (some ⟨p, 0, none⟩)] w fun e w' => e = .returned (.tuple #[]) ∧ w' = w.setCell ⟨p, 3, none⟩ (.int .i64 (x + 1)) := by
  have g : decide (x < 9223372036854775807) = true := by simp [hx]
  have hw : wrap64 (x + 1) = x + 1 := by unfold wrap64; omega
  clear hx
  go_enter Try.func30, Try.ntmps30
  go_wp2
  go_end0
  exact ⟨rfl, rfl⟩

theorem number_end {w : World} {p : Nat} {t : Array Value} {R : Ending → World → Prop} {a b : Int} {s : ByteArray} (B : Blk w p 58 #[.int .i64 a, .int .i64 b, .string s]) (h4 : t[4]?.getD undef = .pointer (some ⟨p, 0, none⟩)) (h : R (.returned (.agg #[.int .i64 a, .int .i64 b, .string s])) w) :
    bodyPost Try.prog Try.f33 R .ret { tmps := t, defers := [] } w := by
  have c0 := B.cell 0
  have c1 := B.cell 1
  have c2 := B.cell 2
  refine bodyPost_ret (v := .agg #[.int .i64 a, .int .i64 b, .string s]) ?_ rfl h
  simp at c0 c1 c2
  simp [results, Try.results33, go_sem, c0, c1, c2, h4]
end Go.Proofs.Ytlogdbbaefpapaa
