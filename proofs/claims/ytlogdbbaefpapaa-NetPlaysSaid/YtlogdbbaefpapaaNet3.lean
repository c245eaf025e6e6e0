/-
  Package net, part 3: number.
-/
import Derived.Test.YtlogdbbaefpapaaNet2
namespace Go.Proofs.Ytlogdbbaefpapaa
open Go.RowKit Go.Maps

def msgV (m : Int × Int × ByteArray) : Value := .agg #[.int .i64 m.1, .int .i64 m.2.1, .string m.2.2]

set_option maxHeartbeats 1000000 in
theorem number_nil (i : Int) (w : World) :
    Calls Try.prog 33 #[.pointer none, .int .i64 i] w fun e w' => e = gaveUp 1 ∧ w.grownBy w' none := by
  have hg : Hid (w.grownBy (w.alloc (.cells #[.int .i64 0, .int .i64 0, .string ⟨#[]⟩] 58)) none) := World.grownBy_alloc w _ none
  go_enter Try.func33, Try.ntmps33
  go_wp2
  exact ⟨rfl, rfl, hg.out⟩

set_option maxHeartbeats 1000000 in
theorem number_zero (p : Nat) (i : Int) (w : World) (c0 : w.cell? ⟨p, 0, none⟩ = some (.int .i64 0)) :
    Calls Try.prog 33 #[.pointer (some ⟨p, 0, none⟩), .int .i64 i] w fun e w' => e = gaveUp 1 ∧ w.grownBy w' none := by
  have hg : Hid (w.grownBy (w.alloc (.cells #[.int .i64 0, .int .i64 0, .string ⟨#[]⟩] 58)) none) := World.grownBy_alloc w _ none
  have c1 : (w.alloc (.cells #[.int .i64 0, .int .i64 0, .string ⟨#[]⟩] 58)).cell? ⟨p, 0, none⟩ = some (.int .i64 0) := (World.grownBy_alloc w _ none).cell c0 (by simp)
  go_enter Try.func33, Try.ntmps33
  go_wp2
  exact ⟨rfl, rfl, hg.out⟩

set_option maxHeartbeats 1000000 in
theorem number_out (p : Nat) (n i : Int) (A : Option Addr) (len c : Nat) (w : World) (hn : n ≠ 0) (c0 : w.cell? ⟨p, 0, none⟩ = some (.int .i64 n)) (c2 : w.cell? ⟨p, 2, none⟩ = some (.slice A len c)) (hi : i < 0 ∨ (len : Int) ≤ i) :
    Calls Try.prog 33 #[.pointer (some ⟨p, 0, none⟩), .int .i64 i] w fun e w' => e = gaveUp 5 ∧ w.grownBy w' none := by
  have hg : Hid (w.grownBy (w.alloc (.cells #[.int .i64 0, .int .i64 0, .string ⟨#[]⟩] 58)) none) := World.grownBy_alloc w _ none
  have c1 : (w.alloc (.cells #[.int .i64 0, .int .i64 0, .string ⟨#[]⟩] 58)).cell? ⟨p, 0, none⟩ = some (.int .i64 n) := (World.grownBy_alloc w _ none).cell c0 (by simp)
  have c3 : (w.alloc (.cells #[.int .i64 0, .int .i64 0, .string ⟨#[]⟩] 58)).cell? ⟨p, 2, none⟩ = some (.slice A len c) := (World.grownBy_alloc w _ none).cell c2 (by simp)
  have g : (n == 0) = false := by simp [hn]
  clear c0 c2 hn
  by_cases h : i < 0
  · have g1 : decide (i < 0) = true := by simp [h]
    clear hi h
    go_enter Try.func33, Try.ntmps33
    go_wp2
    exact ⟨rfl, rfl, hg.out⟩
  · have g1 : decide (i < 0) = false := by simp; omega
    have g2 : decide ((len : Int) ≤ i) = true := by simp; omega
    clear hi h
    go_enter Try.func33, Try.ntmps33
    go_wp2
    exact ⟨rfl, rfl, hg.out⟩

set_option maxHeartbeats 1000000 in
theorem number_in (p : Nat) (n : Int) (k : Nat) (g len c : Nat) (m : Int × Int × ByteArray) (w : World) (hn : n ≠ 0) (c0 : w.cell? ⟨p, 0, none⟩ = some (.int .i64 n)) (c2 : w.cell? ⟨p, 2, none⟩ = some (.slice (some ⟨g, 0, none⟩) len c)) (hk : k < len)
    (d0 : w.cell? ⟨g, k * 3, none⟩ = some (.int .i64 m.1)) (d1 : w.cell? ⟨g, k * 3 + 1, none⟩ = some (.int .i64 m.2.1)) (d2 : w.cell? ⟨g, k * 3 + 2, none⟩ = some (.string m.2.2)) :
    Calls Try.prog 33 #[.pointer (some ⟨p, 0, none⟩), .int .i64 (k : Int)] w fun e w' => e = .returned (msgV m) ∧ w.grownBy w' none := by
  obtain ⟨a, b, s⟩ := m
  have hg : Hid (w.grownBy (w.alloc (.cells #[.int .i64 0, .int .i64 0, .string ⟨#[]⟩] 58)) none) := World.grownBy_alloc w _ none
  have up : ∀ {q : Addr} {v : Value}, w.cell? q = some v → (w.alloc (.cells #[.int .i64 0, .int .i64 0, .string ⟨#[]⟩] 58)).cell? q = some v := fun h => (World.grownBy_alloc w _ none).cell h (by simp)
  have c0' := up c0
  have c2' := up c2
  have d0' := up d0
  have d1' := up d1
  have d2' := up d2
  simp only at d0' d1' d2'
  clear c0 c2 d0 d1 d2 up
  have hB : Hid (Blk (w.alloc (.cells #[.int .i64 0, .int .i64 0, .string ⟨#[]⟩] 58)) w.heap.size 58 #[.int .i64 0, .int .i64 0, .string ⟨#[]⟩]) := Blk.new _ _ _
  have b0 := hB.out.cell 0
  have b1 := hB.out.cell 1
  have b2 := hB.out.cell 2
  have z0 := hB.out.frozen 0
  have z1 := hB.out.frozen 1
  have z2 := hB.out.frozen 2
  have g0 : (n == 0) = false := by simp [hn]
  have g1 : decide ((k : Int) < 0) = false := decide_eq_false (by omega)
  have g2 : decide ((len : Int) ≤ (k : Int)) = false := decide_eq_false (by omega)
  clear hn
  go_enter Try.func33, Try.ntmps33
  go_wp2
  exact number_end (Blk.new _ _ _) rfl ⟨rfl, World.grownBy_alloc _ _ _⟩

/-- number: the message that has it, or none. -/
theorem number_any (p : Nat) (n i : Int) (mp sl lo : Value) (B : Nat) (L : List (Int × Int × ByteArray)) (w : World) (hn : n ≠ 0) (Bp : Blk w p 47 #[.int .i64 n, mp, sl, lo]) (hown : w.ownsRow B 58 3 sl L.length (rowC L)) :
    Calls Try.prog 33 #[.pointer (some ⟨p, 0, none⟩), .int .i64 i] w fun e w' =>
      ((∃ (k : Nat) (m : Int × Int × ByteArray), i = (k : Int) ∧ L[k]? = some m ∧ e = .returned (msgV m)) ∨ ((i < 0 ∨ (L.length : Int) ≤ i) ∧ e = gaveUp 5)) ∧ w.grownBy w' none := by
  have c0 : w.cell? ⟨p, 0, none⟩ = some (.int .i64 n) := Bp.cell 0
  have c2 : w.cell? ⟨p, 2, none⟩ = some sl := Bp.cell 2
  have hcl := fun g hg => hown.cells (g := g) hg
  obtain ⟨A, c, rfl⟩ : ∃ A c, sl = .slice A L.length c := by
    rcases hown.2 with ⟨h, h'⟩ | ⟨g, cap, cur, h, _⟩
    · exact ⟨none, 0, by rw [h, h']⟩
    · exact ⟨_, _, h⟩
  by_cases hi : i < 0 ∨ (L.length : Int) ≤ i
  · refine (number_out p n i A L.length c w hn c0 c2 hi).mono ?_
    rintro e w' ⟨rfl, hg⟩
    exact ⟨Or.inr ⟨hi, rfl⟩, hg⟩
  · obtain ⟨k, rfl⟩ : ∃ k : Nat, i = (k : Int) := ⟨i.toNat, by omega⟩
    have hk : k < L.length := by omega
    obtain ⟨g, rfl⟩ : ∃ g, A = some ⟨g, 0, none⟩ := by
      rcases hown.2 with ⟨h, h'⟩ | ⟨g, cap, cur, h, _⟩
      · omega
      · cases h; exact ⟨g, rfl⟩
    have hm : L[k]? = some L[k] := List.getElem?_eq_getElem hk
    obtain ⟨r0, r1, r2⟩ := rowC_at L k _ hm
    have ad : ∀ j, (⟨g, 0, none⟩ : Addr).add j = ⟨g, j, none⟩ := fun j => by unfold Addr.add; split <;> simp_all
    have e0 := hcl g rfl _ _ r0
    have e1 := hcl g rfl _ _ r1
    have e2 := hcl g rfl _ _ r2
    rw [ad] at e0 e1 e2
    refine (number_in p n k g L.length c _ w hn c0 c2 hk e0 e1 e2).mono ?_
    rintro e w' ⟨rfl, hg⟩
    exact ⟨Or.inl ⟨k, _, rfl, hm, rfl⟩, hg⟩
end Go.Proofs.Ytlogdbbaefpapaa
