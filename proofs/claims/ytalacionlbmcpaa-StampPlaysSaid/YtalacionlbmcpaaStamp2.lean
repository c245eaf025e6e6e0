/-
  Package stamp: what each call leaves of its clock and of the memory beside it; the laws' first call.
-/
import Derived.Test.YtalacionlbmcpaaStamp1
namespace Go.Proofs.Ytalacionlbmcpaa
open Go.RowKit

theorem grow_refl (w : World) (r : Option Nat) : w.grownBy w r := ⟨rfl, rfl, rfl, Nat.le_refl _, fun _ _ _ => rfl⟩
theorem below_grow {B p : Nat} {a w w' : World} (h : Below B a w) (g : w.grownBy w' (some p)) (hB : B ≤ a.heap.size) (hp : B ≤ p) : Below B a w' :=
  h.grown g (Nat.le_trans hB h.size) (fun k hk => by injection hk with hk; omega)
theorem grow_set {w : World} {p i : Nat} (u : Value) (q : Nat) : w.grownBy ((w.setCell ⟨p, i, none⟩ u).drewN q) (some p) := only_drewN (only_setCell (grow_refl w (some p)) (Or.inl rfl) u) q
theorem grow_set0 {w : World} {p i : Nat} (u : Value) : w.grownBy (w.setCell ⟨p, i, none⟩ u) (some p) := only_setCell (grow_refl w (some p)) (Or.inl rfl) u

theorem blk_by {w w' : World} {p q : Nat} {t : TypeId} {cs : Array Value} (h : Blk w p t cs) (G : w.grownBy w' (some q)) (hn : p ≠ q) : Blk w' p t cs := h.grown G (fun e => hn (Option.some.inj e))

theorem sdrift_clk {p : Nat} {t l : Int} {f : Nat} (g : Nat) {w : World} (hB : Blk w p 30 (clk t l f)) :
    Calls Try.prog 17 #[.pointer (some ⟨p, 0, none⟩), .float .f64 g] w fun e w' => e = .returned (.tuple #[]) ∧ Blk w' p 30 (clk t l g) ∧ w.grownBy w' (some p) :=
  (sdrift_any p t l f g w hB).mono fun _ _ ⟨he, hw⟩ => ⟨he, by subst hw; exact hB.set_ 2 _, by subst hw; exact grow_set0 _⟩
theorem stick_clk {p : Nat} {t l : Int} (n : Int) {f : Nat} {w : World} (hB : Blk w p 30 (clk t l f)) (h0 : 0 ≤ t) (h1 : t ≤ 281474976710655) :
    Calls Try.prog 11 #[.pointer (some ⟨p, 0, none⟩), .int .i64 n] w fun e w' => e = .returned (.tuple #[]) ∧ Blk w' p 30 (clk (tickN t n f) l f) ∧ w.grownBy w' (some p) :=
  (stick_any p t l n f w hB h0 h1).mono fun _ _ ⟨he, q, hw⟩ => ⟨he, by subst hw; exact (hB.set_ 0 _).drewN q, by subst hw; exact grow_set _ q⟩
theorem snext_clk {p : Nat} {t l : Int} (a : Int) {s : Int} {f : Nat} {w : World} (hB : Blk w p 30 (clk t l f)) (h0 : 0 ≤ t) (hl : 0 ≤ l) (h : nextN t l a = some s) :
    Calls Try.prog 13 #[.pointer (some ⟨p, 0, none⟩), .int .i64 a] w fun e w' => e = .returned (.tuple #[.int .i64 s, .int .i64 0]) ∧ Blk w' p 30 (clk t s f) ∧ w.grownBy w' (some p) :=
  (snext_ok p t l a s f w hB h0 hl h).mono fun _ _ ⟨he, hw⟩ => ⟨he, by subst hw; exact hB.set_ 1 _, by subst hw; exact grow_set0 _⟩
theorem sseen_clk {p : Nat} {t l : Int} (a : Int) {f : Nat} {w : World} (hB : Blk w p 30 (clk t l f)) :
    Calls Try.prog 15 #[.pointer (some ⟨p, 0, none⟩), .int .i64 a] w fun e w' => e = .returned (.tuple #[]) ∧ Blk w' p 30 (clk t (seenN l a) f) ∧ w.grownBy w' (some p) :=
  (sseen_any p t l a f w hB).mono fun _ _ ⟨he, hw⟩ => by
    rcases hw with ⟨rfl, hs⟩ | rfl
    · exact ⟨he, by rw [hs]; exact hB, grow_refl _ _⟩
    · exact ⟨he, hB.set_ 1 _, grow_set0 _⟩
theorem snew_clk (f : Nat) (w : World) :
    Calls Try.prog 9 #[.float .f64 f] w fun e w' => ∃ p, e = .returned (.pointer (some ⟨p, 0, none⟩)) ∧ w.heap.size ≤ p ∧ p < w'.heap.size ∧ Blk w' p 30 (clk 0 0 f) ∧ Below w.heap.size w w' :=
  (snew_any f w).mono fun _ _ ⟨he, hw⟩ => ⟨w.heap.size, he, Nat.le_refl _, by subst hw; simp, by subst hw; exact Blk.new w _ _, by subst hw; exact (Below.refl _ w).alloc (Nat.le_refl _) _⟩

theorem tick_5 : tickN 0 5 4611686018427387904 = 10 := by decide +kernel
theorem next_0 : nextN 10 0 0 = some 10 := by decide
theorem next_50 : nextN 10 10 50 = some 51 := by decide
theorem greater_1 : greaterN 1 2 3 1 2 2 = true := by decide

theorem al_tick {p : Nat} {w : World} (h : Blk w p 30 (clk 0 0 4611686018427387904)) :
    Calls Try.prog 11 #[.pointer (some ⟨p, 0, none⟩), .int .i64 5] w fun e w' => e = .returned (.tuple #[]) ∧ Blk w' p 30 (clk 10 0 4611686018427387904) ∧ w.grownBy w' (some p) := by
  have T := stick_clk (n := 5) h (Int.le_refl 0) (by decide)
  rw [tick_5] at T
  exact T
set_option maxRecDepth 100000 in
set_option maxHeartbeats 1000000 in
theorem alive4_any (w : World) : Calls Try.prog 8 #[] w fun e w' => e = .returned (.bool true) ∧ Below w.heap.size w w' := by
  go_enter Try.func8, Try.ntmps8
  go_wp2_with fail
  refine (snew_clk 4611686018427387904 w).mono ?_
  rintro e w1 ⟨p, rfl, hp, _, B1, hb1⟩
  replace B1 := Lib.hid B1
  go_wp2_with fail
  refine (al_tick B1.out).mono ?_
  rintro e w2 ⟨rfl, B2, G2⟩
  replace B2 := Lib.hid B2
  have hb2 := below_grow hb1 G2 (Nat.le_refl _) hp
  clear B1 hb1 G2
  go_wp2_with fail
  refine (snext_clk 0 B2.out (by decide) (by decide) next_0).mono ?_
  rintro e w3 ⟨rfl, B3, G3⟩
  replace B3 := Lib.hid B3
  have hb3 := below_grow hb2 G3 (Nat.le_refl _) hp
  clear B2 hb2 G3
  go_wp2_with fail
  refine (snext_clk 50 B3.out (by decide) (by decide) next_50).mono ?_
  rintro e w4 ⟨rfl, B4, G4⟩
  replace B4 := Lib.hid B4
  have hb4 := below_grow hb3 G4 (Nat.le_refl _) hp
  clear B3 hb3 G4
  go_wp2_with fail
  refine (slast_any p 10 51 _ w4 B4.out).mono ?_
  rintro e w5 ⟨rfl, rfl⟩
  go_wp2_with fail
  refine (snow_any p 10 51 _ w5 B4.out).mono ?_
  rintro e w6 ⟨rfl, rfl⟩
  go_wp2_with fail
  refine (sgreater_any 1 2 3 1 2 2 w6).mono ?_
  rw [greater_1]
  rintro e w7 ⟨rfl, rfl⟩
  go_wp2_with fail
  go_ret
  exact ⟨rfl, hb4⟩
end Go.Proofs.Ytalacionlbmcpaa
