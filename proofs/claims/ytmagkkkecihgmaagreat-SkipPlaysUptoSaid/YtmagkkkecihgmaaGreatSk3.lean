/-
  The document's own list of chapter 10, part 3: Put.
-/
import Derived.Test.YtmagkkkecihgmaaGreatSk2
import Derived.Deep.AppendSrc
import Derived.Deep.Upon
import Derived.Deep.Onto
import Derived.Deep.RegionLaw
namespace Go.Proofs.YtmagkkkecihgmaaGreat
open Go.RowKit

/-- Ends of a statement, met. -/
def MeetS (R : Act → World → Prop) : Exit → Act → World → Prop
  | .normal, a, w => R a w
  | _, _, _ => False
theorem wp_meetS {P : Program} {c : Code} {Q : Exit → Act → World → Prop} {a : Act} {w : World} {A1 A2 : Act} {W1 W2 : World} (h : ∀ R : Act → World → Prop, R A1 W1 → R A2 W2 → c.wp P (MeetS R) a w) (h1 : Q .normal A1 W1) (h2 : Q .normal A2 W2) : c.wp P Q a w :=
  Code.wp_mono (by
    intro e a w h
    cases e <;> first | (rcases h with ⟨rfl, rfl⟩ | ⟨rfl, rfl⟩; exact h1; exact h2) | exact h.elim) (h (fun a w => (a = A1 ∧ w = W1) ∨ (a = A2 ∧ w = W2)) (Or.inl ⟨rfl, rfl⟩) (Or.inr ⟨rfl, rfl⟩))

theorem info_pair10 : (Tryz.prog.info? 80).map (fun i => (i.zero, i.size, i.bytes)) = some (some (.agg #[.string ⟨#[]⟩, .string ⟨#[]⟩, .int .i64 0]), elP.sz, 40) := by kernel_rfl
theorem under_pairs10 : Tryz.prog.underlying 27 = some (.slice 80) := by kernel_rfl

theorem SkR.tn {B p : Nat} {w w' : World} {s : S10} (h : SkR B p w s) {B' : Nat} {T : Obj → Bool} (g : Tn B' T w w') (hT : ∀ t cs fr, (t = 29 ∨ t = 80) → T (.cells cs t fr) = false) : SkR B p w' s := by
  obtain ⟨sl, h1, h2, h3⟩ := h
  exact ⟨sl, g.blk h1 (hT _ _ _ (Or.inl rfl)), h2.tn g (fun _ _ => hT _ _ _ (Or.inr rfl)), h3⟩
theorem SkR.up {B p : Nat} {w w' : World} {s : S10} (h : SkR B p w s) (g : w.grownBy w' none) : SkR B p w' s := h.tn (Tn.of_grown (B := 0) (T := fun _ => false) g) (fun _ _ _ _ => rfl)
/-- The list's row turned. -/
theorem SkR.setL {B p : Nat} {w w2 : World} {s : S10} {L' : List P10} {v2 : Value} (h : SkR B p w s) (g : w.grownBy w2 none) (hown : Own elP w2 w.heap.size 80 v2 L') (hB : B ≤ w.heap.size) (hL : ∀ m ∈ L', m.1.size ≤ 65536 ∧ m.2.1.size ≤ 65536 ∧ 1 ≤ m.2.2 ∧ m.2.2 ≤ 12) :
    SkR B p (w2.setCell ⟨p, 0, none⟩ v2) { s with L := L' } ∧ Tn B (cellsT 29) w (w2.setCell ⟨p, 0, none⟩ v2) := by
  obtain ⟨sl, h1, h2, h3, h4⟩ := h.up g
  have gs : w2.grownBy (w2.setCell ⟨p, 0, none⟩ v2) (some p) := only_setCell (grefl w2 (some p)) (Or.inl rfl) v2
  exact ⟨⟨v2, h1.set_ 0 _, (World.ownsRow.kept hown gs (Or.inr (own_ne_k hown h1 (by decide)))).mono hB, h3, hL⟩, (Tn.of_grown g).setCell (p := ⟨p, 0, none⟩) (Or.inr ⟨h3, _, h1, by simp [cellsT]⟩) _⟩

theorem sub_reads {w : World} {B e g n c : Nat} {L : List P10} (h : Own elP w B e (.slice (some ⟨g, 0, none⟩) n c) L) (k : Nat) :
    (∀ j u, (elP.row (L.take k))[j]? = some u → w.cell? ⟨g, j, none⟩ = some u) ∧ (∀ j u, (elP.row (L.drop k))[j]? = some u → w.cell? ⟨g, k * 3 + j, none⟩ = some u) := by
  obtain ⟨_, _, hr⟩ := own_reads h
  have hr := hr _ rfl
  have hall : ∀ j u, (elP.row L)[j]? = some u → w.cell? ⟨g, j, none⟩ = some u := fun j u hu => by
    have := hr j u hu
    rwa [Addr.add_lit, Nat.zero_add] at this
  refine ⟨fun j u hu => hall j u ?_, fun j u hu => hall _ u ?_⟩
  · have hlt := (List.getElem?_eq_some_iff.1 hu).1
    rw [← List.take_append_drop k L, El.row_append, List.getElem?_append_left hlt]
    exact hu
  · rw [El.row_drop, List.getElem?_drop] at hu
    exact hu

def cellsP (m : P10) : Array Value := #[.string m.1, .string m.2.1, .int .i64 m.2.2]
theorem new_pair (w : World) (m : P10) : ∀ j u, (elP.row [m])[j]? = some u → (w.alloc (.cells (cellsP m) 80)).cell? (({ block := w.heap.size, off := 0, spot := none } : Addr).add j) = some u := by
  rw [El.row_one]
  exact cells_new w 80 (elP.cl m)

/-- 'append(append(append(nil, L[:k]...), m), L[k:]...)' after the block of m, or before. -/
theorem rins {w w0 : World} {A A2 : Option Addr} {c c2 k n : Nat} {L : List P10} (m : P10) (hk : k ≤ L.length) (hL : L.length ≤ 100000) (hn : n = L.length - k) (g0 : w.grownBy w0 none)
    (hA : A = none → L.take k = []) (hA2 : A2 = none → L.drop k = []) (hr : ∀ a, A = some a → ∀ j u, (elP.row (L.take k))[j]? = some u → w.cell? (a.add j) = some u) (hr2' : ∀ a, A2 = some a → ∀ j u, (elP.row (L.drop k))[j]? = some u → w.cell? (a.add j) = some u) :
    ∃ v1 w1, (∀ ty, (Builtin.append_ #[27, 27] ty #[.slice none 0 0, .slice A k c]).run Tryz.prog w0 = .ok v1 w1) ∧ w0.grownBy w1 none ∧
      ∀ (w1a : World) (a : Addr), w1.grownBy w1a none → (∀ j u, (elP.row [m])[j]? = some u → w1a.cell? (a.add j) = some u) →
        ∃ v2 w2, (∀ ty, (Builtin.append_ #[27, 27] ty #[v1, .slice (some a) 1 1]).run Tryz.prog w1a = .ok v2 w2) ∧ w.grownBy w2 none ∧
          ∃ A3 n3 c3 w3, (∀ ty, (Builtin.append_ #[27, 27] ty #[v2, .slice A2 n c2]).run Tryz.prog w2 = .ok (.slice A3 n3 c3) w3) ∧ w.grownBy w3 none ∧ Own elP w3 w.heap.size 80 (.slice A3 n3 c3) (L.take k ++ [m] ++ L.drop k) := by
  have ht : (L.take k).length = k := by rw [List.length_take]; omega
  have hd : (L.drop k).length = L.length - k := List.length_drop
  have app := fun (w : World) (v : Value) (b : Nat) (L M : List P10) hown A c hA hM hn hbase m hm => app_own (P := Tryz.prog) elP 27 80 _ 40 under_pairs10 info_pair10 rfl w b v L M hown A c hA hM (by unfold maxLen; have : L.length + M.length ≤ 100001 := hn; omega) (by have : L.length + M.length ≤ 100001 := hn; omega) hbase m hm
  obtain ⟨v1, w1, hr1, R1, g1, _⟩ := app w0 (.slice none 0 0) w.heap.size [] (L.take k) (World.ownsRow_nil _ _ _ _) A c hA (fun a ha j u hu => g0.cell (hr a ha j u hu) (by simp)) (by simp; omega) g0.size k ht.symm
  rw [List.nil_append] at R1
  have g1 : w0.grownBy w1 none := g1
  have g01 := gnone g0 g1
  refine ⟨v1, w1, hr1, g1, fun w1a a ga hnew => ?_⟩
  have R1a : Own elP w1a w.heap.size 80 v1 (L.take k) := R1.below (below_g ga)
  obtain ⟨v2, w2, hr2, R2, g2, _⟩ := app w1a v1 w.heap.size (L.take k) [m] R1a (some a) 1 (fun h => by cases h) (fun a' ha j u hu => by cases ha; exact hnew j u hu) (by simp; omega) (gnone g01 ga).size 1 rfl
  have g02 : w.grownBy w2 none := grow_k (gnone g01 ga) R1a (Nat.le_refl _) g2
  refine ⟨v2, w2, hr2, g02, ?_⟩
  obtain ⟨v3, w3, hr3, R3, g3, _⟩ := app w2 v2 w.heap.size (L.take k ++ [m]) (L.drop k) R2 A2 c2 hA2 (fun a' ha j u hu => g02.cell (hr2' a' ha j u hu) (by simp)) (by simp; omega) g02.size n (by rw [hd]; exact hn)
  have g03 : w.grownBy w3 none := grow_k g02 R2 (Nat.le_refl _) g3
  obtain ⟨A3, c3, rfl⟩ := R3.slice
  exact ⟨A3, _, c3, w3, hr3, g03, R3⟩
end Go.Proofs.YtmagkkkecihgmaaGreat
