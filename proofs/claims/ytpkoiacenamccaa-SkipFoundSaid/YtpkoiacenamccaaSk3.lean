/-
  The document's own list of chapter 10, part 3: Put.
-/
import Derived.Test.YtpkoiacenamccaaSk2
import Derived.Deep.AppendSrc
import Derived.Deep.Upon
import Derived.Deep.Onto
import Derived.Deep.RegionLaw
namespace Go.Proofs.Ytpkoiacenamccaa
open Go.RowKit

/-- Ends of a statement, met. -/
def MeetS (R : Act → World → Prop) : Exit → Act → World → Prop
  | .normal, a, w => R a w
  | _, _, _ => False
theorem wp_meetS {P : Program} {c : Code} {Q : Exit → Act → World → Prop} {a : Act} {w : World} {A1 A2 : Act} {W1 W2 : World} (h : ∀ R : Act → World → Prop, R A1 W1 → R A2 W2 → c.wp P (MeetS R) a w) (h1 : Q .normal A1 W1) (h2 : Q .normal A2 W2) : c.wp P Q a w :=
  Code.wp_mono (by
    intro e a w h
    cases e <;> first | (rcases h with ⟨rfl, rfl⟩ | ⟨rfl, rfl⟩; exact h1; exact h2) | exact h.elim) (h (fun a w => (a = A1 ∧ w = W1) ∨ (a = A2 ∧ w = W2)) (Or.inl ⟨rfl, rfl⟩) (Or.inr ⟨rfl, rfl⟩))

theorem sub_reads {w : World} {B e g n c : Nat} {L : List P10} (h : Own elP w B e (.slice (some ⟨g, 0, none⟩) n c) L) (k : Nat) :
    (∀ j u, (elP.row (L.take k))[j]? = some u → w.cell? ⟨g, j, none⟩ = some u) ∧ (∀ j u, (elP.row (L.drop k))[j]? = some u → w.cell? ⟨g, k * 3 + j, none⟩ = some u) := by
  obtain ⟨_, _, hr⟩ := own_reads h
  have hr := hr _ rfl
  have hall : ∀ j u, (elP.row L)[j]? = some u → w.cell? ⟨g, j, none⟩ = some u := fun j u hu => by
    have := hr j u hu
    rwa [Addr.add_lit, Nat.zero_add] at this
  refine ⟨fun j u hu => hall j u ?_, fun j u hu => hall _ u ?_⟩
  · have hlt := (List.getElem?_eq_some_iff.1 hu).1
    rw [← List.take_append_drop k L, El.row_append, List.getElem?_append_left hlt]
    exact hu
  · rw [El.row_drop, List.getElem?_drop] at hu
    exact hu

def cellsP (m : P10) : Array Value := #[.string m.1, .string m.2.1, .int .i64 m.2.2]
end Go.Proofs.Ytpkoiacenamccaa
