/-
  The book of lists, vectors: are they as they were?
-/
import Derived.Test.YthacdegaeokgnaaDoorMXBook3
namespace Go.Proofs.YthacdegaeokgnaaDoor
open Go.RowKit

/-- The lists L can be read, as Z. -/
def Seen (w : World) (L : List Value) (Z : List (List Int)) : Prop := L.length = Z.length ∧ ∀ i, i < L.length → ∃ A n c, L[i]? = some (.slice A n c) ∧ IntsIn w A n (Z.getD i [])
theorem Seen.drewN {w : World} {L : List Value} {Z : List (List Int)} (h : Seen w L Z) (q : Nat) : Seen (w.drewN q) L Z :=
  ⟨h.1, fun i hi => by obtain ⟨A, n, c, h1, h2⟩ := h.2 i hi; exact ⟨A, n, c, h1, h2.drewN q⟩⟩
theorem own_slice {w : World} {B : Nat} {e : TypeId} {v : Value} {n : Nat} {xs : List Value} (h : w.ownsRow B e 1 v n xs) : ∃ a c, v = .slice a n c := by
  rcases h.2 with ⟨rfl, rfl⟩ | ⟨g, cap, cur, rfl, _⟩ <;> exact ⟨_, _, rfl⟩
theorem own_cells {w : World} {B : Nat} {e : TypeId} {v : Value} {n : Nat} {xs : List Value} (h : w.ownsRow B e 1 v n xs) (hn : 0 < n) : ∃ g o c, v = .slice (some ⟨g, o, none⟩) n c ∧ B ≤ g ∧ ∀ j u, xs[j]? = some u → w.cell? ⟨g, o + j, none⟩ = some u := by
  rcases h.2 with ⟨rfl, h0⟩ | ⟨g, cap, cur, rfl, hb, _⟩
  · omega
  · exact ⟨g, 0, cap, rfl, hb, fun j u hj => by have := World.ownsRow.cells h (g := g) rfl j u hj; rwa [Addr.add_lit] at this⟩

end Go.Proofs.YthacdegaeokgnaaDoor
