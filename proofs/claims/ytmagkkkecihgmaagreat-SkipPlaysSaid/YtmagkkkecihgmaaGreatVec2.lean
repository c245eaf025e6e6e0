/-
  Walks over package vec, part 2: slices of numbers that a call makes: Clone, With, each, Join, Meet.
-/
import Derived.Test.YtmagkkkecihgmaaGreatVec1
namespace Go.Proofs.YtmagkkkecihgmaaGreat
open Go.RowKit

theorem i64info : (Tryz.prog.info? 3).map (fun i => (i.zero, i.size, i.bytes)) = some (some (.int .i64 0), 1, 8) := by kernel_rfl

/-- v is a slice of the call's own (its block from B on) that holds the numbers zs. -/
def Nums (w : World) (B : Nat) (e : TypeId) (v : Value) (zs : List Int) : Prop := w.ownsRow B e 1 v zs.length (zs.map (Value.int .i64))

section
variable {w w' : World} {B : Nat} {e : TypeId} {v : Value} {zs : List Int}
theorem Nums.drewN (h : Nums w B e v zs) (n : Nat) : Nums (w.drewN n) B e v zs := h
theorem Nums.drew (h : Nums w B e v zs) : Nums w.drew B e v zs := h
theorem Nums.alloc (h : Nums w B e v zs) (o : Obj) : Nums (w.alloc o) B e v zs := World.ownsRow.alloc h o
theorem Nums.low (h : Nums w B e v zs) {B' : Nat} (hB : B' ≤ B) : Nums w B' e v zs := by
  refine ⟨h.1, ?_⟩
  rcases h.2 with hn | ⟨g, cap, cur, hv, hb, r⟩
  · exact Or.inl hn
  · exact Or.inr ⟨g, cap, cur, hv, Nat.le_trans hB hb, r⟩
theorem Nums.below (h : Nums w B e v zs) {B' : Nat} (hb : Below B' w w') (hB : w.heap.size ≤ B') : Nums w' B e v zs := by
  refine ⟨h.1, ?_⟩
  rcases h.2 with hn | ⟨g, cap, cur, hv, hg, hh, r⟩
  · exact Or.inl hn
  · exact Or.inr ⟨g, cap, cur, hv, hg, (hb.block g (Nat.lt_of_lt_of_le (Array.getElem?_eq_some_iff.1 hh).1 hB)).trans hh, r⟩
/-- As a slice that is read. -/
theorem Nums.ints (h : Nums w B e v zs) (hwf : ∀ z ∈ zs, (Lit.int .i64 z).wf = true) : ∃ A cp, v = .slice A zs.length cp ∧ IntsIn w A zs.length zs ∧ (0 < zs.length → ∃ g, A = some ⟨g, 0, none⟩ ∧ B ≤ g) := by
  rcases h.2 with ⟨rfl, hn⟩ | ⟨g, cap, cur, rfl, hb, hg, hc, hm, hs, ht⟩
  · exact ⟨none, 0, by rw [hn], ⟨rfl, by omega, fun h => by omega, hwf⟩, fun h => by omega⟩
  · refine ⟨some ⟨g, 0, none⟩, cap, rfl, ⟨rfl, by unfold maxLen at hm; omega, fun hn => ⟨g, 0, rfl, (Array.getElem?_eq_some_iff.1 hg).1, fun j hj => ?_⟩, hwf⟩, fun _ => ⟨g, rfl, hb⟩⟩
    have := World.ownsRow.cellAt (g := g) (cap := cap) h j (by omega)
    rw [Nat.zero_add, this]
    simp [List.getD, hj]
end

theorem wf_getD {zs : List Int} (h : ∀ z ∈ zs, (Lit.int .i64 z).wf = true) {j : Nat} (hj : j < zs.length) : (Lit.int .i64 (zs.getD j 0)).wf = true := by
  rw [List.getD_eq_getElem?_getD, List.getElem?_eq_getElem hj]
  exact h _ (List.getElem_mem _)

end Go.Proofs.YtmagkkkecihgmaaGreat
