/-
  SkipPlays, part 1: package skip's list beside what other calls turn.
-/
import Derived.Test.YtmagkkkecihgmaaGreatSp13
import Derived.Test.YtmagkkkecihgmaaGreatSk8
namespace Go.Proofs.YtmagkkkecihgmaaGreat
open Go.RowKit

section
variable {B p : Nat} {w w' : World} {s : S10} {Z : List Z10}
/-- Of what types the blocks of a list are. -/
theorem SkZ.typ (h : SkZ B p w s Z) (k : Nat) (hk : Foot p Z k) : ∃ cs t, Blk w k t cs ∧ (t = 36 ∨ t = 33) := by
  rcases hk with rfl | ⟨m, hm, rfl⟩
  · obtain ⟨cs, h1⟩ := h.at_.hd.ty
    exact ⟨cs, _, h1, Or.inl rfl⟩
  · obtain ⟨i, hi⟩ := List.mem_iff_getElem?.1 hm
    obtain ⟨cs, h1⟩ := (h.at_.nd i m hi).ty
    exact ⟨cs, _, h1, Or.inr rfl⟩
/-- A call that turns no such block leaves a list as it is. -/
theorem SkZ.tn (h : SkZ B p w s Z) {B' : Nat} {T : Obj → Bool} (g : Tn B' T w w') (hT : ∀ t cs fr, (t = 36 ∨ t = 33) → T (.cells cs t fr) = false) : SkZ B p w' s Z := by
  refine h.tu (S := fun k => w'.heap[k]? ≠ w.heap[k]?) ⟨g.os, g.tape, g.output, g.size, fun k _ hS => Classical.byContradiction hS⟩ fun k hk hS => ?_
  obtain ⟨cs, t, h1, h2⟩ := h.typ k hk
  exact hS ((g.block k _ h1 (Or.inr (hT t cs (0, 0) h2))).trans h1.symm)
/-- What Put turns, by the types of the blocks. -/
theorem SkZ.put_tn (h : SkZ B p w s Z) (g : Tu (Foot p Z) w w') : Tn B (twoT 36 33) w w' :=
  g.tn fun k hk _ => by
    obtain ⟨cs, t, h1, h2⟩ := h.typ k hk
    refine ⟨(h.at_.foot_lt hk).1, _, h1, ?_⟩
    rcases h2 with rfl | rfl <;> rfl
end
end Go.Proofs.YtmagkkkecihgmaaGreat
