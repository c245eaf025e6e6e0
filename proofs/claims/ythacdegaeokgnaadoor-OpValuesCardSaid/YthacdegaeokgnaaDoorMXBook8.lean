/-
  The book of lists, vectors: do all bear their marks?
-/
import Derived.Test.YthacdegaeokgnaaDoorMXBook7
namespace Go.Proofs.YthacdegaeokgnaaDoor
open Go.RowKit

theorem cell_lt {w : World} {g o : Nat} {v : Value} (h : w.cell? ⟨g, o, none⟩ = some v) : g < w.heap.size := by
  unfold World.cell? at h
  refine Nat.lt_of_not_le fun hge => ?_
  rw [Array.getElem?_eq_none hge] at h
  simp at h

end Go.Proofs.YthacdegaeokgnaaDoor
