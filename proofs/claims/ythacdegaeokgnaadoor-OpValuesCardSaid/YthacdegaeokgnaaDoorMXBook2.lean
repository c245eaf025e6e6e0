/-
  The book of lists, vectors: copies, marks, are two alike?
-/
import Derived.Test.YthacdegaeokgnaaDoorM8
namespace Go.Proofs.YthacdegaeokgnaaDoor
open Go.RowKit

/-- The marks of list i, from a place on. -/
def markV (i start n : Nat) : List Int := (List.range n).map fun k => -1000000 * (i : Int) - ((start + k : Nat) : Int) - 9
theorem markV_length (i start n : Nat) : (markV i start n).length = n := by simp [markV]
theorem markV_succ (i start n : Nat) : markV i start (n + 1) = markV i start n ++ [-1000000 * (i : Int) - ((start + n : Nat) : Int) - 9] := by
  unfold markV
  rw [List.range_succ, List.map_append]
  rfl
theorem markV_append (i start n m : Nat) : markV i start n ++ markV i (start + n) m = markV i start (n + m) := by
  induction m with
  | zero => simp [markV]
  | succ m ih => rw [markV_succ, ← List.append_assoc, ih, ← Nat.add_assoc, markV_succ, Nat.add_assoc]
theorem markV_wf (i start n : Nat) (hi : i ≤ 1000) (hn : start + n ≤ 1000000) : ∀ z ∈ markV i start n, (Lit.int .i64 z).wf = true := by
  intro z hz
  unfold markV at hz
  obtain ⟨k, hk, rfl⟩ := List.mem_map.1 hz
  have := List.mem_range.1 hk
  exact WalkArith.wf_i64 ⟨by omega, by omega⟩

end Go.Proofs.YthacdegaeokgnaaDoor
