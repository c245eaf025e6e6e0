/-
  The book of lists, Ints: marks, copies, are two alike? (Written by wip/gen/gen_bk.py.)
-/
import Derived.Test.YtpkoiacenamccaaBkN
import Derived.LoopTactic
import Derived.DeepKeys
namespace Go.Proofs.Ytpkoiacenamccaa
open Go.RowKit

def elInts : El (Int) := ⟨fun x => [.int .i64 x], 1, by decide, fun _ => rfl, fun x u hu => by simp at hu; subst hu; rfl, fun i k => -1000000 * (i : Int) - (k : Int) - 7⟩
def okInts (_x : Int) : Prop := True
theorem okmInts (i start n : Nat) : ∀ x ∈ elInts.marks i start n, okInts x := by
  intro x hx
  obtain ⟨k, _, rfl⟩ := List.mem_map.1 hx
  exact trivial
theorem infoInts : (Try.prog.info? 3).map (fun i => (i.zero, i.size, i.bytes)) = some (some (.int .i64 0), elInts.sz, 8) := by kernel_rfl
theorem underInts : Try.prog.underlying 33 = some (.slice 3) := by kernel_rfl
end Go.Proofs.Ytpkoiacenamccaa
