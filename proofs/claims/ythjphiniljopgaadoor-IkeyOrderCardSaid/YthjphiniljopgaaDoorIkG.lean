/-
  What Get tells of bytes (chapter 5).
-/
import Derived.Test.YthjphiniljopgaaDoorIkL
import Derived.Test.YthjphiniljopgaaDoorVec2
namespace Go.Proofs.YthjphiniljopgaaDoor
open Go.RowKit

/-- What Get tells of bytes. -/
def GetIs (w w' : World) (l : List UInt8) (e : Ending) : Prop :=
  (∃ key A c o x xs, OkV key.data.toList xs o x ∧ l = putVL key.data.toList xs o x ∧ e = .returned (.tuple #[verV key A xs.length c o x 0 0 0 ByteArray.empty, .int .i64 0]) ∧ Nums w' w.heap.size 3 (.slice A xs.length c) xs) ∨
  ((∀ (key : ByteArray) (xs : List Int) (o x : Int), OkV key.data.toList xs o x → l ≠ putVL key.data.toList xs o x) ∧ e = .returned (.tuple #[verV ByteArray.empty none 0 0 0 0 0 0 0 ByteArray.empty, .int .i64 4]))
end Go.Proofs.YthjphiniljopgaaDoor
