/-
  The document's own list of chapter 10, part 5: Put into an empty list; Put.
-/
import Derived.Test.YtpkoiacenamccaaSk4
namespace Go.Proofs.Ytpkoiacenamccaa
open Go.RowKit

/-- What Put answers, and what the list is then. -/
def putL (s : S10) (key value : ByteArray) (ht : Int) : Int × S10 :=
  if s.frozen then (30, s) else if 65536 < key.size ∨ 65536 < value.size then (2, s) else if hasL s.L key then (23, s) else (0, { s with L := insL s.L (placeL s.L key) (key, value, clampH ht) })

end Go.Proofs.Ytpkoiacenamccaa
