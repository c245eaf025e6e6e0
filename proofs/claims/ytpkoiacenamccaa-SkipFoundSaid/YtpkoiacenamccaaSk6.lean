/-
  The document's own list of chapter 10, part 6: From.
-/
import Derived.Test.YtpkoiacenamccaaSk2
import Derived.Test.YtpkoiacenamccaaBkKeys1
namespace Go.Proofs.Ytpkoiacenamccaa
open Go.RowKit

def pairsOf (L : List P10) (pl : Nat) : List (ByteArray × ByteArray) := (L.drop pl).map fun m => (m.1, m.2.1)
/-- What From answers. -/
def fromL (L : List P10) (key : ByteArray) (most : Int) : List (ByteArray × ByteArray) :=
  if most < 0 then pairsOf L (placeL L key) else (pairsOf L (placeL L key)).take most.toNat
theorem pairsOf_length (L : List P10) (pl : Nat) : (pairsOf L pl).length = L.length - pl := by simp [pairsOf]
theorem pairsOf_take (L : List P10) (pl q k : Nat) (m : P10) (hk : k = pl + q) (hm : L[k]? = some m) : (pairsOf L pl).take q ++ [(m.1, m.2.1)] = (pairsOf L pl).take (q + 1) := by
  have h : (pairsOf L pl)[q]? = some (m.1, m.2.1) := by
    unfold pairsOf
    rw [List.getElem?_map, List.getElem?_drop, ← hk, hm]
    rfl
  have hlt := (List.getElem?_eq_some_iff.1 h).1
  rw [List.take_succ_eq_append_getElem hlt, (List.getElem?_eq_some_iff.1 h).2]

end Go.Proofs.Ytpkoiacenamccaa
