/-
  The document's own list of chapter 10, part 4: Put.
-/
import Derived.Test.YtpkoiacenamccaaSk3
import Derived.Deep.DeepCutAuto
namespace Go.Proofs.Ytpkoiacenamccaa
open Go.RowKit

def clampH (h : Int) : Int := if h < 1 then 1 else if 12 < h then 12 else h
theorem clampH_in (h : Int) : 1 ≤ clampH h ∧ clampH h ≤ 12 := by
  unfold clampH
  split
  · omega
  · split <;> omega
/-- Whether the key is there. -/
def hasL (L : List P10) (key : ByteArray) : Bool :=
  match L[placeL L key]? with
  | some m => decide (m.1 = key)
  | none => false
def insL (L : List P10) (k : Nat) (m : P10) : List P10 := L.take k ++ [m] ++ L.drop k

end Go.Proofs.Ytpkoiacenamccaa
