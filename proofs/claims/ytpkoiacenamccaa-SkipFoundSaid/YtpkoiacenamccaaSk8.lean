/-
  The document's own list of chapter 10, part 8: Steps.
-/
import Derived.Test.YtpkoiacenamccaaSk7
namespace Go.Proofs.Ytpkoiacenamccaa
open Go.RowKit

/-- A lane, walked: a is one past the last pair that was stepped onto, c the steps. -/
def scanL (key : ByteArray) (h : Nat) : List P10 → Nat → Nat × Nat → Nat × Nat
  | [], _, st => st
  | m :: R, i, st => if m.2.2 ≤ (h : Int) then scanL key h R (i + 1) st else if 0 ≤ cmpT m.1 key then st else scanL key h R (i + 1) (i + 1, st.2 + 1)
def downL (L : List P10) (key : ByteArray) : Nat → Nat × Nat → Nat × Nat
  | 0, st => st
  | h + 1, st => downL L key h (scanL key h (L.drop st.1) st.1 st)
/-- What Steps answers. -/
def stepsL (L : List P10) (key : ByteArray) : Nat := (downL L key (hiL L) (0, 0)).2
theorem scanL_at (key : ByteArray) (h : Nat) (L : List P10) (i : Nat) (st : Nat × Nat) (m : P10) (hm : L[i]? = some m) :
    scanL key h (L.drop i) i st = if m.2.2 ≤ (h : Int) then scanL key h (L.drop (i + 1)) (i + 1) st else if 0 ≤ cmpT m.1 key then st else scanL key h (L.drop (i + 1)) (i + 1) (i + 1, st.2 + 1) := by
  have hi := (List.getElem?_eq_some_iff.1 hm).1
  rw [List.drop_eq_getElem_cons hi, (List.getElem?_eq_some_iff.1 hm).2]
  rfl
theorem hiL_le (L : List P10) : hiL L ≤ 12 := Nat.le_trans (List.takeWhile_sublist _).length_le (by simp)

end Go.Proofs.Ytpkoiacenamccaa
