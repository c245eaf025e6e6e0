/-
  Walks over the document's own answer to chapter 1: Number.
-/
import Derived.Test.YtcnjjolmjpeeoaaDoorRaw13
namespace Go.Proofs.YtcnjjolmjpeeoaaDoor
open Go.RowKit

def NumPost (w : World) (g : Option Int) (e : Ending) (w' : World) : Prop := e = .returned (.tuple #[.int .i64 (g.getD 0), .int .i64 (if g.isSome then 0 else 4)]) ∧ Below w.heap.size w w'

theorem headD_at (s : ByteArray) (h : 0 < s.size) : s.data.toList.headD 0 = s[0] := by
  have hd : s.data.toList = s[0] :: s.data.toList.drop 1 := by
    have := List.drop_eq_getElem_cons (l := s.data.toList) (i := 0) (by simpa using h)
    rw [List.drop_zero] at this
    exact this
  rw [hd]
  rfl


end Go.Proofs.YtcnjjolmjpeeoaaDoor
