/-
  Walks over package real, part 9: Ratio.
-/
import Derived.Test.YtcnjjolmjpeeoaaDoorReal1
import Derived.Test.YtcnjjolmjpeeoaaDoorF64d
namespace Go.Proofs.YtcnjjolmjpeeoaaDoor
open Go.RowKit

/-- The NaN that the model's tape gives where a quotient is none. -/
def tapeNan (w : World) (x y : Nat) : Nat := (Question.nanBits .f64 x y).cut (w.tape w.drawn (.nanBits .f64 x y))
theorem tapeNan_is (w : World) (x y : Nat) : isN (tapeNan w x y) = true ∧ tapeNan w x y < 18446744073709551616 := by
  have e : tapeNan w x y = (w.tape w.drawn (.nanBits .f64 x y) % 2) * 2 ^ 63 + 0x7ff0000000000000 + 1 + (w.tape w.drawn (.nanBits .f64 x y) / 2) % (2 ^ 52 - 1) := rfl
  rw [e]
  generalize w.tape w.drawn (.nanBits .f64 x y) = t
  have h1 : t / 2 % (2 ^ 52 - 1) < 2 ^ 52 - 1 := Nat.mod_lt _ (by decide)
  generalize t / 2 % (2 ^ 52 - 1) = u at *
  unfold isN rung infR
  refine ⟨decide_eq_true ?_, ?_⟩ <;> omega
theorem run_quo_nan (x y : Nat) (h : floatBits .quo .f64 x y = none) (w : World) : (binOp .quo 24 (.float .f64 x) (.float .f64 y)).run Tryd.prog w = .ok (.float .f64 (tapeNan w x y)) w.drew := by
  have h : FloatKind.f64.format.div x y = none := h
  simp [binOp, Op.floatArith, h, Question.forced]
  rfl

def RatP (w : World) (g : Option Nat) (e : Ending) (w' : World) : Prop :=
  match g with
  | some r => e = .returned (.float .f64 r) ∧ w = w'
  | none => ∃ z, e = .returned (.float .f64 z) ∧ Hid (isN z = true) ∧ z < 18446744073709551616 ∧ Below w.heap.size w w'

end Go.Proofs.YtcnjjolmjpeeoaaDoor
