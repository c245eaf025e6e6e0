/-
  Walks over package vec, part 1: Leq, Same, isCount, Valid.
-/
import Derived.Test.YtmagkkkecihgmaaGreatRows
import Derived.Test.YtmagkkkecihgmaaGreatLib
import Derived.Test.YtmagkkkecihgmaaGreatView
import Derived.Deep.QuietTactic
import Derived.BigQuiet
namespace Go.Proofs.YtmagkkkecihgmaaGreat
open Go.RowKit

/-- Is no time of xs above that of ys? -/
def leqL (xs ys : List Int) : Bool := decide (xs.length = ys.length ∧ ∀ j, j < xs.length → xs.getD j 0 ≤ ys.getD j 0)

theorem IntsIn.drewN {w : World} {A : Option Addr} {n : Nat} {zs : List Int} (h : IntsIn w A n zs) (q : Nat) : IntsIn (w.drewN q) A n zs := ⟨h.len, h.max, h.some, h.wf⟩
theorem drewN_zero (w : World) : w = w.drewN 0 := rfl
theorem drewN_more {w w1 : World} {q : Nat} (h : w1 = w.drewN q) (p : Nat) : ∃ r, w1.drewN p = w.drewN r := ⟨q + p, by rw [h, World.drewN_drewN]⟩

theorem list_ext_getD {xs ys : List Int} (h : xs.length = ys.length) (he : ∀ j, j < xs.length → xs.getD j 0 = ys.getD j 0) : xs = ys := by
  refine List.ext_getElem h fun j h1 h2 => ?_
  have := he j h1
  rwa [List.getD_eq_getElem?_getD, List.getD_eq_getElem?_getD, List.getElem?_eq_getElem h1, List.getElem?_eq_getElem h2] at this

/-- Is it a vector? -/
def validL (xs : List Int) : Bool := decide ((1 ≤ xs.length ∧ xs.length ≤ 8) ∧ ∀ j, j < xs.length → 0 ≤ xs.getD j 0 ∧ xs.getD j 0 < 281474976710656)

end Go.Proofs.YtmagkkkecihgmaaGreat
