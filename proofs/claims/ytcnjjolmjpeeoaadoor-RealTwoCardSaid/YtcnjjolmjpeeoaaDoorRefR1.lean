/-
  Walks over the document's own answer to chapter 2: key, Compare, Same, Max, Min, Put, Ratio.
-/
import Derived.Test.YtcnjjolmjpeeoaaDoorReal2
import Derived.Test.YtcnjjolmjpeeoaaDoorReal5
import Derived.Test.YtcnjjolmjpeeoaaDoorReal9
import Derived.Test.YtcnjjolmjpeeoaaDoorRef1
namespace Go.Proofs.YtcnjjolmjpeeoaaDoor
open Go.RowKit

/-! ### Put -/
theorem be_cat (m : Nat) : ∀ (n v : Nat), be v (n + m) = be (v / 2 ^ (8 * m)) n ++ be v m
  | 0, v => by simp [be]
  | n + 1, v => by
    rw [show n + 1 + m = (n + m) + 1 from by omega, be_succ, be_succ, be_cat m n v, List.cons_append, Nat.div_div_eq_div_mul, ← Nat.pow_add]
    congr 6
    omega
theorem be_half (v : Nat) : be v 8 = be (v / 4294967296) 4 ++ be (v % 4294967296) 4 := by
  have h := be_cat 4 4 v
  have h2 := be_mod v 4
  rw [show (2 : Nat) ^ (8 * 4) = 4294967296 from by decide] at h h2
  rw [← h2]
  exact h

end Go.Proofs.YtcnjjolmjpeeoaaDoor
