/-
  Walks over package raw: Number, with its deferred closure.
-/
import Derived.Test.YthjphiniljopgaaDoorRaw12
import Derived.Defers
import Derived.Recover
namespace Go.Proofs.YthjphiniljopgaaDoor
open Go.RowKit

def numL (l : List UInt8) : Option Int := if l = [48] then some 0 else (natL (Lib.trimPrefix l [45])).map fun (v : Nat) => if Lib.hasPrefix l [45] then -(v : Int) else (v : Int)

theorem digs_lt (l : List UInt8) : ∀ a v, digs l a = some v → v < (a + 1) * 10 ^ l.length := by
  induction l with
  | nil => intro a v h; injection h with h; subst h; simp
  | cons c r ih =>
    intro a v h
    rw [digs] at h
    split at h
    · have := ih _ _ h
      rw [List.length_cons, Nat.pow_succ]
      have h2 : (a * 10 + (c.toNat - 48) + 1) * 10 ^ r.length ≤ ((a + 1) * 10) * 10 ^ r.length := Nat.mul_le_mul_right _ (by omega)
      rw [Nat.mul_assoc, Nat.mul_comm 10] at h2
      omega
    · cases h
theorem natL_lt {l : List UInt8} {v : Nat} (h : natL l = some v) : v < 10000000000000000 := by
  unfold natL at h
  split at h
  · cases h
  · rename_i hn
    have := digs_lt l 0 v h
    have h2 : (10 : Nat) ^ l.length ≤ 10 ^ 16 := Nat.pow_le_pow_right (by decide) (by omega)
    omega

end Go.Proofs.YthjphiniljopgaaDoor
