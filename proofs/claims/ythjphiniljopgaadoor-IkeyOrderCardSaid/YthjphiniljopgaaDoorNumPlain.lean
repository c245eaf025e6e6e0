/-
  Digits, without the program: what is told in digits is read as it was.
-/
import Derived.Test.YthjphiniljopgaaDoorRaw13
import Derived.Test.YthjphiniljopgaaDoorRaw7
import Derived.Lib.ItoaNum
namespace Go.Proofs.YthjphiniljopgaaDoor
open Go.RowKit

theorem foldl_get (l : List UInt8) : ∀ a, l.foldl (fun a c => a * 256 + c.toNat) a = a * 256 ^ l.length + getL l := by
  induction l with
  | nil => intro a; simp [getL]
  | cons c r ih =>
    intro a
    unfold getL
    rw [List.foldl_cons, List.foldl_cons, ih, ih (0 * 256 + c.toNat), List.length_cons, Nat.pow_succ, Nat.add_mul, Nat.zero_mul, Nat.zero_add, Nat.mul_assoc, Nat.mul_comm 256]
    omega
theorem getL_cons (c : UInt8) (r : List UInt8) : getL (c :: r) = c.toNat * 256 ^ r.length + getL r := by
  have := foldl_get r (0 * 256 + c.toNat)
  rw [Nat.zero_mul, Nat.zero_add] at this
  unfold getL
  rw [List.foldl_cons, Nat.zero_mul, Nat.zero_add, this]
  rfl
theorem getL_be (n : Nat) : ∀ v, v < 2 ^ (8 * n) → getL (be v n) = v := by
  induction n with
  | zero => intro v hv; have hv : v < 1 := hv; obtain rfl : v = 0 := by omega
            rfl
  | succ n ih =>
    intro v hv
    have hp : 2 ^ (8 * (n + 1)) = 256 * 2 ^ (8 * n) := by rw [Nat.mul_add, Nat.pow_add, Nat.mul_comm]
    have hq : 256 ^ n = 2 ^ (8 * n) := by rw [show (256 : Nat) = 2 ^ 8 from rfl, ← Nat.pow_mul]
    have hv1 : v / 2 ^ (8 * n) < 256 := by rw [Nat.div_lt_iff_lt_mul (Nat.two_pow_pos _)]; omega
    rw [be_succ, getL_cons, be_length, hq, be_mod, ih _ (Nat.mod_lt _ (Nat.two_pow_pos _)), UInt8.toNat_ofNat', Nat.mod_mod, Nat.mod_eq_of_lt hv1, Nat.mul_comm]
    exact Nat.div_add_mod v _
end Go.Proofs.YthjphiniljopgaaDoor
