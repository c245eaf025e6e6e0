/-
  The check sum, without the program: one byte changed changes it.
-/
import Derived.Test.YtkjfhgaiakienaaDoorRaw6
namespace Go.Proofs.YtkjfhgaiakienaaDoor
open Go.RowKit

/-! ### One byte changed changes the sum -/
theorem half_top : ∀ i < 16, halfN i / 268435456 = i := by decide
theorem nib_top (b : Nat) (hb : b < 4294967296) : nib b / 268435456 = b % 16 := by
  have h1 := half_top (b % 16) (by omega)
  have e : ∀ x : Nat, x / 268435456 = x >>> 28 := fun x => (Nat.shiftRight_eq_div_pow x 28).symm
  unfold nib
  rw [e] at h1 ⊢
  rw [Nat.shiftRight_xor_distrib, h1, Nat.shiftRight_eq_div_pow, show b / 16 / 2 ^ 28 = 0 from by omega, Nat.zero_xor]
theorem xor_cancel (a b c : Nat) (h : a ^^^ c = b ^^^ c) : a = b := by
  have := congrArg (· ^^^ c) h
  simp only [Nat.xor_assoc, Nat.xor_self, Nat.xor_zero] at this
  exact this
theorem nib_inj (b c : Nat) (hb : b < 4294967296) (hc : c < 4294967296) (h : nib b = nib c) : b = c := by
  have h1 := nib_top b hb
  have h2 := nib_top c hc
  rw [h, h2] at h1
  unfold nib at h
  rw [h1] at h
  have h3 := xor_cancel _ _ _ h
  omega
theorem xor_byte_lt (a : Nat) (c : UInt8) (ha : a < 4294967296) : a ^^^ c.toNat < 4294967296 := Nat.xor_lt_two_pow (n := 32) ha (by have := UInt8.toNat_lt c; omega)
theorem step_inj (a b : Nat) (c : UInt8) (ha : a < 4294967296) (hb : b < 4294967296) (h : sumStep a c = sumStep b c) : a = b := by
  have h1 := xor_byte_lt a c ha
  have h2 := xor_byte_lt b c hb
  exact xor_cancel _ _ _ (nib_inj _ _ h1 h2 (nib_inj _ _ (nib_lt _ h1) (nib_lt _ h2) h))
theorem step_inj_byte (a : Nat) (c d : UInt8) (ha : a < 4294967296) (h : sumStep a c = sumStep a d) : c = d := by
  have h1 := xor_byte_lt a c ha
  have h2 := xor_byte_lt a d ha
  have h3 := nib_inj _ _ h1 h2 (nib_inj _ _ (nib_lt _ h1) (nib_lt _ h2) h)
  rw [Nat.xor_comm a, Nat.xor_comm a] at h3
  exact UInt8.toNat_inj.1 (xor_cancel _ _ _ h3)
theorem foldl_inj (l : List UInt8) : ∀ a b, a < 4294967296 → b < 4294967296 → l.foldl sumStep a = l.foldl sumStep b → a = b := by
  induction l with
  | nil => intro a b _ _ h; exact h
  | cons c r ih => intro a b ha hb h; exact step_inj a b c ha hb (ih _ _ (sumStep_lt a c ha) (sumStep_lt b c hb) h)

theorem crc_changed (l : List UInt8) (k : Nat) (hk : k < l.length) (d : UInt8) (hd : l[k] ≠ d) : crc l ≠ crc (l.set k d) := by
  intro h
  have h1 := sumL_lt l
  have h2 := sumL_lt (l.set k d)
  have h3 : sumL l = sumL (l.set k d) := by unfold crc at h; omega
  have e1 : l = l.take k ++ l[k] :: l.drop (k + 1) := by rw [List.getElem_cons_drop, List.take_append_drop]
  have e2 : l.set k d = l.take k ++ d :: l.drop (k + 1) := List.set_eq_take_append_cons_drop.trans (by rw [if_pos hk])
  rw [e2] at h3
  conv at h3 => lhs; rw [e1]
  unfold sumL at h3
  rw [List.foldl_append, List.foldl_append, List.foldl_cons, List.foldl_cons] at h3
  have hp := foldl_sum_lt (l.take k) 4294967295 (by decide)
  have h4 := foldl_inj _ _ _ (sumStep_lt _ _ hp) (sumStep_lt _ _ hp) h3
  exact hd (step_inj_byte _ _ _ hp h4)

theorem ofInt_u8 (a : Nat) (ha : a < 256) : (BitVec.ofInt 8 (a : Int)).toNat = a := by
  rw [BitVec.ofInt_natCast, BitVec.toNat_ofNat]; exact Nat.mod_eq_of_lt (by omega)
theorem u8_xor (a : Nat) (ha : a < 256) (b : Nat) (hb : b < 256) : bits .xor .u8 (a : Int) (b : Int) = ((a ^^^ b : Nat) : Int) := by
  have hx : a ^^^ b < 2 ^ 8 := Nat.xor_lt_two_pow (by omega) (by omega)
  show IntKind.u8.wrap ((BitVec.ofInt 8 (a : Int) ^^^ BitVec.ofInt 8 (b : Int)).toNat : Int) = _
  rw [BitVec.toNat_xor, ofInt_u8 a ha, ofInt_u8 b hb, IntKind.wrap_u8]
  omega
end Go.Proofs.YtkjfhgaiakienaaDoor
