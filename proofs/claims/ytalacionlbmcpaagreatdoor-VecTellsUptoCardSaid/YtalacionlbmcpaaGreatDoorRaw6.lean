/-
  Walks over package raw, part 6: Sum.
-/
import Derived.Test.YtalacionlbmcpaaGreatDoorRows
import Derived.Test.YtalacionlbmcpaaGreatDoorLib
import Derived.Lib.LaidTab
namespace Go.Proofs.YtalacionlbmcpaaGreatDoor
open Go.RowKit

/-- What four of a sum's eight steps make of four bits. -/
def halvesL : List Int := [0, 274646895, 549293790, 820201905, 1098587580, 1361435347, 1640403810, 1905808397, 2197175160, 2460548119, 2722870694, 2987750089, 3280807620, 3553878443, 3811616794, 4084100981]

def halfN (i : Nat) : Nat := (halvesL.getD i 0).toNat
theorem halfN_lt : ∀ i < 16, halvesL.getD i 0 = (halfN i : Int) ∧ halfN i < 4294967296 := by decide

/-- Four bits of a sum. -/
def nib (b : Nat) : Nat := (b / 16) ^^^ halfN (b % 16)
theorem nib_lt (b : Nat) (hb : b < 4294967296) : nib b < 4294967296 := by
  have h1 := (halfN_lt (b % 16) (by omega)).2
  exact Nat.xor_lt_two_pow (n := 32) (by omega) (by omega)

/-- A sum goes on by a byte. -/
def sumStep (a : Nat) (c : UInt8) : Nat := nib (nib (a ^^^ c.toNat))
theorem sumStep_lt (a : Nat) (c : UInt8) (ha : a < 4294967296) : sumStep a c < 4294967296 :=
  nib_lt _ (nib_lt _ (Nat.xor_lt_two_pow (n := 32) ha (by have := UInt8.toNat_lt c; omega)))

def sumL (l : List UInt8) : Nat := l.foldl sumStep 4294967295
theorem foldl_sum_lt (l : List UInt8) (a : Nat) (ha : a < 4294967296) : l.foldl sumStep a < 4294967296 := by
  induction l generalizing a with
  | nil => exact ha
  | cons c r ih => exact ih _ (sumStep_lt a c ha)
theorem sumL_lt (l : List UInt8) : sumL l < 4294967296 := foldl_sum_lt l _ (by decide)

theorem sum_snoc (s : ByteArray) (k : Nat) (h : k < s.size) : sumL (s.data.toList.take (k + 1)) = sumStep (sumL (s.data.toList.take k)) s[k] := by
  unfold sumL
  rw [List.take_succ_eq_append_getElem (by simpa using h), List.foldl_append]
  rfl

theorem nib_walk (b : Nat) (hb : b < 4294967296) : bits .and .u32 (b : Int) 15 = ((b % 16 : Nat) : Int) ∧ bits .xor .u32 ((b : Int) / 16) (halvesL.getD (b % 16) 0) = (nib b : Int) := by
  have h1 := halfN_lt (b % 16) (by omega)
  constructor
  · have := u32_and_nat b 15 hb (by decide)
    rw [show b &&& 15 = b % 16 from Nat.and_two_pow_sub_one_eq_mod b 4] at this
    exact this
  · rw [h1.1, show (b : Int) / 16 = ((b / 16 : Nat) : Int) from by omega, u32_xor_nat _ _ (by omega) h1.2]
    rfl

/-- The check sum of some bytes. -/
def crc (l : List UInt8) : Nat := 4294967295 - sumL l

end Go.Proofs.YtalacionlbmcpaaGreatDoor
