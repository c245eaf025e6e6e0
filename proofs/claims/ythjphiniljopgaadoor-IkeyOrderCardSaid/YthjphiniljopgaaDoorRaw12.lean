/-
  Walks over package raw: Get, Number.
-/
import Derived.Test.YthjphiniljopgaaDoorRaw3
import Derived.Test.YthjphiniljopgaaDoorRaw9
import Derived.Test.YthjphiniljopgaaDoorShelf
import Derived.Lib.Strings
namespace Go.Proofs.YthjphiniljopgaaDoor
open Go.RowKit

/-! ### Get -/
def getL (l : List UInt8) : Nat := l.foldl (fun a c => a * 256 + c.toNat) 0
theorem getL_snoc (s : ByteArray) (k : Nat) (h : k < s.size) : getL (s.data.toList.take (k + 1)) = getL (s.data.toList.take k) * 256 + s[k].toNat := by
  unfold getL
  rw [List.take_succ_eq_append_getElem (by simpa using h), List.foldl_append]
  rfl

set_option maxRecDepth 100000 in
set_option maxHeartbeats 1000000 in
theorem get_bad (s : ByteArray) (w : World) (h : s.size < 1 ∨ 7 < s.size) :
    Calls Tryd.prog 41 #[.string s] w fun e w' => e = .returned (.tuple #[.int .i64 0, .int .i64 1]) ∧ w = w' := by
  by_cases h1 : s.size < 1
  · have h2 : decide (7 < (s.size : Int)) = false := decide_eq_false (by omega)
    clear h
    go_enter Tryd.func41, Tryd.ntmps41
    go_wp2
    go_ret2
    exact ⟨rfl, rfl⟩
  · have h2 : 7 < s.size := by omega
    clear h
    go_enter Tryd.func41, Tryd.ntmps41
    go_wp2
    go_ret2
    exact ⟨rfl, rfl⟩

set_option maxRecDepth 100000 in
set_option maxHeartbeats 1000000 in
theorem get_ok (s : ByteArray) (w : World) (h1 : 1 ≤ s.size) (h7 : s.size ≤ 7) :
    Calls Tryd.prog 41 #[.string s] w fun e w' => e = .returned (.tuple #[.int .i64 (getL s.data.toList : Int), .int .i64 0]) ∧ w = w' := by
  go_enter Tryd.func41, Tryd.ntmps41
  go_wp2
  go_loop [4, 16] (fun v i => ∃ k a : Nat, k ≤ s.size ∧ i = .int .i64 (k : Int) ∧ v = .int .i64 (a : Int) ∧ a < 2 ^ (8 * k) ∧ Hid (a = getL (s.data.toList.take k))) (fun _ i => s.size - (intOf i).toNat)
  case atStart => exact ⟨0, 0, by omega, rfl, rfl, by decide, rfl⟩
  case round =>
    obtain ⟨k, a, hk, rfl, rfl, ha, Ha⟩ := hrel
    by_cases hl : k < s.size
    · have hb8 := UInt8.toNat_lt s[k]
      have h56 : (2 : Nat) ^ (8 * k) ≤ 2 ^ 48 := Nat.pow_le_pow_right (by decide) (by omega)
      have ha48 : a < 281474976710656 := by omega
      have ho : bits .or .i64 ((a : Int) * 256) (s[k].toNat : Int) = ((a * 256 + s[k].toNat : Nat) : Int) := by
        have h1 := i64_or_nat (a * 256) s[k].toNat (by omega) (by omega)
        have h2 : a * 256 ||| s[k].toNat = a * 256 + s[k].toNat := by
          have := Nat.two_pow_add_eq_or_of_lt (i := 8) (b := s[k].toNat) (by omega) a
          rw [show 2 ^ 8 * a = a * 256 from by omega] at this
          exact this.symm
        rw [h2] at h1
        exact h1
      have hlt : a * 256 + s[k].toNat < 2 ^ (8 * (k + 1)) := by
        have : 2 ^ (8 * (k + 1)) = 2 ^ (8 * k) * 256 := by rw [Nat.mul_add, Nat.pow_add]
        omega
      have hsn := getL_snoc s k hl
      rw [← Ha.out] at hsn
      obtain ⟨x, hx⟩ : ∃ x, x = a * 256 + s[k].toNat := ⟨_, rfl⟩
      rw [← hx] at ho hlt hsn
      have Hsn := Lib.hid hsn
      have Hlt := Lib.hid hlt
      clear hsn hlt hx ha h56
      go_wp2
      go_round
      case rel => exact ⟨k + 1, x, by omega, by go_num, rfl, Hlt.out, Hsn.out.symm⟩
      case measure => simp [intOf]; omega
    · obtain rfl : k = s.size := by omega
      have hae : a = getL s.data.toList := by
        have := Ha.out
        rwa [List.take_of_length_le (by simp)] at this
      have Hae := Lib.hid hae
      clear hae
      go_wp2
      go_ret2
      exact ⟨by rw [← Hae.out]; rfl, rfl⟩

/-! ### Number -/
def digs : List UInt8 → Nat → Option Nat
  | [], a => some a
  | c :: r, a => if 48 ≤ c.toNat ∧ c.toNat ≤ 57 then digs r (a * 10 + (c.toNat - 48)) else none
def natL (l : List UInt8) : Option Nat := if l.length < 1 ∨ 16 < l.length ∨ (l.headD 0).toNat = 48 then none else digs l 0

def NatPost (w : World) : Option Nat → Ending → World → Prop
  | some v, e, w' => e = .returned (.int .i64 (v : Int)) ∧ w = w'
  | none, e, w' => e = .panicked [{ v := .iface 29 (.int .i64 4), recovered := false }] ∧ w = w'

end Go.Proofs.YthjphiniljopgaaDoor
