/-
  Walks over package raw: Get, Number.
-/
import Derived.Test.YtkjfhgaiakienaaDoorRaw3
import Derived.Test.YtkjfhgaiakienaaDoorRaw9
import Derived.Test.YtkjfhgaiakienaaDoorShelf
import Derived.Lib.Strings
namespace Go.Proofs.YtkjfhgaiakienaaDoor
open Go.RowKit

/-! ### Get -/
def getL (l : List UInt8) : Nat := l.foldl (fun a c => a * 256 + c.toNat) 0
theorem getL_snoc (s : ByteArray) (k : Nat) (h : k < s.size) : getL (s.data.toList.take (k + 1)) = getL (s.data.toList.take k) * 256 + s[k].toNat := by
  unfold getL
  rw [List.take_succ_eq_append_getElem (by simpa using h), List.foldl_append]
  rfl

set_option maxRecDepth 100000 in
set_option maxHeartbeats 1000000 in
theorem get_bad (s : ByteArray) (w : World) (h : s.size < 1 ∨ 7 < s.size) :
    Calls Tryd.prog 13 #[.string s] w fun e w' => e = .returned (.tuple #[.int .i64 0, .int .i64 1]) ∧ w = w' := by
  by_cases h1 : s.size < 1
  · have h2 : decide (7 < (s.size : Int)) = false := decide_eq_false (by omega)
    clear h
    go_enter Tryd.func13, Tryd.ntmps13
    go_wp2
    go_ret2
    exact ⟨rfl, rfl⟩
  · have h2 : 7 < s.size := by omega
    clear h
    go_enter Tryd.func13, Tryd.ntmps13
    go_wp2
    go_ret2
    exact ⟨rfl, rfl⟩

set_option maxRecDepth 100000 in
set_option maxHeartbeats 1000000 in
theorem get_ok (s : ByteArray) (w : World) (h1 : 1 ≤ s.size) (h7 : s.size ≤ 7) :
    Calls Tryd.prog 13 #[.string s] w fun e w' => e = .returned (.tuple #[.int .i64 (getL s.data.toList : Int), .int .i64 0]) ∧ w = w' := by
  go_enter Tryd.func13, Tryd.ntmps13
  go_wp2
  go_loop [4, 16] (fun v i => ∃ k a : Nat, k ≤ s.size ∧ i = .int .i64 (k : Int) ∧ v = .int .i64 (a : Int) ∧ a < 2 ^ (8 * k) ∧ Hid (a = getL (s.data.toList.take k))) (fun _ i => s.size - (intOf i).toNat)
  case atStart => exact ⟨0, 0, by omega, rfl, rfl, by decide, rfl⟩
  case round =>
    obtain ⟨k, a, hk, rfl, rfl, ha, Ha⟩ := hrel
    by_cases hl : k < s.size
    · have hb8 := UInt8.toNat_lt s[k]
      have h56 : (2 : Nat) ^ (8 * k) ≤ 2 ^ 48 := Nat.pow_le_pow_right (by decide) (by omega)
      have ha48 : a < 281474976710656 := by omega
      have ho : bits .or .i64 ((a : Int) * 256) (s[k].toNat : Int) = ((a * 256 + s[k].toNat : Nat) : Int) := by
        have h1 := i64_or_nat (a * 256) s[k].toNat (by omega) (by omega)
        have h2 : a * 256 ||| s[k].toNat = a * 256 + s[k].toNat := by
          have := Nat.two_pow_add_eq_or_of_lt (i := 8) (b := s[k].toNat) (by omega) a
          rw [show 2 ^ 8 * a = a * 256 from by omega] at this
          exact this.symm
        rw [h2] at h1
        exact h1
      have hlt : a * 256 + s[k].toNat < 2 ^ (8 * (k + 1)) := by
        have : 2 ^ (8 * (k + 1)) = 2 ^ (8 * k) * 256 := by rw [Nat.mul_add, Nat.pow_add]
        omega
      have hsn := getL_snoc s k hl
      rw [← Ha.out] at hsn
      obtain ⟨x, hx⟩ : ∃ x, x = a * 256 + s[k].toNat := ⟨_, rfl⟩
      rw [← hx] at ho hlt hsn
      have Hsn := Lib.hid hsn
      have Hlt := Lib.hid hlt
      clear hsn hlt hx ha h56
      go_wp2
      go_round
      case rel => exact ⟨k + 1, x, by omega, by go_num, rfl, Hlt.out, Hsn.out.symm⟩
      case measure => simp [intOf]; omega
    · obtain rfl : k = s.size := by omega
      have hae : a = getL s.data.toList := by
        have := Ha.out
        rwa [List.take_of_length_le (by simp)] at this
      have Hae := Lib.hid hae
      clear hae
      go_wp2
      go_ret2
      exact ⟨by rw [← Hae.out]; rfl, rfl⟩

/-! ### Number -/
def digs : List UInt8 → Nat → Option Nat
  | [], a => some a
  | c :: r, a => if 48 ≤ c.toNat ∧ c.toNat ≤ 57 then digs r (a * 10 + (c.toNat - 48)) else none
def natL (l : List UInt8) : Option Nat := if l.length < 1 ∨ 16 < l.length ∨ (l.headD 0).toNat = 48 then none else digs l 0

def NatPost (w : World) : Option Nat → Ending → World → Prop
  | some v, e, w' => e = .returned (.int .i64 (v : Int)) ∧ w = w'
  | none, e, w' => e = .panicked [{ v := .iface 22 (.int .i64 4), recovered := false }] ∧ w = w'

set_option maxRecDepth 100000 in
set_option maxHeartbeats 2000000 in
theorem natural_any (s : ByteArray) (w : World) (hs : s.size ≤ 9223372036854775807) :
    Calls Tryd.prog 37 #[.string s] w fun e w' => NatPost w (natL s.data.toList) e w' := by
  have hlen : s.data.toList.length = s.size := rfl
  by_cases h1 : s.size < 1
  · have hn : natL s.data.toList = none := by unfold natL; rw [if_pos (by omega)]
    rw [hn]
    clear hn hlen
    go_enter Tryd.func37, Tryd.ntmps37
    go_wp2_with fail
    exact ⟨rfl, rfl, rfl⟩
  by_cases h2 : 16 < s.size
  · have hn : natL s.data.toList = none := by unfold natL; rw [if_pos (by omega)]
    rw [hn]
    clear hn hlen
    go_enter Tryd.func37, Tryd.ntmps37
    go_wp2_with fail
    exact ⟨rfl, rfl, rfl⟩
  have h0 : 0 < s.size := by omega
  have hhd : (s.data.toList.headD 0).toNat = s[0].toNat := by
    have hd : s.data.toList = s[0] :: s.data.toList.drop 1 := by
      have := List.drop_eq_getElem_cons (l := s.data.toList) (i := 0) (by simpa using h0)
      rw [List.drop_zero] at this
      exact this
    rw [hd]
    rfl
  by_cases h3 : s[0].toNat = 48
  · have hn : natL s.data.toList = none := by unfold natL; rw [if_pos (by omega)]
    have e3 : ((s[0].toNat : Int) == 48) = true := by rw [beq_iff_eq]; omega
    rw [hn]
    clear hn hlen hhd h3
    go_enter Tryd.func37, Tryd.ntmps37
    go_wp2_with fail
    exact ⟨rfl, rfl, rfl⟩
  obtain ⟨g, hg⟩ : ∃ g, g = natL s.data.toList := ⟨_, rfl⟩
  have hn : natL s.data.toList = digs s.data.toList 0 := by unfold natL; rw [if_neg (by omega)]
  have e3 : ((s[0].toNat : Int) == 48) = false := by rw [beq_eq_false_iff_ne]; omega
  rw [← hg]
  rw [hn] at hg
  have Hg := Lib.hid hg
  clear hg hn hlen hhd h3
  go_enter Tryd.func37, Tryd.ntmps37
  go_wp2_with fail
  go_loop [3, 21] (fun v i => ∃ k a : Nat, k ≤ s.size ∧ i = .int .i64 (k : Int) ∧ v = .int .i64 (a : Int) ∧ Hid (a < 10 ^ k) ∧ Hid (g = digs (s.data.toList.drop k) a)) (fun _ i => s.size - (intOf i).toNat)
  case atStart => exact ⟨0, 0, by omega, rfl, rfl, by show 0 < 10 ^ 0; decide, Hg⟩
  case round =>
    obtain ⟨k, a, hk, rfl, rfl, Ha, Hd⟩ := hrel
    by_cases hl : k < s.size
    · have hb8 := UInt8.toNat_lt s[k]
      have hdk : s.data.toList.drop k = s[k] :: s.data.toList.drop (k + 1) := List.drop_eq_getElem_cons (by simpa using hl)
      have h15 : (10 : Nat) ^ k ≤ 10 ^ 15 := Nat.pow_le_pow_right (by decide) (by omega)
      have ha15 : a < 1000000000000000 := by have := Ha.out; omega
      clear h15
      by_cases hc : 48 ≤ s[k].toNat ∧ s[k].toNat ≤ 57
      · have hgg : g = digs (s.data.toList.drop (k + 1)) (a * 10 + (s[k].toNat - 48)) := by rw [Hd.out, hdk, digs, if_pos hc]
        have D := fun W => Lib.hid (decimal_ok (s[k].toNat : Int) W (by omega) (by omega))
        obtain ⟨c, hcc⟩ : ∃ c, c = s[k].toNat - 48 := ⟨_, rfl⟩
        have hcs : ((s[k].toNat : Int) - 48) = (c : Int) := by omega
        have hc9 : c ≤ 9 := by omega
        rw [← hcc] at hgg
        rw [hcs] at D
        have Hgg := Lib.hid hgg
        clear hgg hdk hc hcc hcs
        go_wp2_with fail
        refine (D w).out.mono ?_
        rintro e w' ⟨rfl, rfl⟩
        go_wp2_with fail
        go_round
        case rel =>
          refine ⟨k + 1, a * 10 + c, by omega, by go_num, by go_num, ?_, Hgg⟩
          show _ < _
          have := Ha.out
          rw [Nat.pow_succ]
          omega
        case measure => simp [intOf]; omega
      · have hgg : g = none := by rw [Hd.out, hdk, digs, if_neg hc]
        have D := fun W => Lib.hid (decimal_no (s[k].toNat : Int) W (by omega))
        have Hgg := Lib.hid hgg
        clear hgg hdk hc
        go_wp2_with fail
        refine (D w).out.mono ?_
        rintro e w' ⟨rfl, rfl⟩
        refine ⟨rfl, ?_⟩
        rw [Hgg.out]
        exact ⟨rfl, rfl⟩
    · obtain rfl : k = s.size := by omega
      have hgg : g = some a := by rw [Hd.out, List.drop_of_length_le (by simp)]; rfl
      have Hgg := Lib.hid hgg
      clear hgg
      go_wp2_with fail
      go_ret
      rw [Hgg.out]
      exact ⟨rfl, rfl⟩
end Go.Proofs.YtkjfhgaiakienaaDoor
