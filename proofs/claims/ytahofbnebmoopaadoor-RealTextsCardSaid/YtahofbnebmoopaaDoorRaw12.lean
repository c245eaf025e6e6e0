/-
  Walks over package raw: Get, Number.
-/
import Derived.Test.YtahofbnebmoopaaDoorRaw3
import Derived.Test.YtahofbnebmoopaaDoorRaw9
import Derived.Test.YtahofbnebmoopaaDoorShelf
import Derived.Lib.Strings
namespace Go.Proofs.YtahofbnebmoopaaDoor
open Go.RowKit

/-! ### Get -/
def getL (l : List UInt8) : Nat := l.foldl (fun a c => a * 256 + c.toNat) 0
theorem getL_snoc (s : ByteArray) (k : Nat) (h : k < s.size) : getL (s.data.toList.take (k + 1)) = getL (s.data.toList.take k) * 256 + s[k].toNat := by
  unfold getL
  rw [List.take_succ_eq_append_getElem (by simpa using h), List.foldl_append]
  rfl

/-! ### Number -/
def digs : List UInt8 → Nat → Option Nat
  | [], a => some a
  | c :: r, a => if 48 ≤ c.toNat ∧ c.toNat ≤ 57 then digs r (a * 10 + (c.toNat - 48)) else none
def natL (l : List UInt8) : Option Nat := if l.length < 1 ∨ 16 < l.length ∨ (l.headD 0).toNat = 48 then none else digs l 0

def NatPost (w : World) : Option Nat → Ending → World → Prop
  | some v, e, w' => e = .returned (.int .i64 (v : Int)) ∧ w = w'
  | none, e, w' => e = .panicked [{ v := .iface 31 (.int .i64 4), recovered := false }] ∧ w = w'

set_option maxRecDepth 100000 in
set_option maxHeartbeats 2000000 in
theorem natural_any (s : ByteArray) (w : World) (hs : s.size ≤ 9223372036854775807) :
    Calls Tryd.prog 93 #[.string s] w fun e w' => NatPost w (natL s.data.toList) e w' := by
  have hlen : s.data.toList.length = s.size := rfl
  by_cases h1 : s.size < 1
  · have hn : natL s.data.toList = none := by unfold natL; rw [if_pos (by omega)]
    rw [hn]
    clear hn hlen
    go_enter Tryd.func93, Tryd.ntmps93
    go_wp2_with fail
    exact ⟨rfl, rfl, rfl⟩
  by_cases h2 : 16 < s.size
  · have hn : natL s.data.toList = none := by unfold natL; rw [if_pos (by omega)]
    rw [hn]
    clear hn hlen
    go_enter Tryd.func93, Tryd.ntmps93
    go_wp2_with fail
    exact ⟨rfl, rfl, rfl⟩
  have h0 : 0 < s.size := by omega
  have hhd : (s.data.toList.headD 0).toNat = s[0].toNat := by
    have hd : s.data.toList = s[0] :: s.data.toList.drop 1 := by
      have := List.drop_eq_getElem_cons (l := s.data.toList) (i := 0) (by simpa using h0)
      rw [List.drop_zero] at this
      exact this
    rw [hd]
    rfl
  by_cases h3 : s[0].toNat = 48
  · have hn : natL s.data.toList = none := by unfold natL; rw [if_pos (by omega)]
    have e3 : ((s[0].toNat : Int) == 48) = true := by rw [beq_iff_eq]; omega
    rw [hn]
    clear hn hlen hhd h3
    go_enter Tryd.func93, Tryd.ntmps93
    go_wp2_with fail
    exact ⟨rfl, rfl, rfl⟩
  obtain ⟨g, hg⟩ : ∃ g, g = natL s.data.toList := ⟨_, rfl⟩
  have hn : natL s.data.toList = digs s.data.toList 0 := by unfold natL; rw [if_neg (by omega)]
  have e3 : ((s[0].toNat : Int) == 48) = false := by rw [beq_eq_false_iff_ne]; omega
  rw [← hg]
  rw [hn] at hg
  have Hg := Lib.hid hg
  clear hg hn hlen hhd h3
  go_enter Tryd.func93, Tryd.ntmps93
  go_wp2_with fail
  go_loop [3, 21] (fun v i => ∃ k a : Nat, k ≤ s.size ∧ i = .int .i64 (k : Int) ∧ v = .int .i64 (a : Int) ∧ Hid (a < 10 ^ k) ∧ Hid (g = digs (s.data.toList.drop k) a)) (fun _ i => s.size - (intOf i).toNat)
  case atStart => exact ⟨0, 0, by omega, rfl, rfl, by show 0 < 10 ^ 0; decide, Hg⟩
  case round =>
    obtain ⟨k, a, hk, rfl, rfl, Ha, Hd⟩ := hrel
    by_cases hl : k < s.size
    · have hb8 := UInt8.toNat_lt s[k]
      have hdk : s.data.toList.drop k = s[k] :: s.data.toList.drop (k + 1) := List.drop_eq_getElem_cons (by simpa using hl)
      have h15 : (10 : Nat) ^ k ≤ 10 ^ 15 := Nat.pow_le_pow_right (by decide) (by omega)
      have ha15 : a < 1000000000000000 := by have := Ha.out; omega
      clear h15
      by_cases hc : 48 ≤ s[k].toNat ∧ s[k].toNat ≤ 57
      · have hgg : g = digs (s.data.toList.drop (k + 1)) (a * 10 + (s[k].toNat - 48)) := by rw [Hd.out, hdk, digs, if_pos hc]
        have D := fun W => Lib.hid (decimal_ok (s[k].toNat : Int) W (by omega) (by omega))
        obtain ⟨c, hcc⟩ : ∃ c, c = s[k].toNat - 48 := ⟨_, rfl⟩
        have hcs : ((s[k].toNat : Int) - 48) = (c : Int) := by omega
        have hc9 : c ≤ 9 := by omega
        rw [← hcc] at hgg
        rw [hcs] at D
        have Hgg := Lib.hid hgg
        clear hgg hdk hc hcc hcs
        go_wp2_with fail
        refine (D w).out.mono ?_
        rintro e w' ⟨rfl, rfl⟩
        go_wp2_with fail
        go_round
        case rel =>
          refine ⟨k + 1, a * 10 + c, by omega, by go_num, by go_num, ?_, Hgg⟩
          show _ < _
          have := Ha.out
          rw [Nat.pow_succ]
          omega
        case measure => simp [intOf]; omega
      · have hgg : g = none := by rw [Hd.out, hdk, digs, if_neg hc]
        have D := fun W => Lib.hid (decimal_no (s[k].toNat : Int) W (by omega))
        have Hgg := Lib.hid hgg
        clear hgg hdk hc
        go_wp2_with fail
        refine (D w).out.mono ?_
        rintro e w' ⟨rfl, rfl⟩
        refine ⟨rfl, ?_⟩
        rw [Hgg.out]
        exact ⟨rfl, rfl⟩
    · obtain rfl : k = s.size := by omega
      have hgg : g = some a := by rw [Hd.out, List.drop_of_length_le (by simp)]; rfl
      have Hgg := Lib.hid hgg
      clear hgg
      go_wp2_with fail
      go_ret
      rw [Hgg.out]
      exact ⟨rfl, rfl⟩
end Go.Proofs.YtahofbnebmoopaaDoor
