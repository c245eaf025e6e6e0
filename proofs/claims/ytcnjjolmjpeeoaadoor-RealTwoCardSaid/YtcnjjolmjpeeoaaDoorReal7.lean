/-
  Walks over package real, part 7: the number of digits and a power.
-/
import Derived.Test.YtcnjjolmjpeeoaaDoorReal2
import Derived.Test.YtcnjjolmjpeeoaaDoorReal5
namespace Go.Proofs.YtcnjjolmjpeeoaaDoor
open Go.RowKit

/-- The word of odd digits and a power, as far to the left as there is room. -/
def leftN (m : Nat) (p : Int) : Int := if 53 - (Lib.bitLen m : Int) ≤ p + 1074 then 53 - (Lib.bitLen m : Int) else p + 1074
def packN (m : Nat) (p : Int) : Nat := (p - leftN m p + 1074).toNat * 4503599627370496 + m * 2 ^ (leftN m p).toNat
/-- The number that m times 2 to the power p is, if there is one. -/
def joinN (m : Nat) (p : Int) : Option Nat :=
  if 9007199254740992 ≤ m then none else if m = 0 then some 0 else
    if p + (tzN m : Int) < -1074 ∨ 1024 < (Lib.bitLen (oddN m) : Int) + (p + (tzN m : Int)) then none else some (packN (oddN m) (p + (tzN m : Int)))

def JoinP (w : World) (g : Option Nat) (e : Ending) (w' : World) : Prop :=
  (match g with
   | some v => e = .returned (.float .f64 v)
   | none => e = .panicked [{ v := .iface 25 (.int .i64 11), recovered := false }]) ∧ w = w'

theorem oddN_pos (m : Nat) (h0 : m ≠ 0) (hm : m < 18446744073709551616) : oddN m ≠ 0 := by
  obtain ⟨k, hk, hlt⟩ := Lib.ctzFrom_spec 64 m (by omega) hm
  have e : tzN m = Lib.ctzFrom 64 m := by unfold tzN Lib.ctz; rw [if_neg h0]
  unfold oddN
  rw [e]
  intro h
  have hp := Nat.two_pow_pos (Lib.ctzFrom 64 m)
  have h1 := (Nat.div_eq_zero_iff_lt hp).1 h
  have h2 : 2 ^ Lib.ctzFrom 64 m * 1 ≤ 2 ^ Lib.ctzFrom 64 m * (2 * k + 1) := Nat.mul_le_mul_left _ (by omega)
  rw [← hk] at h2
  omega

theorem bitLen_facts (m : Nat) (h0 : m ≠ 0) (hm : m < 9007199254740992) : 1 ≤ Lib.bitLen m ∧ Lib.bitLen m ≤ 53 ∧ m < 2 ^ Lib.bitLen m ∧ 2 ^ (Lib.bitLen m - 1) ≤ m := by
  obtain ⟨h1, h2, h3⟩ := Lib.bitLenAux_bounds 64 m (by omega) h0
  exact ⟨h1, Lib.bitLen_le m 53 (by omega) hm, h3, h2⟩

set_option maxRecDepth 100000 in
set_option maxHeartbeats 2000000 in
theorem join_over (m : Nat) (p : Int) (w : World) (h : 9007199254740992 ≤ m) :
    Calls Tryd.prog 39 #[.int .u64 (m : Int), .int .i64 p] w fun e w' => JoinP w none e w' := by
  have hd : decide ((9007199254740992 : Int) ≤ (m : Int)) = true := decide_eq_true (by omega)
  clear h
  go_enter Tryd.func39, Tryd.ntmps39
  go_wp2_with fail
  exact ⟨rfl, rfl, rfl⟩

set_option maxRecDepth 100000 in
set_option maxHeartbeats 2000000 in
theorem join_zero (p : Int) (w : World) :
    Calls Tryd.prog 39 #[.int .u64 ((0 : Nat) : Int), .int .i64 p] w fun e w' => JoinP w (some 0) e w' := by
  go_enter Tryd.func39, Tryd.ntmps39
  go_wp2_with fail
  go_ret
  exact ⟨rfl, rfl⟩

theorem leftN_min (m : Nat) (p : Int) : leftN m p = min (53 - (Lib.bitLen m : Int)) (p + 1074) := by
  unfold leftN
  split <;> omega
theorem left_facts (m : Nat) (p : Int) (h0 : m ≠ 0) (hm : m < 9007199254740992) (h1 : -1074 ≤ p) (h2 : (Lib.bitLen m : Int) + p ≤ 1024) :
    0 ≤ leftN m p ∧ 0 ≤ p - leftN m p + 1074 ∧ p - leftN m p + 1074 ≤ 2045 ∧ m * 2 ^ (leftN m p).toNat < 9007199254740992 := by
  obtain ⟨l1, l2, l3, l4⟩ := bitLen_facts m h0 hm
  have hle : leftN m p ≤ 53 - (Lib.bitLen m : Int) := by unfold leftN; split <;> omega
  have ha : 0 ≤ leftN m p := by unfold leftN; split <;> omega
  refine ⟨ha, by unfold leftN; split <;> omega, by unfold leftN; split <;> omega, ?_⟩
  have h3 : m * 2 ^ (leftN m p).toNat < 2 ^ Lib.bitLen m * 2 ^ (leftN m p).toNat := Nat.mul_lt_mul_of_pos_right l3 (Nat.two_pow_pos _)
  rw [← Nat.pow_add] at h3
  have h5 : 2 ^ (Lib.bitLen m + (leftN m p).toNat) ≤ 2 ^ 53 := Nat.pow_le_pow_right (by decide) (by omega)
  exact Nat.lt_of_lt_of_le h3 h5
theorem pack_wrap (m : Nat) (p : Int) (h0 : m ≠ 0) (hm : m < 9007199254740992) (h1 : -1074 ≤ p) (h2 : (Lib.bitLen m : Int) + p ≤ 1024) :
    (IntKind.u64.wrap ((p - min (53 - (Lib.bitLen m : Int)) (p + 1074) + 1074) * 4503599627370496 + IntKind.u64.wrap ((m : Int) * 2 ^ (min (53 - (Lib.bitLen m : Int)) (p + 1074)).toNat))).toNat = packN m p := by
  rw [← leftN_min]
  obtain ⟨f1, f2, f3, f4⟩ := left_facts m p h0 hm h1 h2
  unfold packN
  generalize leftN m p = a at *
  have e1 : ((m : Int) * 2 ^ a.toNat) = ((m * 2 ^ a.toNat : Nat) : Int) := by push_cast; rfl
  rw [e1, wrap_u64_nat _ (by omega)]
  obtain ⟨d, hd⟩ := Int.eq_ofNat_of_zero_le f2
  rw [hd] at f3 ⊢
  generalize m * 2 ^ a.toNat = z at *
  rw [show ((d : Int) * 4503599627370496 + (z : Int)) = ((d * 4503599627370496 + z : Nat) : Int) from by omega, wrap_u64_nat _ (by omega)]
  omega

set_option maxRecDepth 100000 in
set_option maxHeartbeats 4000000 in
theorem join_some (m : Nat) (p : Int) (w : World) (h0 : m ≠ 0) (hm : m < 9007199254740992) (hp0 : -100000000000000000 ≤ p) (hp1 : p ≤ 100000000000000000) (hT : Lib.TabIs Tryd.prog w "math/bits.deBruijn64tab" .u8 tz64L)
    (h1 : -1074 ≤ p + (tzN m : Int)) (h2 : (Lib.bitLen (oddN m) : Int) + (p + (tzN m : Int)) ≤ 1024) :
    Calls Tryd.prog 39 #[.int .u64 (m : Int), .int .i64 p] w fun e w' => JoinP w (some (packN (oddN m) (p + (tzN m : Int)))) e w' := by
  have O := Lib.hid (odd_any m p (by omega) h0 hp0 hp1 w hT)
  have hfb := run_float64frombits
  have h3 := oddN_pos m h0 (by omega)
  have h4 : oddN m < 9007199254740992 := Nat.lt_of_le_of_lt (Nat.div_le_self _ _) hm
  have hm0 : ((m : Int) == 0) = false := by rw [beq_eq_false_iff_ne]; omega
  have hd : decide ((9007199254740992 : Int) ≤ (m : Int)) = false := decide_eq_false (by omega)
  generalize p + (tzN m : Int) = q at *
  generalize oddN m = k at *
  obtain ⟨l1, l2, l3, l4⟩ := bitLen_facts k h3 h4
  have B := Lib.hid (Tryd.bits_Len64 (k : Int) w (by omega) (by omega))
  have B := B.out
  rw [Int.toNat_natCast] at B
  have B := Lib.hid B
  have hpk := Lib.hid (pack_wrap k q h3 h4 h1 h2)
  generalize packN k q = v at *
  generalize Lib.bitLen k = l at *
  clear hT hp0 hp1 hm h0 h3
  have H4 := Lib.hid h4
  have L3 := Lib.hid l3
  have L4 := Lib.hid l4
  clear h4 l3 l4
  go_enter Tryd.func39, Tryd.ntmps39
  go_wp2_with fail
  refine O.out.mono ?_
  rintro e w' ⟨rfl, rfl⟩
  go_wp2_with fail
  refine B.out.mono ?_
  rintro e w' ⟨rfl, rfl⟩
  go_wp2_with fail
  go_ret
  exact ⟨ret_float hpk.out, rfl⟩

set_option maxRecDepth 100000 in
set_option maxHeartbeats 4000000 in
theorem join_none (m : Nat) (p : Int) (w : World) (h0 : m ≠ 0) (hm : m < 9007199254740992) (hp0 : -100000000000000000 ≤ p) (hp1 : p ≤ 100000000000000000) (hT : Lib.TabIs Tryd.prog w "math/bits.deBruijn64tab" .u8 tz64L)
    (h : p + (tzN m : Int) < -1074 ∨ 1024 < (Lib.bitLen (oddN m) : Int) + (p + (tzN m : Int))) :
    Calls Tryd.prog 39 #[.int .u64 (m : Int), .int .i64 p] w fun e w' => JoinP w none e w' := by
  have O := Lib.hid (odd_any m p (by omega) h0 hp0 hp1 w hT)
  have h3 := oddN_pos m h0 (by omega)
  have h4 : oddN m < 9007199254740992 := Nat.lt_of_le_of_lt (Nat.div_le_self _ _) hm
  have hm0 : ((m : Int) == 0) = false := by rw [beq_eq_false_iff_ne]; omega
  have hd : decide ((9007199254740992 : Int) ≤ (m : Int)) = false := decide_eq_false (by omega)
  have htz : tzN m < 64 := (Lib.lowest_bit 64 _ h0 (by omega)).2
  have hq0 : -100000000000000000 ≤ p + (tzN m : Int) := by omega
  have hq1 : p + (tzN m : Int) ≤ 100000000000000064 := by omega
  generalize p + (tzN m : Int) = q at *
  generalize oddN m = k at *
  obtain ⟨l1, l2, l3, l4⟩ := bitLen_facts k h3 h4
  have B := Lib.hid (Tryd.bits_Len64 (k : Int) w (by omega) (by omega))
  have B := B.out
  rw [Int.toNat_natCast] at B
  have B := Lib.hid B
  generalize Lib.bitLen k = l at *
  clear hT hp0 hp1 hm h0 h3 h4 l3 l4
  by_cases h1 : q < -1074
  · clear h
    go_enter Tryd.func39, Tryd.ntmps39
    go_wp2_with fail
    refine O.out.mono ?_
    rintro e w' ⟨rfl, rfl⟩
    go_wp2_with fail
    refine B.out.mono ?_
    rintro e w' ⟨rfl, rfl⟩
    go_wp2_with fail
    exact ⟨rfl, rfl, rfl⟩
  · have h2 : 1024 < (l : Int) + q := by omega
    clear h
    go_enter Tryd.func39, Tryd.ntmps39
    go_wp2_with fail
    refine O.out.mono ?_
    rintro e w' ⟨rfl, rfl⟩
    go_wp2_with fail
    refine B.out.mono ?_
    rintro e w' ⟨rfl, rfl⟩
    go_wp2_with fail
    exact ⟨rfl, rfl, rfl⟩

theorem join_any (m : Nat) (p : Int) (w : World) (hp0 : -100000000000000000 ≤ p) (hp1 : p ≤ 100000000000000000) (hT : Lib.TabIs Tryd.prog w "math/bits.deBruijn64tab" .u8 tz64L) :
    Calls Tryd.prog 39 #[.int .u64 (m : Int), .int .i64 p] w fun e w' => JoinP w (joinN m p) e w' := by
  unfold joinN
  split
  · exact join_over m p w (by assumption)
  · split
    · rename_i h h0
      subst h0
      exact join_zero p w
    · split
      · rename_i h h0 h1
        exact join_none m p w h0 (by omega) hp0 hp1 hT h1
      · rename_i h h0 h1
        exact join_some m p w h0 (by omega) hp0 hp1 hT (by omega) (by omega)
end Go.Proofs.YtcnjjolmjpeeoaaDoor
