/-
  Several texts in one: A number's digits are read as the number, if it is small enough (plain lists).
  Walks over package real, part 5: split, the text of a number.
  Quotients of ints as float64 numbers (no program is named).
  Walks over package real, part 9: Ratio.
  Walks over package raw, part 6: Sum.
  The walk over the laws' first call (alive), and what the laws ask of the tables.
  RawShort: of a number in few bytes no beginning is taken for it.
  Walks over the document's own answer to chapter 1: Get, PutVar, Put.
  Walks over the document's own answer to chapter 2: key, Compare, Same, Max, Min, Put, Ratio.
  The document's own answer: are two acts, two versions alike? (chapter 5)
  What Get and Key tell of a version's bytes, and of other bytes; a byte that is changed. (Behind the contracts of package ikey.)
  Plain lemmas: what stands at which place in a version's bytes. No program is named.
  The document's own answer to chapter 5: keys, heads.
  The book of lists: of a kind of which nothing was kept. (Written by wip/gen/gen_booknil.py.)
  An append that leaves what was there readable; rows of numbers that are apart. No program is named.
  The book of lists, vectors: copies, marks, are two alike?
  The book of lists, vectors: one more is kept.
  The book of lists, vectors: are they as they were?
  The book of lists, vectors: rows that are apart; marks are put into them.
-/
import Derived.Test.YthjphiniljopgaaGreatDoorM2
import Derived.Lib.ItoaNum
import Derived.Test.YthjphiniljopgaaGreatDoorM3
import Derived.Laws.Concat
import Derived.Test.YthjphiniljopgaaGreatDoorRows
import Derived.Test.YthjphiniljopgaaGreatDoorM1
import Derived.Lib.LaidTab
import Derived.Lib.Strings
import Derived.OpenShut
import Derived.LoopTactic
import Derived.WalkKit
import Derived.WalkSpells
import Derived.WalkLawsBesides
import Derived.Deep.RegionLaw
namespace Go.Proofs.YthjphiniljopgaaGreatDoor
open Go.RowKit

theorem dec_digit (u : Nat) : ∀ c ∈ Lib.decDigits u, 48 ≤ c.toNat ∧ c.toNat ≤ 57 := by
  induction u using Nat.strongRecOn with
  | _ u ih =>
    intro c hc
    rw [Lib.decDigits] at hc
    split at hc
    · obtain rfl := List.mem_singleton.1 hc
      rw [UInt8.toNat_ofNat']; omega
    · rcases List.mem_append.1 hc with h | h
      · exact ih (u / 10) (by omega) c h
      · obtain rfl := List.mem_singleton.1 h
        rw [UInt8.toNat_ofNat']; omega

theorem digs_dec (u : Nat) : ∀ (r : List UInt8) (a : Nat), digs (Lib.decDigits u ++ r) a = digs r (a * 10 ^ Lib.nDigits u + u) := by
  induction u using Nat.strongRecOn with
  | _ u ih =>
    intro r a
    rw [Lib.decDigits]
    split
    · rename_i h
      have e : (UInt8.ofNat (48 + u)).toNat = 48 + u := by rw [UInt8.toNat_ofNat']; omega
      rw [Lib.nDigits_small h, List.cons_append, List.nil_append, digs, e, if_pos (by omega)]
      congr 1
      omega
    · rename_i h
      have e : (UInt8.ofNat (48 + u % 10)).toNat = 48 + u % 10 := by rw [UInt8.toNat_ofNat']; omega
      rw [Lib.nDigits_big h, List.append_assoc, ih (u / 10) (by omega), List.cons_append, List.nil_append, digs, e, if_pos (by omega)]
      congr 1
      rw [Nat.pow_succ, ← Nat.mul_assoc]
      omega

theorem dec_ne (u : Nat) : Lib.decDigits u ≠ [] := by
  intro h
  have := Lib.decDigits_length u
  have h2 := Lib.nDigits_pos u
  rw [h] at this
  simp at this
  omega

theorem dec_head (u : Nat) (hu : u ≠ 0) : ((Lib.decDigits u).headD 0).toNat ≠ 48 := by
  induction u using Nat.strongRecOn with
  | _ u ih =>
    rw [Lib.decDigits]
    split
    · rw [List.headD_cons, UInt8.toNat_ofNat']; omega
    · have := ih (u / 10) (by omega) (by omega)
      cases h : Lib.decDigits (u / 10) with
      | nil => exact absurd h (dec_ne _)
      | cons c r => rw [h] at this; exact this

theorem pow_le_nDigits (u : Nat) (hu : u ≠ 0) : 10 ^ (Lib.nDigits u - 1) ≤ u := by
  induction u using Nat.strongRecOn with
  | _ u ih =>
    by_cases h : u < 10
    · rw [Lib.nDigits_small h]; simp; omega
    · have h1 := ih (u / 10) (by omega) (by omega)
      have h2 := Lib.nDigits_pos (u / 10)
      rw [Lib.nDigits_big h, show Lib.nDigits (u / 10) + 1 - 1 = (Lib.nDigits (u / 10) - 1) + 1 from by omega, Nat.pow_succ]
      omega

theorem natL_dec (u : Nat) (hu : u ≠ 0) : natL (Lib.decDigits u) = if u < 10000000000000000 then some u else none := by
  have h1 := dec_head u hu
  have h2 := Lib.nDigits_pos u
  unfold natL
  rw [Lib.decDigits_length]
  by_cases h : u < 10000000000000000
  · have h3 : Lib.nDigits u ≤ 16 := by
      rcases Nat.lt_or_ge 16 (Lib.nDigits u) with hl | hl
      · have := pow_le_nDigits u hu
        have : (10 : Nat) ^ 16 ≤ 10 ^ (Lib.nDigits u - 1) := Nat.pow_le_pow_right (by decide) (by omega)
        omega
      · exact hl
    have := digs_dec u [] 0
    rw [List.append_nil] at this
    rw [if_pos h, if_neg (by omega), this]
    show some (0 * _ + u) = _
    congr 1
    omega
  · have h3 : 16 < Lib.nDigits u := by
      rcases Nat.lt_or_ge 16 (Lib.nDigits u) with hl | hl
      · exact hl
      · have := Lib.lt_pow_nDigits u
        have : (10 : Nat) ^ (Lib.nDigits u) ≤ 10 ^ 16 := Nat.pow_le_pow_right (by decide) hl
        omega
    rw [if_neg h, if_pos (Or.inr (Or.inl h3))]

theorem numL_itoa (v : Int) : numL (Lib.itoa v) = if -10000000000000000 < v ∧ v < 10000000000000000 then some v else none := by
  rcases Int.lt_trichotomy v 0 with h | h | h
  · have hi : Lib.itoa v = 45 :: Lib.decDigits v.natAbs := by unfold Lib.itoa; rw [if_pos h]
    have hp : Lib.hasPrefix (45 :: Lib.decDigits v.natAbs) [45] = true := by simp [Lib.hasPrefix]
    unfold numL
    rw [hi, if_neg (by simp)]
    unfold Lib.trimPrefix
    rw [if_pos hp, hp]
    show (natL (Lib.decDigits v.natAbs)).map _ = _
    rw [natL_dec _ (by omega)]
    by_cases hv : -10000000000000000 < v
    · rw [if_pos (by omega), if_pos (by omega)]
      simp
      omega
    · rw [if_neg (by omega), if_neg (by omega)]
      rfl
  · subst h
    have hi : Lib.itoa 0 = [48] := by unfold Lib.itoa; rw [if_neg (by decide)]; exact Lib.decDigits_one (by decide)
    rw [hi, if_pos (by decide)]
    rfl
  · have hi : Lib.itoa v = Lib.decDigits v.toNat := by unfold Lib.itoa; rw [if_neg (by omega)]
    have hd := dec_head v.toNat (by omega)
    have hn : Lib.decDigits v.toNat ≠ [48] := by intro e; rw [e] at hd; exact hd rfl
    have hp : Lib.hasPrefix (Lib.decDigits v.toNat) [45] = false := by
      cases hc : Lib.decDigits v.toNat with
      | nil => exact absurd hc (dec_ne _)
      | cons c r =>
        have := dec_digit v.toNat c (by rw [hc]; simp)
        simp only [Lib.hasPrefix, List.isPrefixOf, Bool.and_true, beq_eq_false_iff_ne]
        intro e
        rw [← e] at this
        exact absurd this (by decide)
    unfold numL
    rw [hi, if_neg hn]
    unfold Lib.trimPrefix
    rw [hp, if_neg (by decide), natL_dec _ (by omega)]
    by_cases hv : v < 10000000000000000
    · rw [if_pos (by omega), if_pos (by omega)]
      simp
      omega
    · rw [if_neg (by omega), if_neg (by omega)]
      rfl

theorem dec_len (u : Nat) (hu : u ≤ 9223372036854775808) : (Lib.decDigits u).length ≤ 39 := by
  rw [Lib.decDigits_length]
  rcases Nat.eq_zero_or_pos u with h | h
  · subst h; rw [Lib.nDigits_small (by decide)]; decide
  · rcases Nat.lt_or_ge 39 (Lib.nDigits u) with hl | hl
    · have := pow_le_nDigits u (by omega)
      have : (10 : Nat) ^ 39 ≤ 10 ^ (Lib.nDigits u - 1) := Nat.pow_le_pow_right (by decide) (by omega)
      omega
    · exact hl

theorem itoa_len (v : Int) (h0 : -9223372036854775808 ≤ v) (h1 : v ≤ 9223372036854775807) : (Lib.itoa v).length ≤ 40 := by
  unfold Lib.itoa
  split
  · have := dec_len v.natAbs (by omega)
    simp; omega
  · have := dec_len v.toNat (by omega)
    omega
end Go.Proofs.YthjphiniljopgaaGreatDoor

namespace Go.Proofs.YthjphiniljopgaaGreatDoor
open Go.RowKit

/-- The digits and the power of a rung, all twos still in. -/
def rawM (r : Nat) : Nat := if r < 4503599627370496 then r else 4503599627370496 + r % 4503599627370496
def rawE (r : Nat) : Int := if r < 4503599627370496 then -1074 else (r / 4503599627370496 : Nat) - 1075
theorem rawM_lt (r : Nat) : rawM r < 9007199254740992 := by unfold rawM; split <;> omega
theorem rawM_pos (r : Nat) (h : r ≠ 0) : rawM r ≠ 0 := by unfold rawM; split <;> omega
theorem rawE_lt (r : Nat) (h : r < infR) : -1074 ≤ rawE r ∧ rawE r ≤ 971 := by
  have hc : infR = 9218868437227405312 := rfl
  unfold rawE; split <;> omega
def spM (r : Nat) : Nat := oddN (rawM r)
def spE (r : Nat) : Int := rawE r + (tzN (rawM r) : Int)

/-- The text of a number without a sign. -/
def whole (r : Nat) : Bool := decide (0 ≤ spE r ∧ (Lib.bitLen (spM r) : Int) + spE r ≤ 53)
def unsN (r : Nat) : List UInt8 :=
  if r = 0 then [48] else if r = infR then [105, 110, 102] else if whole r then Lib.itoa ((spM r * 2 ^ (spE r).toNat : Nat) : Int)
  else Lib.itoa (spM r : Int) ++ 112 :: Lib.itoa (spE r)
def textN (x : Nat) : List UInt8 := if isN x then [110, 97, 110] else if isNeg x then 45 :: unsN (rung x) else unsN (rung x)

theorem unsN_zero : unsN 0 = [48] := by unfold unsN; rw [if_pos rfl]

theorem spM_lt (r : Nat) : spM r < 9007199254740992 := Nat.lt_of_le_of_lt (Nat.div_le_self _ _) (rawM_lt r)
theorem spE_lt (r : Nat) (h0 : r ≠ 0) (h : r < infR) : -1074 ≤ spE r ∧ spE r ≤ 1035 := by
  have h1 := rawE_lt r h
  have h2 : tzN (rawM r) < 64 := (Lib.lowest_bit 64 _ (rawM_pos r h0) (Nat.lt_trans (rawM_lt r) (by decide))).2
  unfold spE
  omega

theorem len_lt (m e : Nat) (hm : m < 18446744073709551616) (h : Lib.bitLen m + e ≤ 53) : m * 2 ^ e < 9007199254740992 := by
  by_cases h0 : m = 0
  · subst h0; rw [Nat.zero_mul]; decide
  · have hb := (Lib.bitLenAux_bounds 64 m hm h0).2.2
    have h1 : m * 2 ^ e < 2 ^ Lib.bitLen m * 2 ^ e := Nat.mul_lt_mul_of_pos_right hb (Nat.two_pow_pos _)
    rw [← Nat.pow_add] at h1
    exact Nat.lt_of_lt_of_le h1 (Nat.pow_le_pow_right (by decide) h)

theorem run_cat (a b : List UInt8) (ha : a.length ≤ 1000000) (hb : b.length ≤ 1000000) (w : World) : (Op.stringOp .add ⟨a.toArray⟩ ⟨b.toArray⟩).run Tryz.prog w = .ok (.string ⟨(a ++ b).toArray⟩) w := by
  rw [run_string_add_sum _ _ _ (by rw [size_mk, size_mk]; omega), ByteArray.mk_append_mk]

theorem unsN_len (r : Nat) (h : r ≤ infR) : (unsN r).length ≤ 100 := by
  unfold unsN
  split
  · decide
  · split
    · decide
    · rename_i h0 h1
      have hM := spM_lt r
      have hE := spE_lt r h0 (by omega)
      split
      · rename_i hw
        unfold whole at hw
        have hw := of_decide_eq_true hw
        have hlt := len_lt (spM r) (spE r).toNat (by omega) (by omega)
        have := itoa_len ((spM r * 2 ^ (spE r).toNat : Nat) : Int) (by omega) (by omega)
        omega
      · have hl1 := itoa_len (spM r : Int) (by omega) (by omega)
        have hl2 := itoa_len (spE r) (by omega) (by omega)
        simp only [List.length_append, List.length_cons, List.length_nil]
        omega

end Go.Proofs.YthjphiniljopgaaGreatDoor

namespace Go.Proofs.YthjphiniljopgaaGreatDoor
open Go.RowKit Ieee

theorem read_norm (x : Nat) (h1 : 4503599627370496 ≤ rung x) (h : rung x < infR) :
    Ieee.double.read x = .number (isNeg x) (4503599627370496 + rung x % 4503599627370496) (-1074 + ((rung x / 4503599627370496 - 1 : Nat) : Int)) := by
  unfold Format.read
  rw [f64_sign, f64_binade, f64_inf, f64_least]
  show (if rung x < 4503599627370496 then _ else if rung x < infR then _ else _) = _
  rw [if_neg (by omega), if_pos h]
  rfl

theorem word_eq (s : Bool) (r : Nat) : Ieee.double.word s r = if s then 9223372036854775808 + r else r := by
  unfold Format.word
  rw [f64_sign]
theorem word_facts (s : Bool) (r : Nat) (h : r ≤ infR) : isNeg (Ieee.double.word s r) = s ∧ rung (Ieee.double.word s r) = r ∧ isN (Ieee.double.word s r) = false ∧ Ieee.double.word s r < 18446744073709551616 := by
  have hc : infR = 9218868437227405312 := rfl
  rw [word_eq]
  have hr : ∀ x : Nat, rung x = r → isN x = false := fun x hx => by unfold isN; rw [hx]; exact decide_eq_false (by omega)
  cases s
  · simp only [Bool.false_eq_true, if_false]
    obtain ⟨p1, p2⟩ := small_parts r (by omega)
    exact ⟨p1, p2, hr r p2, by omega⟩
  · simp only [if_true]
    have h1 : rung (9223372036854775808 + r) = r := by unfold rung; omega
    have h2 : isNeg (9223372036854775808 + r) = true := by unfold isNeg; rw [show (9223372036854775808 + r) / 9223372036854775808 % 2 = 1 from by omega]; rfl
    exact ⟨h2, h1, hr _ h1, by omega⟩
theorem word_key (s : Bool) (r : Nat) (h : r ≤ infR) : nkey (Ieee.double.word s r) = if s then -(r : Int) else (r : Int) := by
  obtain ⟨h1, h2, _⟩ := word_facts s r h
  unfold nkey
  rw [h1, h2]

/-- float64(a) of an int. -/
theorem flt_word (a : Int) (h0 : -9223372036854775808 ≤ a) (h1 : a ≤ 9223372036854775808) : floatOfInt .f64 a = Ieee.double.word (decide (a < 0)) (fltR a.natAbs) := by
  by_cases ha : a < 0
  · have e : a = -(a.natAbs : Int) := by omega
    rw [decide_eq_true ha, word_eq, if_pos rfl]
    conv => lhs; rw [e]
    exact floatOfInt_neg a.natAbs (by omega) (by omega)
  · have e : a = (a.natAbs : Int) := by omega
    rw [decide_eq_false ha, word_eq]
    conv => lhs; rw [e]
    exact floatOfInt_nat a.natAbs (by omega)

theorem fltR_top (m : Nat) (h : m ≤ 9223372036854775808) : fltR m ≤ infR := Nat.le_trans (fltR_le m h) (by decide)

theorem flt_read (a : Int) (h0 : -9223372036854775808 ≤ a) (h1 : a ≤ 9223372036854775808) (hn : a ≠ 0) :
    ∃ m k : Nat, Ieee.double.read (floatOfInt .f64 a) = .number (decide (a < 0)) m (-1074 + (k : Int)) ∧ 4503599627370496 ≤ m ∧ m < 9007199254740992 ∧ 1022 ≤ k ∧ k ≤ 1085 := by
  have hl := fltR_le a.natAbs (by omega)
  have hg := fltR_pos a.natAbs (by omega) (by omega)
  obtain ⟨f1, f2, f3, f4⟩ := word_facts (decide (a < 0)) (fltR a.natAbs) (fltR_top _ (by omega))
  have hc : infR = 9218868437227405312 := rfl
  rw [flt_word a h0 h1]
  have hr := read_norm (Ieee.double.word (decide (a < 0)) (fltR a.natAbs)) (by rw [f2]; omega) (by rw [f2]; omega)
  rw [f1, f2] at hr
  exact ⟨_, _, hr, by omega, by omega, by omega, by omega⟩
theorem flt_zero : floatOfInt .f64 0 = 0 := by decide +kernel
theorem read_zero : Ieee.double.read 0 = .number false 0 (-1074) := by decide +kernel

theorem log2_norm (m : Nat) (h0 : 4503599627370496 ≤ m) (h1 : m < 9007199254740992) : m.log2 = 52 := by
  rw [Nat.log2_eq_iff (by omega)]
  exact ⟨h0, h1⟩

theorem div_zero_zero : floatBits .quo .f64 (floatOfInt .f64 0) (floatOfInt .f64 0) = none := by
  rw [flt_zero]
  show Ieee.double.div 0 0 = none
  unfold Format.div
  rw [read_zero]
  rfl
/-- By nothing: an edge with the sign. -/
theorem div_zero (a : Int) (h0 : -9223372036854775808 ≤ a) (h1 : a ≤ 9223372036854775808) (hn : a ≠ 0) :
    floatBits .quo .f64 (floatOfInt .f64 a) (floatOfInt .f64 0) = some (Ieee.double.word (decide (a < 0)) infR) := by
  obtain ⟨m, k, e, g1, g2, g3, g4⟩ := flt_read a h0 h1 hn
  rw [flt_zero]
  show Ieee.double.div _ 0 = _
  unfold Format.div
  rw [e, read_zero]
  unfold Datum.quotient
  dsimp only
  rw [if_pos rfl, if_neg (by omega), Bool.xor_false]
  show some (Ieee.double.word _ Ieee.double.infRung) = _
  rw [f64_inf]
/-- Nothing by something. -/
theorem div_of_zero (b : Int) (h0 : -9223372036854775808 ≤ b) (h1 : b ≤ 9223372036854775808) (hn : b ≠ 0) :
    floatBits .quo .f64 (floatOfInt .f64 0) (floatOfInt .f64 b) = some (Ieee.double.word (decide (b < 0)) 0) := by
  obtain ⟨m, k, e, g1, g2, g3, g4⟩ := flt_read b h0 h1 hn
  rw [flt_zero]
  show Ieee.double.div 0 _ = _
  unfold Format.div
  rw [e, read_zero]
  unfold Datum.quotient
  dsimp only
  rw [if_neg (by omega)]
  rw [show (0 : Nat) <<< (Ieee.double.fractionBits + 2 + m.log2 - Nat.log2 0) = 0 from Nat.zero_shiftLeft _, Nat.zero_div, Nat.zero_mod]
  show some (Ieee.double.nearest (false ^^ decide (b < 0)) 0 _) = _
  unfold Format.nearest
  rw [if_pos rfl, Bool.false_xor]

/-- Something by something: no nan, not nothing, the sign as it must be. -/
theorem div_some (a b : Int) (ha0 : -9223372036854775808 ≤ a) (ha1 : a ≤ 9223372036854775808) (ha : a ≠ 0) (hb0 : -9223372036854775808 ≤ b) (hb1 : b ≤ 9223372036854775808) (hb : b ≠ 0) :
    ∃ r, floatBits .quo .f64 (floatOfInt .f64 a) (floatOfInt .f64 b) = some (Ieee.double.word (decide (a < 0) ^^ decide (b < 0)) r) ∧ 0 < r ∧ r ≤ infR := by
  obtain ⟨m, k, e, g1, g2, g3, g4⟩ := flt_read a ha0 ha1 ha
  obtain ⟨n, l, e', k1, k2, k3, k4⟩ := flt_read b hb0 hb1 hb
  have hc : infR = 9218868437227405312 := rfl
  have hq : 2 ^ 53 ≤ m * 2 ^ 54 / n := by
    refine (Nat.le_div_iff_mul_le (by omega)).2 ?_
    have h1 : 2 ^ 53 * n ≤ 2 ^ 53 * 9007199254740992 := Nat.mul_le_mul_left _ (Nat.le_of_lt k2)
    have h2 : 4503599627370496 * 2 ^ 54 ≤ m * 2 ^ 54 := Nat.mul_le_mul_right _ g1
    have h3 : (2 : Nat) ^ 53 * 9007199254740992 = 4503599627370496 * 2 ^ 54 := by decide
    rw [h3] at h1
    exact Nat.le_trans h1 h2
  obtain ⟨q, hqe⟩ : ∃ q, q = 2 * (m * 2 ^ 54 / n) + (m * 2 ^ 54 % n != 0).toNat := ⟨_, rfl⟩
  have hq54 : 2 ^ 54 ≤ q := by
    rw [hqe]
    generalize m * 2 ^ 54 / n = d at hq ⊢
    omega
  obtain ⟨p, hp⟩ : ∃ p : Int, p = -1074 + (k : Int) - (-1074 + (l : Int)) - ((54 : Nat) : Int) - 1 := ⟨_, rfl⟩
  have hp2 : -118 ≤ p := by clear hqe hq hq54; omega
  have hq0 : q ≠ 0 := by clear hqe hq hp; omega
  refine ⟨min (rungOf q p) infR, ?_, ?_, Nat.min_le_right _ _⟩
  · clear hq hq54
    show Ieee.double.div _ _ = _
    unfold Format.div
    rw [e, e']
    unfold Datum.quotient
    dsimp only
    rw [if_neg (by omega), log2_norm m g1 g2, log2_norm n k1 k2, show Ieee.double.fractionBits + 2 + 52 - 52 = 54 from by decide, Nat.shiftLeft_eq, ← hqe, ← hp]
    show some (Ieee.double.nearest _ q p) = _
    rw [nearest_eq _ _ _ hq0]
  · clear hqe hq hp e e' hc
    have hlog : 54 ≤ q.log2 := by
      rcases Nat.lt_or_ge q.log2 54 with h1 | h1
      · have h2 : q < 2 ^ (q.log2 + 1) := Nat.lt_log2_self
        have : 2 ^ (q.log2 + 1) ≤ 2 ^ 54 := Nat.pow_le_pow_right (by decide) (by omega)
        omega
      · exact h1
    have hpos : 0 < rungOf q p := by
      unfold rungOf lastP
      have : 1 ≤ (max (p + (q.log2 : Int) - 52) (-1074) + 1074).toNat := by clear hq54 hq0; omega
      generalize (max (p + (q.log2 : Int) - 52) (-1074) + 1074).toNat = z at *
      generalize keptN q p (max (p + (q.log2 : Int) - 52) (-1074)) = y
      omega
    exact Nat.lt_min.2 ⟨hpos, by decide⟩
/-- By itself: one. -/
theorem div_self' (a : Int) (ha0 : -9223372036854775808 ≤ a) (ha1 : a ≤ 9223372036854775808) (ha : a ≠ 0) :
    floatBits .quo .f64 (floatOfInt .f64 a) (floatOfInt .f64 a) = some 4607182418800017408 := by
  obtain ⟨m, k, e, g1, g2, g3, g4⟩ := flt_read a ha0 ha1 ha
  show Ieee.double.div _ _ = _
  unfold Format.div
  rw [e]
  unfold Datum.quotient
  dsimp only
  rw [if_neg (by omega), log2_norm m g1 g2, show Ieee.double.fractionBits + 2 + 52 - 52 = 54 from by decide, Nat.shiftLeft_eq, Nat.mul_div_cancel_left _ (by omega), Nat.mul_mod_right,
    show -1074 + (k : Int) - (-1074 + (k : Int)) - ((54 : Nat) : Int) - 1 = -55 from by omega, Bool.xor_self]
  decide +kernel
end Go.Proofs.YthjphiniljopgaaGreatDoor

namespace Go.Proofs.YthjphiniljopgaaGreatDoor
open Go.RowKit

/-- The NaN that the model's tape gives where a quotient is none. -/
def tapeNan (w : World) (x y : Nat) : Nat := (Question.nanBits .f64 x y).cut (w.tape w.drawn (.nanBits .f64 x y))
theorem tapeNan_is (w : World) (x y : Nat) : isN (tapeNan w x y) = true ∧ tapeNan w x y < 18446744073709551616 := by
  have e : tapeNan w x y = (w.tape w.drawn (.nanBits .f64 x y) % 2) * 2 ^ 63 + 0x7ff0000000000000 + 1 + (w.tape w.drawn (.nanBits .f64 x y) / 2) % (2 ^ 52 - 1) := rfl
  rw [e]
  generalize w.tape w.drawn (.nanBits .f64 x y) = t
  have h1 : t / 2 % (2 ^ 52 - 1) < 2 ^ 52 - 1 := Nat.mod_lt _ (by decide)
  generalize t / 2 % (2 ^ 52 - 1) = u at *
  unfold isN rung infR
  refine ⟨decide_eq_true ?_, ?_⟩ <;> omega
theorem run_quo_nan (x y : Nat) (h : floatBits .quo .f64 x y = none) (w : World) : (binOp .quo 24 (.float .f64 x) (.float .f64 y)).run Tryz.prog w = .ok (.float .f64 (tapeNan w x y)) w.drew := by
  have h : FloatKind.f64.format.div x y = none := h
  simp [binOp, Op.floatArith, h, Question.forced]
  rfl

def RatP (w : World) (g : Option Nat) (e : Ending) (w' : World) : Prop :=
  match g with
  | some r => e = .returned (.float .f64 r) ∧ w = w'
  | none => ∃ z, e = .returned (.float .f64 z) ∧ Hid (isN z = true) ∧ z < 18446744073709551616 ∧ Below w.heap.size w w'

end Go.Proofs.YthjphiniljopgaaGreatDoor

namespace Go.Proofs.YthjphiniljopgaaGreatDoor
open Go.RowKit

/-- What four of a sum's eight steps make of four bits. -/
def halvesL : List Int := [0, 274646895, 549293790, 820201905, 1098587580, 1361435347, 1640403810, 1905808397, 2197175160, 2460548119, 2722870694, 2987750089, 3280807620, 3553878443, 3811616794, 4084100981]

def halfN (i : Nat) : Nat := (halvesL.getD i 0).toNat
theorem halfN_lt : ∀ i < 16, halvesL.getD i 0 = (halfN i : Int) ∧ halfN i < 4294967296 := by decide

/-- Four bits of a sum. -/
def nib (b : Nat) : Nat := (b / 16) ^^^ halfN (b % 16)
theorem nib_lt (b : Nat) (hb : b < 4294967296) : nib b < 4294967296 := by
  have h1 := (halfN_lt (b % 16) (by omega)).2
  exact Nat.xor_lt_two_pow (n := 32) (by omega) (by omega)

/-- A sum goes on by a byte. -/
def sumStep (a : Nat) (c : UInt8) : Nat := nib (nib (a ^^^ c.toNat))
theorem sumStep_lt (a : Nat) (c : UInt8) (ha : a < 4294967296) : sumStep a c < 4294967296 :=
  nib_lt _ (nib_lt _ (Nat.xor_lt_two_pow (n := 32) ha (by have := UInt8.toNat_lt c; omega)))

def sumL (l : List UInt8) : Nat := l.foldl sumStep 4294967295
theorem foldl_sum_lt (l : List UInt8) (a : Nat) (ha : a < 4294967296) : l.foldl sumStep a < 4294967296 := by
  induction l generalizing a with
  | nil => exact ha
  | cons c r ih => exact ih _ (sumStep_lt a c ha)
theorem sumL_lt (l : List UInt8) : sumL l < 4294967296 := foldl_sum_lt l _ (by decide)

theorem sum_snoc (s : ByteArray) (k : Nat) (h : k < s.size) : sumL (s.data.toList.take (k + 1)) = sumStep (sumL (s.data.toList.take k)) s[k] := by
  unfold sumL
  rw [List.take_succ_eq_append_getElem (by simpa using h), List.foldl_append]
  rfl

theorem nib_walk (b : Nat) (hb : b < 4294967296) : bits .and .u32 (b : Int) 15 = ((b % 16 : Nat) : Int) ∧ bits .xor .u32 ((b : Int) / 16) (halvesL.getD (b % 16) 0) = (nib b : Int) := by
  have h1 := halfN_lt (b % 16) (by omega)
  constructor
  · have := u32_and_nat b 15 hb (by decide)
    rw [show b &&& 15 = b % 16 from Nat.and_two_pow_sub_one_eq_mod b 4] at this
    exact this
  · rw [h1.1, show (b : Int) / 16 = ((b / 16 : Nat) : Int) from by omega, u32_xor_nat _ _ (by omega) h1.2]
    rfl

/-- The check sum of some bytes. -/
def crc (l : List UInt8) : Nat := 4294967295 - sumL l

end Go.Proofs.YthjphiniljopgaaGreatDoor

namespace Go.Proofs.YthjphiniljopgaaGreatDoor
open Go.RowKit

/-- The tables that the laws' first call reads. -/
structure Laid (w : World) : Prop where
  halves : Lib.TabIs Tryz.prog w "bedrock/raw.halves" .u32 halvesL
  pow10 : Lib.TabIs Tryz.prog w "internal/strconv.uint64pow10" .u64 Lib.pow10Tab

theorem crc_9 : crc [49, 50, 51, 52, 53, 54, 55, 56, 57] = 3808858755 := by decide +kernel
theorem itoa_50 : Lib.itoa (-50) = [45, 53, 48] := by decide +kernel
theorem gv_300 : gv [172, 2, 120] 0 0 = .ok 300 2 := by rfl
theorem be_258 : be 258 2 = [1, 2] := by decide +kernel

end Go.Proofs.YthjphiniljopgaaGreatDoor

namespace Go.Proofs.YthjphiniljopgaaGreatDoor
open Go.RowKit

theorem gv_begin (l : List UInt8) : ∀ i v, (∀ c ∈ l, 128 ≤ c.toNat) → i + l.length < 9 → gv l i v = .err 3 := by
  induction l with
  | nil => intro i v _ h; exact gv_short _ _ _ (by simpa using h) rfl
  | cons c r ih =>
    intro i v hc hl
    rw [List.length_cons] at hl
    have hc' := hc c (by simp)
    rw [gv, if_neg (by omega), if_pos hc']
    exact ih _ _ (fun d hd => hc d (by simp [hd])) (by omega)

theorem pv_high (v : Nat) : ∀ i < (pv v).length, ∀ c ∈ (pv v).take i, 128 ≤ c.toNat := by
  induction v using Nat.strongRecOn with
  | _ v ih =>
    intro i hi c hc
    by_cases h : v < 128
    · rw [pv_last v h] at hi hc
      obtain rfl : i = 0 := by simpa using hi
      simp at hc
    · rw [pv_more v (by omega)] at hi hc
      match i, hc with
      | 0, hc => simp at hc
      | i + 1, hc =>
        rw [List.take_succ_cons, List.mem_cons] at hc
        rcases hc with rfl | hc
        · rw [UInt8.toNat_ofNat']; omega
        · exact ih (v / 128) (by omega) i (by simpa using hi) c hc

theorem pv_len (k v : Nat) (h : v < 2 ^ (7 * k)) (hk : 1 ≤ k) : (pv v).length ≤ k := by
  induction k generalizing v with
  | zero => omega
  | succ k ih =>
    by_cases hv : v < 128
    · rw [pv_last v hv]; simp
    · rw [pv_more v (by omega), List.length_cons]
      rcases Nat.eq_zero_or_pos k with h0 | h0
      · subst h0; simp at h; omega
      · have h2 : 2 ^ (7 * (k + 1)) = 128 * 2 ^ (7 * k) := by rw [Nat.mul_add, Nat.pow_add]; omega
        have := ih (v / 128) (by rw [Nat.div_lt_iff_lt_mul (by decide)]; omega) h0
        omega
theorem pv_pos (v : Nat) : 1 ≤ (pv v).length := by
  by_cases hv : v < 128
  · rw [pv_last v hv]; simp
  · rw [pv_more v (by omega)]; simp
theorem pv_len9 (v : Nat) (h : v < 9223372036854775808) : (pv v).length ≤ 9 := pv_len 9 v (by omega) (by decide)

theorem gv_pv (r : List UInt8) (u : Nat) : ∀ i a, i + (pv u).length ≤ 9 → (0 < i → 0 < u) → gv (pv u ++ r) i a = .ok (a + u * 2 ^ (7 * i)) (i + (pv u).length) := by
  induction u using Nat.strongRecOn with
  | _ u ih =>
    intro i a hi h0
    by_cases h : u < 128
    · rw [pv_last u h] at hi ⊢
      rw [List.length_singleton] at hi ⊢
      have e : (UInt8.ofNat u).toNat = u := by rw [UInt8.toNat_ofNat']; omega
      show gv (UInt8.ofNat u :: r) i a = _
      rw [gv, e, if_neg (by omega), if_neg (by omega), if_neg (by omega), Nat.mod_eq_of_lt h]
    · have hp := pv_more u (by omega)
      rw [hp] at hi ⊢
      rw [List.length_cons] at hi ⊢
      have hq := pv_pos (u / 128)
      have e : (UInt8.ofNat (u % 128 + 128)).toNat = u % 128 + 128 := by rw [UInt8.toNat_ofNat']; omega
      rw [List.cons_append, gv, e, if_neg (by omega), if_pos (by omega), ih (u / 128) (by omega) (i + 1) _ (by omega) (fun _ => by omega)]
      have e2 : (u % 128 + 128) % 128 = u % 128 := by omega
      have e3 : 2 ^ (7 * (i + 1)) = 128 * 2 ^ (7 * i) := by rw [Nat.mul_add, Nat.pow_add]; omega
      have e4 : u % 128 * 2 ^ (7 * i) + u / 128 * (128 * 2 ^ (7 * i)) = u * 2 ^ (7 * i) := by
        rw [← Nat.mul_assoc, ← Nat.add_mul]
        congr 1
        omega
      rw [e2, e3]
      congr 1
      · omega
      · omega



end Go.Proofs.YthjphiniljopgaaGreatDoor

namespace Go.Proofs.YthjphiniljopgaaGreatDoor
open Go.RowKit

set_option maxRecDepth 100000 in
set_option maxHeartbeats 1000000 in
theorem rget_bad (s : ByteArray) (w : World) (h : s.size < 1 ∨ 7 < s.size) :
    Calls Tryz.prog 30 #[.string s] w fun e w' => e = .returned (.tuple #[.int .i64 0, .int .i64 1]) ∧ w = w' := by
  by_cases h1 : s.size < 1
  · have h2 : decide (7 < (s.size : Int)) = false := decide_eq_false (by omega)
    clear h
    go_enter Tryz.func30, Tryz.ntmps30
    go_wp2
    go_ret2
    exact ⟨rfl, rfl⟩
  · have h2 : 7 < s.size := by omega
    clear h
    go_enter Tryz.func30, Tryz.ntmps30
    go_wp2
    go_ret2
    exact ⟨rfl, rfl⟩

set_option maxRecDepth 100000 in
set_option maxHeartbeats 1000000 in
theorem rget_ok (s : ByteArray) (w : World) (h1 : 1 ≤ s.size) (h7 : s.size ≤ 7) :
    Calls Tryz.prog 30 #[.string s] w fun e w' => e = .returned (.tuple #[.int .i64 (getL s.data.toList : Int), .int .i64 0]) ∧ w = w' := by
  go_enter Tryz.func30, Tryz.ntmps30
  go_wp2
  go_loop [4, 5] (fun v i => ∃ k a : Nat, k ≤ s.size ∧ i = .int .i64 (k : Int) ∧ v = .int .i64 (a : Int) ∧ a < 2 ^ (8 * k) ∧ Hid (a = getL (s.data.toList.take k))) (fun _ i => s.size - (intOf i).toNat)
  case atStart => exact ⟨0, 0, by omega, rfl, rfl, by decide, rfl⟩
  case round =>
    obtain ⟨k, a, hk, rfl, rfl, ha, Ha⟩ := hrel
    by_cases hl : k < s.size
    · have hb8 := UInt8.toNat_lt s[k]
      have h56 : (2 : Nat) ^ (8 * k) ≤ 2 ^ 48 := Nat.pow_le_pow_right (by decide) (by omega)
      have ha48 : a < 281474976710656 := by omega
      have hlt : a * 256 + s[k].toNat < 2 ^ (8 * (k + 1)) := by
        have : 2 ^ (8 * (k + 1)) = 2 ^ (8 * k) * 256 := by rw [Nat.mul_add, Nat.pow_add]
        omega
      have hsn := getL_snoc s k hl
      rw [← Ha.out] at hsn
      have Hsn := Lib.hid hsn
      have Hlt := Lib.hid hlt
      clear hsn hlt ha h56
      go_wp2
      go_round
      case rel => exact ⟨k + 1, a * 256 + s[k].toNat, by omega, by go_num, by go_num, Hlt.out, Hsn.out.symm⟩
      case measure => simp [intOf]; omega
    · obtain rfl : k = s.size := by omega
      have hae : a = getL s.data.toList := by
        have := Ha.out
        rwa [List.take_of_length_le (by simp)] at this
      have Hae := Lib.hid hae
      clear hae
      go_wp2
      go_ret2
      exact ⟨by rw [← Hae.out]; rfl, rfl⟩

theorem be_bytes (v n j : Nat) (h : j < n) : (be v n).drop j = UInt8.ofNat (v / 2 ^ (8 * (n - 1 - j)) % 256) :: (be v n).drop (j + 1) := by
  have hl : j < (be v n).length := by rw [be_length]; exact h
  have hg := be_get v n j h
  rw [List.getElem?_eq_getElem hl] at hg
  injection hg with hg
  rw [List.drop_eq_getElem_cons hl, hg]

theorem be_back (v n j k : Nat) (h : j + 1 + k = n) (x : Int) (hx : x = ((v / 2 ^ (8 * k) : Nat) : Int) % 256) :
    ((List.replicate (j + 1) (0 : UInt8) ++ (be v n).drop (j + 1)).map b8).set j (.int .u8 x) = (List.replicate j (0 : UInt8) ++ (be v n).drop j).map b8 := by
  have hb : Value.int .u8 x = b8 (UInt8.ofNat (v / 2 ^ (8 * k) % 256)) := by
    unfold b8
    rw [← u8_of _ (by omega), hx]
    congr 1
  rw [be_bytes v n j (by omega), show n - 1 - j = k from by omega, hb, ← List.map_set]
  congr 1
  rw [List.replicate_succ', List.append_assoc, List.set_append_right _ _ (by simp)]
  simp

theorem putIs_of (v n k : Nat) (h1 : 1 ≤ n) (h7 : n ≤ 7) (s : ByteArray) (hs : s = ⟨(be v n).toArray⟩) (h : v / 2 ^ (8 * n) = 0) : PutIs v n s 0 := by
  refine Or.inl ⟨rfl, by omega, by omega, by omega, ?_, ?_⟩
  · have h2 : v < 2 ^ (8 * n) := by
      rcases Nat.lt_or_ge v (2 ^ (8 * n)) with h3 | h3
      · exact h3
      · have := (Nat.le_div_iff_mul_le (Nat.two_pow_pos (8 * n))).2 (show 1 * 2 ^ (8 * n) ≤ v by omega)
        omega
    rw [Int.toNat_natCast]
    exact_mod_cast h2
  · rw [Int.toNat_natCast, Int.toNat_natCast]; exact hs

theorem putIs_not (v n : Nat) (h : 0 < v / 2 ^ (8 * n)) : PutIs v n ByteArray.empty 1 := by
  refine Or.inr ⟨rfl, rfl, Or.inr (Or.inr (Or.inr ?_))⟩
  rw [Int.toNat_natCast]
  have h2 : 2 ^ (8 * n) ≤ v := by
    have := (Nat.le_div_iff_mul_le (Nat.two_pow_pos (8 * n))).1 h
    omega
  exact_mod_cast h2

theorem putIs_one {v n : Int} {s t : ByteArray} {e f : Int} (h : PutIs v n s e) (k : PutIs v n t f) : s = t ∧ e = f := by
  rcases h with ⟨h0, h1, h2, h3, h4, h5⟩ | ⟨h0, h1, h2⟩
  · rcases k with ⟨k0, k1, k2, k3, k4, k5⟩ | ⟨k0, k1, k2⟩
    · exact ⟨h5.trans k5.symm, h0.trans k0.symm⟩
    · omega
  · rcases k with ⟨k0, k1, k2, k3, k4, k5⟩ | ⟨k0, k1, k2⟩
    · omega
    · exact ⟨h1.trans k1.symm, h0.trans k0.symm⟩

set_option maxRecDepth 100000 in
set_option maxHeartbeats 1000000 in
theorem rput_bad (v n : Int) (w : World) (h : n < 1 ∨ 7 < n ∨ v < 0) :
    Calls Tryz.prog 24 #[.int .i64 v, .int .i64 n] w fun e w' => e = .returned (.tuple #[.string ByteArray.empty, .int .i64 1]) ∧ w = w' := by
  by_cases h1 : n < 1
  · clear h
    go_enter Tryz.func24, Tryz.ntmps24
    go_wp2
    go_ret2
    exact ⟨rfl, rfl⟩
  by_cases h2 : 7 < n
  · clear h
    go_enter Tryz.func24, Tryz.ntmps24
    go_wp2
    go_ret2
    exact ⟨rfl, rfl⟩
  have h3 : v < 0 := by omega
  clear h
  go_enter Tryz.func24, Tryz.ntmps24
  go_wp2
  go_ret2
  exact ⟨rfl, rfl⟩

set_option maxRecDepth 100000 in
set_option maxHeartbeats 2000000 in
theorem rput_nat (v n : Nat) (w : World) (h1 : 1 ≤ n) (h7 : n ≤ 7) (hv : v < 9223372036854775808) :
    Calls Tryz.prog 24 #[.int .i64 (v : Int), .int .i64 (n : Int)] w fun e w' => ∃ (s : ByteArray) (er : Int), e = .returned (.tuple #[.string s, .int .i64 er]) ∧ Hid (PutIs v n s er) ∧ Below w.heap.size w w' := by
  obtain ⟨i0, hi0, hz0, hz1, hz2⟩ := info_parts u8info
  go_enter Tryz.func24, Tryz.ntmps24
  go_wp2_with (at_make; refine wpList_make_full _ rfl (.tmp 18) (.tmp 18) 68 rfl w.heap.size 5 i0 (.int .u8 0) 1 Tryz.underlying68 hi0 hz0 hz1 .i64 .i64 _ _ n rfl rfl rfl rfl ?b2 ?b3 ?b4 ?_)
  case b2 => rw [hz2]; omega
  case b3 => unfold maxLen; omega
  case b4 => exact Nat.le_refl _
  intro w1 hown hgr
  have hb1 : Below w.heap.size w w1 := (Below.refl _ _).grown hgr (Nat.le_refl _) (by simp)
  rw [show (madeCells #[Value.int IntKind.u8 0] n).toList = (List.replicate n (0 : UInt8)).map b8 from (toList_madeCells_one _ _).trans (by simp [b8])] at hown
  have Hown := Lib.hid hown
  clear hown hgr
  go_wp2
  go_loopw [0, 7] (fun x i wr => ∃ j k y : Nat, j + k = n ∧ i = .int .i64 ((j : Int) - 1) ∧ x = .int .i64 (y : Int) ∧ y ≤ v ∧ Hid (y = v / 2 ^ (8 * k)) ∧ wr.ownsRow w.heap.size 5 1 (.slice (some ⟨w.heap.size, 0, none⟩) n n) n ((List.replicate j 0 ++ (be v n).drop j).map b8) ∧ Below w.heap.size w wr)
    (fun _ i _ => (intOf i + 1).toNat)
  case atStart => exact ⟨n, 0, v, by omega, rfl, rfl, by omega, by show v = _; simp, by simpa [List.drop_of_length_le (Nat.le_of_eq (be_length v n))] using Hown.out, hb1⟩
  case round =>
    obtain ⟨j, k, y, hjk, hi, rfl, hy, Hy, hown, hbe⟩ := hrel
    cases j with
    | succ j =>
      rw [show (((j + 1 : Nat) : Int) - 1) = (j : Int) from by omega] at hi
      subst hi
      have hln : (List.replicate (j + 1) (0 : UInt8) ++ (be v n).drop (j + 1)).length = n := by simp [be]; omega
      have hc := hown.cellAt j (by omega)
      have hf := hown.frozenAt j
      obtain ⟨x, hx⟩ : ∃ x, ((List.replicate (j + 1) (0 : UInt8) ++ (be v n).drop (j + 1)).map b8)[j]? = some x := ⟨_, List.getElem?_eq_getElem (by rw [List.length_map, hln]; omega)⟩
      rw [hx] at hc
      have Hown' := Lib.hid hown
      have hjn : j < n := by omega
      clear hown hx hln
      go_wp2
      go_roundw
      case rel =>
        have hst := World.ownsRow.stored Hown'.out j (.int .u8 ((y : Int) % 256))
        rw [be_back v n j k (by omega) ((y : Int) % 256) (by rw [Hy.out])] at hst
        refine ⟨j, k + 1, y / 256, by omega, by go_num, by go_num, by omega, ?_, hst.1, below_setCell hbe (Nat.le_refl _) _⟩
        show _ = _
        rw [Hy.out, Nat.div_div_eq_div_mul, Nat.mul_add, Nat.pow_add]
      case measure => simp [intOf]
    | zero =>
      subst hi
      obtain rfl : k = n := by omega
      by_cases hpos : 0 < y
      · go_wp2
        go_ret2
        refine ⟨_, _, rfl, ?_, hbe⟩
        exact Lib.hid (putIs_not v k (by rw [← Hy.out]; exact hpos))
      · have hby : Byt wr w.heap.size 5 (.slice (some ⟨w.heap.size, 0, none⟩) k k) (be v k) := by
          unfold Byt
          rw [be_length]
          simpa using hown
        have hcv := hby.string (src := 68) (dst := 9) Tryz.underlying68 Tryz.underlying5 Tryz.underlying9
        clear hown hby
        go_wp2
        go_ret2
        exact ⟨_, _, rfl, Lib.hid (putIs_of v k 0 h1 h7 _ rfl (by rw [← Hy.out]; omega)), hbe⟩

theorem rput_any (v n : Int) (w : World) (hv : v < 9223372036854775808) :
    Calls Tryz.prog 24 #[.int .i64 v, .int .i64 n] w fun e w' => ∃ (s : ByteArray) (er : Int), e = .returned (.tuple #[.string s, .int .i64 er]) ∧ Hid (PutIs v n s er) ∧ Below w.heap.size w w' := by
  by_cases h : n < 1 ∨ 7 < n ∨ v < 0
  · refine (rput_bad v n w h).mono ?_
    rintro e w' ⟨rfl, rfl⟩
    exact ⟨_, _, rfl, Lib.hid (Or.inr ⟨rfl, rfl, by omega⟩), Below.refl _ _⟩
  · obtain ⟨n, rfl⟩ := Int.eq_ofNat_of_zero_le (show 0 ≤ n by omega)
    obtain ⟨v, rfl⟩ := Int.eq_ofNat_of_zero_le (show 0 ≤ v by omega)
    exact rput_nat v n w (by omega) (by omega) (by omega)
end Go.Proofs.YthjphiniljopgaaGreatDoor

namespace Go.Proofs.YthjphiniljopgaaGreatDoor
open Go.RowKit

set_option maxRecDepth 100000 in
set_option maxHeartbeats 1000000 in
theorem qkey_any (x : Nat) (hx : x < 18446744073709551616) (w : World) :
    Calls Tryz.prog 160 #[.float .f64 x] w fun e w' => e = .returned (.tuple #[.int .i64 ((rankN x / 4294967296 : Nat) : Int), .int .i64 ((rankN x % 4294967296 : Nat) : Int)]) ∧ w = w' := by
  have C := Lib.hid (qisnan_any x w)
  have hfb := run_float64bits x
  cases hn : isN x
  · rw [hn] at C
    rcases word_parts x hx with ⟨h1, h2, h3⟩ | ⟨h1, h2, h3⟩
    · have hr : rankN x = 18446744073709551615 - x := by unfold rankN; rw [hn, h1]; rfl
      have r1 : ((rankN x / 4294967296 : Nat) : Int) = 4294967295 - (x : Int) / 4294967296 := by rw [hr]; omega
      have r2 : ((rankN x % 4294967296 : Nat) : Int) = 4294967295 - (x : Int) % 4294967296 := by rw [hr]; omega
      rw [r1, r2]
      have hd : decide ((2147483648 : Int) ≤ (x : Int) / 4294967296) = true := decide_eq_true (by omega)
      have hq : (x : Int) / 4294967296 ≤ 4294967295 := by omega
      have hq0 : 0 ≤ (x : Int) / 4294967296 := by omega
      clear hr r1 r2 h1 h2 h3 hn
      go_enter Tryz.func160, Tryz.ntmps160
      go_wp2_with fail
      refine C.out.mono ?_
      rintro e w' ⟨rfl, rfl⟩
      go_wp2_with fail
      go_ret2
      exact ⟨rfl, rfl⟩
    · have hr : rankN x = x + 9223372036854775808 := by unfold rankN; rw [hn, h1]; rfl
      have r1 : ((rankN x / 4294967296 : Nat) : Int) = (x : Int) / 4294967296 + 2147483648 := by rw [hr]; omega
      have r2 : ((rankN x % 4294967296 : Nat) : Int) = (x : Int) % 4294967296 := by rw [hr]; omega
      rw [r1, r2]
      have hd : decide ((2147483648 : Int) ≤ (x : Int) / 4294967296) = false := decide_eq_false (by omega)
      have hq : (x : Int) / 4294967296 ≤ 4294967295 := by omega
      have hq0 : 0 ≤ (x : Int) / 4294967296 := by omega
      clear hr r1 r2 h1 h2 h3 hn
      go_enter Tryz.func160, Tryz.ntmps160
      go_wp2_with fail
      refine C.out.mono ?_
      rintro e w' ⟨rfl, rfl⟩
      go_wp2_with fail
      go_ret2
      exact ⟨rfl, rfl⟩
  · rw [hn] at C
    rw [rank_nan x hn]
    go_enter Tryz.func160, Tryz.ntmps160
    go_wp2_with fail
    refine C.out.mono ?_
    rintro e w' ⟨rfl, rfl⟩
    go_wp2_with fail
    go_ret2
    exact ⟨rfl, rfl⟩

set_option maxRecDepth 100000 in
set_option maxHeartbeats 2000000 in
theorem qcompare_any (x y : Nat) (hx : x < 18446744073709551616) (hy : y < 18446744073709551616) (w : World) :
    Calls Tryz.prog 146 #[.float .f64 x, .float .f64 y] w fun e w' => e = .returned (.int .i64 (cmpN x y)) ∧ w = w' := by
  have C := fun W => Lib.hid (qkey_any x hx W)
  have D := fun W => Lib.hid (qkey_any y hy W)
  have hc : (((rankN x / 4294967296 : Nat) : Int) < ((rankN y / 4294967296 : Nat) : Int) ∧ cmpN x y = -1) ∨
      (((rankN x / 4294967296 : Nat) : Int) = ((rankN y / 4294967296 : Nat) : Int) ∧ ((rankN x % 4294967296 : Nat) : Int) < ((rankN y % 4294967296 : Nat) : Int) ∧ cmpN x y = -1) ∨
      (((rankN x / 4294967296 : Nat) : Int) = ((rankN y / 4294967296 : Nat) : Int) ∧ ((rankN x % 4294967296 : Nat) : Int) = ((rankN y % 4294967296 : Nat) : Int) ∧ cmpN x y = 0) ∨
      (((rankN x / 4294967296 : Nat) : Int) = ((rankN y / 4294967296 : Nat) : Int) ∧ ((rankN y % 4294967296 : Nat) : Int) < ((rankN x % 4294967296 : Nat) : Int) ∧ cmpN x y = 1) ∨
      (((rankN y / 4294967296 : Nat) : Int) < ((rankN x / 4294967296 : Nat) : Int) ∧ cmpN x y = 1) := by
    rcases Nat.lt_trichotomy (rankN x) (rankN y) with h | h | h
    · rw [cmpN_lt h]; omega
    · rw [cmpN_eq h]; omega
    · rw [cmpN_gt h]; omega
  generalize cmpN x y = c at *
  generalize ((rankN x / 4294967296 : Nat) : Int) = a at *
  generalize ((rankN x % 4294967296 : Nat) : Int) = b at *
  generalize ((rankN y / 4294967296 : Nat) : Int) = p at *
  generalize ((rankN y % 4294967296 : Nat) : Int) = q at *
  clear hx hy
  rcases hc with ⟨h1, rfl⟩ | ⟨rfl, h2, rfl⟩ | ⟨rfl, rfl, rfl⟩ | ⟨rfl, h2, rfl⟩ | ⟨h1, rfl⟩
  all_goals
    go_enter Tryz.func146, Tryz.ntmps146
    go_wp2_with fail
    refine (C _).out.mono ?_
    rintro e w' ⟨rfl, rfl⟩
    go_wp2_with fail
    refine (D _).out.mono ?_
    rintro e w' ⟨rfl, rfl⟩
    go_wp2_with fail
    go_ret
    exact ⟨rfl, rfl⟩

set_option maxHeartbeats 400000 in
theorem qsame_any (x y : Nat) (hx : x < 18446744073709551616) (hy : y < 18446744073709551616) (w : World) :
    Calls Tryz.prog 107 #[.float .f64 x, .float .f64 y] w fun e w' => e = .returned (.bool (cmpN x y == 0)) ∧ w = w' := by
  have S := Lib.hid (qcompare_any x y hx hy w)
  go_enter Tryz.func107, Tryz.ntmps107
  go_wp2_with fail
  refine S.out.mono ?_
  rintro e w' ⟨rfl, rfl⟩
  go_wp2_with fail
  go_ret
  exact ⟨rfl, rfl⟩

/-! ### Put -/
theorem be_cat (m : Nat) : ∀ (n v : Nat), be v (n + m) = be (v / 2 ^ (8 * m)) n ++ be v m
  | 0, v => by simp [be]
  | n + 1, v => by
    rw [show n + 1 + m = (n + m) + 1 from by omega, be_succ, be_succ, be_cat m n v, List.cons_append, Nat.div_div_eq_div_mul, ← Nat.pow_add]
    congr 6
    omega
theorem be_half (v : Nat) : be v 8 = be (v / 4294967296) 4 ++ be (v % 4294967296) 4 := by
  have h := be_cat 4 4 v
  have h2 := be_mod v 4
  rw [show (2 : Nat) ^ (8 * 4) = 4294967296 from by decide] at h h2
  rw [← h2]
  exact h

theorem rput4 (v : Nat) (w : World) (hv : v < 4294967296) :
    Calls Tryz.prog 24 #[.int .i64 (v : Int), .int .i64 4] w fun e w' => e = .returned (.tuple #[.string ⟨(be v 4).toArray⟩, .int .i64 0]) ∧ Below w.heap.size w w' := by
  refine (rput_any (v : Int) 4 w (by omega)).mono ?_
  rintro e w' ⟨s, er, rfl, hp, hb⟩
  rcases hp.out with ⟨rfl, _, _, _, _, rfl⟩ | ⟨_, _, h⟩
  · exact ⟨by rw [Int.toNat_natCast]; rfl, hb⟩
  · rw [show (2 : Int) ^ (8 * (4 : Int).toNat) = 4294967296 from by decide] at h
    omega

end Go.Proofs.YthjphiniljopgaaGreatDoor

namespace Go.Proofs.YthjphiniljopgaaGreatDoor
open Go.RowKit

def sameActN (kd : Int) (nu : Nat) (it : Int) (tx : ByteArray) (kd' : Int) (nu' : Nat) (it' : Int) (tx' : ByteArray) : Bool := (kd == kd') && ((cmpN nu nu' == 0) && ((it == it') && (tx.toList == tx'.toList)))
def sameVerN (key : ByteArray) (xs : List Int) (o x kd : Int) (nu : Nat) (it : Int) (tx : ByteArray) (key' : ByteArray) (xs' : List Int) (o' x' kd' : Int) (nu' : Nat) (it' : Int) (tx' : ByteArray) : Bool :=
  (key.toList == key'.toList) && (decide (xs = xs') && ((o == o') && ((x == x') && sameActN kd nu it tx kd' nu' it' tx')))

/-- An act as a value. -/
def actV (kd : Int) (nu : Nat) (it : Int) (tx : ByteArray) : Value := .agg #[.int .i64 kd, .float .f64 nu, .int .i64 it, .string tx]

set_option maxRecDepth 100000 in
set_option maxHeartbeats 4000000 in
theorem rsameact_any (kd : Int) (nu : Nat) (it : Int) (tx : ByteArray) (kd' : Int) (nu' : Nat) (it' : Int) (tx' : ByteArray) (hn : nu < 18446744073709551616) (hn' : nu' < 18446744073709551616) (w : World) :
    Calls Tryz.prog 33 #[actV kd nu it tx, actV kd' nu' it' tx'] w fun e w' => e = .returned (.bool (sameActN kd nu it tx kd' nu' it' tx')) ∧ Below w.heap.size w w' := by
  unfold actV sameActN
  have C := fun W => Lib.hid (qsame_any nu nu' hn hn' W)
  have hb : Hid (Below w.heap.size w ((w.alloc (.cells #[.int .i64 kd, .float .f64 nu, .int .i64 it, .string tx] 26)).alloc (.cells #[.int .i64 kd', .float .f64 nu', .int .i64 it', .string tx'] 26))) :=
    ((Below.refl _ w).alloc (Nat.le_refl _) _).alloc (by simp) _
  obtain ⟨q1, h1⟩ : ∃ q, (kd == kd') = q := ⟨_, rfl⟩
  obtain ⟨q2, h2⟩ : ∃ q, (cmpN nu nu' == 0) = q := ⟨_, rfl⟩
  obtain ⟨q3, h3⟩ : ∃ q, (it == it') = q := ⟨_, rfl⟩
  obtain ⟨q4, h4⟩ : ∃ q, (tx.toList == tx'.toList) = q := ⟨_, rfl⟩
  rw [h1, h2, h3, h4]
  simp only [h2] at C
  clear h2
  cases q1
  · go_enter Tryz.func33, Tryz.ntmps33
    go_wp2_with fail
    go_ret
    exact ⟨rfl, hb.out⟩
  · cases q2
    · go_enter Tryz.func33, Tryz.ntmps33
      go_wp2_with fail
      refine (C _).out.mono ?_
      rintro e w' ⟨rfl, rfl⟩
      go_wp2_with fail
      go_ret
      exact ⟨rfl, hb.out⟩
    · cases q3
      · go_enter Tryz.func33, Tryz.ntmps33
        go_wp2_with fail
        refine (C _).out.mono ?_
        rintro e w' ⟨rfl, rfl⟩
        go_wp2_with fail
        go_ret
        exact ⟨rfl, hb.out⟩
      · go_enter Tryz.func33, Tryz.ntmps33
        go_wp2_with fail
        refine (C _).out.mono ?_
        rintro e w' ⟨rfl, rfl⟩
        go_wp2_with fail
        go_ret
        exact ⟨by simp, hb.out⟩

set_option maxRecDepth 100000 in
set_option maxHeartbeats 8000000 in
theorem rsamever_any (key : ByteArray) (A : Option Addr) (n c : Nat) (o x kd : Int) (nu : Nat) (it : Int) (tx : ByteArray) (xs : List Int) (key' : ByteArray) (A' : Option Addr) (n' c' : Nat) (o' x' kd' : Int) (nu' : Nat) (it' : Int) (tx' : ByteArray) (xs' : List Int)
    (w : World) (I : IntsIn w A n xs) (I' : IntsIn w A' n' xs') (hn : nu < 18446744073709551616) (hn' : nu' < 18446744073709551616) :
    Calls Tryz.prog 11 #[verV key A n c o x kd nu it tx, verV key' A' n' c' o' x' kd' nu' it' tx'] w fun e w' => e = .returned (.bool (sameVerN key xs o x kd nu it tx key' xs' o' x' kd' nu' it' tx')) ∧ Below w.heap.size w w' := by
  unfold verV sameVerN
  have hb : Hid (Below w.heap.size w ((w.alloc (.cells #[.string key, .slice A n c, .int .i64 o, .int .i64 x, .int .i64 kd, .float .f64 nu, .int .i64 it, .string tx] 28)).alloc (.cells #[.string key', .slice A' n' c', .int .i64 o', .int .i64 x', .int .i64 kd', .float .f64 nu', .int .i64 it', .string tx'] 28))) :=
    ((Below.refl _ w).alloc (Nat.le_refl _) _).alloc (by simp) _
  have S := Lib.hid (rsame_any A n c xs A' n' c' xs' _ (I.below hb.out) (I'.below hb.out))
  have CA := fun W => Lib.hid (rsameact_any kd nu it tx kd' nu' it' tx' hn hn' W)
  simp only [actV] at CA
  clear I I'
  obtain ⟨q1, h1⟩ : ∃ q, (key.toList == key'.toList) = q := ⟨_, rfl⟩
  obtain ⟨q2, h2⟩ : ∃ q, decide (xs = xs') = q := ⟨_, rfl⟩
  obtain ⟨q3, h3⟩ : ∃ q, (o == o') = q := ⟨_, rfl⟩
  obtain ⟨q4, h4⟩ : ∃ q, (x == x') = q := ⟨_, rfl⟩
  rw [h1, h2, h3, h4]
  rw [h2] at S
  generalize sameActN kd nu it tx kd' nu' it' tx' = q5 at *
  clear h2
  cases q1
  · go_enter Tryz.func11, Tryz.ntmps11
    go_wp2_with fail
    go_ret
    exact ⟨by simp, hb.out⟩
  · cases q2
    · go_enter Tryz.func11, Tryz.ntmps11
      go_wp2_with fail
      refine S.out.mono ?_
      rintro e w1 ⟨rfl, q, rfl⟩
      go_wp2_with fail
      go_ret
      exact ⟨by simp, below_drewN hb.out q⟩
    · cases q3
      · go_enter Tryz.func11, Tryz.ntmps11
        go_wp2_with fail
        refine S.out.mono ?_
        rintro e w1 ⟨rfl, q, rfl⟩
        go_wp2_with fail
        go_ret
        exact ⟨by simp, below_drewN hb.out q⟩
      · cases q4
        · go_enter Tryz.func11, Tryz.ntmps11
          go_wp2_with fail
          refine S.out.mono ?_
          rintro e w1 ⟨rfl, q, rfl⟩
          go_wp2_with fail
          go_ret
          exact ⟨by simp, below_drewN hb.out q⟩
        · go_enter Tryz.func11, Tryz.ntmps11
          go_wp2_with fail
          refine S.out.mono ?_
          rintro e w1 ⟨rfl, q, rfl⟩
          go_wp2_with fail
          refine (CA _).out.mono ?_
          rintro e w2 ⟨rfl, h2⟩
          have hb2 := (below_drewN hb.out q).trans (h2.mono (show w.heap.size ≤ (((w.alloc (.cells #[.string key, .slice A n c, .int .i64 o, .int .i64 x, .int .i64 kd, .float .f64 nu, .int .i64 it, .string tx] 28)).alloc (.cells #[.string key', .slice A' n' c', .int .i64 o', .int .i64 x', .int .i64 kd', .float .f64 nu', .int .i64 it', .string tx'] 28)).drewN q).heap.size by simp; omega))
          go_wp2_with fail
          go_ret
          exact ⟨by simp, hb2⟩
end Go.Proofs.YthjphiniljopgaaGreatDoor

namespace Go.Proofs.YthjphiniljopgaaGreatDoor
open Go.RowKit

theorem bytes_ext {X Y : ByteArray} (h : X.data.toList = Y.data.toList) : X = Y := by
  cases X; cases Y
  simpa using h
/-- Of a version's bytes Get tells the version. -/
theorem kget_of {key : ByteArray} {xs : List Int} {o x : Int} (h : OkV key.data.toList xs o x) (s : ByteArray) (hs : s.data.toList = putVL key.data.toList xs o x) (w : World) :
    Calls Tryz.prog 8 #[.string s] w fun e w' => (∃ A c, e = .returned (.tuple #[verV key A xs.length c o x 0 0 0 ByteArray.empty, .int .i64 0]) ∧ Nums w' w.heap.size 3 (.slice A xs.length c) xs) ∧ Below w.heap.size w w' := by
  have hsz : s.size ≤ 140737488351232 := by
    rw [str_size, hs]
    have := putVL_length h
    omega
  refine (kget_any s w hsz).mono fun e w' ⟨hg, hb⟩ => ⟨?_, hb⟩
  rcases hg with ⟨key', A, c, o', x', xs', h', e1, e2, hN⟩ | ⟨hno, _⟩
  · obtain ⟨k1, k2, k3, k4⟩ := putVL_inj h h' (hs.symm.trans e1)
    have k1 := bytes_ext k1
    subst k1 k2 k3 k4
    exact ⟨A, c, e2, hN⟩
  · exact absurd hs (hno key xs o x h)
theorem kkey_of {key : ByteArray} {xs : List Int} {o x : Int} (h : OkV key.data.toList xs o x) (s : ByteArray) (hs : s.data.toList = putVL key.data.toList xs o x) (w : World) :
    Calls Tryz.prog 10 #[.string s] w fun e w' => e = .returned (.tuple #[.string key, .int .i64 0]) ∧ Below w.heap.size w w' := by
  have hsz : s.size ≤ 140737488351232 := by
    rw [str_size, hs]
    have := putVL_length h
    omega
  refine (kkey_any s w hsz).mono fun e w' ⟨hg, hb⟩ => ⟨?_, hb⟩
  rcases hg with ⟨key', xs', o', x', h', e1, e2⟩ | ⟨hno, _⟩
  · obtain ⟨k1, k2, k3, k4⟩ := putVL_inj h h' (hs.symm.trans e1)
    rw [bytes_ext k1]
    exact e2
  · exact absurd hs (hno key xs o x h)
theorem sameVerN_self (key : ByteArray) (xs : List Int) (o x kd : Int) (it : Int) (tx : ByteArray) : sameVerN key xs o x kd 0 it tx key xs o x kd 0 it tx = true := by
  unfold sameVerN sameActN
  have : (cmpN 0 0 == 0) = true := by decide
  simp [this]
theorem sameVerN_ne {key key' : ByteArray} {xs xs' : List Int} {o o' x x' kd kd' : Int} {nu nu' : Nat} {it it' : Int} {tx tx' : ByteArray} (h : ¬ (key = key' ∧ xs = xs' ∧ o = o' ∧ x = x')) : sameVerN key xs o x kd nu it tx key' xs' o' x' kd' nu' it' tx' = false := by
  unfold sameVerN
  rw [str_eq]
  by_cases h1 : key.data.toList = key'.data.toList
  · by_cases h2 : xs = xs'
    · by_cases h3 : o = o'
      · by_cases h4 : x = x'
        · exact absurd ⟨bytes_ext h1, h2, h3, h4⟩ h
        · simp [h4]
      · simp [h3]
    · simp [h2]
  · simp [h1]
/-- Of other bytes Get tells another version, or none. -/
theorem kget_other {key : ByteArray} {xs : List Int} {o x : Int} (h : OkV key.data.toList xs o x) (s : ByteArray) (hsz : s.size ≤ 140737488351232) (hs : s.data.toList ≠ putVL key.data.toList xs o x) (w : World) :
    Calls Tryz.prog 8 #[.string s] w fun e w' => ((∃ key' A c o' x' xs', e = .returned (.tuple #[verV key' A xs'.length c o' x' 0 0 0 ByteArray.empty, .int .i64 0]) ∧ Nums w' w.heap.size 3 (.slice A xs'.length c) xs' ∧ validL xs' = true ∧ sameVerN key' xs' o' x' 0 0 0 ByteArray.empty key xs o x 0 0 0 ByteArray.empty = false) ∨
      e = .returned (.tuple #[verV ByteArray.empty none 0 0 0 0 0 0 0 ByteArray.empty, .int .i64 4])) ∧ Below w.heap.size w w' := by
  refine (kget_any s w hsz).mono fun e w' ⟨hg, hb⟩ => ⟨?_, hb⟩
  rcases hg with ⟨key', A, c, o', x', xs', h', e1, e2, hN⟩ | ⟨_, e2⟩
  · refine Or.inl ⟨key', A, c, o', x', xs', e2, hN, h'.at_, sameVerN_ne ?_⟩
    rintro ⟨rfl, rfl, rfl, rfl⟩
    exact hs e1
  · exact Or.inr e2
/-- The numbers of an own row as they are read. -/
theorem nums_in {w : World} {B : Nat} {A : Option Addr} {c : Nat} {xs : List Int} (h : Nums w B 3 (.slice A xs.length c) xs) (hv : validL xs = true) : IntsIn w A xs.length xs := by
  obtain ⟨A', c', e, hI, _⟩ := Nums.ints h (fun z hz => by have := valid_mem hv z hz; simp [Lit.wf, IntKind.min, IntKind.max, IntKind.signed, IntKind.bits]; omega)
  cases e
  exact hI
end Go.Proofs.YthjphiniljopgaaGreatDoor

namespace Go.Proofs.YthjphiniljopgaaGreatDoor
open Go.RowKit

theorem get5_plain {data acc : List UInt8} {k : Nat} (F : scanL (data.length + 1) [] data = (acc, data.drop k)) {key : List UInt8} {xs : List Int} {o x : Int} (h : OkV key xs o x) (e : data = putVL key xs o x) :
    acc = key ∧ k + 15 ≤ data.length ∧ 255 - ((getL ((data.drop (k + 8)).take 1) : Nat) : Int) = o ∧ 281474976710655 - ((getL ((data.drop (k + 9)).take 6) : Nat) : Int) = x ∧ data.drop (k + 15) = vecB xs := by
  have hl := putVL_length h
  have hh := headL_two key
  have h1 := scanL_put key xs o x data.length (by rw [e]; omega)
  rw [← e, F] at h1
  have ha : acc = key := congrArg Prod.fst h1
  have hr : data.drop k = 0 :: 1 :: tailL (timeN xs o).toNat o.toNat x.toNat (vecB xs) := congrArg Prod.snd h1
  have t := h.time
  have a1 := h.o0
  have a2 := h.o255
  have b1 := h.x0
  have b2 := h.x1
  have hlen := congrArg List.length hr
  rw [List.length_drop, List.length_cons, List.length_cons, tailL_length, vecB_length] at hlen
  have hd : ∀ j, data.drop (k + j) = (0 :: 1 :: tailL (timeN xs o).toNat o.toNat x.toNat (vecB xs)).drop j := by
    intro j
    rw [← hr, List.drop_drop]
  have l1 := be_length (281474976710655 - (timeN xs o).toNat) 6
  have l2 := be_length (255 - o.toNat) 1
  have l3 := be_length (281474976710655 - x.toNat) 6
  have g2 := getL_be 1 (255 - o.toNat) (by omega)
  have g3 := getL_be 6 (281474976710655 - x.toNat) (by omega)
  refine ⟨ha, by omega, ?_, ?_, ?_⟩
  · rw [hd 8]
    unfold tailL
    generalize be (281474976710655 - (timeN xs o).toNat) 6 = B1 at *
    generalize be (255 - o.toNat) 1 = B2 at *
    have : (0 :: 1 :: (B1 ++ (B2 ++ (be (281474976710655 - x.toNat) 6 ++ vecB xs)))).drop 8 = B2 ++ (be (281474976710655 - x.toNat) 6 ++ vecB xs) := by
      show (B1 ++ (B2 ++ (be (281474976710655 - x.toNat) 6 ++ vecB xs))).drop 6 = _
      rw [← l1, List.drop_left]
    rw [this, ← l2, List.take_left, g2]
    omega
  · rw [hd 9]
    unfold tailL
    generalize be (281474976710655 - (timeN xs o).toNat) 6 = B1 at *
    generalize be (255 - o.toNat) 1 = B2 at *
    generalize be (281474976710655 - x.toNat) 6 = B3 at *
    have : (0 :: 1 :: (B1 ++ (B2 ++ (B3 ++ vecB xs)))).drop 9 = B3 ++ vecB xs := by
      show (B1 ++ (B2 ++ (B3 ++ vecB xs))).drop 7 = _
      rw [← List.append_assoc, show 7 = (B1 ++ B2).length by rw [List.length_append]; omega, List.drop_left]
    rw [this, ← l3, List.take_left, g3]
    omega
  · rw [hd 15]
    unfold tailL
    generalize be (281474976710655 - (timeN xs o).toNat) 6 = B1 at *
    generalize be (255 - o.toNat) 1 = B2 at *
    generalize be (281474976710655 - x.toNat) 6 = B3 at *
    show (B1 ++ (B2 ++ (B3 ++ vecB xs))).drop 13 = _
    rw [← List.append_assoc, ← List.append_assoc, show 13 = (B1 ++ B2 ++ B3).length by rw [List.length_append, List.length_append]; omega, List.drop_left]
end Go.Proofs.YthjphiniljopgaaGreatDoor

namespace Go.Proofs.YthjphiniljopgaaGreatDoor
open Go.RowKit

/-- A key with its zeros told apart. -/
def escL (l : List UInt8) : List UInt8 := l.flatMap fun c => if c = 0 then [0, 255] else [c]
theorem headL_esc : ∀ l : List UInt8, headL l = escL l ++ [0, 1]
  | [] => rfl
  | c :: l => by
    unfold headL escL
    rw [List.flatMap_cons]
    have := headL_esc l
    unfold escL at this
    by_cases h : c = 0
    · rw [if_pos h, if_pos h, this]; rfl
    · rw [if_neg h, if_neg h, this]; rfl
theorem escL_length (l : List UInt8) : (escL l).length ≤ 2 * l.length := by
  have := (headL_two l).2.2
  rw [headL_esc, List.length_append] at this
  simp at this
  omega
theorem escL_snoc (s : ByteArray) (k : Nat) (h : k < s.size) : escL (s.data.toList.take (k + 1)) = escL (s.data.toList.take k) ++ (if s[k] = 0 then [0, 255] else [s[k]]) := by
  have e : s.data.toList.take (k + 1) = s.data.toList.take k ++ [s[k]] := by
    rw [List.take_succ_eq_append_getElem (by simpa using h)]
    rfl
  rw [e]
  unfold escL
  rw [List.flatMap_append]
  simp

set_option maxRecDepth 100000 in
set_option maxHeartbeats 4000000 in
theorem riskey_any (s : ByteArray) (w : World) (hs : s.size ≤ 9223372036854775807) :
    Calls Tryz.prog 15 #[.string s] w fun e w' => e = .returned (.bool (isKeyL s.data.toList)) ∧ w' = w := by
  have hlen : s.data.toList.length = s.size := (str_size s).symm
  by_cases h1 : 1 ≤ s.size
  · by_cases h2 : s.size ≤ 64
    · have hlt : 0 < s.size := by omega
      obtain ⟨c, hc⟩ : ∃ c : UInt8, s[0]'hlt = c := ⟨_, rfl⟩
      have hd : s.data.toList.headD 0 = c := by
        rw [← hc]
        cases hx : s.data.toList with
        | nil => rw [hx] at hlen; simp at hlen; omega
        | cons a l =>
          have : s[0]'hlt = s.data.toList[0]'(by rw [hlen]; omega) := rfl
          rw [this]
          simp [hx]
      have hk : isKeyL s.data.toList = decide (c = 114 ∨ c = 116 ∨ c = 99 ∨ c = 120 ∨ c = 110) := by
        unfold isKeyL
        rw [hlen, hd]
        congr 1
        apply propext
        constructor
        · exact fun h => h.2
        · exact fun h => ⟨⟨h1, h2⟩, h⟩
      rw [hk]
      have e0 : (1 : Int) ≤ (s.size : Int) := by omega
      have e64 : (s.size : Int) ≤ 64 := by omega
      have eq : ∀ d : UInt8, ((c.toNat : Int) == (d.toNat : Int)) = decide (c = d) := by
        intro d
        rw [Bool.eq_iff_iff, beq_iff_eq, decide_eq_true_eq]
        constructor
        · intro h; exact UInt8.toNat_inj.1 (by omega)
        · rintro rfl; rfl
      have q1 := eq 114
      have q2 := eq 116
      have q3 := eq 99
      have q4 := eq 120
      have q5 := eq 110
      rw [show ((114 : UInt8).toNat : Int) = 114 from rfl] at q1
      rw [show ((116 : UInt8).toNat : Int) = 116 from rfl] at q2
      rw [show ((99 : UInt8).toNat : Int) = 99 from rfl] at q3
      rw [show ((120 : UInt8).toNat : Int) = 120 from rfl] at q4
      rw [show ((110 : UInt8).toNat : Int) = 110 from rfl] at q5
      clear eq hk hd hlen h1 h2
      by_cases g1 : c = 114
      · rw [decide_eq_true g1] at q1
        rw [decide_eq_true (Or.inl g1)]
        clear q2 q3 q4 q5 g1
        go_enter Tryz.func15, Tryz.ntmps15
        go_wp2_with fail
        go_ret
        exact ⟨rfl, rfl⟩
      · rw [decide_eq_false g1] at q1
        by_cases g2 : c = 116
        · rw [decide_eq_true g2] at q2
          rw [decide_eq_true (Or.inr (Or.inl g2))]
          clear q3 q4 q5 g1 g2
          go_enter Tryz.func15, Tryz.ntmps15
          go_wp2_with fail
          go_ret
          exact ⟨rfl, rfl⟩
        · rw [decide_eq_false g2] at q2
          by_cases g3 : c = 99
          · rw [decide_eq_true g3] at q3
            rw [decide_eq_true (Or.inr (Or.inr (Or.inl g3)))]
            clear q4 q5 g1 g2 g3
            go_enter Tryz.func15, Tryz.ntmps15
            go_wp2_with fail
            go_ret
            exact ⟨rfl, rfl⟩
          · rw [decide_eq_false g3] at q3
            by_cases g4 : c = 120
            · rw [decide_eq_true g4] at q4
              rw [decide_eq_true (Or.inr (Or.inr (Or.inr (Or.inl g4))))]
              clear q5 g1 g2 g3 g4
              go_enter Tryz.func15, Tryz.ntmps15
              go_wp2_with fail
              go_ret
              exact ⟨rfl, rfl⟩
            · rw [decide_eq_false g4] at q4
              have hf : decide (c = 114 ∨ c = 116 ∨ c = 99 ∨ c = 120 ∨ c = 110) = decide (c = 110) := by
                congr 1
                apply propext
                constructor
                · rintro (h | h | h | h | h)
                  · exact absurd h g1
                  · exact absurd h g2
                  · exact absurd h g3
                  · exact absurd h g4
                  · exact h
                · exact fun h => Or.inr (Or.inr (Or.inr (Or.inr h)))
              rw [hf]
              generalize decide (c = 110) = r at *
              clear g1 g2 g3 g4 hf
              go_enter Tryz.func15, Tryz.ntmps15
              go_wp2_with fail
              go_ret
              exact ⟨rfl, rfl⟩
    · have hk : isKeyL s.data.toList = false := by unfold isKeyL; rw [hlen]; exact decide_eq_false (by omega)
      rw [hk]
      have e0 : (1 : Int) ≤ (s.size : Int) := by omega
      have e64 : ¬ (s.size : Int) ≤ 64 := by omega
      clear hk hlen
      go_enter Tryz.func15, Tryz.ntmps15
      go_wp2_with fail
      go_ret
      exact ⟨rfl, rfl⟩
  · have hk : isKeyL s.data.toList = false := by unfold isKeyL; rw [hlen]; exact decide_eq_false (by omega)
    rw [hk]
    have e0 : ¬ (1 : Int) ≤ (s.size : Int) := by omega
    clear hk hlen
    go_enter Tryz.func15, Tryz.ntmps15
    go_wp2_with fail
    go_ret
    exact ⟨rfl, rfl⟩

set_option maxRecDepth 100000 in
set_option maxHeartbeats 4000000 in
theorem rhead_any (s : ByteArray) (w : World) (hs : s.size ≤ 100000) :
    Calls Tryz.prog 17 #[.string s] w fun e w' => e = .returned (.string ⟨(headL s.data.toList).toArray⟩) ∧ Below w.heap.size w w' := by
  go_enter Tryz.func17, Tryz.ntmps17
  go_wp2_with fail
  go_loopw [3, 4] (fun b i wr => ∃ k : Nat, k ≤ s.size ∧ i = .int .i64 (k : Int) ∧ Byt wr w.heap.size 5 b (escL (s.data.toList.take k)) ∧ Below w.heap.size w wr) (fun _ i _ => s.size - (intOf i).toNat)
  case atStart => exact ⟨0, by omega, rfl, Byt.nil _ _ _, Below.refl _ _⟩
  case round =>
    obtain ⟨k, hk, rfl, hown, hbe⟩ := hrel
    have hle := escL_length (s.data.toList.take k)
    have hl2 := List.length_take_le k s.data.toList
    have hlen : (escL (s.data.toList.take k)).length + 4 < 140737488355328 := by omega
    have Hlen := Lib.hid hlen
    clear hle hl2 hlen
    by_cases hl : k < s.size
    · have hl1 : (k : Int) < (s.size : Int) := by omega
      have Hs := Lib.hid (escL_snoc s k hl)
      by_cases h0 : s[k] = 0
      · have Hs2 : Hid (escL (s.data.toList.take (k + 1)) = (escL (s.data.toList.take k) ++ [s[k]]) ++ [255]) := by
          have := Hs.out
          rw [if_pos h0] at this
          unfold Hid
          rw [this, h0, List.append_assoc]
          rfl
        have e0 : ((s[k].toNat : Int) == 0) = true := by rw [h0]; rfl
        clear Hs h0
        go_wp2_with (first
          | (at_builtin; refine wpList_append_byte _ rfl (.tmp 11) (.tmp 15) 68 rfl Tryz.underlying68 u8info rfl (hown.alloc _) ⟨wr.heap.size, 0, none⟩ 1 rfl _ (cell_new _ _ _) s[k] rfl (Nat.lt_of_le_of_lt (Nat.le_add_right _ _) Hlen.out) (Nat.le_trans hbe.size (by simp)) ?_; intro v1 w1 hown1 hgr1; have hb1 := (hown.alloc (.cells #[.int .u8 (s[k].toNat : Int)] 5)).grown (below_alloc hbe (Nat.le_refl _) _) (Nat.le_trans hbe.size (by simp)) hgr1; clear hgr1 hown hbe)
          | (at_builtin; refine wpList_append_byte _ rfl (.tmp 21) (.tmp 22) 68 rfl Tryz.underlying68 u8info rfl (hown1.alloc _) ⟨w1.heap.size, 0, none⟩ 1 rfl _ (cell_new _ _ _) 255 rfl (by have := Hlen.out; simp; omega) (Nat.le_trans hb1.size (by simp)) ?_; intro v2 w2 hown2 hgr2; have hb2 := (hown1.alloc (.cells #[.int .u8 255] 5)).grown (below_alloc hb1 (Nat.le_refl _) _) (Nat.le_trans hb1.size (by simp)) hgr2; have Hb := Lib.hid hown2; clear hown2 hgr2 hown1 hb1))
        go_roundw
        case rel => exact ⟨k + 1, by omega, by go_num, by rw [Hs2.out]; exact Hb.out, hb2⟩
        case measure => simp [intOf]; omega
      · have Hs2 : Hid (escL (s.data.toList.take (k + 1)) = escL (s.data.toList.take k) ++ [s[k]]) := by
          have := Hs.out
          rw [if_neg h0] at this
          exact this
        have e0 : ((s[k].toNat : Int) == 0) = false := by
          rw [beq_eq_false_iff_ne]
          intro h
          exact h0 (UInt8.toNat_inj.1 (by simpa using h))
        clear Hs h0
        go_wp2_with (at_builtin; refine wpList_append_byte _ rfl (.tmp 11) (.tmp 15) 68 rfl Tryz.underlying68 u8info rfl (hown.alloc _) ⟨wr.heap.size, 0, none⟩ 1 rfl _ (cell_new _ _ _) s[k] rfl (Nat.lt_of_le_of_lt (Nat.le_add_right _ _) Hlen.out) (Nat.le_trans hbe.size (by simp)) ?_; intro v1 w1 hown1 hgr1; have hb1 := (hown.alloc (.cells #[.int .u8 (s[k].toNat : Int)] 5)).grown (below_alloc hbe (Nat.le_refl _) _) (Nat.le_trans hbe.size (by simp)) hgr1; have Hb := Lib.hid hown1; clear hgr1 hown hbe hown1)
        go_roundw
        case rel => exact ⟨k + 1, by omega, by go_num, by rw [Hs2.out]; exact Hb.out, hb1⟩
        case measure => simp [intOf]; omega
    · obtain rfl : k = s.size := by omega
      have hl1 : ¬ (s.size : Int) < (s.size : Int) := by omega
      go_wp2_with (at_builtin; refine wpList_append_bytes _ rfl (.tmp 24) (.tmp 25) 68 rfl Tryz.underlying68 u8info rfl (hown.alloc _) ⟨wr.heap.size, 0, none⟩ 2 2 rfl [0, 1] rfl (cells_new wr 5 ([0, 1].map b8)) (by have := Hlen.out; omega) (Nat.le_trans hbe.size (by simp)) ?_; intro v1 w1 hown1 hgr1; have hb1 := (hown.alloc (.cells #[.int .u8 0, .int .u8 1] 5)).grown (below_alloc hbe (Nat.le_refl _) _) (Nat.le_trans hbe.size (by simp)) hgr1; have hcv := hown1.string (src := 68) (dst := 9) Tryz.underlying68 Tryz.underlying5 Tryz.underlying9; clear hown1 hgr1)
      go_ret
      refine ⟨?_, hb1⟩
      rw [List.take_of_length_le (by simp), headL_esc]
      rfl
end Go.Proofs.YthjphiniljopgaaGreatDoor

namespace Go.Proofs.YthjphiniljopgaaGreatDoor
open Go.RowKit

def nilS : Value := .slice none 0 0


theorem stillTexts_nil (bk : Nat) (w : World) (h : w.cell? ⟨bk, 0, none⟩ = some (.slice none 0 0)) :
    Calls Tryz.prog 39 #[.pointer (some ⟨bk, 0, none⟩)] w fun e w' => e = .returned (.bool true) ∧ w = w' := by
  go_enter Tryz.func39, Tryz.ntmps39
  go_wp2_with fail
  go_loop [3] (fun i => i = .int .i64 0) (fun _ => 0)
  case atStart => rfl
  case round =>
    subst hrel
    go_wp2_with fail
    go_ret
    exact ⟨rfl, rfl⟩
theorem putTexts_nil (bk : Nat) (w : World) (h : w.cell? ⟨bk, 0, none⟩ = some (.slice none 0 0)) :
    Calls Tryz.prog 59 #[.pointer (some ⟨bk, 0, none⟩)] w fun e w' => e = .returned (.tuple #[]) ∧ w = w' := by
  go_enter Tryz.func59, Tryz.ntmps59
  go_wp2_with fail
  go_loop [2] (fun i => i = .int .i64 0) (fun _ => 0)
  case atStart => rfl
  case round =>
    subst hrel
    go_wp2_with fail
    go_end0
    exact ⟨rfl, rfl⟩
theorem growTexts_nil (bk : Nat) (w : World) (h : w.cell? ⟨bk, 0, none⟩ = some (.slice none 0 0)) :
    Calls Tryz.prog 69 #[.pointer (some ⟨bk, 0, none⟩)] w fun e w' => e = .returned (.slice none 0 0) ∧ w = w' := by
  go_enter Tryz.func69, Tryz.ntmps69
  go_wp2_with fail
  go_loop [3, 4] (fun o i => o = .slice none 0 0 ∧ i = .int .i64 0) (fun _ _ => 0)
  case atStart => exact ⟨rfl, rfl⟩
  case round =>
    obtain ⟨rfl, rfl⟩ := hrel
    go_wp2_with fail
    go_ret
    exact ⟨rfl, rfl⟩
theorem markedTexts_nil (w : World) :
    Calls Tryz.prog 84 #[.slice none 0 0] w fun e w' => e = .returned (.bool true) ∧ w = w' := by
  go_enter Tryz.func84, Tryz.ntmps84
  go_wp2_with fail
  go_loop [3] (fun i => i = .int .i64 0) (fun _ => 0)
  case atStart => rfl
  case round =>
    subst hrel
    go_wp2_with fail
    go_ret
    exact ⟨rfl, rfl⟩

theorem stillInts_nil (bk : Nat) (w : World) (h : w.cell? ⟨bk, 2, none⟩ = some (.slice none 0 0)) :
    Calls Tryz.prog 40 #[.pointer (some ⟨bk, 0, none⟩)] w fun e w' => e = .returned (.bool true) ∧ w = w' := by
  go_enter Tryz.func40, Tryz.ntmps40
  go_wp2_with fail
  go_loop [3] (fun i => i = .int .i64 0) (fun _ => 0)
  case atStart => rfl
  case round =>
    subst hrel
    go_wp2_with fail
    go_ret
    exact ⟨rfl, rfl⟩
theorem putInts_nil (bk : Nat) (w : World) (h : w.cell? ⟨bk, 2, none⟩ = some (.slice none 0 0)) :
    Calls Tryz.prog 60 #[.pointer (some ⟨bk, 0, none⟩)] w fun e w' => e = .returned (.tuple #[]) ∧ w = w' := by
  go_enter Tryz.func60, Tryz.ntmps60
  go_wp2_with fail
  go_loop [2] (fun i => i = .int .i64 0) (fun _ => 0)
  case atStart => rfl
  case round =>
    subst hrel
    go_wp2_with fail
    go_end0
    exact ⟨rfl, rfl⟩
theorem growInts_nil (bk : Nat) (w : World) (h : w.cell? ⟨bk, 2, none⟩ = some (.slice none 0 0)) :
    Calls Tryz.prog 70 #[.pointer (some ⟨bk, 0, none⟩)] w fun e w' => e = .returned (.slice none 0 0) ∧ w = w' := by
  go_enter Tryz.func70, Tryz.ntmps70
  go_wp2_with fail
  go_loop [3, 4] (fun o i => o = .slice none 0 0 ∧ i = .int .i64 0) (fun _ _ => 0)
  case atStart => exact ⟨rfl, rfl⟩
  case round =>
    obtain ⟨rfl, rfl⟩ := hrel
    go_wp2_with fail
    go_ret
    exact ⟨rfl, rfl⟩
theorem markedInts_nil (w : World) :
    Calls Tryz.prog 85 #[.slice none 0 0] w fun e w' => e = .returned (.bool true) ∧ w = w' := by
  go_enter Tryz.func85, Tryz.ntmps85
  go_wp2_with fail
  go_loop [3] (fun i => i = .int .i64 0) (fun _ => 0)
  case atStart => rfl
  case round =>
    subst hrel
    go_wp2_with fail
    go_ret
    exact ⟨rfl, rfl⟩

theorem stillVecs_nil (bk : Nat) (w : World) (h : w.cell? ⟨bk, 4, none⟩ = some (.slice none 0 0)) :
    Calls Tryz.prog 41 #[.pointer (some ⟨bk, 0, none⟩)] w fun e w' => e = .returned (.bool true) ∧ w = w' := by
  go_enter Tryz.func41, Tryz.ntmps41
  go_wp2_with fail
  go_loop [3] (fun i => i = .int .i64 0) (fun _ => 0)
  case atStart => rfl
  case round =>
    subst hrel
    go_wp2_with fail
    go_ret
    exact ⟨rfl, rfl⟩
theorem putVecs_nil (bk : Nat) (w : World) (h : w.cell? ⟨bk, 4, none⟩ = some (.slice none 0 0)) :
    Calls Tryz.prog 61 #[.pointer (some ⟨bk, 0, none⟩)] w fun e w' => e = .returned (.tuple #[]) ∧ w = w' := by
  go_enter Tryz.func61, Tryz.ntmps61
  go_wp2_with fail
  go_loop [2] (fun i => i = .int .i64 0) (fun _ => 0)
  case atStart => rfl
  case round =>
    subst hrel
    go_wp2_with fail
    go_end0
    exact ⟨rfl, rfl⟩
theorem growVecs_nil (bk : Nat) (w : World) (h : w.cell? ⟨bk, 4, none⟩ = some (.slice none 0 0)) :
    Calls Tryz.prog 71 #[.pointer (some ⟨bk, 0, none⟩)] w fun e w' => e = .returned (.slice none 0 0) ∧ w = w' := by
  go_enter Tryz.func71, Tryz.ntmps71
  go_wp2_with fail
  go_loop [3, 4] (fun o i => o = .slice none 0 0 ∧ i = .int .i64 0) (fun _ _ => 0)
  case atStart => exact ⟨rfl, rfl⟩
  case round =>
    obtain ⟨rfl, rfl⟩ := hrel
    go_wp2_with fail
    go_ret
    exact ⟨rfl, rfl⟩
theorem markedVecs_nil (w : World) :
    Calls Tryz.prog 86 #[.slice none 0 0] w fun e w' => e = .returned (.bool true) ∧ w = w' := by
  go_enter Tryz.func86, Tryz.ntmps86
  go_wp2_with fail
  go_loop [3] (fun i => i = .int .i64 0) (fun _ => 0)
  case atStart => rfl
  case round =>
    subst hrel
    go_wp2_with fail
    go_ret
    exact ⟨rfl, rfl⟩

theorem stillKeys_nil (bk : Nat) (w : World) (h : w.cell? ⟨bk, 6, none⟩ = some (.slice none 0 0)) :
    Calls Tryz.prog 42 #[.pointer (some ⟨bk, 0, none⟩)] w fun e w' => e = .returned (.bool true) ∧ w = w' := by
  go_enter Tryz.func42, Tryz.ntmps42
  go_wp2_with fail
  go_loop [3] (fun i => i = .int .i64 0) (fun _ => 0)
  case atStart => rfl
  case round =>
    subst hrel
    go_wp2_with fail
    go_ret
    exact ⟨rfl, rfl⟩
theorem putKeys_nil (bk : Nat) (w : World) (h : w.cell? ⟨bk, 6, none⟩ = some (.slice none 0 0)) :
    Calls Tryz.prog 62 #[.pointer (some ⟨bk, 0, none⟩)] w fun e w' => e = .returned (.tuple #[]) ∧ w = w' := by
  go_enter Tryz.func62, Tryz.ntmps62
  go_wp2_with fail
  go_loop [2] (fun i => i = .int .i64 0) (fun _ => 0)
  case atStart => rfl
  case round =>
    subst hrel
    go_wp2_with fail
    go_end0
    exact ⟨rfl, rfl⟩
theorem growKeys_nil (bk : Nat) (w : World) (h : w.cell? ⟨bk, 6, none⟩ = some (.slice none 0 0)) :
    Calls Tryz.prog 72 #[.pointer (some ⟨bk, 0, none⟩)] w fun e w' => e = .returned (.slice none 0 0) ∧ w = w' := by
  go_enter Tryz.func72, Tryz.ntmps72
  go_wp2_with fail
  go_loop [3, 4] (fun o i => o = .slice none 0 0 ∧ i = .int .i64 0) (fun _ _ => 0)
  case atStart => exact ⟨rfl, rfl⟩
  case round =>
    obtain ⟨rfl, rfl⟩ := hrel
    go_wp2_with fail
    go_ret
    exact ⟨rfl, rfl⟩
theorem markedKeys_nil (w : World) :
    Calls Tryz.prog 87 #[.slice none 0 0] w fun e w' => e = .returned (.bool true) ∧ w = w' := by
  go_enter Tryz.func87, Tryz.ntmps87
  go_wp2_with fail
  go_loop [3] (fun i => i = .int .i64 0) (fun _ => 0)
  case atStart => rfl
  case round =>
    subst hrel
    go_wp2_with fail
    go_ret
    exact ⟨rfl, rfl⟩

theorem stillPairs_nil (bk : Nat) (w : World) (h : w.cell? ⟨bk, 8, none⟩ = some (.slice none 0 0)) :
    Calls Tryz.prog 43 #[.pointer (some ⟨bk, 0, none⟩)] w fun e w' => e = .returned (.bool true) ∧ w = w' := by
  go_enter Tryz.func43, Tryz.ntmps43
  go_wp2_with fail
  go_loop [3] (fun i => i = .int .i64 0) (fun _ => 0)
  case atStart => rfl
  case round =>
    subst hrel
    go_wp2_with fail
    go_ret
    exact ⟨rfl, rfl⟩
theorem putPairs_nil (bk : Nat) (w : World) (h : w.cell? ⟨bk, 8, none⟩ = some (.slice none 0 0)) :
    Calls Tryz.prog 63 #[.pointer (some ⟨bk, 0, none⟩)] w fun e w' => e = .returned (.tuple #[]) ∧ w = w' := by
  go_enter Tryz.func63, Tryz.ntmps63
  go_wp2_with fail
  go_loop [2] (fun i => i = .int .i64 0) (fun _ => 0)
  case atStart => rfl
  case round =>
    subst hrel
    go_wp2_with fail
    go_end0
    exact ⟨rfl, rfl⟩
theorem growPairs_nil (bk : Nat) (w : World) (h : w.cell? ⟨bk, 8, none⟩ = some (.slice none 0 0)) :
    Calls Tryz.prog 73 #[.pointer (some ⟨bk, 0, none⟩)] w fun e w' => e = .returned (.slice none 0 0) ∧ w = w' := by
  go_enter Tryz.func73, Tryz.ntmps73
  go_wp2_with fail
  go_loop [3, 4] (fun o i => o = .slice none 0 0 ∧ i = .int .i64 0) (fun _ _ => 0)
  case atStart => exact ⟨rfl, rfl⟩
  case round =>
    obtain ⟨rfl, rfl⟩ := hrel
    go_wp2_with fail
    go_ret
    exact ⟨rfl, rfl⟩
theorem markedPairs_nil (w : World) :
    Calls Tryz.prog 88 #[.slice none 0 0] w fun e w' => e = .returned (.bool true) ∧ w = w' := by
  go_enter Tryz.func88, Tryz.ntmps88
  go_wp2_with fail
  go_loop [3] (fun i => i = .int .i64 0) (fun _ => 0)
  case atStart => rfl
  case round =>
    subst hrel
    go_wp2_with fail
    go_ret
    exact ⟨rfl, rfl⟩

theorem stillVersions_nil (bk : Nat) (w : World) (h : w.cell? ⟨bk, 10, none⟩ = some (.slice none 0 0)) :
    Calls Tryz.prog 44 #[.pointer (some ⟨bk, 0, none⟩)] w fun e w' => e = .returned (.bool true) ∧ w = w' := by
  go_enter Tryz.func44, Tryz.ntmps44
  go_wp2_with fail
  go_loop [3] (fun i => i = .int .i64 0) (fun _ => 0)
  case atStart => rfl
  case round =>
    subst hrel
    go_wp2_with fail
    go_ret
    exact ⟨rfl, rfl⟩
theorem putVersions_nil (bk : Nat) (w : World) (h : w.cell? ⟨bk, 10, none⟩ = some (.slice none 0 0)) :
    Calls Tryz.prog 54 #[.pointer (some ⟨bk, 0, none⟩)] w fun e w' => e = .returned (.tuple #[]) ∧ w = w' := by
  go_enter Tryz.func54, Tryz.ntmps54
  go_wp2_with fail
  go_loop [2] (fun i => i = .int .i64 0) (fun _ => 0)
  case atStart => rfl
  case round =>
    subst hrel
    go_wp2_with fail
    go_end0
    exact ⟨rfl, rfl⟩
theorem growVersions_nil (bk : Nat) (w : World) (h : w.cell? ⟨bk, 10, none⟩ = some (.slice none 0 0)) :
    Calls Tryz.prog 74 #[.pointer (some ⟨bk, 0, none⟩)] w fun e w' => e = .returned (.slice none 0 0) ∧ w = w' := by
  go_enter Tryz.func74, Tryz.ntmps74
  go_wp2_with fail
  go_loop [3, 4] (fun o i => o = .slice none 0 0 ∧ i = .int .i64 0) (fun _ _ => 0)
  case atStart => exact ⟨rfl, rfl⟩
  case round =>
    obtain ⟨rfl, rfl⟩ := hrel
    go_wp2_with fail
    go_ret
    exact ⟨rfl, rfl⟩
theorem markedVersions_nil (w : World) :
    Calls Tryz.prog 89 #[.slice none 0 0] w fun e w' => e = .returned (.bool true) ∧ w = w' := by
  go_enter Tryz.func89, Tryz.ntmps89
  go_wp2_with fail
  go_loop [3] (fun i => i = .int .i64 0) (fun _ => 0)
  case atStart => rfl
  case round =>
    subst hrel
    go_wp2_with fail
    go_ret
    exact ⟨rfl, rfl⟩

theorem stillWrites_nil (bk : Nat) (w : World) (h : w.cell? ⟨bk, 12, none⟩ = some (.slice none 0 0)) :
    Calls Tryz.prog 45 #[.pointer (some ⟨bk, 0, none⟩)] w fun e w' => e = .returned (.bool true) ∧ w = w' := by
  go_enter Tryz.func45, Tryz.ntmps45
  go_wp2_with fail
  go_loop [3] (fun i => i = .int .i64 0) (fun _ => 0)
  case atStart => rfl
  case round =>
    subst hrel
    go_wp2_with fail
    go_ret
    exact ⟨rfl, rfl⟩
theorem putWrites_nil (bk : Nat) (w : World) (h : w.cell? ⟨bk, 12, none⟩ = some (.slice none 0 0)) :
    Calls Tryz.prog 64 #[.pointer (some ⟨bk, 0, none⟩)] w fun e w' => e = .returned (.tuple #[]) ∧ w = w' := by
  go_enter Tryz.func64, Tryz.ntmps64
  go_wp2_with fail
  go_loop [2] (fun i => i = .int .i64 0) (fun _ => 0)
  case atStart => rfl
  case round =>
    subst hrel
    go_wp2_with fail
    go_end0
    exact ⟨rfl, rfl⟩
theorem growWrites_nil (bk : Nat) (w : World) (h : w.cell? ⟨bk, 12, none⟩ = some (.slice none 0 0)) :
    Calls Tryz.prog 75 #[.pointer (some ⟨bk, 0, none⟩)] w fun e w' => e = .returned (.slice none 0 0) ∧ w = w' := by
  go_enter Tryz.func75, Tryz.ntmps75
  go_wp2_with fail
  go_loop [3, 4] (fun o i => o = .slice none 0 0 ∧ i = .int .i64 0) (fun _ _ => 0)
  case atStart => exact ⟨rfl, rfl⟩
  case round =>
    obtain ⟨rfl, rfl⟩ := hrel
    go_wp2_with fail
    go_ret
    exact ⟨rfl, rfl⟩
theorem markedWrites_nil (w : World) :
    Calls Tryz.prog 90 #[.slice none 0 0] w fun e w' => e = .returned (.bool true) ∧ w = w' := by
  go_enter Tryz.func90, Tryz.ntmps90
  go_wp2_with fail
  go_loop [3] (fun i => i = .int .i64 0) (fun _ => 0)
  case atStart => rfl
  case round =>
    subst hrel
    go_wp2_with fail
    go_ret
    exact ⟨rfl, rfl⟩

theorem stillTxns_nil (bk : Nat) (w : World) (h : w.cell? ⟨bk, 14, none⟩ = some (.slice none 0 0)) :
    Calls Tryz.prog 46 #[.pointer (some ⟨bk, 0, none⟩)] w fun e w' => e = .returned (.bool true) ∧ w = w' := by
  go_enter Tryz.func46, Tryz.ntmps46
  go_wp2_with fail
  go_loop [3] (fun i => i = .int .i64 0) (fun _ => 0)
  case atStart => rfl
  case round =>
    subst hrel
    go_wp2_with fail
    go_ret
    exact ⟨rfl, rfl⟩
theorem putTxns_nil (bk : Nat) (w : World) (h : w.cell? ⟨bk, 14, none⟩ = some (.slice none 0 0)) :
    Calls Tryz.prog 55 #[.pointer (some ⟨bk, 0, none⟩)] w fun e w' => e = .returned (.tuple #[]) ∧ w = w' := by
  go_enter Tryz.func55, Tryz.ntmps55
  go_wp2_with fail
  go_loop [2] (fun i => i = .int .i64 0) (fun _ => 0)
  case atStart => rfl
  case round =>
    subst hrel
    go_wp2_with fail
    go_end0
    exact ⟨rfl, rfl⟩
theorem growTxns_nil (bk : Nat) (w : World) (h : w.cell? ⟨bk, 14, none⟩ = some (.slice none 0 0)) :
    Calls Tryz.prog 76 #[.pointer (some ⟨bk, 0, none⟩)] w fun e w' => e = .returned (.slice none 0 0) ∧ w = w' := by
  go_enter Tryz.func76, Tryz.ntmps76
  go_wp2_with fail
  go_loop [3, 4] (fun o i => o = .slice none 0 0 ∧ i = .int .i64 0) (fun _ _ => 0)
  case atStart => exact ⟨rfl, rfl⟩
  case round =>
    obtain ⟨rfl, rfl⟩ := hrel
    go_wp2_with fail
    go_ret
    exact ⟨rfl, rfl⟩
theorem markedTxns_nil (w : World) :
    Calls Tryz.prog 91 #[.slice none 0 0] w fun e w' => e = .returned (.bool true) ∧ w = w' := by
  go_enter Tryz.func91, Tryz.ntmps91
  go_wp2_with fail
  go_loop [3] (fun i => i = .int .i64 0) (fun _ => 0)
  case atStart => rfl
  case round =>
    subst hrel
    go_wp2_with fail
    go_ret
    exact ⟨rfl, rfl⟩

theorem stillFiles_nil (bk : Nat) (w : World) (h : w.cell? ⟨bk, 16, none⟩ = some (.slice none 0 0)) :
    Calls Tryz.prog 47 #[.pointer (some ⟨bk, 0, none⟩)] w fun e w' => e = .returned (.bool true) ∧ w = w' := by
  go_enter Tryz.func47, Tryz.ntmps47
  go_wp2_with fail
  go_loop [3] (fun i => i = .int .i64 0) (fun _ => 0)
  case atStart => rfl
  case round =>
    subst hrel
    go_wp2_with fail
    go_ret
    exact ⟨rfl, rfl⟩
theorem putFiles_nil (bk : Nat) (w : World) (h : w.cell? ⟨bk, 16, none⟩ = some (.slice none 0 0)) :
    Calls Tryz.prog 65 #[.pointer (some ⟨bk, 0, none⟩)] w fun e w' => e = .returned (.tuple #[]) ∧ w = w' := by
  go_enter Tryz.func65, Tryz.ntmps65
  go_wp2_with fail
  go_loop [2] (fun i => i = .int .i64 0) (fun _ => 0)
  case atStart => rfl
  case round =>
    subst hrel
    go_wp2_with fail
    go_end0
    exact ⟨rfl, rfl⟩
theorem growFiles_nil (bk : Nat) (w : World) (h : w.cell? ⟨bk, 16, none⟩ = some (.slice none 0 0)) :
    Calls Tryz.prog 77 #[.pointer (some ⟨bk, 0, none⟩)] w fun e w' => e = .returned (.slice none 0 0) ∧ w = w' := by
  go_enter Tryz.func77, Tryz.ntmps77
  go_wp2_with fail
  go_loop [3, 4] (fun o i => o = .slice none 0 0 ∧ i = .int .i64 0) (fun _ _ => 0)
  case atStart => exact ⟨rfl, rfl⟩
  case round =>
    obtain ⟨rfl, rfl⟩ := hrel
    go_wp2_with fail
    go_ret
    exact ⟨rfl, rfl⟩
theorem markedFiles_nil (w : World) :
    Calls Tryz.prog 92 #[.slice none 0 0] w fun e w' => e = .returned (.bool true) ∧ w = w' := by
  go_enter Tryz.func92, Tryz.ntmps92
  go_wp2_with fail
  go_loop [3] (fun i => i = .int .i64 0) (fun _ => 0)
  case atStart => rfl
  case round =>
    subst hrel
    go_wp2_with fail
    go_ret
    exact ⟨rfl, rfl⟩

theorem stillNotes_nil (bk : Nat) (w : World) (h : w.cell? ⟨bk, 18, none⟩ = some (.slice none 0 0)) :
    Calls Tryz.prog 48 #[.pointer (some ⟨bk, 0, none⟩)] w fun e w' => e = .returned (.bool true) ∧ w = w' := by
  go_enter Tryz.func48, Tryz.ntmps48
  go_wp2_with fail
  go_loop [3] (fun i => i = .int .i64 0) (fun _ => 0)
  case atStart => rfl
  case round =>
    subst hrel
    go_wp2_with fail
    go_ret
    exact ⟨rfl, rfl⟩
theorem putNotes_nil (bk : Nat) (w : World) (h : w.cell? ⟨bk, 18, none⟩ = some (.slice none 0 0)) :
    Calls Tryz.prog 66 #[.pointer (some ⟨bk, 0, none⟩)] w fun e w' => e = .returned (.tuple #[]) ∧ w = w' := by
  go_enter Tryz.func66, Tryz.ntmps66
  go_wp2_with fail
  go_loop [2] (fun i => i = .int .i64 0) (fun _ => 0)
  case atStart => rfl
  case round =>
    subst hrel
    go_wp2_with fail
    go_end0
    exact ⟨rfl, rfl⟩
theorem growNotes_nil (bk : Nat) (w : World) (h : w.cell? ⟨bk, 18, none⟩ = some (.slice none 0 0)) :
    Calls Tryz.prog 78 #[.pointer (some ⟨bk, 0, none⟩)] w fun e w' => e = .returned (.slice none 0 0) ∧ w = w' := by
  go_enter Tryz.func78, Tryz.ntmps78
  go_wp2_with fail
  go_loop [3, 4] (fun o i => o = .slice none 0 0 ∧ i = .int .i64 0) (fun _ _ => 0)
  case atStart => exact ⟨rfl, rfl⟩
  case round =>
    obtain ⟨rfl, rfl⟩ := hrel
    go_wp2_with fail
    go_ret
    exact ⟨rfl, rfl⟩
theorem markedNotes_nil (w : World) :
    Calls Tryz.prog 93 #[.slice none 0 0] w fun e w' => e = .returned (.bool true) ∧ w = w' := by
  go_enter Tryz.func93, Tryz.ntmps93
  go_wp2_with fail
  go_loop [3] (fun i => i = .int .i64 0) (fun _ => 0)
  case atStart => rfl
  case round =>
    subst hrel
    go_wp2_with fail
    go_ret
    exact ⟨rfl, rfl⟩

theorem stillLeases_nil (bk : Nat) (w : World) (h : w.cell? ⟨bk, 20, none⟩ = some (.slice none 0 0)) :
    Calls Tryz.prog 49 #[.pointer (some ⟨bk, 0, none⟩)] w fun e w' => e = .returned (.bool true) ∧ w = w' := by
  go_enter Tryz.func49, Tryz.ntmps49
  go_wp2_with fail
  go_loop [3] (fun i => i = .int .i64 0) (fun _ => 0)
  case atStart => rfl
  case round =>
    subst hrel
    go_wp2_with fail
    go_ret
    exact ⟨rfl, rfl⟩
theorem putLeases_nil (bk : Nat) (w : World) (h : w.cell? ⟨bk, 20, none⟩ = some (.slice none 0 0)) :
    Calls Tryz.prog 56 #[.pointer (some ⟨bk, 0, none⟩)] w fun e w' => e = .returned (.tuple #[]) ∧ w = w' := by
  go_enter Tryz.func56, Tryz.ntmps56
  go_wp2_with fail
  go_loop [2] (fun i => i = .int .i64 0) (fun _ => 0)
  case atStart => rfl
  case round =>
    subst hrel
    go_wp2_with fail
    go_end0
    exact ⟨rfl, rfl⟩
theorem growLeases_nil (bk : Nat) (w : World) (h : w.cell? ⟨bk, 20, none⟩ = some (.slice none 0 0)) :
    Calls Tryz.prog 79 #[.pointer (some ⟨bk, 0, none⟩)] w fun e w' => e = .returned (.slice none 0 0) ∧ w = w' := by
  go_enter Tryz.func79, Tryz.ntmps79
  go_wp2_with fail
  go_loop [3, 4] (fun o i => o = .slice none 0 0 ∧ i = .int .i64 0) (fun _ _ => 0)
  case atStart => exact ⟨rfl, rfl⟩
  case round =>
    obtain ⟨rfl, rfl⟩ := hrel
    go_wp2_with fail
    go_ret
    exact ⟨rfl, rfl⟩
theorem markedLeases_nil (w : World) :
    Calls Tryz.prog 94 #[.slice none 0 0] w fun e w' => e = .returned (.bool true) ∧ w = w' := by
  go_enter Tryz.func94, Tryz.ntmps94
  go_wp2_with fail
  go_loop [3] (fun i => i = .int .i64 0) (fun _ => 0)
  case atStart => rfl
  case round =>
    subst hrel
    go_wp2_with fail
    go_ret
    exact ⟨rfl, rfl⟩

theorem stillLetters_nil (bk : Nat) (w : World) (h : w.cell? ⟨bk, 22, none⟩ = some (.slice none 0 0)) :
    Calls Tryz.prog 50 #[.pointer (some ⟨bk, 0, none⟩)] w fun e w' => e = .returned (.bool true) ∧ w = w' := by
  go_enter Tryz.func50, Tryz.ntmps50
  go_wp2_with fail
  go_loop [3] (fun i => i = .int .i64 0) (fun _ => 0)
  case atStart => rfl
  case round =>
    subst hrel
    go_wp2_with fail
    go_ret
    exact ⟨rfl, rfl⟩
theorem putLetters_nil (bk : Nat) (w : World) (h : w.cell? ⟨bk, 22, none⟩ = some (.slice none 0 0)) :
    Calls Tryz.prog 67 #[.pointer (some ⟨bk, 0, none⟩)] w fun e w' => e = .returned (.tuple #[]) ∧ w = w' := by
  go_enter Tryz.func67, Tryz.ntmps67
  go_wp2_with fail
  go_loop [2] (fun i => i = .int .i64 0) (fun _ => 0)
  case atStart => rfl
  case round =>
    subst hrel
    go_wp2_with fail
    go_end0
    exact ⟨rfl, rfl⟩
theorem growLetters_nil (bk : Nat) (w : World) (h : w.cell? ⟨bk, 22, none⟩ = some (.slice none 0 0)) :
    Calls Tryz.prog 80 #[.pointer (some ⟨bk, 0, none⟩)] w fun e w' => e = .returned (.slice none 0 0) ∧ w = w' := by
  go_enter Tryz.func80, Tryz.ntmps80
  go_wp2_with fail
  go_loop [3, 4] (fun o i => o = .slice none 0 0 ∧ i = .int .i64 0) (fun _ _ => 0)
  case atStart => exact ⟨rfl, rfl⟩
  case round =>
    obtain ⟨rfl, rfl⟩ := hrel
    go_wp2_with fail
    go_ret
    exact ⟨rfl, rfl⟩
theorem markedLetters_nil (w : World) :
    Calls Tryz.prog 95 #[.slice none 0 0] w fun e w' => e = .returned (.bool true) ∧ w = w' := by
  go_enter Tryz.func95, Tryz.ntmps95
  go_wp2_with fail
  go_loop [3] (fun i => i = .int .i64 0) (fun _ => 0)
  case atStart => rfl
  case round =>
    subst hrel
    go_wp2_with fail
    go_ret
    exact ⟨rfl, rfl⟩

theorem stillSteps_nil (bk : Nat) (w : World) (h : w.cell? ⟨bk, 24, none⟩ = some (.slice none 0 0)) :
    Calls Tryz.prog 51 #[.pointer (some ⟨bk, 0, none⟩)] w fun e w' => e = .returned (.bool true) ∧ w = w' := by
  go_enter Tryz.func51, Tryz.ntmps51
  go_wp2_with fail
  go_loop [3] (fun i => i = .int .i64 0) (fun _ => 0)
  case atStart => rfl
  case round =>
    subst hrel
    go_wp2_with fail
    go_ret
    exact ⟨rfl, rfl⟩
theorem putSteps_nil (bk : Nat) (w : World) (h : w.cell? ⟨bk, 24, none⟩ = some (.slice none 0 0)) :
    Calls Tryz.prog 57 #[.pointer (some ⟨bk, 0, none⟩)] w fun e w' => e = .returned (.tuple #[]) ∧ w = w' := by
  go_enter Tryz.func57, Tryz.ntmps57
  go_wp2_with fail
  go_loop [2] (fun i => i = .int .i64 0) (fun _ => 0)
  case atStart => rfl
  case round =>
    subst hrel
    go_wp2_with fail
    go_end0
    exact ⟨rfl, rfl⟩
theorem growSteps_nil (bk : Nat) (w : World) (h : w.cell? ⟨bk, 24, none⟩ = some (.slice none 0 0)) :
    Calls Tryz.prog 81 #[.pointer (some ⟨bk, 0, none⟩)] w fun e w' => e = .returned (.slice none 0 0) ∧ w = w' := by
  go_enter Tryz.func81, Tryz.ntmps81
  go_wp2_with fail
  go_loop [3, 4] (fun o i => o = .slice none 0 0 ∧ i = .int .i64 0) (fun _ _ => 0)
  case atStart => exact ⟨rfl, rfl⟩
  case round =>
    obtain ⟨rfl, rfl⟩ := hrel
    go_wp2_with fail
    go_ret
    exact ⟨rfl, rfl⟩
theorem markedSteps_nil (w : World) :
    Calls Tryz.prog 96 #[.slice none 0 0] w fun e w' => e = .returned (.bool true) ∧ w = w' := by
  go_enter Tryz.func96, Tryz.ntmps96
  go_wp2_with fail
  go_loop [3] (fun i => i = .int .i64 0) (fun _ => 0)
  case atStart => rfl
  case round =>
    subst hrel
    go_wp2_with fail
    go_ret
    exact ⟨rfl, rfl⟩

theorem stillReals_nil (bk : Nat) (w : World) (h : w.cell? ⟨bk, 26, none⟩ = some (.slice none 0 0)) :
    Calls Tryz.prog 52 #[.pointer (some ⟨bk, 0, none⟩)] w fun e w' => e = .returned (.bool true) ∧ w = w' := by
  go_enter Tryz.func52, Tryz.ntmps52
  go_wp2_with fail
  go_loop [3] (fun i => i = .int .i64 0) (fun _ => 0)
  case atStart => rfl
  case round =>
    subst hrel
    go_wp2_with fail
    go_ret
    exact ⟨rfl, rfl⟩
theorem putReals_nil (bk : Nat) (w : World) (h : w.cell? ⟨bk, 26, none⟩ = some (.slice none 0 0)) :
    Calls Tryz.prog 68 #[.pointer (some ⟨bk, 0, none⟩)] w fun e w' => e = .returned (.tuple #[]) ∧ w = w' := by
  go_enter Tryz.func68, Tryz.ntmps68
  go_wp2_with fail
  go_loop [2] (fun i => i = .int .i64 0) (fun _ => 0)
  case atStart => rfl
  case round =>
    subst hrel
    go_wp2_with fail
    go_end0
    exact ⟨rfl, rfl⟩
theorem growReals_nil (bk : Nat) (w : World) (h : w.cell? ⟨bk, 26, none⟩ = some (.slice none 0 0)) :
    Calls Tryz.prog 82 #[.pointer (some ⟨bk, 0, none⟩)] w fun e w' => e = .returned (.slice none 0 0) ∧ w = w' := by
  go_enter Tryz.func82, Tryz.ntmps82
  go_wp2_with fail
  go_loop [3, 4] (fun o i => o = .slice none 0 0 ∧ i = .int .i64 0) (fun _ _ => 0)
  case atStart => exact ⟨rfl, rfl⟩
  case round =>
    obtain ⟨rfl, rfl⟩ := hrel
    go_wp2_with fail
    go_ret
    exact ⟨rfl, rfl⟩
theorem markedReals_nil (w : World) :
    Calls Tryz.prog 97 #[.slice none 0 0] w fun e w' => e = .returned (.bool true) ∧ w = w' := by
  go_enter Tryz.func97, Tryz.ntmps97
  go_wp2_with fail
  go_loop [3] (fun i => i = .int .i64 0) (fun _ => 0)
  case atStart => rfl
  case round =>
    subst hrel
    go_wp2_with fail
    go_ret
    exact ⟨rfl, rfl⟩

theorem stillLists_nil (bk : Nat) (w : World) (h : w.cell? ⟨bk, 28, none⟩ = some (.slice none 0 0)) :
    Calls Tryz.prog 53 #[.pointer (some ⟨bk, 0, none⟩)] w fun e w' => e = .returned (.bool true) ∧ w = w' := by
  go_enter Tryz.func53, Tryz.ntmps53
  go_wp2_with fail
  go_loop [3] (fun i => i = .int .i64 0) (fun _ => 0)
  case atStart => rfl
  case round =>
    subst hrel
    go_wp2_with fail
    go_ret
    exact ⟨rfl, rfl⟩
theorem putLists_nil (bk : Nat) (w : World) (h : w.cell? ⟨bk, 28, none⟩ = some (.slice none 0 0)) :
    Calls Tryz.prog 58 #[.pointer (some ⟨bk, 0, none⟩)] w fun e w' => e = .returned (.tuple #[]) ∧ w = w' := by
  go_enter Tryz.func58, Tryz.ntmps58
  go_wp2_with fail
  go_loop [2] (fun i => i = .int .i64 0) (fun _ => 0)
  case atStart => rfl
  case round =>
    subst hrel
    go_wp2_with fail
    go_end0
    exact ⟨rfl, rfl⟩
theorem growLists_nil (bk : Nat) (w : World) (h : w.cell? ⟨bk, 28, none⟩ = some (.slice none 0 0)) :
    Calls Tryz.prog 83 #[.pointer (some ⟨bk, 0, none⟩)] w fun e w' => e = .returned (.slice none 0 0) ∧ w = w' := by
  go_enter Tryz.func83, Tryz.ntmps83
  go_wp2_with fail
  go_loop [3, 4] (fun o i => o = .slice none 0 0 ∧ i = .int .i64 0) (fun _ _ => 0)
  case atStart => exact ⟨rfl, rfl⟩
  case round =>
    obtain ⟨rfl, rfl⟩ := hrel
    go_wp2_with fail
    go_ret
    exact ⟨rfl, rfl⟩
theorem markedLists_nil (w : World) :
    Calls Tryz.prog 98 #[.slice none 0 0] w fun e w' => e = .returned (.bool true) ∧ w = w' := by
  go_enter Tryz.func98, Tryz.ntmps98
  go_wp2_with fail
  go_loop [3] (fun i => i = .int .i64 0) (fun _ => 0)
  case atStart => rfl
  case round =>
    subst hrel
    go_wp2_with fail
    go_ret
    exact ⟨rfl, rfl⟩

end Go.Proofs.YthjphiniljopgaaGreatDoor

namespace Go.Proofs.YthjphiniljopgaaGreatDoor
open Go.RowKit

theorem append_keep {P : Program} (w : World) (base : Nat) (t ty e : TypeId) (i : TypeInfo) (z : Value) (size bytes : Nat) (ht : P.underlying t = some (.slice e)) (hi : P.info? e = some i) (hz : i.zero = some z)
    (hsize : i.size = size) (hby : i.bytes = bytes) (v : Value) (n : Nat) (xs : List Value) (hown : w.ownsRow base e size v n xs)
    (a : Addr) (m c : Nat) (news : List Value) (hl : news.length = m * size) (hnews : ∀ j u, news[j]? = some u → w.cell? (a.add j) = some u) (h1 : ∀ u ∈ news, u.oneCell' = true)
    (h63 : n + m ≤ maxLen) (hbytes : (n + m) * bytes ≤ 140737488355328) (v' : Value) (w' : World) (hr : (Builtin.append_ #[t, t] ty #[v, .slice (some a) m c]).run P w = .ok v' w') :
    w'.ownsRow base e size v n xs ∧ (v'.ownBlock = v.ownBlock ∨ ∀ g, v'.ownBlock = some g → w.heap.size ≤ g) := by
  subst hsize
  subst hby
  have hsmall : n + m ≤ 9223372036854775807 := by simp only [maxLen] at h63; omega
  rcases hown.2 with ⟨rfl, rfl⟩ | ⟨g, cap, cur, rfl, hbg, hg, hnc, hcm, hcs, htake⟩
  · have hx : xs = [] := List.eq_nil_of_length_eq_zero (by simpa using hown.1)
    subst hx
    refine ⟨World.ownsRow_nil _ _ _ _, ?_⟩
    by_cases hm : m = 0
    · subst hm
      have hr2 : (Builtin.append_ #[t, t] ty #[.slice none 0 0, .slice (some a) 0 c]).run P w = .ok (.slice none 0 0) w := by
        simp [Builtin.append_, run_underlying ht, sizeOf, typeInfo, hi, Builtin.lenOf, Builtin.firstCells, loadCells, loadCellsFrom]
      rw [hr] at hr2
      injection hr2 with e1 e2
      left
      rw [e1]
    · have hr2 := run_append_nil (P := P) w t ty e i z ht hi hz a m c news hl hnews (by omega) (by omega) (by have hb := hbytes; simp only [Nat.zero_add] at hb; omega)
      rw [hr] at hr2
      injection hr2 with e1 e2
      right
      intro g hg
      rw [e1] at hg
      simp [Value.ownBlock] at hg
      omega
  · by_cases hroom : n + m ≤ cap
    · have hfit : n * i.size + news.length ≤ cur.size := by rw [hl, hcs, ← Nat.add_mul]; exact Nat.mul_le_mul_right _ hroom
      have hr2 := run_append_room (P := P) w t ty e i ht hi g n cap cur hg a m c news hl hnews h1 hroom hfit
      rw [hr] at hr2
      injection hr2 with e1 e2
      refine ⟨⟨hown.1, .inr ⟨g, cap, _, rfl, hbg, by rw [e2]; exact setRow_heap w g cur _ e _ hg, hnc, hcm, ?_, ?_⟩⟩, Or.inl (by rw [e1]; rfl)⟩
      · simp only [List.size_toArray, List.length_append, List.length_take, List.length_drop, Array.length_toList]
        omega
      · rw [htake]
        have hlx : xs.length = n * i.size := hown.1
        show List.take (n * i.size) (xs ++ news ++ _) = xs
        rw [List.append_assoc, ← hlx]
        exact List.take_left
    · have holds : ∀ j u, xs[j]? = some u → w.cell? ((⟨g, 0, none⟩ : Addr).add j) = some u := hown.cells (g := g) rfl
      have hr2 := run_append_grow (P := P) w t ty e i z ht hi hz ⟨g, 0, none⟩ n cap xs hown.1 holds a m c news hl hnews (by omega) (by omega) (growslice_fits (by omega) hbytes)
      rw [hr] at hr2
      injection hr2 with e1 e2
      refine ⟨?_, Or.inr fun k hk => ?_⟩
      · rw [e2]
        exact World.ownsRow.alloc (World.ownsRow.drew hown) _
      · rw [e1] at hk
        simp [Value.ownBlock] at hk
        omega

theorem wp_append_keep {P : Program} (w : World) {o : Oper} {a : Act} {K : Act → World → Prop} {Q : Exit → Act → World → Prop} (s x : Operand) (t : TypeId)
    (ho : o.op = .call { callee := .builtin .append, args := #[s, x], argTypes := #[t, t] })
    (base : Nat) (e : TypeId) (i : TypeInfo) (z : Value) (size bytes : Nat) (ht : P.underlying t = some (.slice e)) (hi : P.info? e = some i) (hz : i.zero = some z)
    (hsize : i.size = size) (hby : i.bytes = bytes) (hzs : z.cells.size = size) (hsz : 0 < size)
    (v : Value) (n : Nat) (xs : List Value) (hs : a.eval s = v) (hown : w.ownsRow base e size v n xs)
    (ad : Addr) (m c : Nat) (news : List Value) (hx : a.eval x = .slice (some ad) m c) (hl : news.length = m * size) (hnews : ∀ j u, news[j]? = some u → w.cell? (ad.add j) = some u) (h1 : ∀ u ∈ news, u.oneCell' = true)
    (h63 : n + m ≤ maxLen) (hbytes : (n + m) * bytes ≤ 140737488355328) (hbase : base ≤ w.heap.size)
    (h : ∀ v' w', w'.ownsRow base e size v' (n + m) (xs ++ news) → w.grownBy w' v.ownBlock → w'.ownsRow base e size v n xs → (v'.ownBlock = v.ownBlock ∨ ∀ g, v'.ownBlock = some g → w.heap.size ≤ g) → K (a.put o.dst v') w') : o.wp P a w K Q := by
  obtain ⟨v', w', hr, h2, h3, _⟩ := run_append_own (P := P) w base t o.type e i z size bytes ht hi hz hsize hby hzs hsz v n xs hown ad m c news hl hnews h1 h63 hbytes hbase
  obtain ⟨h4, h5⟩ := append_keep w base t o.type e i z size bytes ht hi hz hsize hby v n xs hown ad m c news hl hnews h1 h63 hbytes v' w' hr
  unfold Oper.wp execOp
  simp only [ho, resolve, invoke, builtin, Sem.run_bind, Sem.run_pure, Result.andThen_ok, List.map_toArray, List.map_cons, List.map_nil, hs, hx, hr]
  exact h v' w' h2 h3 h4 h5

theorem wpList_append_keep {P : Program} (w : World) {ops : Array Oper} {rest : List Oper} {o : Oper} {a : Act} {Q : Exit → Act → World → Prop} (hgd : o.guard = none) (s x : Operand) (t : TypeId)
    (ho : o.op = .call { callee := .builtin .append, args := #[s, x], argTypes := #[t, t] })
    (base : Nat) (e : TypeId) (i : TypeInfo) (z : Value) (size bytes : Nat) (ht : P.underlying t = some (.slice e)) (hi : P.info? e = some i) (hz : i.zero = some z)
    (hsize : i.size = size) (hby : i.bytes = bytes) (hzs : z.cells.size = size) (hsz : 0 < size)
    (v : Value) (n : Nat) (xs : List Value) (hs : a.eval s = v) (hown : w.ownsRow base e size v n xs)
    (ad : Addr) (m c : Nat) (news : List Value) (hx : a.eval x = .slice (some ad) m c) (hl : news.length = m * size) (hnews : ∀ j u, news[j]? = some u → w.cell? (ad.add j) = some u) (h1 : ∀ u ∈ news, u.oneCell' = true)
    (h63 : n + m ≤ maxLen) (hbytes : (n + m) * bytes ≤ 140737488355328) (hbase : base ≤ w.heap.size)
    (h : ∀ v' w', w'.ownsRow base e size v' (n + m) (xs ++ news) → w.grownBy w' v.ownBlock → w'.ownsRow base e size v n xs → (v'.ownBlock = v.ownBlock ∨ ∀ g, v'.ownBlock = some g → w.heap.size ≤ g) → wpList P ops Q rest (a.put o.dst v') w') :
    wpList P ops Q (o :: rest) a w := by
  refine wpList_plain hgd fun K hK => ?_
  exact wp_append_keep w s x t ho base e i z size bytes ht hi hz hsize hby hzs hsz v n xs hs hown ad m c news hx hl hnews h1 h63 hbytes hbase fun v' w' a1 a2 a3 a4 => hK _ _ (h v' w' a1 a2 a3 a4)

theorem step_append_keep {P : Program} {w : World} {ops : Array Oper} {o : Oper} {a : Act} {K : Act → World → Prop} {Q : Exit → Act → World → Prop} {E : Prop} (hgd : o.guard = none) (s x : Operand) (t : TypeId)
    (ho : o.op = .call { callee := .builtin .append, args := #[s, x], argTypes := #[t, t] })
    (base : Nat) (e : TypeId) (i : TypeInfo) (z : Value) (size bytes : Nat) (ht : P.underlying t = some (.slice e)) (hi : P.info? e = some i) (hz : i.zero = some z)
    (hsize : i.size = size) (hby : i.bytes = bytes) (hzs : z.cells.size = size) (hsz : 0 < size)
    (v : Value) (n : Nat) (xs : List Value) (hs : a.eval s = v) (hown : w.ownsRow base e size v n xs)
    (ad : Addr) (m c : Nat) (news : List Value) (hx : a.eval x = .slice (some ad) m c) (hl : news.length = m * size) (hnews : ∀ j u, news[j]? = some u → w.cell? (ad.add j) = some u) (h1 : ∀ u ∈ news, u.oneCell' = true)
    (h63 : n + m ≤ maxLen) (hbytes : (n + m) * bytes ≤ 140737488355328) (hbase : base ≤ w.heap.size)
    (h : ∀ v' w', w'.ownsRow base e size v' (n + m) (xs ++ news) → w.grownBy w' v.ownBlock → w'.ownsRow base e size v n xs → (v'.ownBlock = v.ownBlock ∨ ∀ g, v'.ownBlock = some g → w.heap.size ≤ g) → K (a.put o.dst v') w') :
    if Region.wanted o (yielded ops a.tmps) = true then Oper.wp P o a w K Q else E := by
  rw [if_pos (by simp [Region.wanted, hgd])]
  exact wp_append_keep w s x t ho base e i z size bytes ht hi hz hsize hby hzs hsz v n xs hs hown ad m c news hx hl hnews h1 h63 hbytes hbase h

/-- Nothing put behind nothing. -/
theorem wpList_append_nothing {P : Program} (w : World) {ops : Array Oper} {rest : List Oper} {o : Oper} {a : Act} {Q : Exit → Act → World → Prop} (hgd : o.guard = none) (s x : Operand) (t e : TypeId) (i : TypeInfo)
    (ho : o.op = .call { callee := .builtin .append, args := #[s, x], argTypes := #[t, t] }) (ht : P.underlying t = some (.slice e)) (hi : P.info? e = some i)
    (hs : a.eval s = .slice none 0 0) (A : Option Addr) (c : Nat) (hx : a.eval x = .slice A 0 c)
    (h : wpList P ops Q rest (a.put o.dst (.slice none 0 0)) w) : wpList P ops Q (o :: rest) a w := by
  refine wpList_plain hgd fun _ hK => ?_
  have hr : (Builtin.append_ #[t, t] o.type #[.slice none 0 0, .slice A 0 c]).run P w = .ok (.slice none 0 0) w := by
    cases A <;> simp [Builtin.append_, run_underlying ht, sizeOf, typeInfo, hi, Builtin.lenOf, Builtin.firstCells, loadCells, loadCellsFrom]
  unfold Oper.wp execOp
  simp only [ho, resolve, invoke, builtin, Sem.run_bind, Sem.run_pure, Result.andThen_ok, List.map_toArray, List.map_cons, List.map_nil, hs, hx, hr]
  exact hK _ _ h

/-! ### Rows of numbers of the call's own, each in a block of its own -/
abbrev Row := Value × List Int
/-- v's block is none of w's. -/
def Off (v u : Value) : Prop := ∀ g, v.ownBlock = some g → u.ownBlock ≠ some g
theorem Off.symm {v u : Value} (h : Off v u) : Off u v := fun g hg hv => h g hv hg

structure Rows (w : World) (B : Nat) (e : TypeId) (rs : List Row) : Prop where
  each : ∀ r ∈ rs, Nums w B e r.1 r.2
  apart : rs.Pairwise fun r s => Off r.1 s.1

section
variable {w w' : World} {B : Nat} {e : TypeId} {rs : List Row}
theorem Rows.below (h : Rows w B e rs) {B' : Nat} (hb : Below B' w w') (hB : w.heap.size ≤ B') : Rows w' B e rs := ⟨fun r hr => (h.each r hr).below hb hB, h.apart⟩
theorem Nums.lt_ {v : Value} {zs : List Int} (h : Nums w B e v zs) {g : Nat} (hg : v.ownBlock = some g) : B ≤ g ∧ g < w.heap.size := World.ownsRow.lt h g hg
/-- A row that a call made behind them. -/
theorem Rows.add (h : Rows w B e rs) (hb : Below w.heap.size w w') {v : Value} {zs : List Int} (hN : Nums w' w.heap.size e v zs) (hB : B ≤ w.heap.size) : Rows w' B e ((v, zs) :: rs) :=
  ⟨fun r hr => by
    rcases List.mem_cons.1 hr with rfl | hr
    · exact hN.low hB
    · exact (h.each r hr).below hb (Nat.le_refl _),
   List.pairwise_cons.2 ⟨fun r hr g hg hv => by
    have h1 := (hN.lt_ hg).1
    have h2 := ((h.each r hr).lt_ hv).2
    omega, h.apart⟩⟩
end
end Go.Proofs.YthjphiniljopgaaGreatDoor

namespace Go.Proofs.YthjphiniljopgaaGreatDoor
open Go.RowKit

/-- The marks of list i, from a place on. -/
def markV (i start n : Nat) : List Int := (List.range n).map fun k => -1000000 * (i : Int) - ((start + k : Nat) : Int) - 9
theorem markV_length (i start n : Nat) : (markV i start n).length = n := by simp [markV]
theorem markV_succ (i start n : Nat) : markV i start (n + 1) = markV i start n ++ [-1000000 * (i : Int) - ((start + n : Nat) : Int) - 9] := by
  unfold markV
  rw [List.range_succ, List.map_append]
  rfl
theorem markV_append (i start n m : Nat) : markV i start n ++ markV i (start + n) m = markV i start (n + m) := by
  induction m with
  | zero => simp [markV]
  | succ m ih => rw [markV_succ, ← List.append_assoc, ih, ← Nat.add_assoc, markV_succ, Nat.add_assoc]
theorem markV_wf (i start n : Nat) (hi : i ≤ 1000) (hn : start + n ≤ 1000000) : ∀ z ∈ markV i start n, (Lit.int .i64 z).wf = true := by
  intro z hz
  unfold markV at hz
  obtain ⟨k, hk, rfl⟩ := List.mem_map.1 hz
  have := List.mem_range.1 hk
  exact WalkArith.wf_i64 ⟨by omega, by omega⟩

set_option maxRecDepth 100000 in
set_option maxHeartbeats 1000000 in
theorem markVecs_any (i start n : Nat) (w : World) (hi : i ≤ 1000) (hn : start + n ≤ 1000000) :
    Calls Tryz.prog 133 #[.int .i64 (i : Int), .int .i64 (start : Int), .int .i64 (n : Int)] w fun e w' => ∃ v, e = .returned v ∧ Nums w' w.heap.size 3 v (markV i start n) ∧ Below w.heap.size w w' := by
  obtain ⟨i0, hi0, hz0, hz1, hz2⟩ := info_parts i64info
  have a1 : (i : Int) ≤ 1000 := by omega
  have a2 : (start : Int) + (n : Int) ≤ 1000000 := by omega
  go_enter Tryz.func133, Tryz.ntmps133
  go_wp2_with fail
  go_loopw [7, 8] (fun o k wr => ∃ j : Nat, j ≤ n ∧ k = .int .i64 ((start : Int) + (j : Int)) ∧ Nums wr w.heap.size 3 o (markV i start j) ∧ Below w.heap.size w wr) (fun _ k _ => start + n - (intOf k).toNat)
  case atStart => exact ⟨0, by omega, by simp, World.ownsRow_nil _ _ _ _, Below.refl _ _⟩
  case round =>
    obtain ⟨j, hj, rfl, hN, hb⟩ := hrel
    by_cases hl : j < n
    · have HN := Lib.hid hN
      have hl1 : (start : Int) + (j : Int) < (start : Int) + (n : Int) := by omega
      have hsz := hb.size
      clear hN
      go_wp2_with (at_builtin; refine wpList_append_own _ rfl _ _ 22 rfl w.heap.size 3 i0 (.int .i64 0) 1 8 Tryz.underlying22 hi0 hz0 hz1 hz2 rfl (by decide) _ _ _ rfl (World.ownsRow.alloc HN.out _) ⟨wr.heap.size, 0, none⟩ 1 1 [.int .i64 (-1000000 * (i : Int) - ((start : Int) + (j : Int)) - 9)] rfl rfl ?c1 ?c2 ?c3 ?c4 ?c5 ?_)
      case c1 =>
        intro j' u hj'
        match j', hj' with
        | 0, hj' => simp at hj'; subst hj'; simp [Addr.add]
      case c2 => intro u hu; simp at hu; subst hu; rfl
      case c3 => rw [markV_length]; unfold maxLen; omega
      case c4 => rw [markV_length]; omega
      case c5 => simp; omega
      intro v' w2 hown hgr _
      have hb2 : Below w.heap.size w w2 := (below_alloc hb (Nat.le_refl _) _).grown hgr (by simp; omega) (fun k hk => (HN.out.lt_ hk).1)
      have hN2 : Nums w2 w.heap.size 3 v' (markV i start (j + 1)) := by
        unfold Nums
        rw [markV_succ, List.length_append, List.map_append]
        have e : -1000000 * (i : Int) - ((start + j : Nat) : Int) - 9 = -1000000 * (i : Int) - ((start : Int) + (j : Int)) - 9 := by omega
        rw [e]
        exact hown
      have HN2 := Lib.hid hN2
      clear hown hgr hN2 hsz
      go_wp2_with fail
      go_roundw
      case rel => exact ⟨j + 1, by omega, by go_num, HN2.out, hb2⟩
      case measure => simp [intOf]; omega
    · obtain rfl : j = n := by omega
      have HN := Lib.hid hN
      clear hN
      go_wp2_with fail
      go_ret
      exact ⟨_, rfl, HN.out, hb⟩
set_option maxRecDepth 100000 in
set_option maxHeartbeats 1000000 in
theorem sameVecs_any (A1 : Option Addr) (n1 c1 : Nat) (xs : List Int) (A2 : Option Addr) (n2 c2 : Nat) (ys : List Int) (w : World) (I1 : IntsIn w A1 n1 xs) (I2 : IntsIn w A2 n2 ys) :
    Calls Tryz.prog 113 #[.slice A1 n1 c1, .slice A2 n2 c2] w fun e w' => e = .returned (.bool (decide (xs = ys))) ∧ ∃ q, w' = w.drewN q := by
  have J1 := Lib.hid I1
  have J2 := Lib.hid I2
  have l1 := I1.len
  have l2 := I2.len
  have m1 := I1.max
  have m2 := I2.max
  clear I1 I2
  by_cases hne : n1 = n2
  · subst hne
    go_enter Tryz.func113, Tryz.ntmps113
    go_wp2_with fail
    go_loopw [5] (fun i wr => ∃ k q : Nat, k ≤ n1 ∧ i = .int .i64 (k : Int) ∧ Hid (wr = w.drewN q) ∧ Hid (∀ j, j < k → xs.getD j 0 = ys.getD j 0)) (fun i _ => n1 - (intOf i).toNat)
    case atStart => exact ⟨0, 0, by omega, rfl, rfl, fun j hj => absurd hj (by omega)⟩
    case round =>
      obtain ⟨k, q, hk, rfl, Hw, Hle⟩ := hrel
      by_cases hl : k < n1
      · have K1 := J1.out.drewN q
        have K2 := J2.out.drewN q
        rw [← Hw.out] at K1 K2
        obtain ⟨b1, o1, rfl, _, hc1⟩ := K1.some (by omega)
        obtain ⟨b2, o2, rfl, _, hc2⟩ := K2.some (by omega)
        have d1 := hc1 k hl
        have d2 := hc2 k hl
        obtain ⟨x, hx⟩ : ∃ x, xs.getD k 0 = x := ⟨_, rfl⟩
        obtain ⟨y, hy⟩ : ∃ y, ys.getD k 0 = y := ⟨_, rfl⟩
        rw [hx] at d1
        rw [hy] at d2
        have Hx := Lib.hid hx
        have Hy := Lib.hid hy
        have hl1 : (k : Int) < (n1 : Int) := by omega
        clear hc1 hc2 hx hy K1 K2
        by_cases hg : x ≠ y

        · have hbe : (x == y) = false := beq_eq_false_iff_ne.2 hg
          go_wp2_with fail
          go_quiet (fail)
          go_wp2_with fail
          have : decide (xs = ys) = false := by
            refine decide_eq_false fun h => ?_
            have h1 := Hx.out
            rw [h, Hy.out] at h1
            exact hg h1.symm
          rw [this]
          go_ret
          exact ⟨rfl, drewN_more Hw.out _⟩
        · have hbe : (x == y) = true := beq_iff_eq.2 (Decidable.of_not_not hg)
          go_wp2_with fail
          go_quiet (fail)
          go_wp2_with fail
          go_roundw
          case rel =>
            refine ⟨k + 1, _, by omega, by go_num, (by rw [Hw.out, World.drewN_drewN]; rfl), fun j hj => ?_⟩
            by_cases hjk : j = k
            · subst hjk; rw [Hx.out, Hy.out]; exact Decidable.of_not_not hg
            · exact Hle.out j (by omega)
          case measure => simp [intOf]; omega
      · obtain rfl : k = n1 := by omega
        go_wp2_with fail
        have : decide (xs = ys) = true := by
          exact decide_eq_true (list_ext_getD (by omega) (fun j hj => Hle.out j (by omega)))
        rw [this]
        go_ret
        exact ⟨rfl, _, Hw.out⟩
  · go_enter Tryz.func113, Tryz.ntmps113
    go_wp2_with fail
    have : decide (xs = ys) = false := by
      exact decide_eq_false fun h => hne (by rw [← l1, ← l2, h])
    rw [this]
    go_ret
    exact ⟨rfl, 0, rfl⟩


set_option maxRecDepth 100000 in
set_option maxHeartbeats 1000000 in
theorem copyVecs_any (A : Option Addr) (n c : Nat) (zs : List Int) (w : World) (I : IntsIn w A n zs) (hn : n ≤ 17592186044416) :
    Calls Tryz.prog 110 #[.slice A n c] w fun e w' => ∃ v, e = .returned v ∧ Nums w' w.heap.size 3 v zs ∧ Below w.heap.size w w' := by
  obtain ⟨i0, hi, hz0, hz1, hz2⟩ := info_parts i64info
  have J := Lib.hid I
  have l := I.len
  clear I
  by_cases hn0 : n = 0
  · subst hn0
    have hz : zs = [] := List.eq_nil_of_length_eq_zero l
    go_enter Tryz.func110, Tryz.ntmps110
    go_wp2_with (at_builtin; refine wpList_append_nothing _ rfl _ _ 22 3 i0 rfl Tryz.underlying22 hi rfl A c rfl ?_)
    go_ret
    subst hz
    exact ⟨_, rfl, World.ownsRow_nil _ _ _ _, Below.refl _ _⟩
  · obtain ⟨b, o, rfl, hlt, hcc⟩ := J.out.some (by omega)
    have hcell : ∀ j u, (zs.map (Value.int .i64))[j]? = some u → w.cell? (({ block := b, off := o, spot := none } : Addr).add j) = some u := by
      intro j u hj
      have hjn : j < zs.length := by
        have := (List.getElem?_eq_some_iff.1 hj).1
        simpa using this
      rw [Addr.add_lit, hcc j (by omega)]
      rw [List.getElem?_map, List.getElem?_eq_getElem hjn] at hj
      rw [List.getD_eq_getElem?_getD, List.getElem?_eq_getElem hjn]
      simpa using hj
    have Hc := Lib.hid hcell
    clear hcell hcc
    go_enter Tryz.func110, Tryz.ntmps110
    go_wp2_with (at_builtin; refine wpList_append_own _ rfl _ _ 22 rfl w.heap.size 3 i0 (.int .i64 0) 1 8 Tryz.underlying22 hi hz0 hz1 hz2 rfl (by decide) _ _ _ rfl (World.ownsRow_nil w w.heap.size 3 1) ⟨b, o, none⟩ n c (zs.map (Value.int .i64)) rfl ?qc1 Hc.out ?qc3 ?qc4 ?qc5 ?qc6 ?_)
    case qc1 => simp; omega
    case qc3 => intro u hu; obtain ⟨x, _, rfl⟩ := List.mem_map.1 hu; rfl
    case qc4 => unfold maxLen; omega
    case qc5 => omega
    case qc6 => exact Nat.le_refl _
    intro v' w1 hown hgrow hnil
    have hb := (Below.refl w.heap.size w).grown hgrow (Nat.le_refl _) (by intro k hk; simp [Value.ownBlock] at hk)
    have hN : Nums w1 w.heap.size 3 v' zs := by
      unfold Nums
      rw [l]
      simpa using hown
    have HN := Lib.hid hN
    clear hown hgrow hnil hN
    go_wp2_with fail
    go_ret
    exact ⟨_, rfl, HN.out, hb⟩
end Go.Proofs.YthjphiniljopgaaGreatDoor

namespace Go.Proofs.YthjphiniljopgaaGreatDoor
open Go.RowKit

theorem sliceinfo : (Tryz.prog.info? 22).map (fun i => (i.zero, i.size, i.bytes)) = some (some (.slice none 0 0), 1, 24) := by kernel_rfl

/-- The book's fields where vectors alone are kept. -/
def bookV (v1 v2 : Value) : Array Value := #[.slice none 0 0, .slice none 0 0, .slice none 0 0, .slice none 0 0, v1, v2, .slice none 0 0, .slice none 0 0, .slice none 0 0, .slice none 0 0, .slice none 0 0, .slice none 0 0, .slice none 0 0, .slice none 0 0, .slice none 0 0, .slice none 0 0, .slice none 0 0, .slice none 0 0, .slice none 0 0, .slice none 0 0, .slice none 0 0, .slice none 0 0, .slice none 0 0, .slice none 0 0, .slice none 0 0, .slice none 0 0, .slice none 0 0, .slice none 0 0, .slice none 0 0, .slice none 0 0]

/-- Blocks of type t are as they were. -/
structure KeepT (t : TypeId) (w w' : World) : Prop where
  size : w.heap.size ≤ w'.heap.size
  keep : ∀ (k : Nat) (cs : Array Value) (fr : Nat × Nat), w.heap[k]? = some (Obj.cells cs t fr) → w'.heap[k]? = some (Obj.cells cs t fr)
section
variable {t : TypeId} {w w' w'' : World}
theorem KeepT.refl (t : TypeId) (w : World) : KeepT t w w := ⟨Nat.le_refl _, fun _ _ _ h => h⟩
theorem KeepT.trans (h : KeepT t w w') (k : KeepT t w' w'') : KeepT t w w'' := ⟨Nat.le_trans h.size k.size, fun _ _ _ x => k.keep _ _ _ (h.keep _ _ _ x)⟩
theorem KeepT.of_below {B : Nat} (h : Below B w w') (hB : w.heap.size ≤ B) : KeepT t w w' := ⟨h.size, fun k _ _ x => (h.block k (Nat.lt_of_lt_of_le (Array.getElem?_eq_some_iff.1 x).1 hB)).trans x⟩
theorem KeepT.drew (h : KeepT t w w') : KeepT t w w'.drew := ⟨h.size, h.keep⟩
theorem KeepT.drewN (h : KeepT t w w') (q : Nat) : KeepT t w (w'.drewN q) := ⟨h.size, h.keep⟩
theorem KeepT.alloc (h : KeepT t w w') (o : Obj) : KeepT t w (w'.alloc o) := h.trans (KeepT.of_below (below_alloc (Below.refl w'.heap.size w') (Nat.le_refl _) o) (Nat.le_refl _))
theorem KeepT.set {g : Nat} {cs : Array Value} {u : TypeId} {fr : Nat × Nat} (h : KeepT t w w') (hg : w'.heap[g]? = some (Obj.cells cs u fr)) (hne : u ≠ t) (p : Addr) (hp : p.block = g) (x : Value) : KeepT t w (w'.setCell p x) :=
  h.trans ⟨by simp [World.setCell], fun k cs' fr' hk => by
    refine (Below.heap_setCell w' p x k ?_).trans hk
    rintro rfl
    rw [hp, hg] at hk
    injection hk with hk
    injection hk with _ h2
    exact hne h2⟩
/-- Behind an append to a row of another type. -/
theorem KeepT.grown {B : Nat} {u : TypeId} {v : Value} {n : Nat} {xs : List Value} (h : KeepT t w w') (hg : w'.grownBy w'' v.ownBlock) (hown : w'.ownsRow B u 1 v n xs) (hne : u ≠ t) : KeepT t w w'' :=
  h.trans ⟨hg.size, fun k cs fr hk => by
    refine (hg.block k (Array.getElem?_eq_some_iff.1 hk).1 ?_).trans hk
    intro e
    rcases hown.2 with ⟨rfl, _⟩ | ⟨g, cap, cur, rfl, _, hh, _⟩
    · simp [Value.ownBlock] at e
    · simp [Value.ownBlock] at e
      subst e
      rw [hh] at hk
      injection hk with hk
      injection hk with _ h2
      exact hne h2⟩
theorem Nums.keep {B : Nat} {v : Value} {zs : List Int} (h : Nums w B t v zs) (hk : KeepT t w w') : Nums w' B t v zs := by
  refine ⟨h.1, ?_⟩
  rcases h.2 with hn | ⟨g, cap, cur, hv, hg, hh, r⟩
  · exact Or.inl hn
  · exact Or.inr ⟨g, cap, cur, hv, hg, hk.keep _ _ _ hh, r⟩
theorem Rows.keep {B : Nat} {rs : List Row} (h : Rows w B t rs) (hk : KeepT t w w') : Rows w' B t rs := ⟨fun r hr => (h.each r hr).keep hk, h.apart⟩
end

/-- The book keeps the lists L, and the copies C. -/
structure VBook (w : World) (B bk : Nat) (v1 v2 : Value) (L C : List Value) : Prop where
  low : B ≤ bk
  blk : Blk w bk 46 (bookV v1 v2)
  r1 : w.ownsRow B 22 1 v1 L.length L
  r2 : w.ownsRow B 22 1 v2 C.length C
  off : Off v1 v2

section
variable {w w' : World} {B bk : Nat} {v1 v2 : Value} {L C : List Value}
theorem VBook.below (h : VBook w B bk v1 v2 L C) {B' : Nat} (hb : Below B' w w') (hB : w.heap.size ≤ B') : VBook w' B bk v1 v2 L C := by
  have key : ∀ v xs, w.ownsRow B 22 1 v xs.length xs → w'.ownsRow B 22 1 v xs.length xs := by
    intro v xs h
    refine ⟨h.1, ?_⟩
    rcases h.2 with hn | ⟨g, cap, cur, hv, hg, hh, r⟩
    · exact Or.inl hn
    · exact Or.inr ⟨g, cap, cur, hv, hg, (hb.block g (Nat.lt_of_lt_of_le (Array.getElem?_eq_some_iff.1 hh).1 hB)).trans hh, r⟩
  exact ⟨h.low, (hb.block bk (Nat.lt_of_lt_of_le h.blk.lt hB)).trans h.blk, key _ _ h.r1, key _ _ h.r2, h.off⟩
end

theorem own_ne_blk {w : World} {B bk : Nat} {e t : TypeId} {v : Value} {n : Nat} {xs : List Value} {cs : Array Value} (h : w.ownsRow B e 1 v n xs) (hb : Blk w bk t cs) (hne : e ≠ t) : v.ownBlock ≠ some bk := by
  intro hv
  rcases h.2 with ⟨rfl, _⟩ | ⟨g, cap, cur, rfl, _, hh, _⟩
  · simp [Value.ownBlock] at hv
  · simp [Value.ownBlock] at hv
    subst hv
    unfold Blk at hb
    rw [hh] at hb
    injection hb with hb
    injection hb with _ h2
    exact hne h2


theorem size_bookV (a b : Value) : (bookV a b).size = 30 := rfl
theorem set4_bookV (a b u : Value) : (bookV a b).setIfInBounds 4 u = bookV u b := rfl
theorem set5_bookV (a b u : Value) : (bookV a b).setIfInBounds 5 u = bookV a u := rfl

/-- A list more among those that are kept. -/
theorem vbook_1 {w w1 : World} {B bk : Nat} {v1 v2 u1 x : Value} {L C : List Value} {o : Obj} (h : VBook w B bk v1 v2 L C) (hB : B ≤ w.heap.size)
    (hown : w1.ownsRow B 22 1 u1 (L.length + 1) (L ++ [x])) (hgr : (w.alloc o).grownBy w1 v1.ownBlock) (hbl : u1.ownBlock = v1.ownBlock ∨ ∀ g, u1.ownBlock = some g → w.heap.size ≤ g) :
    VBook (w1.setCell ⟨bk, 4, none⟩ u1) B bk u1 v2 (L ++ [x]) C ∧ KeepT 3 w (w1.setCell ⟨bk, 4, none⟩ u1) ∧ Below B w (w1.setCell ⟨bk, 4, none⟩ u1) ∧ Blk w1 bk 46 (bookV v1 v2) := by
  have hne := own_ne_blk h.r1 h.blk (by decide)
  have hb0 := h.blk.alloc o
  have hb1 : Blk w1 bk 46 (bookV v1 v2) := hb0.grown hgr (fun e => hne e.symm)
  have hb2 := hb1.set_ 4 u1
  rw [set4_bookV] at hb2
  have hu : u1.ownBlock ≠ some bk := own_ne_blk hown hb1 (by decide)
  have hr2 : w1.ownsRow B 22 1 v2 C.length C := (World.ownsRow.alloc h.r2 o).kept hgr (by
    cases hv : v2.ownBlock with
    | none => exact Or.inl rfl
    | some g => exact Or.inr (fun e => h.off g e.symm hv))
  have hv2 : v2.ownBlock ≠ some bk := own_ne_blk h.r2 h.blk (by decide)
  refine ⟨⟨h.low, hb2, ?_, ownsRow_setCell_other hr2 hv2 u1, ?_⟩, ?_, ?_, hb1⟩
  · rw [List.length_append]
    exact ownsRow_setCell_other hown hu u1
  · intro g hg hv
    rcases hbl with e | e
    · exact h.off g (e ▸ hg) hv
    · have h1 := e g hg
      have h2 := (World.ownsRow.lt h.r2 g hv).2
      omega
  · have k1 : KeepT 3 w w1 := ((KeepT.refl _ w).alloc o).grown hgr (World.ownsRow.alloc h.r1 o) (by decide)
    exact k1.set hb1 (by decide) _ rfl _
  · have b1 : Below B w w1 := (below_alloc (Below.refl B w) hB o).grown hgr (by simp; omega) (fun k hk => (World.ownsRow.lt h.r1 k hk).1)
    exact below_setCell b1 h.low u1
theorem vbook_2 {w w1 : World} {B bk : Nat} {v1 v2 u2 x : Value} {L C : List Value} {o : Obj} (h : VBook w B bk v1 v2 L C) (hB : B ≤ w.heap.size)
    (hown : w1.ownsRow B 22 1 u2 (C.length + 1) (C ++ [x])) (hgr : (w.alloc o).grownBy w1 v2.ownBlock) (hbl : u2.ownBlock = v2.ownBlock ∨ ∀ g, u2.ownBlock = some g → w.heap.size ≤ g) :
    VBook (w1.setCell ⟨bk, 5, none⟩ u2) B bk v1 u2 L (C ++ [x]) ∧ KeepT 3 w (w1.setCell ⟨bk, 5, none⟩ u2) ∧ Below B w (w1.setCell ⟨bk, 5, none⟩ u2) ∧ Blk w1 bk 46 (bookV v1 v2) := by
  have hne := own_ne_blk h.r2 h.blk (by decide)
  have hb0 := h.blk.alloc o
  have hb1 : Blk w1 bk 46 (bookV v1 v2) := hb0.grown hgr (fun e => hne e.symm)
  have hb2 := hb1.set_ 5 u2
  rw [set5_bookV] at hb2
  have hu : u2.ownBlock ≠ some bk := own_ne_blk hown hb1 (by decide)
  have hr1 : w1.ownsRow B 22 1 v1 L.length L := (World.ownsRow.alloc h.r1 o).kept hgr (by
    cases hv : v1.ownBlock with
    | none => exact Or.inl rfl
    | some g => exact Or.inr (fun e => h.off g hv e.symm))
  have hv1 : v1.ownBlock ≠ some bk := own_ne_blk h.r1 h.blk (by decide)
  refine ⟨⟨h.low, hb2, ownsRow_setCell_other hr1 hv1 u2, ?_, ?_⟩, ?_, ?_, hb1⟩
  · rw [List.length_append]
    exact ownsRow_setCell_other hown hu u2
  · intro g hg hv
    rcases hbl with e | e
    · exact h.off g hg (e ▸ hv)
    · have h1 := e g hv
      have h2 := (World.ownsRow.lt h.r1 g hg).2
      omega
  · have k1 : KeepT 3 w w1 := ((KeepT.refl _ w).alloc o).grown hgr (World.ownsRow.alloc h.r2 o) (by decide)
    exact k1.set hb1 (by decide) _ rfl _
  · have b1 : Below B w w1 := (below_alloc (Below.refl B w) hB o).grown hgr (by simp; omega) (fun k hk => (World.ownsRow.lt h.r2 k hk).1)
    exact below_setCell b1 h.low u2

theorem own_some {w : World} {B : Nat} {e : TypeId} {v : Value} {n : Nat} {xs : List Value} (h : w.ownsRow B e 1 v (n + 1) xs) : ∃ g d, v = .slice (some ⟨g, 0, none⟩) (n + 1) d := by
  rcases h.2 with ⟨_, h0⟩ | ⟨g, cap, cur, hv, _⟩
  · omega
  · exact ⟨g, cap, hv⟩
theorem vbook_2c {w w1 : World} {B bk : Nat} {v1 v2 u2 x : Value} {L C : List Value} {o : Obj} (h : VBook w B bk v1 v2 L C) (hB : B ≤ w.heap.size)
    (hown : w1.ownsRow B 22 1 u2 (C.length + 1) (C ++ [x])) (hgr : (w.alloc o).grownBy w1 v2.ownBlock) (hbl : u2.ownBlock = v2.ownBlock ∨ ∀ g, u2.ownBlock = some g → (w.alloc o).heap.size ≤ g) :
    w1.cell? ⟨bk, 5, none⟩ = some v2 ∧ w1.frozen? ⟨bk, 5, none⟩ = false := by
  obtain ⟨_, _, _, hb⟩ := vbook_2 h hB hown hgr (hbl.imp id fun h g hg => by have := h g hg; simp at this; omega)
  have := hb.cell 5
  exact ⟨this, hb.frozen 5⟩

set_option maxRecDepth 100000 in
set_option maxHeartbeats 4000000 in
theorem bvecs_any (B bk : Nat) (v1 v2 : Value) (L C : List Value) (A : Option Addr) (n c : Nat) (zs : List Int) (w : World) (hV : VBook w B bk v1 v2 L C) (hLC : L.length = C.length) (h250 : L.length < 250) (I : ∀ W, KeepT 3 w W → IntsIn W A n zs) (hn : n ≤ 100000) (hB : B ≤ w.heap.size) :
    Calls Tryz.prog 38 #[.pointer (some ⟨bk, 0, none⟩), .slice A n c] w fun e w' => e = .returned (.tuple #[]) ∧ ∃ u1 u2 cp, VBook w' B bk u1 u2 (L ++ [.slice A n c]) (C ++ [cp]) ∧ Nums w' w.heap.size 3 cp zs ∧ KeepT 3 w w' ∧ Below B w w' := by
  obtain ⟨i0, hi, hz0, hz1, hz2⟩ := info_parts sliceinfo
  have HV := Lib.hid hV
  have HI := Lib.hid I
  obtain ⟨a1, m1, d1, rfl⟩ : ∃ a m d, v1 = .slice a m d := by
    rcases hV.r1.2 with ⟨rfl, _⟩ | ⟨g, cap, cur, rfl, _⟩ <;> exact ⟨_, _, _, rfl⟩
  have hm1 : m1 = L.length := by
    rcases hV.r1.2 with ⟨h, h2⟩ | ⟨g, cap, cur, h, _⟩
    · injection h; omega
    · injection h
  subst hm1
  obtain ⟨a2, m2, e2, rfl⟩ : ∃ a m d, v2 = .slice a m d := by
    rcases hV.r2.2 with ⟨rfl, _⟩ | ⟨g, cap, cur, rfl, _⟩ <;> exact ⟨_, _, _, rfl⟩
  have hm2 : m2 = C.length := by
    rcases hV.r2.2 with ⟨h, h2⟩ | ⟨g, cap, cur, h, _⟩
    · injection h; omega
    · injection h
  subst hm2
  have c4 := hV.blk.cell 4
  have c5 := hV.blk.cell 5
  have f4 := hV.blk.frozen 4
  have f5 := hV.blk.frozen 5
  simp [bookV] at c4 c5
  have h250' : (L.length : Int) < 250 := by omega
  have hlow := hV.low
  have hbklt := hV.blk.lt
  have HLC := Lib.hid hLC
  clear hV I hLC
  go_enter Tryz.func38, Tryz.ntmps38
  go_wp2_with (at_builtin; refine wpList_append_keep _ rfl _ _ 32 rfl B 22 i0 (.slice none 0 0) 1 24 Tryz.underlying32 hi hz0 hz1 hz2 rfl (by decide) _ _ _ rfl (World.ownsRow.alloc HV.out.r1 _) ⟨w.heap.size, 0, none⟩ 1 1 [.slice A n c] rfl rfl ?c1 ?c2 ?c3 ?c4 ?c5 ?_)
  case c1 =>
    intro j' u hj'
    match j', hj' with
    | 0, hj' => simp at hj'; subst hj'; simp [Addr.add]
  case c2 => intro u hu; simp at hu; subst hu; rfl
  case c3 => unfold maxLen; omega
  case c4 => omega
  case c5 => simp; omega
  intro u1 w1 hown1 hgr1 hold1 hblk1
  obtain ⟨V1, k1, hb1, hblk⟩ := vbook_1 HV.out hB hown1 hgr1 (hblk1.imp id fun h g hg => by have := h g hg; omega)
  obtain ⟨g1, d2, rfl⟩ : ∃ g d, u1 = .slice (some ⟨g, 0, none⟩) (L.length + 1) d := by
    rcases hown1.2 with ⟨_, h0⟩ | ⟨g, cap, cur, hv, _⟩
    · omega
    · exact ⟨g, cap, hv⟩
  have g4 := hblk.cell 4
  have g4f := hblk.frozen 4
  simp [bookV] at g4
  have HV1 := Lib.hid V1
  have HK1 := Lib.hid k1
  have HB1 := Lib.hid hb1
  clear hown1 hgr1 hold1 hblk1 hblk V1 k1 hb1 c4 c5 f4 f5
  go_wp2_with fail
  generalize w1.setCell ⟨bk, 4, none⟩ (.slice (some ⟨g1, 0, none⟩) (L.length + 1) d2) = w2 at *
  have hC250 : C.length < 250 := by have := HLC.out; omega
  have HC250 := Lib.hid hC250
  have CP : Hid (∀ W, W = w2.drew ∨ W = w2 → Calls Tryz.prog 110 #[.slice A n c] W fun e w' => ∃ a3 n3 c3, e = .returned (.slice a3 n3 c3) ∧ Nums w' w.heap.size 3 (.slice a3 n3 c3) zs ∧ KeepT 3 w w' ∧ Below B w w' ∧ VBook w' B bk (.slice (some ⟨g1, 0, none⟩) (L.length + 1) d2) (.slice a2 C.length e2) (L ++ [.slice A n c]) C ∧ B ≤ w'.heap.size) := by
    intro W hW
    have hKW : KeepT 3 w W := by
      rcases hW with rfl | rfl
      · exact HK1.out.drew
      · exact HK1.out
    have hBW : Below B w W := by
      rcases hW with rfl | rfl
      · exact HB1.out.drew
      · exact HB1.out
    have hVW : VBook W B bk (.slice (some ⟨g1, 0, none⟩) (L.length + 1) d2) (.slice a2 C.length e2) (L ++ [.slice A n c]) C := by
      rcases hW with rfl | rfl
      · exact HV1.out.below (Below.refl w2.heap.size w2).drew (Nat.le_refl _)
      · exact HV1.out
    refine (copyVecs_any A n c zs W (HI.out W hKW) (by omega)).mono ?_
    rintro e w' ⟨v, rfl, hN, hb⟩
    obtain ⟨a3, n3, c3, rfl⟩ : ∃ a n c, v = .slice a n c := by
      rcases hN.2 with ⟨rfl, _⟩ | ⟨g, cap, cur, rfl, _⟩ <;> exact ⟨_, _, _, rfl⟩
    exact ⟨a3, n3, c3, rfl, hN.low hKW.size, hKW.trans (KeepT.of_below hb (Nat.le_refl _)), hBW.trans (hb.mono (Nat.le_trans hB hKW.size)), hVW.below hb (Nat.le_refl _), Nat.le_trans hB (Nat.le_trans hKW.size hb.size)⟩
  have c5 := HV1.out.blk.cell 5
  have f5 := HV1.out.blk.frozen 5
  simp [bookV] at c5
  have h250b : C.length + 1 ≤ maxLen := by unfold maxLen; omega
  have h250c : (C.length + 1) * 24 ≤ 140737488355328 := by omega
  have H3 := Lib.hid h250b
  have H4 := Lib.hid h250c
  clear h250' hC250 h250b h250c g4 g4f
  go_region_law (first
    | (refine step_append_keep rfl (.tmp 24) (.tmp 27) 32 rfl B 22 i0 (.slice none 0 0) 1 24 Tryz.underlying32 hi hz0 hz1 hz2 rfl (by decide) (.slice a2 C.length e2) C.length C rfl (by assumption) ⟨_, 0, none⟩ 1 1 _ rfl rfl (cells_new _ _ [_]) (by intro u hu; simp at hu; subst hu; rfl) H3.out H4.out (by simp; omega) ?_; intro u2 w5 hown5 hgr5 hold5 hbl5; obtain ⟨g5, d5, rfl⟩ := own_some hown5; obtain ⟨c55, f55⟩ := vbook_2c hV3 hS3 hown5 hgr5 hbl5)
    | (go_simp; go_at_call 110; refine (CP.out _ (by first | exact Or.inl rfl | exact Or.inr rfl)).mono ?_; rintro e w3 ⟨a3, n3, c3, rfl, hN3, hK3, hB3, hV3, hS3⟩; have R3 := World.ownsRow.alloc hV3.r2 (.cells #[.slice a3 n3 c3] 22); have c53 : w3.cell? ⟨bk, 5, none⟩ = some (.slice a2 C.length e2) := (by have := hV3.blk.cell 5; simpa [bookV] using this); have c54 : (w3.alloc (.cells #[.slice a3 n3 c3] 22)).cell? ⟨bk, 5, none⟩ = some (.slice a2 C.length e2) := (by have := (hV3.blk.alloc (.cells #[.slice a3 n3 c3] 22)).cell 5; simpa [bookV] using this)))
  all_goals
    obtain ⟨V5, k5, hb5, _⟩ := vbook_2 hV3 hS3 hown5 hgr5 (hbl5.imp id fun h g hg => by have := h g hg; simp at this; omega)
    go_end0
    exact ⟨rfl, _, _, _, V5, hN3.keep k5, hK3.trans k5, hB3.trans hb5⟩
end Go.Proofs.YthjphiniljopgaaGreatDoor

namespace Go.Proofs.YthjphiniljopgaaGreatDoor
open Go.RowKit

/-- The lists L can be read, as Z. -/
def Seen (w : World) (L : List Value) (Z : List (List Int)) : Prop := L.length = Z.length ∧ ∀ i, i < L.length → ∃ A n c, L[i]? = some (.slice A n c) ∧ IntsIn w A n (Z.getD i [])
theorem Seen.drewN {w : World} {L : List Value} {Z : List (List Int)} (h : Seen w L Z) (q : Nat) : Seen (w.drewN q) L Z :=
  ⟨h.1, fun i hi => by obtain ⟨A, n, c, h1, h2⟩ := h.2 i hi; exact ⟨A, n, c, h1, h2.drewN q⟩⟩
theorem VBook.drewN {w : World} {B bk : Nat} {v1 v2 : Value} {L C : List Value} (h : VBook w B bk v1 v2 L C) (q : Nat) : VBook (w.drewN q) B bk v1 v2 L C := ⟨h.low, h.blk, h.r1, h.r2, h.off⟩
theorem own_slice {w : World} {B : Nat} {e : TypeId} {v : Value} {n : Nat} {xs : List Value} (h : w.ownsRow B e 1 v n xs) : ∃ a c, v = .slice a n c := by
  rcases h.2 with ⟨rfl, rfl⟩ | ⟨g, cap, cur, rfl, _⟩ <;> exact ⟨_, _, rfl⟩
theorem own_cells {w : World} {B : Nat} {e : TypeId} {v : Value} {n : Nat} {xs : List Value} (h : w.ownsRow B e 1 v n xs) (hn : 0 < n) : ∃ g o c, v = .slice (some ⟨g, o, none⟩) n c ∧ B ≤ g ∧ ∀ j u, xs[j]? = some u → w.cell? ⟨g, o + j, none⟩ = some u := by
  rcases h.2 with ⟨rfl, h0⟩ | ⟨g, cap, cur, rfl, hb, _⟩
  · omega
  · exact ⟨g, 0, cap, rfl, hb, fun j u hj => by have := World.ownsRow.cells h (g := g) rfl j u hj; rwa [Addr.add_lit] at this⟩

set_option maxRecDepth 100000 in
set_option maxHeartbeats 1000000 in
theorem stillVecs_any (B bk : Nat) (v1 v2 : Value) (L C : List Value) (Z : List (List Int)) (w : World) (hV : VBook w B bk v1 v2 L C) (hL : Seen w L Z) (hC : Seen w C Z) (hm : L.length ≤ 1000) :
    Calls Tryz.prog 41 #[.pointer (some ⟨bk, 0, none⟩)] w fun e w' => e = .returned (.bool true) ∧ ∃ q, w' = w.drewN q := by
  have HV := Lib.hid hV
  have HL := Lib.hid hL
  have HC := Lib.hid hC
  obtain ⟨m, hmL⟩ : ∃ m, L.length = m := ⟨_, rfl⟩
  have hmC : C.length = m := by rw [hC.1, ← hL.1, hmL]
  obtain ⟨a1, p1, e1⟩ := own_slice hV.r1
  obtain ⟨a2, p2, e2⟩ := own_slice hV.r2
  rw [hmL] at e1 hm
  rw [hmC] at e2
  have c4 := hV.blk.cell 4
  have c5 := hV.blk.cell 5
  simp [bookV, e1, e2] at c4 c5
  have HmL := Lib.hid hmL
  have HmC := Lib.hid hmC
  have E1 := Lib.hid e1
  have E2 := Lib.hid e2
  have hm' : (m : Int) ≤ 1000 := by omega
  clear hV hL hC hmL hmC e1 e2
  go_enter Tryz.func41, Tryz.ntmps41
  go_wp2_with fail
  go_loopw [3] (fun i wr => ∃ k q : Nat, k ≤ m ∧ i = .int .i64 (k : Int) ∧ Hid (wr = w.drewN q)) (fun i _ => m - (intOf i).toNat)
  case atStart => exact ⟨0, 0, by omega, rfl, rfl⟩
  case round =>
    obtain ⟨k, q, hk, rfl, Hw⟩ := hrel
    have d4 : wr.cell? ⟨bk, 4, none⟩ = some (.slice a1 m p1) := by rw [Hw.out]; exact c4
    have d5 : wr.cell? ⟨bk, 5, none⟩ = some (.slice a2 m p2) := by rw [Hw.out]; exact c5
    by_cases hl : k < m
    · obtain ⟨g1, o1, q1, f1, _, r1⟩ := own_cells (HV.out.drewN q).r1 (by rw [HmL.out]; omega)
      obtain ⟨g2, o2, q2, f2, _, r2⟩ := own_cells (HV.out.drewN q).r2 (by rw [HmC.out]; omega)
      obtain ⟨A1, n1, b1, t1, i1⟩ := (HL.out.drewN q).2 k (by rw [HmL.out]; exact hl)
      obtain ⟨A2, n2, b2, t2, i2⟩ := (HC.out.drewN q).2 k (by rw [HmC.out]; exact hl)
      have s1 := r1 k _ t1
      have s2 := r2 k _ t2
      rw [← Hw.out] at s1 s2 i1 i2
      rw [E1.out] at f1
      rw [E2.out] at f2
      injection f1 with f11 f12 f13
      injection f2 with f21 f22 f23
      subst f11
      subst f21
      have K : Hid (∀ q, Calls Tryz.prog 113 #[.slice A1 n1 b1, .slice A2 n2 b2] (wr.drewN q) fun e w' => e = .returned (.bool true) ∧ ∃ m, w' = (wr.drewN q).drewN m) := fun q =>
        (sameVecs_any A1 n1 b1 _ A2 n2 b2 _ (wr.drewN q) (i1.drewN q) (i2.drewN q)).mono fun e w' h => ⟨by rw [h.1]; simp, h.2⟩
      have hl1 : (k : Int) < (m : Int) := by omega
      clear r1 r2 t1 t2 i1 i2 f12 f13 f22 f23
      go_wp2_with fail
      go_quiet (first | (go_at_call 113; refine Calls.quiet_of (K.out _)))
      go_wp2_with fail
      go_roundw
      case rel => exact ⟨k + 1, _, by omega, by go_num, (by rw [Hw.out, World.drewN_drewN]; rfl)⟩
      case measure => simp [intOf]; omega
    · obtain rfl : k = m := by omega
      go_wp2_with fail
      go_ret
      exact ⟨rfl, q, Hw.out⟩
end Go.Proofs.YthjphiniljopgaaGreatDoor

namespace Go.Proofs.YthjphiniljopgaaGreatDoor
open Go.RowKit

theorem getD_set_self (zs : List Int) (j : Nat) (x : Int) (hj : j < zs.length) : (zs.set j x).getD j 0 = x := by
  rw [List.getD_eq_getElem?_getD, List.getElem?_set_self hj]; rfl
theorem getD_set_ne (zs : List Int) (i j : Nat) (x : Int) (h : i ≠ j) : (zs.set i x).getD j 0 = zs.getD j 0 := by
  rw [List.getD_eq_getElem?_getD, List.getElem?_set_ne h, ← List.getD_eq_getElem?_getD]
theorem markV_getD (i n j : Nat) (hj : j < n) : (markV i 0 n).getD j 0 = -1000000 * (i : Int) - (j : Int) - 9 := by
  unfold markV
  rw [List.getD_eq_getElem?_getD, List.getElem?_map, List.getElem?_range hj]
  simp

/-- m rows of numbers, apart. -/
structure Rws (w : World) (B m : Nat) (a : Nat → Value) (F : Nat → List Int) : Prop where
  each : ∀ i, i < m → Nums w B 3 (a i) (F i)
  apart : ∀ i j, i < m → j < m → i ≠ j → Off (a i) (a j)

theorem VBook.set_int {w : World} {B bk : Nat} {v1 v2 : Value} {L C : List Value} (h : VBook w B bk v1 v2 L C) {g : Nat} {cs : Array Value} {fr : Nat × Nat} (hg : w.heap[g]? = some (.cells cs 3 fr)) (j : Nat) (u : Value) :
    VBook (w.setCell ⟨g, j, none⟩ u) B bk v1 v2 L C := by
  have key : ∀ v n xs, w.ownsRow B 22 1 v n xs → v.ownBlock ≠ some g := by
    intro v n xs h hv
    rcases h.2 with ⟨rfl, _⟩ | ⟨g', cap, cur, rfl, _, hh, _⟩
    · simp [Value.ownBlock] at hv
    · simp [Value.ownBlock] at hv
      subst hv
      rw [hg] at hh
      injection hh with hh
      injection hh with _ h2
      exact absurd h2 (by decide)
  have hbk : bk ≠ g := by
    rintro rfl
    have hb := h.blk
    unfold Blk at hb
    rw [hg] at hb
    injection hb with hb
    injection hb with _ h2
    exact absurd h2 (by decide)
  exact ⟨h.low, h.blk.far (p := ⟨g, j, none⟩) hbk u, ownsRow_setCell_other h.r1 (key _ _ _ h.r1) u, ownsRow_setCell_other h.r2 (key _ _ _ h.r2) u, h.off⟩

theorem nums_block {w : World} {B : Nat} {g n c : Nat} {zs : List Int} (h : Nums w B 3 (.slice (some ⟨g, 0, none⟩) n c) zs) : ∃ cs, B ≤ g ∧ n = zs.length ∧ w.heap[g]? = some (.cells cs 3 (0, 0)) := by
  rcases h.2 with ⟨h', _⟩ | ⟨g', cap, cur, h', hb, hh, _⟩
  · simp at h'
  · simp only [Value.slice.injEq, Option.some.injEq, Addr.mk.injEq, and_true, true_and] at h'
    obtain ⟨rfl, rfl, _⟩ := h'
    exact ⟨cur, hb, rfl, hh⟩

theorem nums_some {w : World} {B : Nat} {v : Value} {zs : List Int} {e : TypeId} (h : Nums w B e v zs) (hn : 0 < zs.length) : ∃ g c, v = .slice (some ⟨g, 0, none⟩) zs.length c := by
  rcases h.2 with ⟨_, h0⟩ | ⟨g, cap, cur, hv, _⟩
  · omega
  · exact ⟨g, cap, hv⟩

/-- One number stored into one of the rows. -/
theorem put_step {w : World} {B bk m : Nat} {v1 v2 : Value} {L C : List Value} {a : Nat → Value} {F : Nat → List Int} {k g n c j S : Nat} {x : Int} {v : Value} {zs : List Int}
    (hV : VBook w B bk v1 v2 L C) (hR : Rws w B m a F) (hk : k < m) (hg : a k = .slice (some ⟨g, 0, none⟩) n c) (hN : Nums w S 3 v zs) (hS : g < S) :
    VBook (w.setCell ⟨g, j, none⟩ (.int .i64 x)) B bk v1 v2 L C ∧ Rws (w.setCell ⟨g, j, none⟩ (.int .i64 x)) B m a (fun i => if i = k then (F k).set j x else F i)
      ∧ Nums (w.setCell ⟨g, j, none⟩ (.int .i64 x)) S 3 v zs ∧ Below B w (w.setCell ⟨g, j, none⟩ (.int .i64 x)) := by
  have hr := hR.each k hk
  rw [hg] at hr
  obtain ⟨cs, hb, hn, hh⟩ := nums_block hr
  subst hn
  refine ⟨hV.set_int hh j _, ⟨fun i hi => ?_, hR.apart⟩, ?_, below_setCell (Below.refl B w) hb _⟩
  · by_cases hik : i = k
    · subst hik
      simp only [if_true]
      rw [hg]
      have := (World.ownsRow.stored (show w.ownsRow B 3 1 _ _ _ from hr) j (.int .i64 x)).1
      unfold Nums
      rw [List.length_set, List.map_set]
      exact this
    · simp only [if_neg hik]
      refine ownsRow_setCell_other (hR.each i hi) ?_ _
      intro h
      exact hR.apart i k hi hk hik g h (by rw [hg]; rfl)
  · refine ownsRow_setCell_other hN ?_ _
    intro h
    have := (hN.lt_ h).1
    dsimp only at this
    omega

theorem Rws.below {w w' : World} {B m : Nat} {a : Nat → Value} {F : Nat → List Int} (h : Rws w B m a F) {B' : Nat} (hb : Below B' w w') (hB : w.heap.size ≤ B') : Rws w' B m a F := ⟨fun i hi => (h.each i hi).below hb hB, h.apart⟩

set_option maxRecDepth 100000 in
set_option maxHeartbeats 4000000 in
theorem putVecs_any (B bk m : Nat) (v1 v2 : Value) (L C : List Value) (a : Nat → Value) (F : Nat → List Int) (w : World) (hV : VBook w B bk v1 v2 L C) (hLm : L.length = m) (hA : ∀ i, i < m → L[i]? = some (a i)) (hR : Rws w B m a F) (hn : ∀ i, i < m → (F i).length ≤ 100000) (hm : m ≤ 250) (hB : B ≤ w.heap.size) :
    Calls Tryz.prog 61 #[.pointer (some ⟨bk, 0, none⟩)] w fun e w' => e = .returned (.tuple #[]) ∧ VBook w' B bk v1 v2 L C ∧ Rws w' B m a (fun i => markV i 0 (F i).length) ∧ Below B w w' := by
  have HV := Lib.hid hV
  have HR := Lib.hid hR
  have HA := Lib.hid hA
  have Hn := Lib.hid hn
  obtain ⟨a1, p1, e1⟩ := own_slice hV.r1
  rw [hLm] at e1
  have E1 := Lib.hid e1
  have HLm := Lib.hid hLm
  have hm' : (m : Int) ≤ 250 := by omega
  clear hV hR hA hn e1 hLm
  go_enter Tryz.func61, Tryz.ntmps61
  go_wp2_with fail
  go_loopw [2] (fun i wr => ∃ k : Nat, ∃ G : Nat → List Int, k ≤ m ∧ i = .int .i64 (k : Int) ∧ Hid (VBook wr B bk v1 v2 L C) ∧ Hid (Rws wr B m a G ∧ (∀ i, i < m → (G i).length = (F i).length) ∧ ∀ i, i < k → G i = markV i 0 (F i).length) ∧ Hid (Below B w wr)) (fun i _ => m - (intOf i).toNat)
  case atStart => exact ⟨0, F, by omega, rfl, HV.out, ⟨HR.out, fun _ _ => rfl, fun i hi => absurd hi (by omega)⟩, Below.refl _ _⟩
  case round =>
    obtain ⟨k, G, hk, rfl, HV1, HR1, HB1⟩ := hrel
    have d4 := HV1.out.blk.cell 4
    simp [bookV, E1.out] at d4
    by_cases hl : k < m
    · obtain ⟨g1, o1, q1, f1, _, r1⟩ := own_cells HV1.out.r1 (by rw [HLm.out]; omega)
      have s1 := r1 k _ (HA.out k hl)
      rw [E1.out, HLm.out] at f1
      injection f1 with f11 f12 f13
      subst f11
      obtain ⟨nk, hnk⟩ : ∃ n, (F k).length = n := ⟨_, rfl⟩
      have hnk2 := Hn.out k hl
      rw [hnk] at hnk2
      have hrow := HR1.out.1.each k hl
      have hGk := HR1.out.2.1 k hl
      rw [hnk] at hGk
      obtain ⟨ak, ck, ek⟩ := own_slice hrow
      rw [hGk] at ek
      have s1' := s1
      rw [ek] at s1'
      have Hnk := Lib.hid hnk
      have Ek := Lib.hid ek
      have HGk := Lib.hid hGk
      have hl1 : (k : Int) < (m : Int) := by omega
      have hnk3 : (nk : Int) ≤ 100000 := by omega
      have M : Hid (Calls Tryz.prog 133 #[.int .i64 (k : Int), .int .i64 0, .int .i64 (nk : Int)] wr fun e w' => ∃ v, e = .returned v ∧ Nums w' wr.heap.size 3 v (markV k 0 nk) ∧ Below wr.heap.size wr w') :=
        markVecs_any k 0 nk wr (by omega) (by omega)
      have HG : Hid (∀ g, (Value.slice ak nk ck).ownBlock = some g → g < wr.heap.size) := fun g hg => (hrow.lt_ (by rw [Ek.out]; exact hg)).2
      obtain ⟨S1, hS⟩ : ∃ S, wr.heap.size = S := ⟨_, rfl⟩
      rw [hS] at M HG
      have HS := Lib.hid hS
      clear r1 f12 f13 hnk hrow hGk ek s1 hS
      go_wp2_with (first | (go_at_call 133; refine M.out.mono ?_; rintro e w1 ⟨v, rfl, hN, hb⟩))
      obtain ⟨av, cv, ev⟩ := own_slice hN
      rw [markV_length] at ev
      subst ev
      have HN := Lib.hid hN
      have HV2 := Lib.hid (HV1.out.below hb (Nat.le_of_eq HS.out))
      have HR2 := Lib.hid (HR1.out.1.below hb (Nat.le_of_eq HS.out))
      have HB2 := Lib.hid (HB1.out.trans (hb.mono (HS.out ▸ Nat.le_trans hB HB1.out.size)))
      clear hN hb
      go_wp2_with fail
      go_loopw [4] (fun i wr' => ∃ j : Nat, ∃ G' : Nat → List Int, j ≤ nk ∧ i = .int .i64 (j : Int) ∧ Hid (VBook wr' B bk v1 v2 L C) ∧ Hid (Rws wr' B m a G' ∧ (∀ i, i < m → (G' i).length = (F i).length) ∧ (∀ i, i < k → G' i = markV i 0 (F i).length) ∧ ∀ t, t < j → (G' k).getD t 0 = (markV k 0 nk).getD t 0) ∧ Hid (Nums wr' S1 3 (.slice av nk cv) (markV k 0 nk)) ∧ Hid (Below B w wr')) (fun i _ => nk - (intOf i).toNat)
      case atStart => exact ⟨0, G, by omega, rfl, HV2.out, ⟨HR2.out, HR1.out.2.1, HR1.out.2.2, fun t ht => absurd ht (by omega)⟩, HN.out, HB2.out⟩
      case round =>
        obtain ⟨j, G', hj, rfl, HV3, HR3, HN3, HB3⟩ := hrel
        by_cases hlj : j < nk
        · obtain ⟨g1', o1', p1', f1', _, r1'⟩ := own_cells HV3.out.r1 (by rw [HLm.out]; omega)
          have s2 := r1' k _ (HA.out k hl)
          rw [E1.out, HLm.out] at f1'
          simp only [Value.slice.injEq, Option.some.injEq, Addr.mk.injEq, and_true, true_and] at f1'
          obtain ⟨⟨rfl, rfl⟩, _⟩ := f1'
          rw [Ek.out] at s2
          have d5 := HV3.out.blk.cell 4
          simp [bookV, E1.out] at d5
          obtain ⟨gk, ck', ek'⟩ := nums_some (HR3.out.1.each k hl) (by rw [HR3.out.2.1 k hl, Hnk.out]; omega)
          rw [Ek.out] at ek'
          injection ek' with ek1 _ _
          subst ek1
          have hrow : wr.ownsRow B 3 1 (.slice (some ⟨gk, 0, none⟩) nk ck) nk ((G' k).map (Value.int .i64)) := by
            have := HR3.out.1.each k hl
            unfold Nums at this
            rw [Ek.out, HR3.out.2.1 k hl, Hnk.out] at this
            exact this
          have hfz := hrow.frozenAt j
          have hce := hrow.cellAt j (by omega)
          obtain ⟨old, ho⟩ : ∃ x, ((G' k).map (Value.int .i64))[j]? = some x := ⟨_, List.getElem?_eq_getElem (by rw [List.length_map, HR3.out.2.1 k hl, Hnk.out]; exact hlj)⟩
          rw [ho] at hce
          obtain ⟨gv, cv', ev'⟩ := nums_some HN3.out (by rw [markV_length]; omega)
          injection ev' with ev1 _ _
          subst ev1
          obtain ⟨x, hx⟩ : ∃ x, (markV k 0 nk).getD j 0 = x := ⟨_, rfl⟩
          have hsrc : wr.cell? ⟨gv, j, none⟩ = some (.int .i64 x) := by
            have h := HN3.out
            unfold Nums at h
            rw [markV_length] at h
            rw [World.ownsRow.cellAt h j (by omega), List.getElem?_map, List.getElem?_eq_getElem (by rw [markV_length]; exact hlj)]
            rw [← hx, List.getD_eq_getElem?_getD, List.getElem?_eq_getElem (by rw [markV_length]; exact hlj)]
            rfl
          have hgS : gk < S1 := HG.out gk rfl
          have ST := Lib.hid (put_step (j := j) (x := x) HV3.out HR3.out.1 hl Ek.out HN3.out hgS)
          have Hx := Lib.hid hx
          have hlj1 : (j : Int) < (nk : Int) := by omega
          clear hrow r1' ho hx hgS
          go_wp2_with fail
          go_region
          go_wp2_with fail
          go_roundw
          case rel =>
            refine ⟨j + 1, fun i => if i = k then (G' k).set j x else G' i, by omega, by go_num, ST.out.1.drewN 1, ⟨⟨ST.out.2.1.each, ST.out.2.1.apart⟩, fun i hi => ?_, fun i hi => ?_, fun t ht => ?_⟩, ST.out.2.2.1, (HB3.out.trans ST.out.2.2.2).drew⟩
            · dsimp only
              split
              · next h => rw [List.length_set, ← h]; exact HR3.out.2.1 i hi
              · exact HR3.out.2.1 i hi
            · dsimp only
              rw [if_neg (by omega)]
              exact HR3.out.2.2.1 i hi
            · dsimp only
              rw [if_pos rfl]
              by_cases htj : t = j
              · subst htj
                rw [getD_set_self _ _ _ (by rw [HR3.out.2.1 k hl, Hnk.out]; exact hlj), Hx.out]
              · rw [getD_set_ne _ _ _ _ (fun h => htj h.symm)]
                exact HR3.out.2.2.2 t (by omega)
          case measure => simp [intOf]; omega
        · obtain rfl : j = nk := by omega
          go_wp2_with fail
          go_roundw
          case rel =>
            refine ⟨k + 1, G', by omega, by go_num, HV3.out, ⟨HR3.out.1, HR3.out.2.1, fun i hi => ?_⟩, HB3.out⟩
            by_cases hik : i = k
            · subst hik
              rw [Hnk.out]
              exact list_ext_getD (by rw [HR3.out.2.1 i hl, Hnk.out, markV_length]) (fun t ht => HR3.out.2.2.2 t (by rw [HR3.out.2.1 i hl, Hnk.out] at ht; exact ht))
            · exact HR3.out.2.2.1 i (by omega)
          case measure => simp [intOf]; omega
    · obtain rfl : k = m := by omega
      go_wp2_with fail
      go_end0
      exact ⟨rfl, HV1.out, ⟨fun i hi => by rw [← HR1.out.2.2 i hi]; exact HR1.out.1.each i hi, HR1.out.1.apart⟩, HB1.out⟩
end Go.Proofs.YthjphiniljopgaaGreatDoor
