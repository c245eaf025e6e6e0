/-
  Several texts in one: A number's digits are read as the number, if it is small enough (plain lists).
  Walks over package real, part 5: split, the text of a number.
  Quotients of ints as float64 numbers (no program is named).
  Walks over package real, part 9: Ratio.
  Walks over package raw, part 6: Sum.
  The walk over the laws' first call (alive), and what the laws ask of the tables.
  RawShort: of a number in few bytes no beginning is taken for it.
  Walks over the document's own answer to chapter 1: Get, PutVar, Put.
  Walks over the document's own answer to chapter 2: key, Compare, Same, Max, Min, Put, Ratio.
  The document's own answer: are two acts, two versions alike? (chapter 5)
  What Get and Key tell of a version's bytes, and of other bytes; a byte that is changed. (Behind the contracts of package ikey.)
  The check sum, without the program: one byte changed changes it.
  Bytes of a block as a text.
-/
import Derived.Test.YthjphiniljopgaaDoorM2
import Derived.Lib.ItoaNum
import Derived.Test.YthjphiniljopgaaDoorM3
import Derived.Laws.Concat
import Derived.Test.YthjphiniljopgaaDoorRows
import Derived.Test.YthjphiniljopgaaDoorM1
import Derived.Lib.LaidTab
import Derived.Lib.Strings
import Derived.OpenShut
namespace Go.Proofs.YthjphiniljopgaaDoor
open Go.RowKit

theorem dec_digit (u : Nat) : ∀ c ∈ Lib.decDigits u, 48 ≤ c.toNat ∧ c.toNat ≤ 57 := by
  induction u using Nat.strongRecOn with
  | _ u ih =>
    intro c hc
    rw [Lib.decDigits] at hc
    split at hc
    · obtain rfl := List.mem_singleton.1 hc
      rw [UInt8.toNat_ofNat']; omega
    · rcases List.mem_append.1 hc with h | h
      · exact ih (u / 10) (by omega) c h
      · obtain rfl := List.mem_singleton.1 h
        rw [UInt8.toNat_ofNat']; omega

theorem digs_dec (u : Nat) : ∀ (r : List UInt8) (a : Nat), digs (Lib.decDigits u ++ r) a = digs r (a * 10 ^ Lib.nDigits u + u) := by
  induction u using Nat.strongRecOn with
  | _ u ih =>
    intro r a
    rw [Lib.decDigits]
    split
    · rename_i h
      have e : (UInt8.ofNat (48 + u)).toNat = 48 + u := by rw [UInt8.toNat_ofNat']; omega
      rw [Lib.nDigits_small h, List.cons_append, List.nil_append, digs, e, if_pos (by omega)]
      congr 1
      omega
    · rename_i h
      have e : (UInt8.ofNat (48 + u % 10)).toNat = 48 + u % 10 := by rw [UInt8.toNat_ofNat']; omega
      rw [Lib.nDigits_big h, List.append_assoc, ih (u / 10) (by omega), List.cons_append, List.nil_append, digs, e, if_pos (by omega)]
      congr 1
      rw [Nat.pow_succ, ← Nat.mul_assoc]
      omega

theorem dec_ne (u : Nat) : Lib.decDigits u ≠ [] := by
  intro h
  have := Lib.decDigits_length u
  have h2 := Lib.nDigits_pos u
  rw [h] at this
  simp at this
  omega

theorem dec_head (u : Nat) (hu : u ≠ 0) : ((Lib.decDigits u).headD 0).toNat ≠ 48 := by
  induction u using Nat.strongRecOn with
  | _ u ih =>
    rw [Lib.decDigits]
    split
    · rw [List.headD_cons, UInt8.toNat_ofNat']; omega
    · have := ih (u / 10) (by omega) (by omega)
      cases h : Lib.decDigits (u / 10) with
      | nil => exact absurd h (dec_ne _)
      | cons c r => rw [h] at this; exact this

theorem pow_le_nDigits (u : Nat) (hu : u ≠ 0) : 10 ^ (Lib.nDigits u - 1) ≤ u := by
  induction u using Nat.strongRecOn with
  | _ u ih =>
    by_cases h : u < 10
    · rw [Lib.nDigits_small h]; simp; omega
    · have h1 := ih (u / 10) (by omega) (by omega)
      have h2 := Lib.nDigits_pos (u / 10)
      rw [Lib.nDigits_big h, show Lib.nDigits (u / 10) + 1 - 1 = (Lib.nDigits (u / 10) - 1) + 1 from by omega, Nat.pow_succ]
      omega

theorem natL_dec (u : Nat) (hu : u ≠ 0) : natL (Lib.decDigits u) = if u < 10000000000000000 then some u else none := by
  have h1 := dec_head u hu
  have h2 := Lib.nDigits_pos u
  unfold natL
  rw [Lib.decDigits_length]
  by_cases h : u < 10000000000000000
  · have h3 : Lib.nDigits u ≤ 16 := by
      rcases Nat.lt_or_ge 16 (Lib.nDigits u) with hl | hl
      · have := pow_le_nDigits u hu
        have : (10 : Nat) ^ 16 ≤ 10 ^ (Lib.nDigits u - 1) := Nat.pow_le_pow_right (by decide) (by omega)
        omega
      · exact hl
    have := digs_dec u [] 0
    rw [List.append_nil] at this
    rw [if_pos h, if_neg (by omega), this]
    show some (0 * _ + u) = _
    congr 1
    omega
  · have h3 : 16 < Lib.nDigits u := by
      rcases Nat.lt_or_ge 16 (Lib.nDigits u) with hl | hl
      · exact hl
      · have := Lib.lt_pow_nDigits u
        have : (10 : Nat) ^ (Lib.nDigits u) ≤ 10 ^ 16 := Nat.pow_le_pow_right (by decide) hl
        omega
    rw [if_neg h, if_pos (Or.inr (Or.inl h3))]

theorem numL_itoa (v : Int) : numL (Lib.itoa v) = if -10000000000000000 < v ∧ v < 10000000000000000 then some v else none := by
  rcases Int.lt_trichotomy v 0 with h | h | h
  · have hi : Lib.itoa v = 45 :: Lib.decDigits v.natAbs := by unfold Lib.itoa; rw [if_pos h]
    have hp : Lib.hasPrefix (45 :: Lib.decDigits v.natAbs) [45] = true := by simp [Lib.hasPrefix]
    unfold numL
    rw [hi, if_neg (by simp)]
    unfold Lib.trimPrefix
    rw [if_pos hp, hp]
    show (natL (Lib.decDigits v.natAbs)).map _ = _
    rw [natL_dec _ (by omega)]
    by_cases hv : -10000000000000000 < v
    · rw [if_pos (by omega), if_pos (by omega)]
      simp
      omega
    · rw [if_neg (by omega), if_neg (by omega)]
      rfl
  · subst h
    have hi : Lib.itoa 0 = [48] := by unfold Lib.itoa; rw [if_neg (by decide)]; exact Lib.decDigits_one (by decide)
    rw [hi, if_pos (by decide)]
    rfl
  · have hi : Lib.itoa v = Lib.decDigits v.toNat := by unfold Lib.itoa; rw [if_neg (by omega)]
    have hd := dec_head v.toNat (by omega)
    have hn : Lib.decDigits v.toNat ≠ [48] := by intro e; rw [e] at hd; exact hd rfl
    have hp : Lib.hasPrefix (Lib.decDigits v.toNat) [45] = false := by
      cases hc : Lib.decDigits v.toNat with
      | nil => exact absurd hc (dec_ne _)
      | cons c r =>
        have := dec_digit v.toNat c (by rw [hc]; simp)
        simp only [Lib.hasPrefix, List.isPrefixOf, Bool.and_true, beq_eq_false_iff_ne]
        intro e
        rw [← e] at this
        exact absurd this (by decide)
    unfold numL
    rw [hi, if_neg hn]
    unfold Lib.trimPrefix
    rw [hp, if_neg (by decide), natL_dec _ (by omega)]
    by_cases hv : v < 10000000000000000
    · rw [if_pos (by omega), if_pos (by omega)]
      simp
      omega
    · rw [if_neg (by omega), if_neg (by omega)]
      rfl

theorem dec_len (u : Nat) (hu : u ≤ 9223372036854775808) : (Lib.decDigits u).length ≤ 39 := by
  rw [Lib.decDigits_length]
  rcases Nat.eq_zero_or_pos u with h | h
  · subst h; rw [Lib.nDigits_small (by decide)]; decide
  · rcases Nat.lt_or_ge 39 (Lib.nDigits u) with hl | hl
    · have := pow_le_nDigits u (by omega)
      have : (10 : Nat) ^ 39 ≤ 10 ^ (Lib.nDigits u - 1) := Nat.pow_le_pow_right (by decide) (by omega)
      omega
    · exact hl

theorem itoa_len (v : Int) (h0 : -9223372036854775808 ≤ v) (h1 : v ≤ 9223372036854775807) : (Lib.itoa v).length ≤ 40 := by
  unfold Lib.itoa
  split
  · have := dec_len v.natAbs (by omega)
    simp; omega
  · have := dec_len v.toNat (by omega)
    omega
end Go.Proofs.YthjphiniljopgaaDoor

namespace Go.Proofs.YthjphiniljopgaaDoor
open Go.RowKit

/-- The digits and the power of a rung, all twos still in. -/
def rawM (r : Nat) : Nat := if r < 4503599627370496 then r else 4503599627370496 + r % 4503599627370496
def rawE (r : Nat) : Int := if r < 4503599627370496 then -1074 else (r / 4503599627370496 : Nat) - 1075
theorem rawM_lt (r : Nat) : rawM r < 9007199254740992 := by unfold rawM; split <;> omega
theorem rawM_pos (r : Nat) (h : r ≠ 0) : rawM r ≠ 0 := by unfold rawM; split <;> omega
theorem rawE_lt (r : Nat) (h : r < infR) : -1074 ≤ rawE r ∧ rawE r ≤ 971 := by
  have hc : infR = 9218868437227405312 := rfl
  unfold rawE; split <;> omega
def spM (r : Nat) : Nat := oddN (rawM r)
def spE (r : Nat) : Int := rawE r + (tzN (rawM r) : Int)

/-- The text of a number without a sign. -/
def whole (r : Nat) : Bool := decide (0 ≤ spE r ∧ (Lib.bitLen (spM r) : Int) + spE r ≤ 53)
def unsN (r : Nat) : List UInt8 :=
  if r = 0 then [48] else if r = infR then [105, 110, 102] else if whole r then Lib.itoa ((spM r * 2 ^ (spE r).toNat : Nat) : Int)
  else Lib.itoa (spM r : Int) ++ 112 :: Lib.itoa (spE r)
def textN (x : Nat) : List UInt8 := if isN x then [110, 97, 110] else if isNeg x then 45 :: unsN (rung x) else unsN (rung x)

theorem unsN_zero : unsN 0 = [48] := by unfold unsN; rw [if_pos rfl]

theorem spM_lt (r : Nat) : spM r < 9007199254740992 := Nat.lt_of_le_of_lt (Nat.div_le_self _ _) (rawM_lt r)
theorem spE_lt (r : Nat) (h0 : r ≠ 0) (h : r < infR) : -1074 ≤ spE r ∧ spE r ≤ 1035 := by
  have h1 := rawE_lt r h
  have h2 : tzN (rawM r) < 64 := (Lib.lowest_bit 64 _ (rawM_pos r h0) (Nat.lt_trans (rawM_lt r) (by decide))).2
  unfold spE
  omega

theorem len_lt (m e : Nat) (hm : m < 18446744073709551616) (h : Lib.bitLen m + e ≤ 53) : m * 2 ^ e < 9007199254740992 := by
  by_cases h0 : m = 0
  · subst h0; rw [Nat.zero_mul]; decide
  · have hb := (Lib.bitLenAux_bounds 64 m hm h0).2.2
    have h1 : m * 2 ^ e < 2 ^ Lib.bitLen m * 2 ^ e := Nat.mul_lt_mul_of_pos_right hb (Nat.two_pow_pos _)
    rw [← Nat.pow_add] at h1
    exact Nat.lt_of_lt_of_le h1 (Nat.pow_le_pow_right (by decide) h)

theorem run_cat (a b : List UInt8) (ha : a.length ≤ 1000000) (hb : b.length ≤ 1000000) (w : World) : (Op.stringOp .add ⟨a.toArray⟩ ⟨b.toArray⟩).run Tryd.prog w = .ok (.string ⟨(a ++ b).toArray⟩) w := by
  rw [run_string_add_sum _ _ _ (by rw [size_mk, size_mk]; omega), ByteArray.mk_append_mk]

theorem unsN_len (r : Nat) (h : r ≤ infR) : (unsN r).length ≤ 100 := by
  unfold unsN
  split
  · decide
  · split
    · decide
    · rename_i h0 h1
      have hM := spM_lt r
      have hE := spE_lt r h0 (by omega)
      split
      · rename_i hw
        unfold whole at hw
        have hw := of_decide_eq_true hw
        have hlt := len_lt (spM r) (spE r).toNat (by omega) (by omega)
        have := itoa_len ((spM r * 2 ^ (spE r).toNat : Nat) : Int) (by omega) (by omega)
        omega
      · have hl1 := itoa_len (spM r : Int) (by omega) (by omega)
        have hl2 := itoa_len (spE r) (by omega) (by omega)
        simp only [List.length_append, List.length_cons, List.length_nil]
        omega

end Go.Proofs.YthjphiniljopgaaDoor

namespace Go.Proofs.YthjphiniljopgaaDoor
open Go.RowKit Ieee

theorem read_norm (x : Nat) (h1 : 4503599627370496 ≤ rung x) (h : rung x < infR) :
    Ieee.double.read x = .number (isNeg x) (4503599627370496 + rung x % 4503599627370496) (-1074 + ((rung x / 4503599627370496 - 1 : Nat) : Int)) := by
  unfold Format.read
  rw [f64_sign, f64_binade, f64_inf, f64_least]
  show (if rung x < 4503599627370496 then _ else if rung x < infR then _ else _) = _
  rw [if_neg (by omega), if_pos h]
  rfl

theorem word_eq (s : Bool) (r : Nat) : Ieee.double.word s r = if s then 9223372036854775808 + r else r := by
  unfold Format.word
  rw [f64_sign]
theorem word_facts (s : Bool) (r : Nat) (h : r ≤ infR) : isNeg (Ieee.double.word s r) = s ∧ rung (Ieee.double.word s r) = r ∧ isN (Ieee.double.word s r) = false ∧ Ieee.double.word s r < 18446744073709551616 := by
  have hc : infR = 9218868437227405312 := rfl
  rw [word_eq]
  have hr : ∀ x : Nat, rung x = r → isN x = false := fun x hx => by unfold isN; rw [hx]; exact decide_eq_false (by omega)
  cases s
  · simp only [Bool.false_eq_true, if_false]
    obtain ⟨p1, p2⟩ := small_parts r (by omega)
    exact ⟨p1, p2, hr r p2, by omega⟩
  · simp only [if_true]
    have h1 : rung (9223372036854775808 + r) = r := by unfold rung; omega
    have h2 : isNeg (9223372036854775808 + r) = true := by unfold isNeg; rw [show (9223372036854775808 + r) / 9223372036854775808 % 2 = 1 from by omega]; rfl
    exact ⟨h2, h1, hr _ h1, by omega⟩
theorem word_key (s : Bool) (r : Nat) (h : r ≤ infR) : nkey (Ieee.double.word s r) = if s then -(r : Int) else (r : Int) := by
  obtain ⟨h1, h2, _⟩ := word_facts s r h
  unfold nkey
  rw [h1, h2]

/-- float64(a) of an int. -/
theorem flt_word (a : Int) (h0 : -9223372036854775808 ≤ a) (h1 : a ≤ 9223372036854775808) : floatOfInt .f64 a = Ieee.double.word (decide (a < 0)) (fltR a.natAbs) := by
  by_cases ha : a < 0
  · have e : a = -(a.natAbs : Int) := by omega
    rw [decide_eq_true ha, word_eq, if_pos rfl]
    conv => lhs; rw [e]
    exact floatOfInt_neg a.natAbs (by omega) (by omega)
  · have e : a = (a.natAbs : Int) := by omega
    rw [decide_eq_false ha, word_eq]
    conv => lhs; rw [e]
    exact floatOfInt_nat a.natAbs (by omega)

theorem fltR_top (m : Nat) (h : m ≤ 9223372036854775808) : fltR m ≤ infR := Nat.le_trans (fltR_le m h) (by decide)

theorem flt_read (a : Int) (h0 : -9223372036854775808 ≤ a) (h1 : a ≤ 9223372036854775808) (hn : a ≠ 0) :
    ∃ m k : Nat, Ieee.double.read (floatOfInt .f64 a) = .number (decide (a < 0)) m (-1074 + (k : Int)) ∧ 4503599627370496 ≤ m ∧ m < 9007199254740992 ∧ 1022 ≤ k ∧ k ≤ 1085 := by
  have hl := fltR_le a.natAbs (by omega)
  have hg := fltR_pos a.natAbs (by omega) (by omega)
  obtain ⟨f1, f2, f3, f4⟩ := word_facts (decide (a < 0)) (fltR a.natAbs) (fltR_top _ (by omega))
  have hc : infR = 9218868437227405312 := rfl
  rw [flt_word a h0 h1]
  have hr := read_norm (Ieee.double.word (decide (a < 0)) (fltR a.natAbs)) (by rw [f2]; omega) (by rw [f2]; omega)
  rw [f1, f2] at hr
  exact ⟨_, _, hr, by omega, by omega, by omega, by omega⟩
theorem flt_zero : floatOfInt .f64 0 = 0 := by decide +kernel
theorem read_zero : Ieee.double.read 0 = .number false 0 (-1074) := by decide +kernel

theorem log2_norm (m : Nat) (h0 : 4503599627370496 ≤ m) (h1 : m < 9007199254740992) : m.log2 = 52 := by
  rw [Nat.log2_eq_iff (by omega)]
  exact ⟨h0, h1⟩

theorem div_zero_zero : floatBits .quo .f64 (floatOfInt .f64 0) (floatOfInt .f64 0) = none := by
  rw [flt_zero]
  show Ieee.double.div 0 0 = none
  unfold Format.div
  rw [read_zero]
  rfl
/-- By nothing: an edge with the sign. -/
theorem div_zero (a : Int) (h0 : -9223372036854775808 ≤ a) (h1 : a ≤ 9223372036854775808) (hn : a ≠ 0) :
    floatBits .quo .f64 (floatOfInt .f64 a) (floatOfInt .f64 0) = some (Ieee.double.word (decide (a < 0)) infR) := by
  obtain ⟨m, k, e, g1, g2, g3, g4⟩ := flt_read a h0 h1 hn
  rw [flt_zero]
  show Ieee.double.div _ 0 = _
  unfold Format.div
  rw [e, read_zero]
  unfold Datum.quotient
  dsimp only
  rw [if_pos rfl, if_neg (by omega), Bool.xor_false]
  show some (Ieee.double.word _ Ieee.double.infRung) = _
  rw [f64_inf]
/-- Nothing by something. -/
theorem div_of_zero (b : Int) (h0 : -9223372036854775808 ≤ b) (h1 : b ≤ 9223372036854775808) (hn : b ≠ 0) :
    floatBits .quo .f64 (floatOfInt .f64 0) (floatOfInt .f64 b) = some (Ieee.double.word (decide (b < 0)) 0) := by
  obtain ⟨m, k, e, g1, g2, g3, g4⟩ := flt_read b h0 h1 hn
  rw [flt_zero]
  show Ieee.double.div 0 _ = _
  unfold Format.div
  rw [e, read_zero]
  unfold Datum.quotient
  dsimp only
  rw [if_neg (by omega)]
  rw [show (0 : Nat) <<< (Ieee.double.fractionBits + 2 + m.log2 - Nat.log2 0) = 0 from Nat.zero_shiftLeft _, Nat.zero_div, Nat.zero_mod]
  show some (Ieee.double.nearest (false ^^ decide (b < 0)) 0 _) = _
  unfold Format.nearest
  rw [if_pos rfl, Bool.false_xor]

/-- Something by something: no nan, not nothing, the sign as it must be. -/
theorem div_some (a b : Int) (ha0 : -9223372036854775808 ≤ a) (ha1 : a ≤ 9223372036854775808) (ha : a ≠ 0) (hb0 : -9223372036854775808 ≤ b) (hb1 : b ≤ 9223372036854775808) (hb : b ≠ 0) :
    ∃ r, floatBits .quo .f64 (floatOfInt .f64 a) (floatOfInt .f64 b) = some (Ieee.double.word (decide (a < 0) ^^ decide (b < 0)) r) ∧ 0 < r ∧ r ≤ infR := by
  obtain ⟨m, k, e, g1, g2, g3, g4⟩ := flt_read a ha0 ha1 ha
  obtain ⟨n, l, e', k1, k2, k3, k4⟩ := flt_read b hb0 hb1 hb
  have hc : infR = 9218868437227405312 := rfl
  have hq : 2 ^ 53 ≤ m * 2 ^ 54 / n := by
    refine (Nat.le_div_iff_mul_le (by omega)).2 ?_
    have h1 : 2 ^ 53 * n ≤ 2 ^ 53 * 9007199254740992 := Nat.mul_le_mul_left _ (Nat.le_of_lt k2)
    have h2 : 4503599627370496 * 2 ^ 54 ≤ m * 2 ^ 54 := Nat.mul_le_mul_right _ g1
    have h3 : (2 : Nat) ^ 53 * 9007199254740992 = 4503599627370496 * 2 ^ 54 := by decide
    rw [h3] at h1
    exact Nat.le_trans h1 h2
  obtain ⟨q, hqe⟩ : ∃ q, q = 2 * (m * 2 ^ 54 / n) + (m * 2 ^ 54 % n != 0).toNat := ⟨_, rfl⟩
  have hq54 : 2 ^ 54 ≤ q := by
    rw [hqe]
    generalize m * 2 ^ 54 / n = d at hq ⊢
    omega
  obtain ⟨p, hp⟩ : ∃ p : Int, p = -1074 + (k : Int) - (-1074 + (l : Int)) - ((54 : Nat) : Int) - 1 := ⟨_, rfl⟩
  have hp2 : -118 ≤ p := by clear hqe hq hq54; omega
  have hq0 : q ≠ 0 := by clear hqe hq hp; omega
  refine ⟨min (rungOf q p) infR, ?_, ?_, Nat.min_le_right _ _⟩
  · clear hq hq54
    show Ieee.double.div _ _ = _
    unfold Format.div
    rw [e, e']
    unfold Datum.quotient
    dsimp only
    rw [if_neg (by omega), log2_norm m g1 g2, log2_norm n k1 k2, show Ieee.double.fractionBits + 2 + 52 - 52 = 54 from by decide, Nat.shiftLeft_eq, ← hqe, ← hp]
    show some (Ieee.double.nearest _ q p) = _
    rw [nearest_eq _ _ _ hq0]
  · clear hqe hq hp e e' hc
    have hlog : 54 ≤ q.log2 := by
      rcases Nat.lt_or_ge q.log2 54 with h1 | h1
      · have h2 : q < 2 ^ (q.log2 + 1) := Nat.lt_log2_self
        have : 2 ^ (q.log2 + 1) ≤ 2 ^ 54 := Nat.pow_le_pow_right (by decide) (by omega)
        omega
      · exact h1
    have hpos : 0 < rungOf q p := by
      unfold rungOf lastP
      have : 1 ≤ (max (p + (q.log2 : Int) - 52) (-1074) + 1074).toNat := by clear hq54 hq0; omega
      generalize (max (p + (q.log2 : Int) - 52) (-1074) + 1074).toNat = z at *
      generalize keptN q p (max (p + (q.log2 : Int) - 52) (-1074)) = y
      omega
    exact Nat.lt_min.2 ⟨hpos, by decide⟩
/-- By itself: one. -/
theorem div_self' (a : Int) (ha0 : -9223372036854775808 ≤ a) (ha1 : a ≤ 9223372036854775808) (ha : a ≠ 0) :
    floatBits .quo .f64 (floatOfInt .f64 a) (floatOfInt .f64 a) = some 4607182418800017408 := by
  obtain ⟨m, k, e, g1, g2, g3, g4⟩ := flt_read a ha0 ha1 ha
  show Ieee.double.div _ _ = _
  unfold Format.div
  rw [e]
  unfold Datum.quotient
  dsimp only
  rw [if_neg (by omega), log2_norm m g1 g2, show Ieee.double.fractionBits + 2 + 52 - 52 = 54 from by decide, Nat.shiftLeft_eq, Nat.mul_div_cancel_left _ (by omega), Nat.mul_mod_right,
    show -1074 + (k : Int) - (-1074 + (k : Int)) - ((54 : Nat) : Int) - 1 = -55 from by omega, Bool.xor_self]
  decide +kernel
end Go.Proofs.YthjphiniljopgaaDoor

namespace Go.Proofs.YthjphiniljopgaaDoor
open Go.RowKit

/-- The NaN that the model's tape gives where a quotient is none. -/
def tapeNan (w : World) (x y : Nat) : Nat := (Question.nanBits .f64 x y).cut (w.tape w.drawn (.nanBits .f64 x y))
theorem tapeNan_is (w : World) (x y : Nat) : isN (tapeNan w x y) = true ∧ tapeNan w x y < 18446744073709551616 := by
  have e : tapeNan w x y = (w.tape w.drawn (.nanBits .f64 x y) % 2) * 2 ^ 63 + 0x7ff0000000000000 + 1 + (w.tape w.drawn (.nanBits .f64 x y) / 2) % (2 ^ 52 - 1) := rfl
  rw [e]
  generalize w.tape w.drawn (.nanBits .f64 x y) = t
  have h1 : t / 2 % (2 ^ 52 - 1) < 2 ^ 52 - 1 := Nat.mod_lt _ (by decide)
  generalize t / 2 % (2 ^ 52 - 1) = u at *
  unfold isN rung infR
  refine ⟨decide_eq_true ?_, ?_⟩ <;> omega
theorem run_quo_nan (x y : Nat) (h : floatBits .quo .f64 x y = none) (w : World) : (binOp .quo 24 (.float .f64 x) (.float .f64 y)).run Tryd.prog w = .ok (.float .f64 (tapeNan w x y)) w.drew := by
  have h : FloatKind.f64.format.div x y = none := h
  simp [binOp, Op.floatArith, h, Question.forced]
  rfl

def RatP (w : World) (g : Option Nat) (e : Ending) (w' : World) : Prop :=
  match g with
  | some r => e = .returned (.float .f64 r) ∧ w = w'
  | none => ∃ z, e = .returned (.float .f64 z) ∧ Hid (isN z = true) ∧ z < 18446744073709551616 ∧ Below w.heap.size w w'

end Go.Proofs.YthjphiniljopgaaDoor

namespace Go.Proofs.YthjphiniljopgaaDoor
open Go.RowKit

/-- What four of a sum's eight steps make of four bits. -/
def halvesL : List Int := [0, 274646895, 549293790, 820201905, 1098587580, 1361435347, 1640403810, 1905808397, 2197175160, 2460548119, 2722870694, 2987750089, 3280807620, 3553878443, 3811616794, 4084100981]

def halfN (i : Nat) : Nat := (halvesL.getD i 0).toNat
theorem halfN_lt : ∀ i < 16, halvesL.getD i 0 = (halfN i : Int) ∧ halfN i < 4294967296 := by decide

/-- Four bits of a sum. -/
def nib (b : Nat) : Nat := (b / 16) ^^^ halfN (b % 16)
theorem nib_lt (b : Nat) (hb : b < 4294967296) : nib b < 4294967296 := by
  have h1 := (halfN_lt (b % 16) (by omega)).2
  exact Nat.xor_lt_two_pow (n := 32) (by omega) (by omega)

/-- A sum goes on by a byte. -/
def sumStep (a : Nat) (c : UInt8) : Nat := nib (nib (a ^^^ c.toNat))
theorem sumStep_lt (a : Nat) (c : UInt8) (ha : a < 4294967296) : sumStep a c < 4294967296 :=
  nib_lt _ (nib_lt _ (Nat.xor_lt_two_pow (n := 32) ha (by have := UInt8.toNat_lt c; omega)))

def sumL (l : List UInt8) : Nat := l.foldl sumStep 4294967295
theorem foldl_sum_lt (l : List UInt8) (a : Nat) (ha : a < 4294967296) : l.foldl sumStep a < 4294967296 := by
  induction l generalizing a with
  | nil => exact ha
  | cons c r ih => exact ih _ (sumStep_lt a c ha)
theorem sumL_lt (l : List UInt8) : sumL l < 4294967296 := foldl_sum_lt l _ (by decide)

theorem sum_snoc (s : ByteArray) (k : Nat) (h : k < s.size) : sumL (s.data.toList.take (k + 1)) = sumStep (sumL (s.data.toList.take k)) s[k] := by
  unfold sumL
  rw [List.take_succ_eq_append_getElem (by simpa using h), List.foldl_append]
  rfl

theorem nib_walk (b : Nat) (hb : b < 4294967296) : bits .and .u32 (b : Int) 15 = ((b % 16 : Nat) : Int) ∧ bits .xor .u32 ((b : Int) / 16) (halvesL.getD (b % 16) 0) = (nib b : Int) := by
  have h1 := halfN_lt (b % 16) (by omega)
  constructor
  · have := u32_and_nat b 15 hb (by decide)
    rw [show b &&& 15 = b % 16 from Nat.and_two_pow_sub_one_eq_mod b 4] at this
    exact this
  · rw [h1.1, show (b : Int) / 16 = ((b / 16 : Nat) : Int) from by omega, u32_xor_nat _ _ (by omega) h1.2]
    rfl

/-- The check sum of some bytes. -/
def crc (l : List UInt8) : Nat := 4294967295 - sumL l

end Go.Proofs.YthjphiniljopgaaDoor

namespace Go.Proofs.YthjphiniljopgaaDoor
open Go.RowKit

/-- The tables that the laws' first call reads. -/
structure Laid (w : World) : Prop where
  halves : Lib.TabIs Tryd.prog w "bedrock/raw.halves" .u32 halvesL
  pow10 : Lib.TabIs Tryd.prog w "internal/strconv.uint64pow10" .u64 Lib.pow10Tab

theorem crc_9 : crc [49, 50, 51, 52, 53, 54, 55, 56, 57] = 3808858755 := by decide +kernel
theorem itoa_50 : Lib.itoa (-50) = [45, 53, 48] := by decide +kernel
theorem gv_300 : gv [172, 2, 120] 0 0 = .ok 300 2 := by rfl
theorem be_258 : be 258 2 = [1, 2] := by decide +kernel

end Go.Proofs.YthjphiniljopgaaDoor

namespace Go.Proofs.YthjphiniljopgaaDoor
open Go.RowKit

theorem gv_begin (l : List UInt8) : ∀ i v, (∀ c ∈ l, 128 ≤ c.toNat) → i + l.length < 9 → gv l i v = .err 3 := by
  induction l with
  | nil => intro i v _ h; exact gv_short _ _ _ (by simpa using h) rfl
  | cons c r ih =>
    intro i v hc hl
    rw [List.length_cons] at hl
    have hc' := hc c (by simp)
    rw [gv, if_neg (by omega), if_pos hc']
    exact ih _ _ (fun d hd => hc d (by simp [hd])) (by omega)

theorem pv_high (v : Nat) : ∀ i < (pv v).length, ∀ c ∈ (pv v).take i, 128 ≤ c.toNat := by
  induction v using Nat.strongRecOn with
  | _ v ih =>
    intro i hi c hc
    by_cases h : v < 128
    · rw [pv_last v h] at hi hc
      obtain rfl : i = 0 := by simpa using hi
      simp at hc
    · rw [pv_more v (by omega)] at hi hc
      match i, hc with
      | 0, hc => simp at hc
      | i + 1, hc =>
        rw [List.take_succ_cons, List.mem_cons] at hc
        rcases hc with rfl | hc
        · rw [UInt8.toNat_ofNat']; omega
        · exact ih (v / 128) (by omega) i (by simpa using hi) c hc

theorem pv_len (k v : Nat) (h : v < 2 ^ (7 * k)) (hk : 1 ≤ k) : (pv v).length ≤ k := by
  induction k generalizing v with
  | zero => omega
  | succ k ih =>
    by_cases hv : v < 128
    · rw [pv_last v hv]; simp
    · rw [pv_more v (by omega), List.length_cons]
      rcases Nat.eq_zero_or_pos k with h0 | h0
      · subst h0; simp at h; omega
      · have h2 : 2 ^ (7 * (k + 1)) = 128 * 2 ^ (7 * k) := by rw [Nat.mul_add, Nat.pow_add]; omega
        have := ih (v / 128) (by rw [Nat.div_lt_iff_lt_mul (by decide)]; omega) h0
        omega
theorem pv_pos (v : Nat) : 1 ≤ (pv v).length := by
  by_cases hv : v < 128
  · rw [pv_last v hv]; simp
  · rw [pv_more v (by omega)]; simp
theorem pv_len9 (v : Nat) (h : v < 9223372036854775808) : (pv v).length ≤ 9 := pv_len 9 v (by omega) (by decide)

theorem gv_pv (r : List UInt8) (u : Nat) : ∀ i a, i + (pv u).length ≤ 9 → (0 < i → 0 < u) → gv (pv u ++ r) i a = .ok (a + u * 2 ^ (7 * i)) (i + (pv u).length) := by
  induction u using Nat.strongRecOn with
  | _ u ih =>
    intro i a hi h0
    by_cases h : u < 128
    · rw [pv_last u h] at hi ⊢
      rw [List.length_singleton] at hi ⊢
      have e : (UInt8.ofNat u).toNat = u := by rw [UInt8.toNat_ofNat']; omega
      show gv (UInt8.ofNat u :: r) i a = _
      rw [gv, e, if_neg (by omega), if_neg (by omega), if_neg (by omega), Nat.mod_eq_of_lt h]
    · have hp := pv_more u (by omega)
      rw [hp] at hi ⊢
      rw [List.length_cons] at hi ⊢
      have hq := pv_pos (u / 128)
      have e : (UInt8.ofNat (u % 128 + 128)).toNat = u % 128 + 128 := by rw [UInt8.toNat_ofNat']; omega
      rw [List.cons_append, gv, e, if_neg (by omega), if_pos (by omega), ih (u / 128) (by omega) (i + 1) _ (by omega) (fun _ => by omega)]
      have e2 : (u % 128 + 128) % 128 = u % 128 := by omega
      have e3 : 2 ^ (7 * (i + 1)) = 128 * 2 ^ (7 * i) := by rw [Nat.mul_add, Nat.pow_add]; omega
      have e4 : u % 128 * 2 ^ (7 * i) + u / 128 * (128 * 2 ^ (7 * i)) = u * 2 ^ (7 * i) := by
        rw [← Nat.mul_assoc, ← Nat.add_mul]
        congr 1
        omega
      rw [e2, e3]
      congr 1
      · omega
      · omega



end Go.Proofs.YthjphiniljopgaaDoor

namespace Go.Proofs.YthjphiniljopgaaDoor
open Go.RowKit

theorem be_bytes (v n j : Nat) (h : j < n) : (be v n).drop j = UInt8.ofNat (v / 2 ^ (8 * (n - 1 - j)) % 256) :: (be v n).drop (j + 1) := by
  have hl : j < (be v n).length := by rw [be_length]; exact h
  have hg := be_get v n j h
  rw [List.getElem?_eq_getElem hl] at hg
  injection hg with hg
  rw [List.drop_eq_getElem_cons hl, hg]

theorem be_back (v n j k : Nat) (h : j + 1 + k = n) (x : Int) (hx : x = ((v / 2 ^ (8 * k) : Nat) : Int) % 256) :
    ((List.replicate (j + 1) (0 : UInt8) ++ (be v n).drop (j + 1)).map b8).set j (.int .u8 x) = (List.replicate j (0 : UInt8) ++ (be v n).drop j).map b8 := by
  have hb : Value.int .u8 x = b8 (UInt8.ofNat (v / 2 ^ (8 * k) % 256)) := by
    unfold b8
    rw [← u8_of _ (by omega), hx]
    congr 1
  rw [be_bytes v n j (by omega), show n - 1 - j = k from by omega, hb, ← List.map_set]
  congr 1
  rw [List.replicate_succ', List.append_assoc, List.set_append_right _ _ (by simp)]
  simp

theorem putIs_of (v n k : Nat) (h1 : 1 ≤ n) (h7 : n ≤ 7) (s : ByteArray) (hs : s = ⟨(be v n).toArray⟩) (h : v / 2 ^ (8 * n) = 0) : PutIs v n s 0 := by
  refine Or.inl ⟨rfl, by omega, by omega, by omega, ?_, ?_⟩
  · have h2 : v < 2 ^ (8 * n) := by
      rcases Nat.lt_or_ge v (2 ^ (8 * n)) with h3 | h3
      · exact h3
      · have := (Nat.le_div_iff_mul_le (Nat.two_pow_pos (8 * n))).2 (show 1 * 2 ^ (8 * n) ≤ v by omega)
        omega
    rw [Int.toNat_natCast]
    exact_mod_cast h2
  · rw [Int.toNat_natCast, Int.toNat_natCast]; exact hs

theorem putIs_not (v n : Nat) (h : 0 < v / 2 ^ (8 * n)) : PutIs v n ByteArray.empty 1 := by
  refine Or.inr ⟨rfl, rfl, Or.inr (Or.inr (Or.inr ?_))⟩
  rw [Int.toNat_natCast]
  have h2 : 2 ^ (8 * n) ≤ v := by
    have := (Nat.le_div_iff_mul_le (Nat.two_pow_pos (8 * n))).1 h
    omega
  exact_mod_cast h2

theorem putIs_one {v n : Int} {s t : ByteArray} {e f : Int} (h : PutIs v n s e) (k : PutIs v n t f) : s = t ∧ e = f := by
  rcases h with ⟨h0, h1, h2, h3, h4, h5⟩ | ⟨h0, h1, h2⟩
  · rcases k with ⟨k0, k1, k2, k3, k4, k5⟩ | ⟨k0, k1, k2⟩
    · exact ⟨h5.trans k5.symm, h0.trans k0.symm⟩
    · omega
  · rcases k with ⟨k0, k1, k2, k3, k4, k5⟩ | ⟨k0, k1, k2⟩
    · omega
    · exact ⟨h1.trans k1.symm, h0.trans k0.symm⟩

end Go.Proofs.YthjphiniljopgaaDoor

namespace Go.Proofs.YthjphiniljopgaaDoor
open Go.RowKit

set_option maxRecDepth 100000 in
set_option maxHeartbeats 1000000 in
theorem qkey_any (x : Nat) (hx : x < 18446744073709551616) (w : World) :
    Calls Tryd.prog 52 #[.float .f64 x] w fun e w' => e = .returned (.tuple #[.int .i64 ((rankN x / 4294967296 : Nat) : Int), .int .i64 ((rankN x % 4294967296 : Nat) : Int)]) ∧ w = w' := by
  have C := Lib.hid (qisnan_any x w)
  have hfb := run_float64bits x
  cases hn : isN x
  · rw [hn] at C
    rcases word_parts x hx with ⟨h1, h2, h3⟩ | ⟨h1, h2, h3⟩
    · have hr : rankN x = 18446744073709551615 - x := by unfold rankN; rw [hn, h1]; rfl
      have r1 : ((rankN x / 4294967296 : Nat) : Int) = 4294967295 - (x : Int) / 4294967296 := by rw [hr]; omega
      have r2 : ((rankN x % 4294967296 : Nat) : Int) = 4294967295 - (x : Int) % 4294967296 := by rw [hr]; omega
      rw [r1, r2]
      have hd : decide ((2147483648 : Int) ≤ (x : Int) / 4294967296) = true := decide_eq_true (by omega)
      have hq : (x : Int) / 4294967296 ≤ 4294967295 := by omega
      have hq0 : 0 ≤ (x : Int) / 4294967296 := by omega
      clear hr r1 r2 h1 h2 h3 hn
      go_enter Tryd.func52, Tryd.ntmps52
      go_wp2_with fail
      refine C.out.mono ?_
      rintro e w' ⟨rfl, rfl⟩
      go_wp2_with fail
      go_ret2
      exact ⟨rfl, rfl⟩
    · have hr : rankN x = x + 9223372036854775808 := by unfold rankN; rw [hn, h1]; rfl
      have r1 : ((rankN x / 4294967296 : Nat) : Int) = (x : Int) / 4294967296 + 2147483648 := by rw [hr]; omega
      have r2 : ((rankN x % 4294967296 : Nat) : Int) = (x : Int) % 4294967296 := by rw [hr]; omega
      rw [r1, r2]
      have hd : decide ((2147483648 : Int) ≤ (x : Int) / 4294967296) = false := decide_eq_false (by omega)
      have hq : (x : Int) / 4294967296 ≤ 4294967295 := by omega
      have hq0 : 0 ≤ (x : Int) / 4294967296 := by omega
      clear hr r1 r2 h1 h2 h3 hn
      go_enter Tryd.func52, Tryd.ntmps52
      go_wp2_with fail
      refine C.out.mono ?_
      rintro e w' ⟨rfl, rfl⟩
      go_wp2_with fail
      go_ret2
      exact ⟨rfl, rfl⟩
  · rw [hn] at C
    rw [rank_nan x hn]
    go_enter Tryd.func52, Tryd.ntmps52
    go_wp2_with fail
    refine C.out.mono ?_
    rintro e w' ⟨rfl, rfl⟩
    go_wp2_with fail
    go_ret2
    exact ⟨rfl, rfl⟩

set_option maxRecDepth 100000 in
set_option maxHeartbeats 2000000 in
theorem qcompare_any (x y : Nat) (hx : x < 18446744073709551616) (hy : y < 18446744073709551616) (w : World) :
    Calls Tryd.prog 43 #[.float .f64 x, .float .f64 y] w fun e w' => e = .returned (.int .i64 (cmpN x y)) ∧ w = w' := by
  have C := fun W => Lib.hid (qkey_any x hx W)
  have D := fun W => Lib.hid (qkey_any y hy W)
  have hc : (((rankN x / 4294967296 : Nat) : Int) < ((rankN y / 4294967296 : Nat) : Int) ∧ cmpN x y = -1) ∨
      (((rankN x / 4294967296 : Nat) : Int) = ((rankN y / 4294967296 : Nat) : Int) ∧ ((rankN x % 4294967296 : Nat) : Int) < ((rankN y % 4294967296 : Nat) : Int) ∧ cmpN x y = -1) ∨
      (((rankN x / 4294967296 : Nat) : Int) = ((rankN y / 4294967296 : Nat) : Int) ∧ ((rankN x % 4294967296 : Nat) : Int) = ((rankN y % 4294967296 : Nat) : Int) ∧ cmpN x y = 0) ∨
      (((rankN x / 4294967296 : Nat) : Int) = ((rankN y / 4294967296 : Nat) : Int) ∧ ((rankN y % 4294967296 : Nat) : Int) < ((rankN x % 4294967296 : Nat) : Int) ∧ cmpN x y = 1) ∨
      (((rankN y / 4294967296 : Nat) : Int) < ((rankN x / 4294967296 : Nat) : Int) ∧ cmpN x y = 1) := by
    rcases Nat.lt_trichotomy (rankN x) (rankN y) with h | h | h
    · rw [cmpN_lt h]; omega
    · rw [cmpN_eq h]; omega
    · rw [cmpN_gt h]; omega
  generalize cmpN x y = c at *
  generalize ((rankN x / 4294967296 : Nat) : Int) = a at *
  generalize ((rankN x % 4294967296 : Nat) : Int) = b at *
  generalize ((rankN y / 4294967296 : Nat) : Int) = p at *
  generalize ((rankN y % 4294967296 : Nat) : Int) = q at *
  clear hx hy
  rcases hc with ⟨h1, rfl⟩ | ⟨rfl, h2, rfl⟩ | ⟨rfl, rfl, rfl⟩ | ⟨rfl, h2, rfl⟩ | ⟨h1, rfl⟩
  all_goals
    go_enter Tryd.func43, Tryd.ntmps43
    go_wp2_with fail
    refine (C _).out.mono ?_
    rintro e w' ⟨rfl, rfl⟩
    go_wp2_with fail
    refine (D _).out.mono ?_
    rintro e w' ⟨rfl, rfl⟩
    go_wp2_with fail
    go_ret
    exact ⟨rfl, rfl⟩

set_option maxHeartbeats 400000 in
theorem qsame_any (x y : Nat) (hx : x < 18446744073709551616) (hy : y < 18446744073709551616) (w : World) :
    Calls Tryd.prog 36 #[.float .f64 x, .float .f64 y] w fun e w' => e = .returned (.bool (cmpN x y == 0)) ∧ w = w' := by
  have S := Lib.hid (qcompare_any x y hx hy w)
  go_enter Tryd.func36, Tryd.ntmps36
  go_wp2_with fail
  refine S.out.mono ?_
  rintro e w' ⟨rfl, rfl⟩
  go_wp2_with fail
  go_ret
  exact ⟨rfl, rfl⟩

/-! ### Put -/
theorem be_cat (m : Nat) : ∀ (n v : Nat), be v (n + m) = be (v / 2 ^ (8 * m)) n ++ be v m
  | 0, v => by simp [be]
  | n + 1, v => by
    rw [show n + 1 + m = (n + m) + 1 from by omega, be_succ, be_succ, be_cat m n v, List.cons_append, Nat.div_div_eq_div_mul, ← Nat.pow_add]
    congr 6
    omega
theorem be_half (v : Nat) : be v 8 = be (v / 4294967296) 4 ++ be (v % 4294967296) 4 := by
  have h := be_cat 4 4 v
  have h2 := be_mod v 4
  rw [show (2 : Nat) ^ (8 * 4) = 4294967296 from by decide] at h h2
  rw [← h2]
  exact h

end Go.Proofs.YthjphiniljopgaaDoor

namespace Go.Proofs.YthjphiniljopgaaDoor
open Go.RowKit

def sameActN (kd : Int) (nu : Nat) (it : Int) (tx : ByteArray) (kd' : Int) (nu' : Nat) (it' : Int) (tx' : ByteArray) : Bool := (kd == kd') && ((cmpN nu nu' == 0) && ((it == it') && (tx.toList == tx'.toList)))
def sameVerN (key : ByteArray) (xs : List Int) (o x kd : Int) (nu : Nat) (it : Int) (tx : ByteArray) (key' : ByteArray) (xs' : List Int) (o' x' kd' : Int) (nu' : Nat) (it' : Int) (tx' : ByteArray) : Bool :=
  (key.toList == key'.toList) && (decide (xs = xs') && ((o == o') && ((x == x') && sameActN kd nu it tx kd' nu' it' tx')))

/-- An act as a value. -/
def actV (kd : Int) (nu : Nat) (it : Int) (tx : ByteArray) : Value := .agg #[.int .i64 kd, .float .f64 nu, .int .i64 it, .string tx]

set_option maxRecDepth 100000 in
set_option maxHeartbeats 4000000 in
theorem rsameact_any (kd : Int) (nu : Nat) (it : Int) (tx : ByteArray) (kd' : Int) (nu' : Nat) (it' : Int) (tx' : ByteArray) (hn : nu < 18446744073709551616) (hn' : nu' < 18446744073709551616) (w : World) :
    Calls Tryd.prog 25 #[actV kd nu it tx, actV kd' nu' it' tx'] w fun e w' => e = .returned (.bool (sameActN kd nu it tx kd' nu' it' tx')) ∧ Below w.heap.size w w' := by
  unfold actV sameActN
  have C := fun W => Lib.hid (qsame_any nu nu' hn hn' W)
  have hb : Hid (Below w.heap.size w ((w.alloc (.cells #[.int .i64 kd, .float .f64 nu, .int .i64 it, .string tx] 26)).alloc (.cells #[.int .i64 kd', .float .f64 nu', .int .i64 it', .string tx'] 26))) :=
    ((Below.refl _ w).alloc (Nat.le_refl _) _).alloc (by simp) _
  obtain ⟨q1, h1⟩ : ∃ q, (kd == kd') = q := ⟨_, rfl⟩
  obtain ⟨q2, h2⟩ : ∃ q, (cmpN nu nu' == 0) = q := ⟨_, rfl⟩
  obtain ⟨q3, h3⟩ : ∃ q, (it == it') = q := ⟨_, rfl⟩
  obtain ⟨q4, h4⟩ : ∃ q, (tx.toList == tx'.toList) = q := ⟨_, rfl⟩
  rw [h1, h2, h3, h4]
  simp only [h2] at C
  clear h2
  cases q1
  · go_enter Tryd.func25, Tryd.ntmps25
    go_wp2_with fail
    go_ret
    exact ⟨rfl, hb.out⟩
  · cases q2
    · go_enter Tryd.func25, Tryd.ntmps25
      go_wp2_with fail
      refine (C _).out.mono ?_
      rintro e w' ⟨rfl, rfl⟩
      go_wp2_with fail
      go_ret
      exact ⟨rfl, hb.out⟩
    · cases q3
      · go_enter Tryd.func25, Tryd.ntmps25
        go_wp2_with fail
        refine (C _).out.mono ?_
        rintro e w' ⟨rfl, rfl⟩
        go_wp2_with fail
        go_ret
        exact ⟨rfl, hb.out⟩
      · go_enter Tryd.func25, Tryd.ntmps25
        go_wp2_with fail
        refine (C _).out.mono ?_
        rintro e w' ⟨rfl, rfl⟩
        go_wp2_with fail
        go_ret
        exact ⟨by simp, hb.out⟩

set_option maxRecDepth 100000 in
set_option maxHeartbeats 8000000 in
theorem rsamever_any (key : ByteArray) (A : Option Addr) (n c : Nat) (o x kd : Int) (nu : Nat) (it : Int) (tx : ByteArray) (xs : List Int) (key' : ByteArray) (A' : Option Addr) (n' c' : Nat) (o' x' kd' : Int) (nu' : Nat) (it' : Int) (tx' : ByteArray) (xs' : List Int)
    (w : World) (I : IntsIn w A n xs) (I' : IntsIn w A' n' xs') (hn : nu < 18446744073709551616) (hn' : nu' < 18446744073709551616) :
    Calls Tryd.prog 12 #[verV key A n c o x kd nu it tx, verV key' A' n' c' o' x' kd' nu' it' tx'] w fun e w' => e = .returned (.bool (sameVerN key xs o x kd nu it tx key' xs' o' x' kd' nu' it' tx')) ∧ Below w.heap.size w w' := by
  unfold verV sameVerN
  have hb : Hid (Below w.heap.size w ((w.alloc (.cells #[.string key, .slice A n c, .int .i64 o, .int .i64 x, .int .i64 kd, .float .f64 nu, .int .i64 it, .string tx] 28)).alloc (.cells #[.string key', .slice A' n' c', .int .i64 o', .int .i64 x', .int .i64 kd', .float .f64 nu', .int .i64 it', .string tx'] 28))) :=
    ((Below.refl _ w).alloc (Nat.le_refl _) _).alloc (by simp) _
  have S := Lib.hid (rsame_any A n c xs A' n' c' xs' _ (I.below hb.out) (I'.below hb.out))
  have CA := fun W => Lib.hid (rsameact_any kd nu it tx kd' nu' it' tx' hn hn' W)
  simp only [actV] at CA
  clear I I'
  obtain ⟨q1, h1⟩ : ∃ q, (key.toList == key'.toList) = q := ⟨_, rfl⟩
  obtain ⟨q2, h2⟩ : ∃ q, decide (xs = xs') = q := ⟨_, rfl⟩
  obtain ⟨q3, h3⟩ : ∃ q, (o == o') = q := ⟨_, rfl⟩
  obtain ⟨q4, h4⟩ : ∃ q, (x == x') = q := ⟨_, rfl⟩
  rw [h1, h2, h3, h4]
  rw [h2] at S
  generalize sameActN kd nu it tx kd' nu' it' tx' = q5 at *
  clear h2
  cases q1
  · go_enter Tryd.func12, Tryd.ntmps12
    go_wp2_with fail
    go_ret
    exact ⟨by simp, hb.out⟩
  · cases q2
    · go_enter Tryd.func12, Tryd.ntmps12
      go_wp2_with fail
      refine S.out.mono ?_
      rintro e w1 ⟨rfl, q, rfl⟩
      go_wp2_with fail
      go_ret
      exact ⟨by simp, below_drewN hb.out q⟩
    · cases q3
      · go_enter Tryd.func12, Tryd.ntmps12
        go_wp2_with fail
        refine S.out.mono ?_
        rintro e w1 ⟨rfl, q, rfl⟩
        go_wp2_with fail
        go_ret
        exact ⟨by simp, below_drewN hb.out q⟩
      · cases q4
        · go_enter Tryd.func12, Tryd.ntmps12
          go_wp2_with fail
          refine S.out.mono ?_
          rintro e w1 ⟨rfl, q, rfl⟩
          go_wp2_with fail
          go_ret
          exact ⟨by simp, below_drewN hb.out q⟩
        · go_enter Tryd.func12, Tryd.ntmps12
          go_wp2_with fail
          refine S.out.mono ?_
          rintro e w1 ⟨rfl, q, rfl⟩
          go_wp2_with fail
          refine (CA _).out.mono ?_
          rintro e w2 ⟨rfl, h2⟩
          have hb2 := (below_drewN hb.out q).trans (h2.mono (show w.heap.size ≤ (((w.alloc (.cells #[.string key, .slice A n c, .int .i64 o, .int .i64 x, .int .i64 kd, .float .f64 nu, .int .i64 it, .string tx] 28)).alloc (.cells #[.string key', .slice A' n' c', .int .i64 o', .int .i64 x', .int .i64 kd', .float .f64 nu', .int .i64 it', .string tx'] 28)).drewN q).heap.size by simp; omega))
          go_wp2_with fail
          go_ret
          exact ⟨by simp, hb2⟩
end Go.Proofs.YthjphiniljopgaaDoor

namespace Go.Proofs.YthjphiniljopgaaDoor
open Go.RowKit

theorem bytes_ext {X Y : ByteArray} (h : X.data.toList = Y.data.toList) : X = Y := by
  cases X; cases Y
  simpa using h
/-- Of a version's bytes Get tells the version. -/
theorem kget_of {key : ByteArray} {xs : List Int} {o x : Int} (h : OkV key.data.toList xs o x) (s : ByteArray) (hs : s.data.toList = putVL key.data.toList xs o x) (w : World) :
    Calls Tryd.prog 10 #[.string s] w fun e w' => (∃ A c, e = .returned (.tuple #[verV key A xs.length c o x 0 0 0 ByteArray.empty, .int .i64 0]) ∧ Nums w' w.heap.size 3 (.slice A xs.length c) xs) ∧ Below w.heap.size w w' := by
  have hsz : s.size ≤ 140737488351232 := by
    rw [str_size, hs]
    have := putVL_length h
    omega
  refine (kget_any s w hsz).mono fun e w' ⟨hg, hb⟩ => ⟨?_, hb⟩
  rcases hg with ⟨key', A, c, o', x', xs', h', e1, e2, hN⟩ | ⟨hno, _⟩
  · obtain ⟨k1, k2, k3, k4⟩ := putVL_inj h h' (hs.symm.trans e1)
    have k1 := bytes_ext k1
    subst k1 k2 k3 k4
    exact ⟨A, c, e2, hN⟩
  · exact absurd hs (hno key xs o x h)
theorem kkey_of {key : ByteArray} {xs : List Int} {o x : Int} (h : OkV key.data.toList xs o x) (s : ByteArray) (hs : s.data.toList = putVL key.data.toList xs o x) (w : World) :
    Calls Tryd.prog 11 #[.string s] w fun e w' => e = .returned (.tuple #[.string key, .int .i64 0]) ∧ Below w.heap.size w w' := by
  have hsz : s.size ≤ 140737488351232 := by
    rw [str_size, hs]
    have := putVL_length h
    omega
  refine (kkey_any s w hsz).mono fun e w' ⟨hg, hb⟩ => ⟨?_, hb⟩
  rcases hg with ⟨key', xs', o', x', h', e1, e2⟩ | ⟨hno, _⟩
  · obtain ⟨k1, k2, k3, k4⟩ := putVL_inj h h' (hs.symm.trans e1)
    rw [bytes_ext k1]
    exact e2
  · exact absurd hs (hno key xs o x h)
theorem sameVerN_self (key : ByteArray) (xs : List Int) (o x kd : Int) (it : Int) (tx : ByteArray) : sameVerN key xs o x kd 0 it tx key xs o x kd 0 it tx = true := by
  unfold sameVerN sameActN
  have : (cmpN 0 0 == 0) = true := by decide
  simp [this]
theorem sameVerN_ne {key key' : ByteArray} {xs xs' : List Int} {o o' x x' kd kd' : Int} {nu nu' : Nat} {it it' : Int} {tx tx' : ByteArray} (h : ¬ (key = key' ∧ xs = xs' ∧ o = o' ∧ x = x')) : sameVerN key xs o x kd nu it tx key' xs' o' x' kd' nu' it' tx' = false := by
  unfold sameVerN
  rw [str_eq]
  by_cases h1 : key.data.toList = key'.data.toList
  · by_cases h2 : xs = xs'
    · by_cases h3 : o = o'
      · by_cases h4 : x = x'
        · exact absurd ⟨bytes_ext h1, h2, h3, h4⟩ h
        · simp [h4]
      · simp [h3]
    · simp [h2]
  · simp [h1]
/-- Of other bytes Get tells another version, or none. -/
theorem kget_other {key : ByteArray} {xs : List Int} {o x : Int} (h : OkV key.data.toList xs o x) (s : ByteArray) (hsz : s.size ≤ 140737488351232) (hs : s.data.toList ≠ putVL key.data.toList xs o x) (w : World) :
    Calls Tryd.prog 10 #[.string s] w fun e w' => ((∃ key' A c o' x' xs', e = .returned (.tuple #[verV key' A xs'.length c o' x' 0 0 0 ByteArray.empty, .int .i64 0]) ∧ Nums w' w.heap.size 3 (.slice A xs'.length c) xs' ∧ validL xs' = true ∧ sameVerN key' xs' o' x' 0 0 0 ByteArray.empty key xs o x 0 0 0 ByteArray.empty = false) ∨
      e = .returned (.tuple #[verV ByteArray.empty none 0 0 0 0 0 0 0 ByteArray.empty, .int .i64 4])) ∧ Below w.heap.size w w' := by
  refine (kget_any s w hsz).mono fun e w' ⟨hg, hb⟩ => ⟨?_, hb⟩
  rcases hg with ⟨key', A, c, o', x', xs', h', e1, e2, hN⟩ | ⟨_, e2⟩
  · refine Or.inl ⟨key', A, c, o', x', xs', e2, hN, h'.at_, sameVerN_ne ?_⟩
    rintro ⟨rfl, rfl, rfl, rfl⟩
    exact hs e1
  · exact Or.inr e2
/-- The numbers of an own row as they are read. -/
theorem nums_in {w : World} {B : Nat} {A : Option Addr} {c : Nat} {xs : List Int} (h : Nums w B 3 (.slice A xs.length c) xs) (hv : validL xs = true) : IntsIn w A xs.length xs := by
  obtain ⟨A', c', e, hI, _⟩ := Nums.ints h (fun z hz => by have := valid_mem hv z hz; simp [Lit.wf, IntKind.min, IntKind.max, IntKind.signed, IntKind.bits]; omega)
  cases e
  exact hI
end Go.Proofs.YthjphiniljopgaaDoor

namespace Go.Proofs.YthjphiniljopgaaDoor
open Go.RowKit

/-! ### One byte changed changes the sum -/
theorem half_top : ∀ i < 16, halfN i / 268435456 = i := by decide
theorem nib_top (b : Nat) (hb : b < 4294967296) : nib b / 268435456 = b % 16 := by
  have h1 := half_top (b % 16) (by omega)
  have e : ∀ x : Nat, x / 268435456 = x >>> 28 := fun x => (Nat.shiftRight_eq_div_pow x 28).symm
  unfold nib
  rw [e] at h1 ⊢
  rw [Nat.shiftRight_xor_distrib, h1, Nat.shiftRight_eq_div_pow, show b / 16 / 2 ^ 28 = 0 from by omega, Nat.zero_xor]
theorem xor_cancel (a b c : Nat) (h : a ^^^ c = b ^^^ c) : a = b := by
  have := congrArg (· ^^^ c) h
  simp only [Nat.xor_assoc, Nat.xor_self, Nat.xor_zero] at this
  exact this
theorem nib_inj (b c : Nat) (hb : b < 4294967296) (hc : c < 4294967296) (h : nib b = nib c) : b = c := by
  have h1 := nib_top b hb
  have h2 := nib_top c hc
  rw [h, h2] at h1
  unfold nib at h
  rw [h1] at h
  have h3 := xor_cancel _ _ _ h
  omega
theorem xor_byte_lt (a : Nat) (c : UInt8) (ha : a < 4294967296) : a ^^^ c.toNat < 4294967296 := Nat.xor_lt_two_pow (n := 32) ha (by have := UInt8.toNat_lt c; omega)
theorem step_inj (a b : Nat) (c : UInt8) (ha : a < 4294967296) (hb : b < 4294967296) (h : sumStep a c = sumStep b c) : a = b := by
  have h1 := xor_byte_lt a c ha
  have h2 := xor_byte_lt b c hb
  exact xor_cancel _ _ _ (nib_inj _ _ h1 h2 (nib_inj _ _ (nib_lt _ h1) (nib_lt _ h2) h))
theorem step_inj_byte (a : Nat) (c d : UInt8) (ha : a < 4294967296) (h : sumStep a c = sumStep a d) : c = d := by
  have h1 := xor_byte_lt a c ha
  have h2 := xor_byte_lt a d ha
  have h3 := nib_inj _ _ h1 h2 (nib_inj _ _ (nib_lt _ h1) (nib_lt _ h2) h)
  rw [Nat.xor_comm a, Nat.xor_comm a] at h3
  exact UInt8.toNat_inj.1 (xor_cancel _ _ _ h3)
theorem foldl_inj (l : List UInt8) : ∀ a b, a < 4294967296 → b < 4294967296 → l.foldl sumStep a = l.foldl sumStep b → a = b := by
  induction l with
  | nil => intro a b _ _ h; exact h
  | cons c r ih => intro a b ha hb h; exact step_inj a b c ha hb (ih _ _ (sumStep_lt a c ha) (sumStep_lt b c hb) h)

theorem crc_changed (l : List UInt8) (k : Nat) (hk : k < l.length) (d : UInt8) (hd : l[k] ≠ d) : crc l ≠ crc (l.set k d) := by
  intro h
  have h1 := sumL_lt l
  have h2 := sumL_lt (l.set k d)
  have h3 : sumL l = sumL (l.set k d) := by unfold crc at h; omega
  have e1 : l = l.take k ++ l[k] :: l.drop (k + 1) := by rw [List.getElem_cons_drop, List.take_append_drop]
  have e2 : l.set k d = l.take k ++ d :: l.drop (k + 1) := List.set_eq_take_append_cons_drop.trans (by rw [if_pos hk])
  rw [e2] at h3
  conv at h3 => lhs; rw [e1]
  unfold sumL at h3
  rw [List.foldl_append, List.foldl_append, List.foldl_cons, List.foldl_cons] at h3
  have hp := foldl_sum_lt (l.take k) 4294967295 (by decide)
  have h4 := foldl_inj _ _ _ (sumStep_lt _ _ hp) (sumStep_lt _ _ hp) h3
  exact hd (step_inj_byte _ _ _ hp h4)

theorem ofInt_u8 (a : Nat) (ha : a < 256) : (BitVec.ofInt 8 (a : Int)).toNat = a := by
  rw [BitVec.ofInt_natCast, BitVec.toNat_ofNat]; exact Nat.mod_eq_of_lt (by omega)
theorem u8_xor (a : Nat) (ha : a < 256) (b : Nat) (hb : b < 256) : bits .xor .u8 (a : Int) (b : Int) = ((a ^^^ b : Nat) : Int) := by
  have hx : a ^^^ b < 2 ^ 8 := Nat.xor_lt_two_pow (by omega) (by omega)
  show IntKind.u8.wrap ((BitVec.ofInt 8 (a : Int) ^^^ BitVec.ofInt 8 (b : Int)).toNat : Int) = _
  rw [BitVec.toNat_xor, ofInt_u8 a ha, ofInt_u8 b hb, IntKind.wrap_u8]
  omega
end Go.Proofs.YthjphiniljopgaaDoor

namespace Go.Proofs.YthjphiniljopgaaDoor
open Go.RowKit

theorem bytes_of_obj {w : World} {g n cap : Nat} {cs : Array Value} {t : TypeId} {fr : Nat × Nat} {l : List UInt8} (ho : w.heap[g]? = some (.cells cs t fr)) (hn : n = l.length) (hl : ∀ j (hj : j < l.length), cs[j]? = some (b8 l[j])) :
    (convert 38 9 (.slice (some ⟨g, 0, none⟩) n cap)).run Tryd.prog w = .ok (.string ⟨l.toArray⟩) w := by
  subst hn
  refine run_convert_bytes_back w 38 9 5 ⟨g, 0, none⟩ cap l Tryd.underlying38 Tryd.underlying5 Tryd.underlying9 fun j hj => ?_
  have := cell_of_row w g j cs t fr ho
  have e : ({ block := g, off := 0, spot := none } : Addr).add j = ⟨g, j, none⟩ := by simp [Addr.add]; intro h; exact h.symm
  rw [e, this, hl j hj]
  rfl
end Go.Proofs.YthjphiniljopgaaDoor
