/-
  Several texts in one: The order of float64 numbers as words, by sign and rung (no program is named).
  The order of float64 numbers as ranks, and the bits that tell it (no program is named).
  Walks over package real, part 1: nan, sign, rank, the order.
  A walk over the document's own answer to chapter 2: isNan.
  Walks over package real, part 2: Put, Get.
  Walks over package real, part 4: the parts of a number, its text.
  Rounding to float64: it never turns the order round, and leaves what fits as it is (no program is named).
  Products and whole parts of float64 numbers (no program is named).
  float64(n) of an int; how far a clock goes (no program is named).
  A number's digits are read as the number, if it is small enough (plain lists).
  Walks over package real, part 5: split, the text of a number.
  Quotients of ints as float64 numbers (no program is named).
  Walks over package real, part 9: Ratio.
  Walks over package raw, part 6: Sum.
  The walk over the laws' first call (alive), and what the laws ask of the tables.
  RawShort: of a number in few bytes no beginning is taken for it.
  Walks over the document's own answer to chapter 1: Get, PutVar, Put.
  Walks over the document's own answer to chapter 2: key, Compare, Same, Max, Min, Put, Ratio.
  The document's own answer: are two acts, two versions alike? (chapter 5)
  Plain lemmas on acts and values (chapter 6), numbers by their place in their order: what fits, what comes of it, two as one. No program is named.
  Chapter 6: acts and values as they lie in the machine.
-/
import Ieee.Arith
import Derived.Test.YthacdegaeokgnaaDoorM1
import Derived.Laws.FloatArith
import Derived.Test.YthacdegaeokgnaaDoorRows
import Derived.WalkKit
import Derived.WalkSpells
import Derived.WalkLawsBesides
import Derived.Laws.Externs
import Derived.Lib.Hide
import Derived.Lib.LaidTab
import Derived.Lib.ItoaNum
import Derived.Lib.TrailingZeros
import Derived.Lib.BitFns
import Derived.Laws.Bits64b
import Derived.Laws.Concat
import Derived.Lib.Strings
import Derived.OpenShut
namespace Go.Proofs.YthacdegaeokgnaaDoor
open Ieee

/-- A word's lower 63 bits. -/
def rung (x : Nat) : Nat := x % 9223372036854775808
def isNeg (x : Nat) : Bool := x / 9223372036854775808 % 2 == 1
/-- A magnitude in units of the least one. -/
def magOf (r : Nat) : Nat := if r < 4503599627370496 then r else (4503599627370496 + r % 4503599627370496) * 2 ^ (r / 4503599627370496 - 1)
/-- A word's place in the order of numbers, nan aside. -/
def nkey (x : Nat) : Int := if isNeg x then -(rung x : Int) else (rung x : Int)
def infR : Nat := 9218868437227405312

theorem magOf_step (r : Nat) : magOf r < magOf (r + 1) := by
  unfold magOf
  by_cases h1 : r + 1 < 4503599627370496
  · rw [if_pos (by omega), if_pos h1]; omega
  · rw [if_neg h1]
    by_cases h2 : r < 4503599627370496
    · rw [if_pos h2, show (r + 1) / 4503599627370496 - 1 = 0 from by omega]
      omega
    · rw [if_neg h2]
      by_cases h3 : (r + 1) % 4503599627370496 = 0
      · have e1 : (r + 1) / 4503599627370496 = r / 4503599627370496 + 1 := by omega
        have e2 : r % 4503599627370496 = 4503599627370495 := by omega
        rw [h3, e1, e2, show r / 4503599627370496 + 1 - 1 = (r / 4503599627370496 - 1) + 1 from by omega, Nat.pow_succ]
        have := Nat.two_pow_pos (r / 4503599627370496 - 1)
        omega
      · have e1 : (r + 1) / 4503599627370496 = r / 4503599627370496 := by omega
        have e2 : (r + 1) % 4503599627370496 = r % 4503599627370496 + 1 := by omega
        rw [e1, e2]
        exact Nat.mul_lt_mul_of_pos_right (by omega) (Nat.two_pow_pos _)
theorem magOf_mono {a b : Nat} (h : a < b) : magOf a < magOf b := by
  induction b with
  | zero => omega
  | succ b ih =>
    rcases Nat.lt_or_ge a b with h1 | h1
    · exact Nat.lt_trans (ih h1) (magOf_step b)
    · obtain rfl : a = b := by omega
      exact magOf_step a
theorem magOf_lt (a b : Nat) : magOf a < magOf b ↔ a < b := by
  constructor
  · intro h
    rcases Nat.lt_trichotomy a b with h1 | h1 | h1
    · exact h1
    · subst h1; omega
    · have := magOf_mono h1; omega
  · exact magOf_mono
theorem magOf_eq (a b : Nat) : magOf a = magOf b ↔ a = b := by
  constructor
  · intro h
    rcases Nat.lt_trichotomy a b with h1 | h1 | h1
    · have := magOf_mono h1; omega
    · exact h1
    · have := magOf_mono h1; omega
  · rintro rfl; rfl

theorem f64_sign : Ieee.double.signWeight = 9223372036854775808 := by decide
theorem f64_binade : Ieee.double.binade = 4503599627370496 := by decide
theorem f64_inf : Ieee.double.infRung = infR := by decide
theorem f64_least : Ieee.double.leastPlace = -1074 := by decide

theorem read_fin (x : Nat) (h : rung x < infR) : ∃ m k : Nat, Ieee.double.read x = .number (isNeg x) m (-1074 + (k : Int)) ∧ m * 2 ^ k = magOf (rung x) := by
  unfold Format.read
  rw [f64_sign, f64_binade, f64_inf, f64_least]
  show ∃ m k : Nat, (if rung x < 4503599627370496 then _ else _) = _ ∧ _
  by_cases h1 : rung x < 4503599627370496
  · rw [if_pos h1]
    refine ⟨rung x, 0, rfl, ?_⟩
    unfold magOf
    rw [if_pos h1]
    omega
  · rw [if_neg h1]
    show ∃ m k : Nat, (if rung x < infR then _ else _) = _ ∧ _
    rw [if_pos h]
    refine ⟨4503599627370496 + rung x % 4503599627370496, rung x / 4503599627370496 - 1, rfl, ?_⟩
    unfold magOf
    rw [if_neg h1]
theorem read_inf (x : Nat) (h : rung x = infR) : Ieee.double.read x = .infinity (isNeg x) := by
  unfold Format.read
  rw [f64_sign, f64_binade, f64_inf, f64_least]
  show (if rung x < 4503599627370496 then _ else if rung x < infR then _ else if rung x = infR then _ else _) = _
  rw [if_neg (by rw [h]; decide), if_neg (by omega), if_pos h]
  rfl
theorem read_nan (x : Nat) (h : infR < rung x) : ∃ f, Ieee.double.read x = .nan (isNeg x) f := by
  unfold Format.read
  rw [f64_sign, f64_binade, f64_inf, f64_least]
  refine ⟨rung x - infR, ?_⟩
  show (if rung x < 4503599627370496 then _ else if rung x < infR then _ else if rung x = infR then _ else _) = _
  have : (4503599627370496 : Nat) < infR := by decide
  rw [if_neg (by omega), if_neg (by omega), if_neg (by omega)]
  rfl

theorem cmp_of {a b a' b' : Int} (h1 : a < b ↔ a' < b') (h2 : a = b ↔ a' = b') : compare a b = compare a' b' := by
  show compareOfLessAndEq a b = compareOfLessAndEq a' b'
  unfold compareOfLessAndEq
  simp only [h1, h2]

theorem scale_mag (m k l : Nat) : (m <<< (k - min k l)) * 2 ^ min k l = m * 2 ^ k := by
  rw [Nat.shiftLeft_eq, Nat.mul_assoc, ← Nat.pow_add]
  congr 2
  omega

theorem signed_cmp (s t : Bool) (a b A B c : Nat) (hc : 0 < c) (ha : a * c = A) (hb : b * c = B) (x y : Nat) (h1 : A < B ↔ x < y) (h1' : B < A ↔ y < x) (hx : A = 0 ↔ x = 0) (hy : B = 0 ↔ y = 0) :
    compare (if s then -((a : Nat) : Int) else ((a : Nat) : Int)) (if t then -((b : Nat) : Int) else ((b : Nat) : Int)) = compare (if s then -(x : Int) else (x : Int)) (if t then -(y : Int) else (y : Int)) := by
  have g1 : a < b ↔ A < B := by rw [← ha, ← hb]; exact (Nat.mul_lt_mul_right hc).symm
  have g2 : b < a ↔ B < A := by rw [← ha, ← hb]; exact (Nat.mul_lt_mul_right hc).symm
  have g3 : a = 0 ↔ A = 0 := by
    rw [← ha]
    constructor
    · rintro rfl; simp
    · intro h; rcases Nat.mul_eq_zero.1 h with h | h <;> omega
  have g4 : b = 0 ↔ B = 0 := by
    rw [← hb]
    constructor
    · rintro rfl; simp
    · intro h; rcases Nat.mul_eq_zero.1 h with h | h <;> omega
  clear ha hb
  cases s <;> cases t <;> apply cmp_of <;> simp only [if_true, Bool.false_eq_true, if_false] <;> omega

theorem magOf_zero (a : Nat) : magOf a = 0 ↔ a = 0 := by
  have := magOf_eq a 0
  rw [show magOf 0 = 0 from by decide] at this
  exact this

theorem order_key (x y : Nat) (hx : rung x ≤ infR) (hy : rung y ≤ infR) : Ieee.double.order x y = some (compare (nkey x) (nkey y)) := by
  unfold Format.order
  rcases Nat.lt_or_ge (rung x) infR with h1 | h1
  · obtain ⟨m, k, e1, f1⟩ := read_fin x h1
    rcases Nat.lt_or_ge (rung y) infR with h2 | h2
    · obtain ⟨n, l, e2, f2⟩ := read_fin y h2
      rw [e1, e2]
      show some (compare (signed _ m _) (signed _ n _)) = _
      have p1 : ((-1074 + (k : Int)) - min (-1074 + (k : Int)) (-1074 + (l : Int))).toNat = k - min k l := by omega
      have p2 : ((-1074 + (l : Int)) - min (-1074 + (k : Int)) (-1074 + (l : Int))).toNat = l - min k l := by omega
      rw [p1, p2]
      unfold signed nkey
      congr 1
      refine signed_cmp (isNeg x) (isNeg y) _ _ (magOf (rung x)) (magOf (rung y)) (2 ^ min k l) (Nat.two_pow_pos _) ?_ ?_ (rung x) (rung y) (magOf_lt _ _) (magOf_lt _ _) (magOf_zero _) (magOf_zero _)
      · rw [scale_mag, f1]
      · have h3 := scale_mag n l k
        rw [Nat.min_comm l k] at h3
        rw [h3, f2]
    · have h2' : rung y = infR := by omega
      rw [e1, read_inf y h2']
      show some (if isNeg y then Ordering.gt else Ordering.lt) = _
      congr 1
      unfold nkey
      rw [h2']
      generalize infR = r at *
      have hlt : rung x < r := h1
      cases isNeg y <;> cases isNeg x <;> simp only [if_true, Bool.false_eq_true, if_false] <;> symm <;> first
        | (apply Int.compare_eq_lt.2; omega)
        | (apply Int.compare_eq_gt.2; omega)
  · have h1' : rung x = infR := by omega
    rcases Nat.lt_or_ge (rung y) infR with h2 | h2
    · obtain ⟨n, l, e2, f2⟩ := read_fin y h2
      rw [read_inf x h1', e2]
      show some (if isNeg x then Ordering.lt else Ordering.gt) = _
      congr 1
      unfold nkey
      rw [h1']
      generalize infR = r at *
      have hlt : rung y < r := h2
      cases isNeg x <;> cases isNeg y <;> simp only [if_true, Bool.false_eq_true, if_false] <;> symm <;> first
        | (apply Int.compare_eq_lt.2; omega)
        | (apply Int.compare_eq_gt.2; omega)
    · have h2' : rung y = infR := by omega
      rw [read_inf x h1', read_inf y h2']
      show some (compare (isNeg y).toNat (isNeg x).toNat) = _
      unfold nkey
      rw [h1', h2']
      cases isNeg x <;> cases isNeg y <;> rfl
end Go.Proofs.YthacdegaeokgnaaDoor

namespace Go.Proofs.YthacdegaeokgnaaDoor
open Go.RowKit Ieee

def isN (x : Nat) : Bool := decide (infR < rung x)
def rankN (x : Nat) : Nat := if isN x then 0 else if isNeg x then 18446744073709551615 - x else x + 9223372036854775808
def cmpN (a b : Nat) : Int := if rankN a < rankN b then -1 else if rankN b < rankN a then 1 else 0

theorem order_nan (x y : Nat) (h : isN x = true ∨ isN y = true) : Ieee.double.order x y = none := by
  unfold Format.order
  rcases h with h | h
  · obtain ⟨f, e⟩ := read_nan x (by simpa [isN] using h)
    rw [e]; rfl
  · obtain ⟨f, e⟩ := read_nan y (by simpa [isN] using h)
    rw [e]
    cases Ieee.double.read x <;> rfl

theorem order_num (x y : Nat) (hx : isN x = false) (hy : isN y = false) : Ieee.double.order x y = some (compare (nkey x) (nkey y)) :=
  order_key x y (by simpa [isN] using hx) (by simpa [isN] using hy)

theorem lss_eq (x y : Nat) : (FloatKind.f64.format.order x y == some .lt) = (!isN x && !isN y && decide (nkey x < nkey y)) := by
  show (Ieee.double.order x y == some .lt) = _
  cases hx : isN x
  · cases hy : isN y
    · rw [order_num x y hx hy]
      rcases Int.lt_trichotomy (nkey x) (nkey y) with h | h | h
      · rw [Int.compare_eq_lt.2 h, decide_eq_true h]; rfl
      · rw [Int.compare_eq_eq.2 h, decide_eq_false (by omega)]; rfl
      · rw [Int.compare_eq_gt.2 h, decide_eq_false (by omega)]; rfl
    · rw [order_nan x y (Or.inr hy)]; rfl
  · rw [order_nan x y (Or.inl hx)]; rfl
theorem gtr_eq (x y : Nat) : (FloatKind.f64.format.order x y == some .gt) = (!isN x && !isN y && decide (nkey y < nkey x)) := by
  show (Ieee.double.order x y == some .gt) = _
  cases hx : isN x
  · cases hy : isN y
    · rw [order_num x y hx hy]
      rcases Int.lt_trichotomy (nkey x) (nkey y) with h | h | h
      · rw [Int.compare_eq_lt.2 h, decide_eq_false (by omega)]; rfl
      · rw [Int.compare_eq_eq.2 h, decide_eq_false (by omega)]; rfl
      · rw [Int.compare_eq_gt.2 h, decide_eq_true h]; rfl
    · rw [order_nan x y (Or.inr hy)]; rfl
  · rw [order_nan x y (Or.inl hx)]; rfl
theorem eql_eq (x y : Nat) : (FloatKind.f64.format.order x y == some .eq) = (!isN x && !isN y && decide (nkey x = nkey y)) := by
  show (Ieee.double.order x y == some .eq) = _
  cases hx : isN x
  · cases hy : isN y
    · rw [order_num x y hx hy]
      rcases Int.lt_trichotomy (nkey x) (nkey y) with h | h | h
      · rw [Int.compare_eq_lt.2 h, decide_eq_false (by omega)]; rfl
      · rw [Int.compare_eq_eq.2 h, decide_eq_true h]; rfl
      · rw [Int.compare_eq_gt.2 h, decide_eq_false (by omega)]; rfl
    · rw [order_nan x y (Or.inr hy)]; rfl
  · rw [order_nan x y (Or.inl hx)]; rfl
theorem neq_self (x : Nat) : (FloatKind.f64.format.order x x != some .eq) = isN x := by
  show (!(FloatKind.f64.format.order x x == some .eq)) = _
  rw [eql_eq, decide_eq_true rfl]
  cases isN x <;> rfl
theorem eql_self (x : Nat) : (FloatKind.f64.format.order x x == some .eq) = !isN x := by
  rw [eql_eq, decide_eq_true rfl]
  cases isN x <;> rfl

/-! ### Words below 2^64 -/
theorem word_neg (x : Nat) (hx : x < 18446744073709551616) : isNeg x = decide (9223372036854775808 ≤ x) := by
  unfold isNeg
  rcases Nat.lt_or_ge x 9223372036854775808 with h | h
  · rw [decide_eq_false (by omega), show x / 9223372036854775808 % 2 = 0 from by omega]; rfl
  · rw [decide_eq_true h, show x / 9223372036854775808 % 2 = 1 from by omega]; rfl
/-- A word's parts. -/
theorem word_parts (x : Nat) (hx : x < 18446744073709551616) : (isNeg x = true ∧ x = 9223372036854775808 + rung x ∧ rung x < 9223372036854775808) ∨ (isNeg x = false ∧ x = rung x ∧ rung x < 9223372036854775808) := by
  rw [word_neg x hx]
  unfold rung
  rcases Nat.lt_or_ge x 9223372036854775808 with h | h
  · exact Or.inr ⟨decide_eq_false (by omega), by omega, by omega⟩
  · exact Or.inl ⟨decide_eq_true h, by omega, by omega⟩
theorem rung_lt (x : Nat) : rung x < 9223372036854775808 := Nat.mod_lt _ (by decide)

theorem rankN_lt (x : Nat) (hx : x < 18446744073709551616) : rankN x < 18446744073709551616 := by
  unfold rankN
  rcases word_parts x hx with ⟨h1, h2, h3⟩ | ⟨h1, h2, h3⟩ <;> rw [h1] <;> cases isN x <;> simp <;> omega

/-- Of numbers that are no nan the rank tells what the order and the signs tell. -/
theorem rank_cases (x y : Nat) (hx : x < 18446744073709551616) (hy : y < 18446744073709551616) (nx : isN x = false) (ny : isN y = false) :
    (nkey x < nkey y → rankN x < rankN y) ∧ (nkey y < nkey x → rankN y < rankN x) ∧ (nkey x = nkey y → isNeg x = isNeg y → rankN x = rankN y) ∧ (nkey x = nkey y → isNeg x = true → isNeg y = false → rankN x < rankN y) := by
  unfold rankN nkey
  rw [nx, ny]
  rcases word_parts x hx with ⟨h1, h2, h3⟩ | ⟨h1, h2, h3⟩ <;> rcases word_parts y hy with ⟨k1, k2, k3⟩ | ⟨k1, k2, k3⟩ <;> rw [h1, k1] <;> simp <;> omega

theorem rank_nan (x : Nat) (h : isN x = true) : rankN x = 0 := by unfold rankN; rw [h]; rfl
theorem rank_pos (x : Nat) (hx : x < 18446744073709551616) (h : isN x = false) : 0 < rankN x := by
  have hi : rung x ≤ infR := by simpa [isN] using h
  have hc : infR = 9218868437227405312 := rfl
  unfold rankN
  rw [h]
  rcases word_parts x hx with ⟨h1, h2, h3⟩ | ⟨h1, h2, h3⟩ <;> rw [h1] <;> simp <;> omega
theorem rank_inj (x y : Nat) (hx : x < 18446744073709551616) (hy : y < 18446744073709551616) (nx : isN x = false) (h : rankN x = rankN y) : x = y := by
  have ny : isN y = false := by
    cases e : isN y
    · rfl
    · have := rank_pos x hx nx
      rw [rank_nan y e] at h
      omega
  unfold rankN at h
  rw [nx, ny] at h
  rcases word_parts x hx with ⟨h1, h2, h3⟩ | ⟨h1, h2, h3⟩ <;> rcases word_parts y hy with ⟨k1, k2, k3⟩ | ⟨k1, k2, k3⟩ <;> rw [h1, k1] at h <;> simp at h <;> omega

theorem cmpN_self (a : Nat) : cmpN a a = 0 := by unfold cmpN; rw [if_neg (by omega), if_neg (by omega)]
theorem cmpN_lt {a b : Nat} (h : rankN a < rankN b) : cmpN a b = -1 := by unfold cmpN; rw [if_pos h]
theorem cmpN_gt {a b : Nat} (h : rankN b < rankN a) : cmpN a b = 1 := by unfold cmpN; rw [if_neg (by omega), if_pos h]
theorem cmpN_eq {a b : Nat} (h : rankN a = rankN b) : cmpN a b = 0 := by unfold cmpN; rw [if_neg (by omega), if_neg (by omega)]
theorem cmpN_zero (a b : Nat) : cmpN a b = 0 ↔ rankN a = rankN b := by unfold cmpN; split <;> (try split) <;> omega
theorem cmpN_swap (a b : Nat) : cmpN b a = -cmpN a b := by unfold cmpN; split <;> split <;> (try split) <;> omega

/-! ### Bits of words -/
theorem ofInt_u64 (a : Nat) (ha : a < 18446744073709551616) : (BitVec.ofInt 64 (a : Int)).toNat = a := by
  rw [BitVec.ofInt_natCast, BitVec.toNat_ofNat]; exact Nat.mod_eq_of_lt (by omega)
theorem wrap_u64_nat (a : Nat) (ha : a < 18446744073709551616) : IntKind.u64.wrap ((a : Nat) : Int) = (a : Int) := by
  rw [IntKind.wrap_u64]; omega
theorem u64_and_nat (a b : Nat) (ha : a < 18446744073709551616) (hb : b < 18446744073709551616) : bits .and .u64 (a : Int) (b : Int) = ((a &&& b : Nat) : Int) := by
  have hx : a &&& b < 2 ^ 64 := Nat.and_lt_two_pow _ (by omega)
  show IntKind.u64.wrap ((BitVec.ofInt 64 (a : Int) &&& BitVec.ofInt 64 (b : Int)).toNat : Int) = _
  rw [BitVec.toNat_and, ofInt_u64 a ha, ofInt_u64 b hb, wrap_u64_nat _ (by omega)]
theorem u64_or_nat (a b : Nat) (ha : a < 18446744073709551616) (hb : b < 18446744073709551616) : bits .or .u64 (a : Int) (b : Int) = ((a ||| b : Nat) : Int) := by
  have hx : a ||| b < 2 ^ 64 := Nat.or_lt_two_pow (by omega) (by omega)
  show IntKind.u64.wrap ((BitVec.ofInt 64 (a : Int) ||| BitVec.ofInt 64 (b : Int)).toNat : Int) = _
  rw [BitVec.toNat_or, ofInt_u64 a ha, ofInt_u64 b hb, wrap_u64_nat _ (by omega)]
theorem u64_xor_nat (a b : Nat) (ha : a < 18446744073709551616) (hb : b < 18446744073709551616) : bits .xor .u64 (a : Int) (b : Int) = ((a ^^^ b : Nat) : Int) := by
  have hx : a ^^^ b < 2 ^ 64 := Nat.xor_lt_two_pow (by omega) (by omega)
  show IntKind.u64.wrap ((BitVec.ofInt 64 (a : Int) ^^^ BitVec.ofInt 64 (b : Int)).toNat : Int) = _
  rw [BitVec.toNat_xor, ofInt_u64 a ha, ofInt_u64 b hb, wrap_u64_nat _ (by omega)]
theorem u64_not_nat (a : Nat) (ha : a < 18446744073709551616) : bits .xor .u64 IntKind.u64.max (a : Int) = ((18446744073709551615 - a : Nat) : Int) := by
  have hm : IntKind.u64.max = ((18446744073709551615 : Nat) : Int) := by decide
  have e : (18446744073709551615 ^^^ a : Nat) = 18446744073709551615 - a := by
    have h1 : (BitVec.allOnes 64 ^^^ BitVec.ofNat 64 a) = ~~~ BitVec.ofNat 64 a := BitVec.allOnes_xor
    have h2 := congrArg BitVec.toNat h1
    rw [BitVec.toNat_xor, BitVec.toNat_not, BitVec.toNat_ofNat, Nat.mod_eq_of_lt (show a < 2 ^ 64 from by omega), BitVec.toNat_allOnes] at h2
    have h3 : (2 : Nat) ^ 64 - 1 = 18446744073709551615 := by decide
    rw [h3] at h2
    exact h2
  rw [hm, u64_xor_nat _ _ (by decide) ha, e]

theorem and_sign (x : Nat) (hx : x < 18446744073709551616) : x &&& 9223372036854775808 = if isNeg x then 9223372036854775808 else 0 := by
  have h1 : x &&& 9223372036854775808 = x / 2 ^ 63 % 2 * 2 ^ 63 := by
    apply Nat.eq_of_testBit_eq
    intro i
    rw [Nat.testBit_and, show (9223372036854775808 : Nat) = 2 ^ 63 from rfl, Nat.testBit_two_pow, Nat.testBit_mul_two_pow]
    by_cases hi : 63 = i
    · subst hi
      simp [Nat.testBit, Nat.shiftRight_eq_div_pow]
    · rw [decide_eq_false hi, Bool.and_false]
      symm
      by_cases h3 : 63 ≤ i
      · rw [decide_eq_true h3, Bool.true_and]
        apply Nat.testBit_lt_two_pow
        have : 2 ^ 1 ≤ 2 ^ (i - 63) := Nat.pow_le_pow_right (by decide) (by omega)
        have := Nat.mod_lt (x / 2 ^ 63) (show 2 > 0 by decide)
        omega
      · rw [decide_eq_false h3, Bool.false_and]
  rw [h1]
  rcases word_parts x hx with ⟨h1, h2, h3⟩ | ⟨h1, h2, h3⟩ <;> rw [h1] <;> simp <;> omega
theorem or_sign (x : Nat) (hx : x < 9223372036854775808) : x ||| 9223372036854775808 = x + 9223372036854775808 := by
  have := Nat.two_pow_add_eq_or_of_lt (i := 63) (b := x) hx 1
  rw [show 2 ^ 63 * 1 = 9223372036854775808 from by decide] at this
  rw [Nat.or_comm]
  omega
theorem xor_sign (x : Nat) (hx : x < 9223372036854775808) : x ^^^ 9223372036854775808 = x + 9223372036854775808 := by
  rw [← or_sign x hx]
  apply Nat.eq_of_testBit_eq
  intro i
  rw [Nat.testBit_xor, Nat.testBit_or, show (9223372036854775808 : Nat) = 2 ^ 63 from rfl, Nat.testBit_two_pow]
  by_cases hi : 63 = i
  · subst hi
    rw [Nat.testBit_lt_two_pow hx]
    rfl
  · rw [decide_eq_false hi, Bool.xor_false, Bool.or_false]

theorem and_sign_int (x : Nat) (hx : x < 18446744073709551616) : (bits .and .u64 (x : Int) 9223372036854775808 != 0) = isNeg x := by
  have := u64_and_nat x 9223372036854775808 hx (by decide)
  rw [and_sign x hx] at this
  rw [show ((9223372036854775808 : Int)) = ((9223372036854775808 : Nat) : Int) from rfl, this]
  cases isNeg x <;> rfl
theorem or_sign_int (x : Nat) (hx : x < 9223372036854775808) : bits .or .u64 (x : Int) 9223372036854775808 = ((x + 9223372036854775808 : Nat) : Int) := by
  have := u64_or_nat x 9223372036854775808 (by omega) (by decide)
  rw [or_sign x hx] at this
  exact this

/-- '-f': the sign is turned. -/
theorem neg_word (x : Nat) (hx : x < 18446744073709551616) : Op.negFloat .f64 x = if isNeg x then x - 9223372036854775808 else x + 9223372036854775808 := by
  show x ^^^ 9223372036854775808 = _
  rcases word_parts x hx with ⟨h1, h2, h3⟩ | ⟨h1, h2, h3⟩
  · rw [h1, if_pos rfl]
    have e : x = rung x ^^^ 9223372036854775808 := by rw [xor_sign _ h3]; omega
    have e2 : x ^^^ 9223372036854775808 = rung x := by
      conv => lhs; rw [e]
      rw [Nat.xor_assoc, Nat.xor_self, Nat.xor_zero]
    rw [e2]; omega
  · rw [h1, if_neg (by decide)]
    exact xor_sign x (by omega)

/-- The number that stands at a rank. -/
def unrankN (r : Nat) : Nat := if isNeg r then r - 9223372036854775808 else 18446744073709551615 - r
theorem unrankN_lt (r : Nat) (h : r < 18446744073709551616) : unrankN r < 18446744073709551616 := by unfold unrankN; split <;> omega
theorem unrank_rank (x : Nat) (hx : x < 18446744073709551616) (h : isN x = false) : unrankN (rankN x) = x := by
  unfold unrankN rankN
  rw [h]
  rcases word_parts x hx with ⟨h1, h2, h3⟩ | ⟨h1, h2, h3⟩ <;> rw [h1] <;> simp only [Bool.false_eq_true, if_false, if_true]
  · rw [word_neg _ (by omega), decide_eq_false (by omega)]
    simp only [Bool.false_eq_true, if_false]
    omega
  · rw [word_neg _ (by omega), decide_eq_true (by omega)]
    simp only [if_true]
    omega
theorem andNot_rung (x : Nat) (hx : x < 18446744073709551616) : bits .andNot .u64 (x : Int) 9223372036854775808 = (rung x : Int) := by
  show IntKind.u64.wrap ((BitVec.ofInt 64 (x : Int) &&& ~~~ BitVec.ofInt 64 ((9223372036854775808 : Nat) : Int)).toNat : Int) = _
  have hm := Nat.and_two_pow_sub_one_eq_mod x 63
  rw [BitVec.toNat_and, BitVec.toNat_not, ofInt_u64 x hx, ofInt_u64 _ (by decide), show (2 ^ 64 - 1 - 9223372036854775808 : Nat) = 2 ^ 63 - 1 from by decide, hm]
  have hd : (2 : Nat) ^ 63 = 9223372036854775808 := by decide
  rw [hd, wrap_u64_nat _ (by omega)]
  rfl
theorem and_sign_eq (x : Nat) (hx : x < 18446744073709551616) : bits .and .u64 (x : Int) 9223372036854775808 = ((if isNeg x then 9223372036854775808 else 0 : Nat) : Int) := by
  have := u64_and_nat x 9223372036854775808 hx (by decide)
  rw [and_sign x hx] at this
  exact this
theorem andNot_sign (x : Nat) (hx : x < 18446744073709551616) (h : isNeg x = true) : bits .andNot .u64 (x : Int) 9223372036854775808 = ((x - 9223372036854775808 : Nat) : Int) := by
  show IntKind.u64.wrap ((BitVec.ofInt 64 (x : Int) &&& ~~~ BitVec.ofInt 64 ((9223372036854775808 : Nat) : Int)).toNat : Int) = _
  have hm := Nat.and_two_pow_sub_one_eq_mod x 63
  rw [BitVec.toNat_and, BitVec.toNat_not, ofInt_u64 x hx, ofInt_u64 _ (by decide), show (2 ^ 64 - 1 - 9223372036854775808 : Nat) = 2 ^ 63 - 1 from by decide, hm]
  have hd : (2 : Nat) ^ 63 = 9223372036854775808 := by decide
  rw [hd, wrap_u64_nat _ (by omega)]
  rcases word_parts x hx with ⟨h1, h2, h3⟩ | ⟨h1, h2, h3⟩
  · have e : x % 9223372036854775808 = x - 9223372036854775808 := by omega
    rw [e]
  · rw [h] at h1; cases h1
end Go.Proofs.YthacdegaeokgnaaDoor

namespace Go.Proofs.YthacdegaeokgnaaDoor
open Go.RowKit

theorem run_float64bits (x : Nat) (w : World) : (callFunc 84 #[.float .f64 x]).run Tryd.prog w = .ok (.value (.int .u64 (x : Int))) w := by
  rw [run_callFunc_extern (e := Extern.MathFloatBits.float64bits) Tryd.func84 (by kernel_rfl) (by kernel_rfl) (by kernel_rfl) (by kernel_rfl)]
  rfl
theorem run_neg_float (x : Nat) (w : World) : (Op.unary .neg (.float .f64 x)).run Tryd.prog w = .ok (.float .f64 (Op.negFloat .f64 x)) w := rfl

set_option maxHeartbeats 400000 in
theorem isnan_any (x : Nat) (w : World) : Calls Tryd.prog 79 #[.float .f64 x] w fun e w' => e = .returned (.bool (isN x)) ∧ w = w' := by
  rw [← neq_self x]
  go_enter Tryd.func79, Tryd.ntmps79
  go_wp2_with fail
  go_ret
  exact ⟨rfl, rfl⟩

set_option maxHeartbeats 400000 in
theorem signed_any (x : Nat) (hx : x < 18446744073709551616) (w : World) : Calls Tryd.prog 80 #[.float .f64 x] w fun e w' => e = .returned (.bool (isNeg x)) ∧ w = w' := by
  have hfb := run_float64bits x
  rw [← and_sign_int x hx]
  go_enter Tryd.func80, Tryd.ntmps80
  go_wp2_with fail
  go_ret
  exact ⟨rfl, rfl⟩

theorem xor_max_int (x : Nat) (hx : x < 18446744073709551616) : bits .xor .u64 18446744073709551615 (x : Int) = ((18446744073709551615 - x : Nat) : Int) := u64_not_nat x hx

set_option maxHeartbeats 400000 in
theorem rank_any (x : Nat) (hx : x < 18446744073709551616) (w : World) : Calls Tryd.prog 63 #[.float .f64 x] w fun e w' => e = .returned (.int .u64 (rankN x : Int)) ∧ w = w' := by
  have hfb := run_float64bits x
  have hs := and_sign_int x hx
  have C := Lib.hid (isnan_any x w)
  cases hn : isN x
  · rw [hn] at C
    cases hg : isNeg x
    · have hr : rankN x = x + 9223372036854775808 := by unfold rankN; rw [hn, hg]; rfl
      have hlt : x < 9223372036854775808 := by
        rcases word_parts x hx with ⟨h1, h2, h3⟩ | ⟨h1, h2, h3⟩
        · rw [hg] at h1; cases h1
        · omega
      have ho := or_sign_int x hlt
      rw [hg] at hs
      rw [hr, ← ho]
      clear hr ho
      go_enter Tryd.func63, Tryd.ntmps63
      go_wp2_with fail
      refine C.out.mono ?_
      rintro e w' ⟨rfl, rfl⟩
      go_wp2_with fail
      go_ret
      exact ⟨rfl, rfl⟩
    · have hr : rankN x = 18446744073709551615 - x := by unfold rankN; rw [hn, hg]; rfl
      have ho := xor_max_int x hx
      rw [hg] at hs
      rw [hr, ← ho]
      clear hr ho
      go_enter Tryd.func63, Tryd.ntmps63
      go_wp2_with fail
      refine C.out.mono ?_
      rintro e w' ⟨rfl, rfl⟩
      go_wp2_with fail
      go_ret
      exact ⟨rfl, rfl⟩
  · rw [hn] at C
    rw [rank_nan x hn]
    go_enter Tryd.func63, Tryd.ntmps63
    go_wp2_with fail
    refine C.out.mono ?_
    rintro e w' ⟨rfl, rfl⟩
    go_wp2_with fail
    go_ret
    exact ⟨rfl, rfl⟩

def sgnC (s t : Bool) : Int := if s == t then 0 else if s then -1 else 1

set_option maxHeartbeats 400000 in
theorem comparesigns_any (x y : Nat) (hx : x < 18446744073709551616) (hy : y < 18446744073709551616) (w : World) :
    Calls Tryd.prog 94 #[.float .f64 x, .float .f64 y] w fun e w' => e = .returned (.int .i64 (sgnC (isNeg x) (isNeg y))) ∧ w = w' := by
  have C := Lib.hid (signed_any x hx w)
  have D := Lib.hid (signed_any y hy w)
  generalize isNeg x = s at *
  generalize isNeg y = t at *
  clear hx hy
  cases s <;> cases t
  all_goals
    go_enter Tryd.func94, Tryd.ntmps94
    go_wp2_with fail
    refine C.out.mono ?_
    rintro e w' ⟨rfl, rfl⟩
    go_wp2_with fail
    refine D.out.mono ?_
    rintro e w' ⟨rfl, rfl⟩
    go_wp2_with fail
  all_goals first
    | (go_ret; exact ⟨rfl, rfl⟩)
    | (refine C.out.mono ?_
       rintro e w' ⟨rfl, rfl⟩
       go_wp2_with fail
       go_ret
       exact ⟨rfl, rfl⟩)

set_option maxHeartbeats 1000000 in
theorem fcompare_any (x y : Nat) (hx : x < 18446744073709551616) (hy : y < 18446744073709551616) (w : World) :
    Calls Tryd.prog 76 #[.float .f64 x, .float .f64 y] w fun e w' => e = .returned (.int .i64 (cmpN x y)) ∧ w = w' := by
  have C := Lib.hid (isnan_any x w)
  have D := Lib.hid (isnan_any y w)
  have S := Lib.hid (comparesigns_any x y hx hy w)
  have hl := lss_eq x y
  have hg := gtr_eq x y
  have he := eql_eq x y
  cases nx : isN x <;> cases ny : isN y <;> rw [nx, ny] at hl hg he <;> rw [nx] at C <;> rw [ny] at D <;> simp only [Bool.not_true, Bool.not_false, Bool.true_and, Bool.false_and, Bool.and_false, Bool.and_true] at hl hg he
  · obtain ⟨r1, r2, r3, r4⟩ := rank_cases x y hx hy nx ny
    rcases Int.lt_trichotomy (nkey x) (nkey y) with h | h | h
    · rw [decide_eq_true h] at hl
      rw [cmpN_lt (r1 h)]
      clear r1 r2 r3 r4 hg he S C D
      go_enter Tryd.func76, Tryd.ntmps76
      go_wp2_with fail
      go_ret
      exact ⟨rfl, rfl⟩
    · rw [decide_eq_true h] at he
      rw [decide_eq_false (show ¬ nkey x < nkey y by omega)] at hl
      rw [decide_eq_false (show ¬ nkey y < nkey x by omega)] at hg
      have hc : cmpN x y = sgnC (isNeg x) (isNeg y) := by
        obtain ⟨q1, q2, q3, q4⟩ := rank_cases y x hy hx ny nx
        cases hs : isNeg x <;> cases ht : isNeg y
        · exact cmpN_eq (r3 h (by rw [hs, ht]))
        · exact cmpN_gt (q4 h.symm ht hs)
        · exact cmpN_lt (r4 h hs ht)
        · exact cmpN_eq (r3 h (by rw [hs, ht]))
      rw [hc]
      clear hc r1 r2 r3 r4 C D
      go_enter Tryd.func76, Tryd.ntmps76
      go_wp2_with fail
      refine S.out.mono ?_
      rintro e w' ⟨rfl, rfl⟩
      go_wp2_with fail
      go_ret
      exact ⟨rfl, rfl⟩
    · rw [decide_eq_true h] at hg
      rw [decide_eq_false (show ¬ nkey x < nkey y by omega)] at hl
      rw [cmpN_gt (r2 h)]
      clear r1 r2 r3 r4 he S C D
      go_enter Tryd.func76, Tryd.ntmps76
      go_wp2_with fail
      go_ret
      exact ⟨rfl, rfl⟩
  · have := rank_pos x hx nx
    have h2 := rank_nan y ny
    rw [cmpN_gt (by omega)]
    clear this h2 S
    go_enter Tryd.func76, Tryd.ntmps76
    go_wp2_with fail
    refine C.out.mono ?_
    rintro e w' ⟨rfl, rfl⟩
    go_wp2_with fail
    go_ret
    exact ⟨rfl, rfl⟩
  · have := rank_pos y hy ny
    have h2 := rank_nan x nx
    rw [cmpN_lt (by omega)]
    clear this h2 S
    go_enter Tryd.func76, Tryd.ntmps76
    go_wp2_with fail
    refine C.out.mono ?_
    rintro e w' ⟨rfl, rfl⟩
    go_wp2_with fail
    refine D.out.mono ?_
    rintro e w' ⟨rfl, rfl⟩
    go_wp2_with fail
    go_ret
    exact ⟨rfl, rfl⟩
  · rw [cmpN_eq (show rankN x = rankN y by rw [rank_nan x nx, rank_nan y ny])]
    clear S
    go_enter Tryd.func76, Tryd.ntmps76
    go_wp2_with fail
    refine C.out.mono ?_
    rintro e w' ⟨rfl, rfl⟩
    go_wp2_with fail
    refine D.out.mono ?_
    rintro e w' ⟨rfl, rfl⟩
    go_wp2_with fail
    go_ret
    exact ⟨rfl, rfl⟩

set_option maxHeartbeats 400000 in
theorem fsame_any (x y : Nat) (hx : x < 18446744073709551616) (hy : y < 18446744073709551616) (w : World) :
    Calls Tryd.prog 48 #[.float .f64 x, .float .f64 y] w fun e w' => e = .returned (.bool (cmpN x y == 0)) ∧ w = w' := by
  have S := Lib.hid (fcompare_any x y hx hy w)
  go_enter Tryd.func48, Tryd.ntmps48
  go_wp2_with fail
  refine S.out.mono ?_
  rintro e w' ⟨rfl, rfl⟩
  go_wp2_with fail
  go_ret
  exact ⟨rfl, rfl⟩

def maxN (x y : Nat) : Nat := if cmpN x y < 0 then y else x
def minN (x y : Nat) : Nat := if cmpN x y > 0 then y else x

set_option maxHeartbeats 400000 in
theorem fmax_any (x y : Nat) (hx : x < 18446744073709551616) (hy : y < 18446744073709551616) (w : World) :
    Calls Tryd.prog 77 #[.float .f64 x, .float .f64 y] w fun e w' => e = .returned (.float .f64 (maxN x y)) ∧ w = w' := by
  have S := Lib.hid (fcompare_any x y hx hy w)
  unfold maxN
  generalize cmpN x y = c at *
  by_cases h : c < 0
  · rw [if_pos h]
    go_enter Tryd.func77, Tryd.ntmps77
    go_wp2_with fail
    refine S.out.mono ?_
    rintro e w' ⟨rfl, rfl⟩
    go_wp2_with fail
    go_ret
    exact ⟨rfl, rfl⟩
  · rw [if_neg h]
    go_enter Tryd.func77, Tryd.ntmps77
    go_wp2_with fail
    refine S.out.mono ?_
    rintro e w' ⟨rfl, rfl⟩
    go_wp2_with fail
    go_ret
    exact ⟨rfl, rfl⟩

set_option maxHeartbeats 400000 in
theorem fmin_any (x y : Nat) (hx : x < 18446744073709551616) (hy : y < 18446744073709551616) (w : World) :
    Calls Tryd.prog 78 #[.float .f64 x, .float .f64 y] w fun e w' => e = .returned (.float .f64 (minN x y)) ∧ w = w' := by
  have S := Lib.hid (fcompare_any x y hx hy w)
  unfold minN
  generalize cmpN x y = c at *
  by_cases h : 0 < c
  · rw [if_pos h]
    go_enter Tryd.func78, Tryd.ntmps78
    go_wp2_with fail
    refine S.out.mono ?_
    rintro e w' ⟨rfl, rfl⟩
    go_wp2_with fail
    go_ret
    exact ⟨rfl, rfl⟩
  · rw [if_neg h]
    go_enter Tryd.func78, Tryd.ntmps78
    go_wp2_with fail
    refine S.out.mono ?_
    rintro e w' ⟨rfl, rfl⟩
    go_wp2_with fail
    go_ret
    exact ⟨rfl, rfl⟩
end Go.Proofs.YthacdegaeokgnaaDoor

namespace Go.Proofs.YthacdegaeokgnaaDoor
open Go.RowKit

set_option maxHeartbeats 400000 in
theorem qisnan_any (x : Nat) (w : World) : Calls Tryd.prog 73 #[.float .f64 x] w fun e w' => e = .returned (.bool (isN x)) ∧ w = w' := by
  rw [← neq_self x]
  go_enter Tryd.func73, Tryd.ntmps73
  go_wp2_with fail
  go_ret
  exact ⟨rfl, rfl⟩

end Go.Proofs.YthacdegaeokgnaaDoor

namespace Go.Proofs.YthacdegaeokgnaaDoor
open Go.RowKit

theorem be_step7 (v k : Nat) (h : k < 8) : (((be v 8).take k ++ List.replicate (8 - k) (0 : UInt8)).map b8).set k (.int .u8 ((v : Int) / 2 ^ (8 * (7 - k)) % 256)) =
    ((be v 8).take (k + 1) ++ List.replicate (8 - (k + 1)) (0 : UInt8)).map b8 := be_step v 8 k h

set_option maxRecDepth 100000 in
set_option maxHeartbeats 1000000 in
theorem fput_any (x : Nat) (hx : x < 18446744073709551616) (w : World) :
    Calls Tryd.prog 36 #[.float .f64 x] w fun e w' => e = .returned (.string ⟨(be (rankN x) 8).toArray⟩) ∧ Below w.heap.size w w' := by
  have C := Lib.hid (rank_any x hx w)
  have hv := rankN_lt x hx
  generalize rankN x = v at *
  obtain ⟨i0, hi0, hz0, hz1, hz2⟩ := info_parts u8info
  go_enter Tryd.func36, Tryd.ntmps36
  go_wp2_with fail
  refine C.out.mono ?_
  rintro e w' ⟨rfl, rfl⟩
  go_wp2_with (at_make; refine wpList_make_full _ rfl (.const (.int .i64 8)) (.const (.int .i64 8)) 51 rfl w.heap.size 5 i0 (.int .u8 0) 1 Tryd.underlying51 hi0 hz0 hz1 .i64 .i64 _ _ 8 rfl rfl rfl rfl ?b2 ?b3 ?b4 ?_)
  case b2 => rw [hz2]; omega
  case b3 => unfold maxLen; omega
  case b4 => exact Nat.le_refl _
  intro w1 hown hgr
  have hb1 : Below w.heap.size w w1 := (Below.refl _ _).grown hgr (Nat.le_refl _) (by simp)
  have hlt := (World.ownsRow.lt hown w.heap.size rfl).2
  rw [show (madeCells #[Value.int IntKind.u8 0] 8).toList = (List.replicate 8 (0 : UInt8)).map b8 from (toList_madeCells_one _ _).trans (by simp [b8])] at hown
  have Hown := Lib.hid hown
  clear hown hgr
  go_wp2
  go_loopw [11] (fun i wr => ∃ k : Nat, k ≤ 8 ∧ i = .int .i64 (k : Int) ∧ wr.ownsRow w.heap.size 5 1 (.slice (some ⟨w.heap.size, 0, none⟩) 8 8) 8 (((be v 8).take k ++ List.replicate (8 - k) 0).map b8) ∧ Below w.heap.size w wr)
    (fun i _ => 8 - (intOf i).toNat)
  case atStart => exact ⟨0, by omega, rfl, by simpa using Hown.out, hb1⟩
  case round =>
    obtain ⟨k, hk, rfl, hown, hbe⟩ := hrel
    by_cases hlt' : k < 8
    · have hc := hown.cellAt k (by omega)
      have hf := hown.frozenAt k
      have hln : ((be v 8).take k ++ List.replicate (8 - k) (0 : UInt8)).length = 8 := by simp [be]; omega
      obtain ⟨x, hx⟩ : ∃ x, (((be v 8).take k ++ List.replicate (8 - k) (0 : UInt8)).map b8)[k]? = some x := ⟨_, List.getElem?_eq_getElem (by rw [List.length_map, hln]; omega)⟩
      rw [hx] at hc
      have Hown' := Lib.hid hown
      clear hown hx hln
      go_wp2
      go_roundw
      case rel =>
        have hst := World.ownsRow.stored Hown'.out k (.int .u8 ((v : Int) / 2 ^ (8 * (7 - k)) % 256))
        rw [be_step7 v k hlt'] at hst
        exact ⟨k + 1, by omega, by go_num, hst.1, below_setCell hbe (Nat.le_refl _) _⟩
      case measure => simp [intOf]; omega
    · obtain rfl : k = 8 := by omega
      have hby : Byt wr w.heap.size 5 (.slice (some ⟨w.heap.size, 0, none⟩) 8 8) (be v 8) := by
        unfold Byt
        rw [be_length]
        simpa [List.take_of_length_le (Nat.le_of_eq (be_length v 8))] using hown
      have hcv := hby.string (src := 51) (dst := 9) Tryd.underlying51 Tryd.underlying5 Tryd.underlying9
      clear hown hby
      go_wp2
      go_ret
      exact ⟨rfl, hbe⟩

theorem run_float64frombits (z : Int) (w : World) : (callFunc 72 #[.int .u64 z]).run Tryd.prog w = .ok (.value (.float .f64 z.toNat)) w := by
  rw [run_callFunc_extern (e := Extern.MathFloatBits.float64frombits) Tryd.func72 (by kernel_rfl) (by kernel_rfl) (by kernel_rfl) (by kernel_rfl)]
  rfl
theorem ret_float {a b : Nat} (h : a = b) : Ending.returned (.float .f64 a) = .returned (.float .f64 b) := by rw [h]

set_option maxRecDepth 100000 in
set_option maxHeartbeats 400000 in
theorem unrank_any (x : Nat) (hx : x < 18446744073709551616) (w : World) : Calls Tryd.prog 102 #[.int .u64 (x : Int)] w fun e w' => e = .returned (.float .f64 (unrankN x)) ∧ w = w' := by
  have hs := and_sign_int x hx
  have hfb := run_float64frombits
  obtain ⟨y, hy⟩ : ∃ y, y = unrankN x := ⟨_, rfl⟩
  rw [← hy]
  unfold unrankN at hy
  cases hg : isNeg x
  · rw [hg] at hs hy
    have ho := u64_not_nat x hx
    simp only [Bool.false_eq_true, if_false] at hy
    rw [← hy] at ho
    have Ho := Lib.hid ho
    clear hg hx hy ho
    go_enter Tryd.func102, Tryd.ntmps102
    go_wp2_with fail
    go_ret
    exact ⟨ret_float (by rw [Ho.out]; rfl), rfl⟩
  · rw [hg] at hs hy
    have ho := andNot_sign x hx hg
    simp only [if_true] at hy
    rw [← hy] at ho
    have Ho := Lib.hid ho
    clear hg hx hy ho
    go_enter Tryd.func102, Tryd.ntmps102
    go_wp2_with fail
    go_ret
    exact ⟨ret_float (by rw [Ho.out]; rfl), rfl⟩

set_option maxRecDepth 100000 in
theorem fget_bad (s : ByteArray) (w : World) (h : s.size ≠ 8) (_hs : s.size ≤ 9223372036854775807) :
    Calls Tryd.prog 93 #[.string s] w fun e w' => e = .returned (.tuple #[.float .f64 0, .int .i64 4]) ∧ w = w' := by
  have h1 : ((s.size : Int) != 8) = true := by rw [bne_iff_ne]; omega
  go_enter Tryd.func93, Tryd.ntmps93
  go_wp2
  go_ret2
  exact ⟨rfl, rfl⟩

def getF (r : Nat) : Nat × Int := if rankN (unrankN r) = r then (unrankN r, 0) else (0, 4)

set_option maxRecDepth 100000 in
set_option maxHeartbeats 1000000 in
theorem fget_ok (s : ByteArray) (w : World) (h : s.size = 8) :
    Calls Tryd.prog 93 #[.string s] w fun e w' => e = .returned (.tuple #[.float .f64 (getF (getL s.data.toList)).1, .int .i64 (getF (getL s.data.toList)).2]) ∧ w = w' := by
  have h1 : ((s.size : Int) != 8) = false := by rw [bne_eq_false_iff_eq]; omega
  obtain ⟨r, hr⟩ : ∃ r, r = getL s.data.toList := ⟨_, rfl⟩
  rw [← hr]
  have Hr := Lib.hid hr
  clear hr
  go_enter Tryd.func93, Tryd.ntmps93
  go_wp2
  go_loop [4, 12] (fun v i => ∃ k a : Nat, k ≤ s.size ∧ i = .int .i64 (k : Int) ∧ v = .int .u64 (a : Int) ∧ a < 2 ^ (8 * k) ∧ Hid (a = getL (s.data.toList.take k))) (fun _ i => s.size - (intOf i).toNat)
  case atStart => exact ⟨0, 0, by omega, rfl, rfl, by decide, rfl⟩
  case round =>
    obtain ⟨k, a, hk, rfl, rfl, ha, Ha⟩ := hrel
    by_cases hl : k < s.size
    · have hb8 := UInt8.toNat_lt s[k]
      have h56 : (2 : Nat) ^ (8 * k) ≤ 2 ^ 56 := Nat.pow_le_pow_right (by decide) (by omega)
      have ha48 : a < 72057594037927936 := by omega
      have ho : bits .or .u64 ((a : Int) * 256) (s[k].toNat : Int) = ((a * 256 + s[k].toNat : Nat) : Int) := by
        have h1 := u64_or_nat (a * 256) s[k].toNat (by omega) (by omega)
        have h2 : a * 256 ||| s[k].toNat = a * 256 + s[k].toNat := by
          have := Nat.two_pow_add_eq_or_of_lt (i := 8) (b := s[k].toNat) (by omega) a
          rw [show 2 ^ 8 * a = a * 256 from by omega] at this
          exact this.symm
        rw [h2] at h1
        exact h1
      have hlt : a * 256 + s[k].toNat < 2 ^ (8 * (k + 1)) := by
        have : 2 ^ (8 * (k + 1)) = 2 ^ (8 * k) * 256 := by rw [Nat.mul_add, Nat.pow_add]
        omega
      have hsn := getL_snoc s k hl
      rw [← Ha.out] at hsn
      obtain ⟨x, hx⟩ : ∃ x, x = a * 256 + s[k].toNat := ⟨_, rfl⟩
      rw [← hx] at ho hlt hsn
      have Hsn := Lib.hid hsn
      have Hlt := Lib.hid hlt
      clear hsn hlt hx ha h56
      go_wp2
      go_round
      case rel => exact ⟨k + 1, x, by omega, by go_num, rfl, Hlt.out, Hsn.out.symm⟩
      case measure => simp [intOf]; omega
    · obtain rfl : k = s.size := by omega
      have hae : a = r := by
        have := Ha.out
        rwa [List.take_of_length_le (by simp), ← Hr.out] at this
      have ha64 : a < 18446744073709551616 := by rw [h] at ha; exact ha
      subst hae
      have U := Lib.hid (unrank_any a ha64 w)
      have R := Lib.hid (rank_any (unrankN a) (unrankN_lt a ha64) w)
      clear ha Ha Hr
      by_cases hr : rankN (unrankN a) = a
      · have hq : ((rankN (unrankN a) : Int) != (a : Int)) = false := by rw [hr]; exact bne_self_eq_false _
        have HG : Hid (getF a = (unrankN a, 0)) := Lib.hid (if_pos hr)
        clear hr
        go_wp2_with fail
        refine U.out.mono ?_
        rintro e w' ⟨rfl, rfl⟩
        go_wp2_with fail
        refine R.out.mono ?_
        rintro e w' ⟨rfl, rfl⟩
        go_wp2_with fail
        go_ret2
        exact ⟨by rw [HG.out]; rfl, rfl⟩
      · have hq : ((rankN (unrankN a) : Int) != (a : Int)) = true := by rw [bne_iff_ne]; omega
        have HG : Hid (getF a = (0, 4)) := Lib.hid (if_neg hr)
        clear hr
        go_wp2_with fail
        refine U.out.mono ?_
        rintro e w' ⟨rfl, rfl⟩
        go_wp2_with fail
        refine R.out.mono ?_
        rintro e w' ⟨rfl, rfl⟩
        go_wp2_with fail
        go_ret2
        exact ⟨by rw [HG.out]; rfl, rfl⟩
end Go.Proofs.YthacdegaeokgnaaDoor

namespace Go.Proofs.YthacdegaeokgnaaDoor
open Go.RowKit

def tz64L : List Int := Lib.deBruijn64tab.map fun (n : Nat) => (n : Int)
theorem glob_tz64 : Tryd.prog.globalNamed "math/bits.deBruijn64tab" = some 1 := by kernel_rfl

/-- The tables that chapter 2's laws read. -/
structure LaidR (w : World) : Prop where
  tz64 : Lib.TabIs Tryd.prog w "math/bits.deBruijn64tab" .u8 tz64L
  pow10 : Lib.TabIs Tryd.prog w "internal/strconv.uint64pow10" .u64 Lib.pow10Tab

theorem LaidR.on {w w' : World} (h : LaidR w) (hb : Below w.heap.size w w') : LaidR w' :=
  ⟨var?_below hb glob_tz64 (lt_of_cell (h.tz64.cell glob_tz64 0 (by decide))) h.tz64, var?_below hb glob_pow10 (lt_of_cell (h.pow10.cell glob_pow10 0 (by simp [Lib.pow10Tab]))) h.pow10⟩

theorem tz64_at (i : Nat) (hi : i < 64) : tz64L.getD i 0 = (Lib.deBruijn64tab.getD i 0 : Int) := by
  have : ∀ i, i < 64 → tz64L.getD i 0 = (Lib.deBruijn64tab.getD i 0 : Int) := by decide +kernel
  exact this i hi

theorem tz64_idx (x a : Nat) (hx : x < 18446744073709551616) (hx0 : x ≠ 0) (hlow : x &&& (18446744073709551616 - x) = a) :
    IntKind.u64.wrap (bits BinOp.and IntKind.u64 (x : Int) (IntKind.u64.wrap (-(x : Int))) * 285870213051353865) / 288230376151711744 = ((a * 285870213051353865 % 18446744073709551616 / 288230376151711744 : Nat) : Int) := by
  have e1 : IntKind.u64.wrap (-(x : Int)) = ((18446744073709551616 - x : Nat) : Int) := by rw [IntKind.wrap_u64]; omega
  rw [e1, bits_and_u64_nat x _ hx (by omega), hlow, IntKind.wrap_u64]
  omega

set_option maxRecDepth 100000 in
set_option maxHeartbeats 1000000 in
theorem tz64_core (x k idx : Nat) (w : World) (hx0 : ((x : Int) == 0) = false)
    (key : IntKind.u64.wrap (bits BinOp.and IntKind.u64 (x : Int) (IntKind.u64.wrap (-(x : Int))) * 285870213051353865) / 288230376151711744 = (idx : Int))
    (hi : idx < 64) (hk : k < 64) (hcell : w.cell? ⟨1, idx, none⟩ = some (.int .u8 k)) :
    Calls Tryd.prog 107 #[.int .u64 x] w fun e w' => e = .returned (.int .i64 k) ∧ w = w' := by
  go_enter Tryd.func107, Tryd.ntmps107
  go_wp2_with (simp only [key])
  go_ret
  exact ⟨rfl, rfl⟩

theorem tz64_any (x : Nat) (hx : x < 18446744073709551616) (hx0 : x ≠ 0) (w : World) (hT : Lib.TabIs Tryd.prog w "math/bits.deBruijn64tab" .u8 tz64L) :
    Calls Tryd.prog 107 #[.int .u64 (x : Int)] w fun e w' => e = .returned (.int .i64 (Lib.ctz 64 x : Int)) ∧ w = w' := by
  obtain ⟨hlow, hk⟩ := Lib.lowest_bit 64 x hx0 hx
  obtain ⟨hi, htab⟩ := Lib.deBruijn64_at _ hk
  have hcell := hT.cell glob_tz64 _ (show _ < 64 from hi)
  rw [tz64_at _ hi, htab] at hcell
  exact tz64_core x _ _ w (by simp; omega) (tz64_idx x _ hx hx0 hlow) hi hk hcell

/-- All twos out of m. -/
def tzN (m : Nat) : Nat := Lib.ctz 64 m
def oddN (m : Nat) : Nat := m / 2 ^ tzN m

set_option maxRecDepth 100000 in
set_option maxHeartbeats 1000000 in
theorem odd_any (m : Nat) (p : Int) (hm : m < 18446744073709551616) (h0 : m ≠ 0) (hp0 : -100000000000000000 ≤ p) (hp1 : p ≤ 100000000000000000) (w : World) (hT : Lib.TabIs Tryd.prog w "math/bits.deBruijn64tab" .u8 tz64L) :
    Calls Tryd.prog 103 #[.int .u64 (m : Int), .int .i64 p] w fun e w' => e = .returned (.tuple #[.int .u64 (oddN m : Int), .int .i64 (p + (tzN m : Int))]) ∧ w = w' := by
  have C := Lib.hid (tz64_any m hm h0 w hT)
  have hk : Lib.ctz 64 m < 64 := (Lib.lowest_bit 64 m h0 hm).2
  unfold oddN tzN
  generalize Lib.ctz 64 m = k at *
  clear hT
  go_enter Tryd.func103, Tryd.ntmps103
  go_wp2_with fail
  refine C.out.mono ?_
  rintro e w' ⟨rfl, rfl⟩
  go_wp2_with fail
  go_ret2
  exact ⟨rfl, rfl⟩
end Go.Proofs.YthacdegaeokgnaaDoor

namespace Go.Proofs.YthacdegaeokgnaaDoor
open Ieee

/-- To the nearest whole number; between two, the even one. -/
def hround (n g : Nat) : Nat := n / g + if g < 2 * (n % g) ∨ (g = 2 * (n % g) ∧ n / g % 2 = 1) then 1 else 0

theorem hround_mono {n m g : Nat} (_hg : 0 < g) (h : n ≤ m) : hround n g ≤ hround m g := by
  unfold hround
  have hd : n / g ≤ m / g := Nat.div_le_div_right h
  rcases Nat.lt_or_ge (n / g) (m / g) with h1 | h1
  · split <;> split <;> omega
  · have he : n / g = m / g := by omega
    have e1 := Nat.div_add_mod n g
    have e2 := Nat.div_add_mod m g
    rw [he] at e1 ⊢
    have hr : n % g ≤ m % g := by omega
    split
    · rename_i hc
      rw [if_pos (by omega)]
      exact Nat.le_refl _
    · omega
theorem hround_mul (n g : Nat) (hg : 0 < g) : hround (n * g) g = n := by
  unfold hround
  rw [Nat.mul_div_cancel _ hg, Nat.mul_mod_left, if_neg (by omega)]
  rfl
theorem hround_small (n g : Nat) (h : 2 * n < g) : hround n g = 0 := by
  unfold hround
  rw [Nat.div_eq_of_lt (by omega), Nat.mod_eq_of_lt (by omega), if_neg (by omega)]

theorem cut_even (neg : Bool) (n d : Nat) : Toward.even.cut neg n d = hround n (2 ^ d) := by
  have key : ∀ g, n / g + (decide (g < 2 * (n % g)) || (g == 2 * (n % g) && n / g % 2 == 1)).toNat = hround n g := by
    intro g
    unfold hround
    congr 1
    by_cases h1 : g < 2 * (n % g)
    · simp [h1]
    · by_cases h2 : g = 2 * (n % g) ∧ n / g % 2 = 1
      · rw [if_pos (Or.inr h2)]
        have a1 : (g == 2 * (n % g)) = true := by rw [beq_iff_eq]; exact h2.1
        have a2 : (n / g % 2 == 1) = true := by rw [beq_iff_eq]; exact h2.2
        rw [a1, a2]
        simp
      · rw [if_neg (by omega)]
        have a : (g == 2 * (n % g) && n / g % 2 == 1) = false := by
          rw [Bool.eq_false_iff]
          intro e
          rw [Bool.and_eq_true, beq_iff_eq, beq_iff_eq] at e
          exact h2 e
        rw [a, decide_eq_false h1]
        rfl
  have hc : Toward.even.cut neg n d = hround n (1 <<< min d (n.log2 + 2)) := key _
  rw [hc, Nat.one_shiftLeft]
  rcases Nat.le_total d (n.log2 + 2) with h | h
  · rw [Nat.min_eq_left h]
  · rw [Nat.min_eq_right h]
    have h1 : n < 2 ^ (n.log2 + 1) := Nat.lt_log2_self
    have h2 : 2 ^ (n.log2 + 2) = 2 * 2 ^ (n.log2 + 1) := by rw [Nat.pow_succ]; omega
    have h3 : 2 ^ (n.log2 + 2) ≤ 2 ^ d := Nat.pow_le_pow_right (by decide) h
    rw [hround_small _ _ (by omega), hround_small _ _ (by omega)]

/-- The place of the last digit that is kept, and what is kept. -/
def lastP (m : Nat) (p : Int) : Int := max (p + (m.log2 : Int) - 52) (-1074)
def keptN (m : Nat) (p L : Int) : Nat := hround (m * 2 ^ (p - L).toNat) (2 ^ (L - p).toNat)
def rungOf (m : Nat) (p : Int) : Nat := (lastP m p + 1074).toNat * 4503599627370496 + keptN m p (lastP m p)

theorem nearest_eq (neg : Bool) (m : Nat) (p : Int) (h : m ≠ 0) : Ieee.double.nearest neg m p = Ieee.double.word neg (min (rungOf m p) infR) := by
  unfold Format.nearest
  rw [if_neg h, f64_least, f64_binade, f64_inf]
  show Ieee.double.word neg (min ((lastP m p - -1074).toNat * 4503599627370496 + Toward.even.cut neg (m <<< (p - lastP m p).toNat) (lastP m p - p).toNat) infR) = _
  rw [cut_even, Nat.shiftLeft_eq, show lastP m p - -1074 = lastP m p + 1074 from by omega]
  rfl

theorem kept_le (m : Nat) (p L : Int) (h : p + (m.log2 : Int) - 52 ≤ L) : keptN m p L ≤ 9007199254740992 := by
  have hg := Nat.two_pow_pos (L - p).toNat
  have h1 : m ≤ 2 ^ (m.log2 + 1) := Nat.le_of_lt Nat.lt_log2_self
  have h2 : m * 2 ^ (p - L).toNat ≤ 9007199254740992 * 2 ^ (L - p).toNat := by
    refine Nat.le_trans (Nat.mul_le_mul_right _ h1) ?_
    rw [← Nat.pow_add, show (9007199254740992 : Nat) = 2 ^ 53 from rfl, ← Nat.pow_add]
    exact Nat.pow_le_pow_right (by decide) (by omega)
  have := hround_mono hg h2
  rwa [hround_mul _ _ hg] at this
theorem kept_ge (m : Nat) (p L : Int) (hm : m ≠ 0) (h : L ≤ p + (m.log2 : Int) - 52) : 4503599627370496 ≤ keptN m p L := by
  have hg := Nat.two_pow_pos (L - p).toNat
  have h1 : 2 ^ m.log2 ≤ m := Nat.log2_self_le hm
  have h2 : 4503599627370496 * 2 ^ (L - p).toNat ≤ m * 2 ^ (p - L).toNat := by
    refine Nat.le_trans ?_ (Nat.mul_le_mul_right _ h1)
    rw [← Nat.pow_add, show (4503599627370496 : Nat) = 2 ^ 52 from rfl, ← Nat.pow_add]
    exact Nat.pow_le_pow_right (by decide) (by omega)
  have := hround_mono hg h2
  rwa [hround_mul _ _ hg] at this

theorem log2_mono {m n : Nat} (hm : m ≠ 0) (h : m ≤ n) : m.log2 ≤ n.log2 := by
  have h1 : 2 ^ m.log2 ≤ m := Nat.log2_self_le hm
  have h2 : n < 2 ^ (n.log2 + 1) := Nat.lt_log2_self
  rcases Nat.lt_or_ge n.log2 m.log2 with h3 | h3
  · have : 2 ^ (n.log2 + 1) ≤ 2 ^ m.log2 := Nat.pow_le_pow_right (by decide) (by omega)
    omega
  · exact h3

/-- Rounding never turns the order round (one place for both). -/
theorem rungOf_mono (m n : Nat) (p : Int) (hm : m ≠ 0) (h : m ≤ n) : rungOf m p ≤ rungOf n p := by
  have hl := log2_mono hm h
  have hL : lastP m p ≤ lastP n p := by unfold lastP; omega
  have hb : -1074 ≤ lastP m p := by unfold lastP; omega
  unfold rungOf
  by_cases he : lastP m p = lastP n p
  · rw [he]
    have : keptN m p (lastP n p) ≤ keptN n p (lastP n p) := hround_mono (Nat.two_pow_pos _) (Nat.mul_le_mul_right _ h)
    omega
  · have h1 := kept_le m p (lastP m p) (by unfold lastP; omega)
    have h2 : lastP n p = p + (n.log2 : Int) - 52 := by unfold lastP at *; omega
    have h3 := kept_ge n p (lastP n p) (by omega) (by omega)
    omega

/-- What fits stays as it is. -/
theorem rungOf_exact (m : Nat) (p : Int) (hm : m ≠ 0) (h : m < 9007199254740992) (hp : -1074 ≤ p) : magOf (rungOf m p) = m * 2 ^ (p + 1074).toNat := by
  have hlog : m.log2 ≤ 52 := by
    have h1 : 2 ^ m.log2 ≤ m := Nat.log2_self_le hm
    rcases Nat.lt_or_ge 52 m.log2 with h2 | h2
    · have : 2 ^ 53 ≤ 2 ^ m.log2 := Nat.pow_le_pow_right (by decide) h2
      omega
    · exact h2
  have hLp : lastP m p ≤ p := by unfold lastP; omega
  have hb : -1074 ≤ lastP m p := by unfold lastP; omega
  have hk : keptN m p (lastP m p) = m * 2 ^ (p - lastP m p).toNat := by
    unfold keptN
    have := hround_mul (m * 2 ^ (p - lastP m p).toNat) 1 (by decide)
    rw [Nat.mul_one] at this
    rw [show (lastP m p - p).toNat = 0 from by omega]
    exact this
  have hlt : m < 2 ^ (m.log2 + 1) := Nat.lt_log2_self
  have hlt2 : m * 2 ^ (p - lastP m p).toNat < 9007199254740992 := by
    have h1 : m * 2 ^ (p - lastP m p).toNat < 2 ^ (m.log2 + 1) * 2 ^ (p - lastP m p).toNat := Nat.mul_lt_mul_of_pos_right hlt (Nat.two_pow_pos _)
    rw [← Nat.pow_add] at h1
    have h2 : 2 ^ (m.log2 + 1 + (p - lastP m p).toNat) ≤ 2 ^ 53 := Nat.pow_le_pow_right (by decide) (by unfold lastP; omega)
    omega
  unfold rungOf
  rw [hk]
  by_cases hL : lastP m p = -1074
  · rw [hL] at hlt2 ⊢
    rw [show (-1074 + 1074 : Int).toNat = 0 from rfl, Nat.zero_mul, Nat.zero_add, show p - -1074 = p + 1074 from by omega] at *
    unfold magOf
    split
    · rfl
    · rw [show m * 2 ^ (p + 1074).toNat / 4503599627370496 - 1 = 0 from by omega]
      omega
  · have hLe : lastP m p = p + (m.log2 : Int) - 52 := by unfold lastP at *; omega
    have hge := kept_ge m p (lastP m p) hm (by omega)
    rw [hk] at hge
    obtain ⟨x, hx⟩ : ∃ x, x = m * 2 ^ (p - lastP m p).toNat := ⟨_, rfl⟩
    obtain ⟨a, ha⟩ : ∃ a, a = (lastP m p + 1074).toNat := ⟨_, rfl⟩
    have hsum : m * 2 ^ (p + 1074).toNat = x * 2 ^ a := by
      rw [hx, Nat.mul_assoc, ← Nat.pow_add, show (p + 1074).toNat = (p - lastP m p).toNat + a from by omega]
    rw [hsum, ← ha, ← hx]
    rw [← hx] at hge hlt2
    unfold magOf
    rw [if_neg (by omega), show (a * 4503599627370496 + x) / 4503599627370496 - 1 = a from by omega, show 4503599627370496 + (a * 4503599627370496 + x) % 4503599627370496 = x from by omega]

theorem hround_scale (n g c : Nat) (hc : 0 < c) : hround (n * c) (g * c) = hround n g := by
  unfold hround
  rw [Nat.mul_div_mul_right _ _ hc, Nat.mul_mod_mul_right]
  have e1 : g * c < 2 * (n % g * c) ↔ g < 2 * (n % g) := by rw [← Nat.mul_assoc]; exact Nat.mul_lt_mul_right hc
  have e2 : g * c = 2 * (n % g * c) ↔ g = 2 * (n % g) := by
    rw [← Nat.mul_assoc]
    exact ⟨fun h => Nat.eq_of_mul_eq_mul_right hc h, fun h => by rw [← h]⟩
  simp only [e1, e2]

/-- The same value at another place is rounded the same. -/
theorem rungOf_scale (m k : Nat) (p : Int) (hm : m ≠ 0) : rungOf (m * 2 ^ k) p = rungOf m (p + (k : Int)) := by
  have hm2 : m * 2 ^ k ≠ 0 := Nat.mul_ne_zero hm (Nat.ne_of_gt (Nat.two_pow_pos _))
  have hlog : (m * 2 ^ k).log2 = m.log2 + k := by
    rw [Nat.log2_eq_iff hm2]
    have h1 : 2 ^ m.log2 ≤ m := Nat.log2_self_le hm
    have h2 : m < 2 ^ (m.log2 + 1) := Nat.lt_log2_self
    constructor
    · rw [Nat.pow_add]; exact Nat.mul_le_mul_right _ h1
    · rw [show m.log2 + k + 1 = (m.log2 + 1) + k from by omega, Nat.pow_add]
      exact Nat.mul_lt_mul_of_pos_right h2 (Nat.two_pow_pos _)
  have hL : lastP (m * 2 ^ k) p = lastP m (p + (k : Int)) := by unfold lastP; rw [hlog]; omega
  unfold rungOf
  rw [hL]
  congr 1
  generalize lastP m (p + (k : Int)) = L
  unfold keptN
  obtain ⟨c, h1, h2⟩ : ∃ c : Nat, k + (p - L).toNat = (p + (k : Int) - L).toNat + c ∧ (L - p).toNat = (L - (p + (k : Int))).toNat + c := ⟨(L - p).toNat - (L - (p + (k : Int))).toNat, by omega, by omega⟩
  rw [Nat.mul_assoc, ← Nat.pow_add, h1, h2, Nat.pow_add, Nat.pow_add, ← Nat.mul_assoc]
  exact hround_scale _ _ _ (Nat.two_pow_pos _)
end Go.Proofs.YthacdegaeokgnaaDoor

namespace Go.Proofs.YthacdegaeokgnaaDoor
open Ieee

/-- The rung of a product of two magnitudes (in units of the least one). -/
def mulR (a b : Nat) : Nat := if a * b = 0 then 0 else min (rungOf (a * b) (-2148)) infR

theorem mulR_mono {a b c d : Nat} (h1 : a ≤ c) (h2 : b ≤ d) : mulR a b ≤ mulR c d := by
  have h := Nat.mul_le_mul h1 h2
  unfold mulR
  by_cases h0 : a * b = 0
  · rw [if_pos h0]; exact Nat.zero_le _
  · have := rungOf_mono (a * b) (c * d) (-2148) h0 h
    rw [if_neg h0, if_neg (by omega)]
    omega

theorem mul_fin (x y : Nat) (hx : rung x < infR) (hy : rung y < infR) :
    Ieee.double.mul x y = some (Ieee.double.word (isNeg x ^^ isNeg y) (mulR (magOf (rung x)) (magOf (rung y)))) := by
  obtain ⟨m, k, e1, f1⟩ := read_fin x hx
  obtain ⟨n, l, e2, f2⟩ := read_fin y hy
  unfold Format.mul
  rw [e1, e2]
  show some (Ieee.double.nearest (isNeg x ^^ isNeg y) (m * n) ((-1074 + (k : Int)) + (-1074 + (l : Int)))) = _
  congr 1
  have hp : magOf (rung x) * magOf (rung y) = (m * n) * 2 ^ (k + l) := by
    rw [← f1, ← f2, Nat.pow_add]
    rw [Nat.mul_assoc, Nat.mul_assoc, Nat.mul_left_comm (2 ^ k)]
  unfold mulR
  by_cases h0 : m * n = 0
  · rw [h0, hp, h0, Nat.zero_mul, if_pos rfl]
    unfold Format.nearest
    rw [if_pos rfl]
  · rw [nearest_eq _ _ _ h0, hp, if_neg (Nat.mul_ne_zero h0 (Nat.ne_of_gt (Nat.two_pow_pos _))), rungOf_scale _ _ _ h0]
    congr 3
    omega

theorem cut_down (way : Toward) (hw : way = .zero ∨ way = .down) (n d : Nat) : way.cut false n d = n / 2 ^ d := by
  have key : way.cut false n d = n / (1 <<< min d (n.log2 + 2)) := by
    rcases hw with rfl | rfl
    · rfl
    · show n / _ + ((false && _ : Bool)).toNat = _
      rw [Bool.false_and]
      rfl
  rw [key, Nat.one_shiftLeft]
  rcases Nat.le_total d (n.log2 + 2) with h | h
  · rw [Nat.min_eq_left h]
  · rw [Nat.min_eq_right h]
    have h1 : n < 2 ^ (n.log2 + 1) := Nat.lt_log2_self
    have h2 : 2 ^ (n.log2 + 2) = 2 * 2 ^ (n.log2 + 1) := by rw [Nat.pow_succ]; omega
    have h3 : 2 ^ (n.log2 + 2) ≤ 2 ^ d := Nat.pow_le_pow_right (by decide) h
    rw [Nat.div_eq_of_lt (by omega), Nat.div_eq_of_lt (by omega)]

/-- The whole part of a number that is not negative. -/
theorem whole_fin (way : Toward) (hw : way = .zero ∨ way = .down) (x : Nat) (hx : rung x < infR) (h0 : isNeg x = false) :
    (Ieee.double.read x).toInt way = some ((magOf (rung x) / 2 ^ 1074 : Nat) : Int) := by
  obtain ⟨m, k, e, f⟩ := read_fin x hx
  rw [e, h0, ← f]
  show some (signed false (way.cut false (m <<< (-1074 + (k : Int)).toNat) (-(-1074 + (k : Int))).toNat) 0) = _
  rw [cut_down way hw, Nat.shiftLeft_eq]
  have h : m * 2 ^ (-1074 + (k : Int)).toNat / 2 ^ (-(-1074 + (k : Int))).toNat = m * 2 ^ k / 2 ^ 1074 := by
    rcases Nat.le_total k 1074 with h1 | h1
    · rw [show (-1074 + (k : Int)).toNat = 0 from by omega, show (-(-1074 + (k : Int))).toNat = 1074 - k from by omega, Nat.pow_zero, Nat.mul_one]
      have : (2 : Nat) ^ 1074 = 2 ^ (1074 - k) * 2 ^ k := by rw [← Nat.pow_add, show 1074 - k + k = 1074 from by omega]
      rw [this, Nat.mul_div_mul_right _ _ (Nat.two_pow_pos _)]
    · rw [show (-1074 + (k : Int)).toNat = k - 1074 from by omega, show (-(-1074 + (k : Int))).toNat = 0 from by omega, Nat.pow_zero, Nat.div_one]
      have h5 := Nat.pow_add 2 (k - 1074) 1074
      rw [show k - 1074 + 1074 = k from by omega] at h5
      have h6 := Nat.two_pow_pos 1074
      rw [h5]
      generalize 2 ^ 1074 = c at *
      rw [← Nat.mul_assoc, Nat.mul_div_cancel _ h6]
  rw [h]
  unfold signed
  simp only [Bool.false_eq_true, if_false, Nat.shiftLeft_zero]
end Go.Proofs.YthacdegaeokgnaaDoor

namespace Go.Proofs.YthacdegaeokgnaaDoor
open Go.RowKit Ieee

theorem leq_eq (x y : Nat) : (FloatKind.f64.format.order x y == some .lt || FloatKind.f64.format.order x y == some .eq) = (!isN x && !isN y && decide (nkey x ≤ nkey y)) := by
  rw [lss_eq, eql_eq]
  cases isN x <;> cases isN y <;> simp
  rw [Bool.eq_iff_iff]
  simp
  omega
theorem geq_eq (x y : Nat) : (FloatKind.f64.format.order x y == some .gt || FloatKind.f64.format.order x y == some .eq) = (!isN x && !isN y && decide (nkey y ≤ nkey x)) := by
  rw [gtr_eq, eql_eq]
  cases isN x <;> cases isN y <;> simp
  rw [Bool.eq_iff_iff]
  simp
  omega

/-- The rung of float64(m) of a natural number. -/
def fltR (m : Nat) : Nat := if m = 0 then 0 else rungOf m 0
theorem rungOf_top : rungOf 9223372036854775808 0 = 4890909195324358656 := by decide +kernel
theorem fltR_le (m : Nat) (h : m ≤ 9223372036854775808) : fltR m ≤ 4890909195324358656 := by
  unfold fltR
  split
  · omega
  · rename_i h0
    rw [← rungOf_top]
    exact rungOf_mono m _ 0 h0 h
theorem fltR_mono {m n : Nat} (h : m ≤ n) : fltR m ≤ fltR n := by
  unfold fltR
  by_cases h0 : m = 0
  · rw [if_pos h0]; exact Nat.zero_le _
  · rw [if_neg h0, if_neg (by omega)]
    exact rungOf_mono m n 0 h0 h
theorem fltR_mag (m : Nat) (h : m < 9007199254740992) : magOf (fltR m) = m * 2 ^ 1074 := by
  unfold fltR
  by_cases h0 : m = 0
  · generalize 2 ^ 1074 = U
    rw [if_pos h0, h0, Nat.zero_mul]; exact (magOf_zero 0).2 rfl
  · rw [if_neg h0, rungOf_exact m 0 h0 h (by decide), show ((0 : Int) + 1074).toNat = 1074 from rfl]
theorem floatOfInt_nat (m : Nat) (h : m ≤ 9223372036854775808) : floatOfInt .f64 (m : Int) = fltR m := by
  have hl := fltR_le m h
  show Ieee.double.nearest (decide ((m : Int) < 0)) (m : Int).natAbs 0 = _
  rw [decide_eq_false (by omega), Int.natAbs_natCast]
  by_cases h0 : m = 0
  · subst h0; rfl
  · unfold fltR at hl ⊢
    rw [if_neg h0] at hl ⊢
    rw [nearest_eq _ _ _ h0, Nat.min_eq_left (by unfold infR; omega)]
    rfl
theorem floatOfInt_neg (m : Nat) (h : m ≤ 9223372036854775808) (h0 : m ≠ 0) : floatOfInt .f64 (-(m : Int)) = 9223372036854775808 + fltR m := by
  have hl := fltR_le m h
  show Ieee.double.nearest (decide (-(m : Int) < 0)) (-(m : Int)).natAbs 0 = _
  rw [decide_eq_true (by omega), Int.natAbs_neg, Int.natAbs_natCast]
  unfold fltR at hl ⊢
  rw [if_neg h0] at hl ⊢
  rw [nearest_eq _ _ _ h0, Nat.min_eq_left (by unfold infR; omega)]
  rfl
theorem fltR_pos (m : Nat) (h : m ≤ 9223372036854775808) (h0 : m ≠ 0) : 4607182418800017408 ≤ fltR m := by
  have h1 : fltR 1 = 4607182418800017408 := by decide +kernel
  rw [← h1]
  exact fltR_mono (by omega)

theorem small_parts (r : Nat) (h : r < 9223372036854775808) : isNeg r = false ∧ rung r = r := by
  unfold isNeg rung
  rw [show r / 9223372036854775808 % 2 = 0 from by omega]
  exact ⟨rfl, by omega⟩
theorem isN_small (r : Nat) (h : r ≤ infR) : isN r = false := by
  have hc : infR = 9218868437227405312 := rfl
  unfold isN
  rw [(small_parts r (by omega)).2]
  exact decide_eq_false (by omega)
theorem nkey_small (r : Nat) (h : r < 9223372036854775808) : nkey r = (r : Int) := by
  unfold nkey
  rw [(small_parts r h).1, (small_parts r h).2]
  rfl

/-- The rung of float64(m) times x (m above 0, x above 0). -/
def farR (m x : Nat) : Nat := if rung x = infR then infR else mulR (m * 2 ^ 1074) (magOf (rung x))
theorem farR_le (m x : Nat) : farR m x ≤ infR := by
  unfold farR
  split
  · exact Nat.le_refl _
  · unfold mulR; split
    · exact Nat.zero_le _
    · exact Nat.min_le_right _ _
theorem word_pp (r : Nat) : Ieee.double.word (false ^^ false) r = r := rfl
theorem mul_far (m x : Nat) (h0 : m ≠ 0) (hm : m ≤ 281474976710656) (hx : isN x = false) (hs : isNeg x = false) :
    floatBits .mul .f64 (fltR m) x = some (farR m x) := by
  show Ieee.double.mul (fltR m) x = _
  have hc : infR = 9218868437227405312 := rfl
  have hi : rung x ≤ infR := by simpa [isN] using hx
  have hl := fltR_le m (by omega)
  obtain ⟨p1, p2⟩ := small_parts (fltR m) (by omega)
  have hmag := fltR_mag m (by omega)
  unfold farR
  by_cases h : rung x = infR
  · rw [if_pos h]
    obtain ⟨a, k, e1, f1⟩ := read_fin (fltR m) (by omega)
    have ha : a ≠ 0 := by
      rintro rfl
      rw [p2, hmag, Nat.zero_mul] at f1
      have hp := Nat.two_pow_pos 1074
      have := Nat.mul_ne_zero h0 (Nat.ne_of_gt hp)
      generalize m * 2 ^ 1074 = z at *
      exact this f1.symm
    unfold Format.mul
    rw [e1, read_inf x h, p1, hs]
    show Option.map _ (if a = 0 then none else some (Datum.infinity (false ^^ false))) = _
    rw [if_neg ha]
    show some (Ieee.double.word (false ^^ false) Ieee.double.infRung) = _
    rw [word_pp, f64_inf]
  · rw [if_neg h, mul_fin (fltR m) x (by omega) (by omega), p1, p2, hs, hmag, word_pp]

theorem int_far (r : Nat) (h : r < 4823355200913801216) : floatToIntVal .f64 r .i64 = some ((magOf r / 2 ^ 1074 : Nat) : Int) ∧ magOf r / 2 ^ 1074 < 281474976710656 := by
  have hlt : magOf r / 2 ^ 1074 < 281474976710656 := by
    have h1 : magOf r < magOf 4823355200913801216 := (magOf_lt _ _).2 h
    have h2 : magOf 4823355200913801216 = 281474976710656 * 2 ^ 1074 := by decide +kernel
    rw [h2] at h1
    have hp := Nat.two_pow_pos 1074
    clear h2
    generalize 2 ^ 1074 = U at *
    exact (Nat.div_lt_iff_lt_mul hp).2 h1
  refine ⟨?_, hlt⟩
  obtain ⟨p1, p2⟩ := small_parts r (by omega)
  have hw := whole_fin .zero (Or.inl rfl) r (by unfold infR; omega) p1
  rw [p2] at hw
  unfold floatToIntVal
  show (match (Ieee.double.read r).toInt .zero with | some n => _ | none => _) = _
  rw [hw]
  generalize magOf r / 2 ^ 1074 = q at *
  show (if IntKind.i64.min ≤ (q : Int) ∧ (q : Int) ≤ IntKind.i64.max then some (q : Int) else none) = _
  have e1 : IntKind.i64.min = -9223372036854775808 := by decide
  have e2 : IntKind.i64.max = 9223372036854775807 := by decide
  rw [e1, e2, if_pos ⟨by omega, by omega⟩]

/-- How far a clock goes. -/
def capN (n : Int) : Nat := if n < 0 then 0 else if 281474976710656 < n then 281474976710656 else n.toNat
def goesN (m x : Nat) : Nat := if 4823355200913801216 ≤ farR m x then 281474976710656 else magOf (farR m x) / 2 ^ 1074
def scaleN (m x : Nat) : Nat := if isN x then m else if m = 0 then 0 else if nkey x ≤ 0 then 0 else goesN m x

theorem goesN_le (m x : Nat) : goesN m x ≤ 281474976710656 := by
  unfold goesN
  split
  · exact Nat.le_refl _
  · rename_i h
    exact Nat.le_of_lt (int_far _ (by omega)).2
theorem farR_mono {m n x y : Nat} (h : m ≤ n) (_hx : rung x ≤ infR) (hy : rung y ≤ infR) (hxy : rung x ≤ rung y) : farR m x ≤ farR n y := by
  by_cases h1 : rung y = infR
  · have : farR n y = infR := by unfold farR; rw [if_pos h1]
    rw [this]
    exact farR_le m x
  · unfold farR
    rw [if_neg h1, if_neg (by omega)]
    refine mulR_mono (Nat.mul_le_mul_right _ h) ?_
    rcases Nat.lt_or_ge (rung x) (rung y) with h2 | h2
    · exact Nat.le_of_lt (magOf_mono h2)
    · rw [show rung x = rung y from by omega]; exact Nat.le_refl _
theorem goesN_mono {m n x y : Nat} (h : farR m x ≤ farR n y) : goesN m x ≤ goesN n y := by
  by_cases h1 : 4823355200913801216 ≤ farR n y
  · have : goesN n y = 281474976710656 := by unfold goesN; rw [if_pos h1]
    rw [this]
    exact goesN_le m x
  · unfold goesN
    rw [if_neg h1, if_neg (by omega)]
    refine Nat.div_le_div_right ?_
    rcases Nat.lt_or_ge (farR m x) (farR n y) with h2 | h2
    · exact Nat.le_of_lt (magOf_mono h2)
    · rw [show farR m x = farR n y from by omega]; exact Nat.le_refl _
theorem scaleN_le (m x : Nat) (h : m ≤ 281474976710656) : scaleN m x ≤ 281474976710656 := by
  unfold scaleN
  split
  · exact h
  · split
    · omega
    · split
      · omega
      · exact goesN_le m x

/-- A longer time goes further. -/
theorem scaleN_longer {m n : Nat} (x : Nat) (h : m ≤ n) : scaleN m x ≤ scaleN n x := by
  unfold scaleN
  cases hx : isN x
  · simp only [Bool.false_eq_true, if_false]
    by_cases h0 : m = 0
    · rw [if_pos h0]; exact Nat.zero_le _
    · rw [if_neg h0, if_neg (show ¬ n = 0 by omega)]
      split
      · exact Nat.le_refl _
      · have hi : rung x ≤ infR := by simpa [isN] using hx
        exact goesN_mono (farR_mono h hi hi (Nat.le_refl _))
  · simp only [if_true]; exact h
/-- A faster clock goes further. -/
theorem scaleN_faster (m : Nat) {x y : Nat} (hx : isN x = false) (hy : isN y = false) (h : nkey x ≤ nkey y) : scaleN m x ≤ scaleN m y := by
  unfold scaleN
  rw [hx, hy]
  simp only [Bool.false_eq_true, if_false]
  by_cases h0 : m = 0
  · rw [if_pos h0]; exact Nat.zero_le _
  · rw [if_neg h0, if_neg h0]
    by_cases h1 : nkey x ≤ 0
    · rw [if_pos h1]; exact Nat.zero_le _
    · rw [if_neg h1, if_neg (by omega)]
      have hi : rung x ≤ infR := by simpa [isN] using hx
      have hj : rung y ≤ infR := by simpa [isN] using hy
      refine goesN_mono (farR_mono (Nat.le_refl _) hi hj ?_)
      unfold nkey at h h1
      cases hs : isNeg x <;> rw [hs] at h h1 <;> cases ht : isNeg y <;> rw [ht] at h <;> simp at h h1 <;> omega
/-- At the speed 1 as far as time goes. -/
theorem scaleN_one (m : Nat) (h : m ≤ 281474976710656) : scaleN m 4607182418800017408 = m := by
  have h1 : isN 4607182418800017408 = false := by decide
  have h2 : ¬ nkey 4607182418800017408 ≤ 0 := by decide
  have h3 : rung 4607182418800017408 = 4607182418800017408 := by decide
  have h4 : magOf 4607182418800017408 = 2 ^ 1074 := by decide +kernel
  unfold scaleN
  rw [h1, if_neg h2]
  simp only [Bool.false_eq_true, if_false]
  by_cases h0 : m = 0
  · rw [if_pos h0, h0]
  · rw [if_neg h0]
    have hf : farR m 4607182418800017408 = fltR m := by
      have hl := fltR_le m (by omega)
      unfold farR mulR
      rw [h3, if_neg (by decide), h4]
      have hp : (2 : Nat) ^ 1074 ≠ 0 := Nat.ne_of_gt (Nat.two_pow_pos 1074)
      have ea : ∀ U : Nat, m * U * U = m * (U * U) := fun U => Nat.mul_assoc _ _ _
      have eb := (Nat.pow_add 2 1074 1074).symm
      rw [if_neg (Nat.mul_ne_zero (Nat.mul_ne_zero h0 hp) hp), ea, eb, rungOf_scale m (1074 + 1074) (-2148) h0]
      unfold fltR at hl ⊢
      rw [if_neg h0] at hl ⊢
      have hz : (-2148 + ((1074 + 1074 : Nat) : Int)) = 0 := by decide
      rw [hz]
      exact Nat.min_eq_left (by unfold infR; omega)
    have hmag := fltR_mag m (by omega)
    have h48 : fltR 281474976710656 = 4823355200913801216 := by decide +kernel
    have ed : ∀ U : Nat, 0 < U → m * U / U = m := fun U hU => Nat.mul_div_cancel m hU
    unfold goesN
    rw [hf, hmag, ed _ (Nat.two_pow_pos 1074)]
    split
    · rename_i hg
      rcases Nat.lt_or_ge m 281474976710656 with h5 | h5
      · have : magOf (fltR m) < magOf (fltR 281474976710656) := by
          have hp := Nat.two_pow_pos 1074
          have h6 := fltR_mag 281474976710656 (by decide)
          clear ed hf
          rw [hmag, h6]
          have hp := Nat.two_pow_pos 1074
          clear hmag h6
          generalize 2 ^ 1074 = U at *
          exact Nat.mul_lt_mul_of_pos_right h5 hp
        have := (magOf_lt _ _).1 this
        omega
      · omega
    · rfl
end Go.Proofs.YthacdegaeokgnaaDoor

namespace Go.Proofs.YthacdegaeokgnaaDoor
open Go.RowKit

theorem dec_digit (u : Nat) : ∀ c ∈ Lib.decDigits u, 48 ≤ c.toNat ∧ c.toNat ≤ 57 := by
  induction u using Nat.strongRecOn with
  | _ u ih =>
    intro c hc
    rw [Lib.decDigits] at hc
    split at hc
    · obtain rfl := List.mem_singleton.1 hc
      rw [UInt8.toNat_ofNat']; omega
    · rcases List.mem_append.1 hc with h | h
      · exact ih (u / 10) (by omega) c h
      · obtain rfl := List.mem_singleton.1 h
        rw [UInt8.toNat_ofNat']; omega

theorem digs_dec (u : Nat) : ∀ (r : List UInt8) (a : Nat), digs (Lib.decDigits u ++ r) a = digs r (a * 10 ^ Lib.nDigits u + u) := by
  induction u using Nat.strongRecOn with
  | _ u ih =>
    intro r a
    rw [Lib.decDigits]
    split
    · rename_i h
      have e : (UInt8.ofNat (48 + u)).toNat = 48 + u := by rw [UInt8.toNat_ofNat']; omega
      rw [Lib.nDigits_small h, List.cons_append, List.nil_append, digs, e, if_pos (by omega)]
      congr 1
      omega
    · rename_i h
      have e : (UInt8.ofNat (48 + u % 10)).toNat = 48 + u % 10 := by rw [UInt8.toNat_ofNat']; omega
      rw [Lib.nDigits_big h, List.append_assoc, ih (u / 10) (by omega), List.cons_append, List.nil_append, digs, e, if_pos (by omega)]
      congr 1
      rw [Nat.pow_succ, ← Nat.mul_assoc]
      omega

theorem dec_ne (u : Nat) : Lib.decDigits u ≠ [] := by
  intro h
  have := Lib.decDigits_length u
  have h2 := Lib.nDigits_pos u
  rw [h] at this
  simp at this
  omega

theorem dec_head (u : Nat) (hu : u ≠ 0) : ((Lib.decDigits u).headD 0).toNat ≠ 48 := by
  induction u using Nat.strongRecOn with
  | _ u ih =>
    rw [Lib.decDigits]
    split
    · rw [List.headD_cons, UInt8.toNat_ofNat']; omega
    · have := ih (u / 10) (by omega) (by omega)
      cases h : Lib.decDigits (u / 10) with
      | nil => exact absurd h (dec_ne _)
      | cons c r => rw [h] at this; exact this

theorem pow_le_nDigits (u : Nat) (hu : u ≠ 0) : 10 ^ (Lib.nDigits u - 1) ≤ u := by
  induction u using Nat.strongRecOn with
  | _ u ih =>
    by_cases h : u < 10
    · rw [Lib.nDigits_small h]; simp; omega
    · have h1 := ih (u / 10) (by omega) (by omega)
      have h2 := Lib.nDigits_pos (u / 10)
      rw [Lib.nDigits_big h, show Lib.nDigits (u / 10) + 1 - 1 = (Lib.nDigits (u / 10) - 1) + 1 from by omega, Nat.pow_succ]
      omega

theorem natL_dec (u : Nat) (hu : u ≠ 0) : natL (Lib.decDigits u) = if u < 10000000000000000 then some u else none := by
  have h1 := dec_head u hu
  have h2 := Lib.nDigits_pos u
  unfold natL
  rw [Lib.decDigits_length]
  by_cases h : u < 10000000000000000
  · have h3 : Lib.nDigits u ≤ 16 := by
      rcases Nat.lt_or_ge 16 (Lib.nDigits u) with hl | hl
      · have := pow_le_nDigits u hu
        have : (10 : Nat) ^ 16 ≤ 10 ^ (Lib.nDigits u - 1) := Nat.pow_le_pow_right (by decide) (by omega)
        omega
      · exact hl
    have := digs_dec u [] 0
    rw [List.append_nil] at this
    rw [if_pos h, if_neg (by omega), this]
    show some (0 * _ + u) = _
    congr 1
    omega
  · have h3 : 16 < Lib.nDigits u := by
      rcases Nat.lt_or_ge 16 (Lib.nDigits u) with hl | hl
      · exact hl
      · have := Lib.lt_pow_nDigits u
        have : (10 : Nat) ^ (Lib.nDigits u) ≤ 10 ^ 16 := Nat.pow_le_pow_right (by decide) hl
        omega
    rw [if_neg h, if_pos (Or.inr (Or.inl h3))]

theorem numL_itoa (v : Int) : numL (Lib.itoa v) = if -10000000000000000 < v ∧ v < 10000000000000000 then some v else none := by
  rcases Int.lt_trichotomy v 0 with h | h | h
  · have hi : Lib.itoa v = 45 :: Lib.decDigits v.natAbs := by unfold Lib.itoa; rw [if_pos h]
    have hp : Lib.hasPrefix (45 :: Lib.decDigits v.natAbs) [45] = true := by simp [Lib.hasPrefix]
    unfold numL
    rw [hi, if_neg (by simp)]
    unfold Lib.trimPrefix
    rw [if_pos hp, hp]
    show (natL (Lib.decDigits v.natAbs)).map _ = _
    rw [natL_dec _ (by omega)]
    by_cases hv : -10000000000000000 < v
    · rw [if_pos (by omega), if_pos (by omega)]
      simp
      omega
    · rw [if_neg (by omega), if_neg (by omega)]
      rfl
  · subst h
    have hi : Lib.itoa 0 = [48] := by unfold Lib.itoa; rw [if_neg (by decide)]; exact Lib.decDigits_one (by decide)
    rw [hi, if_pos (by decide)]
    rfl
  · have hi : Lib.itoa v = Lib.decDigits v.toNat := by unfold Lib.itoa; rw [if_neg (by omega)]
    have hd := dec_head v.toNat (by omega)
    have hn : Lib.decDigits v.toNat ≠ [48] := by intro e; rw [e] at hd; exact hd rfl
    have hp : Lib.hasPrefix (Lib.decDigits v.toNat) [45] = false := by
      cases hc : Lib.decDigits v.toNat with
      | nil => exact absurd hc (dec_ne _)
      | cons c r =>
        have := dec_digit v.toNat c (by rw [hc]; simp)
        simp only [Lib.hasPrefix, List.isPrefixOf, Bool.and_true, beq_eq_false_iff_ne]
        intro e
        rw [← e] at this
        exact absurd this (by decide)
    unfold numL
    rw [hi, if_neg hn]
    unfold Lib.trimPrefix
    rw [hp, if_neg (by decide), natL_dec _ (by omega)]
    by_cases hv : v < 10000000000000000
    · rw [if_pos (by omega), if_pos (by omega)]
      simp
      omega
    · rw [if_neg (by omega), if_neg (by omega)]
      rfl

theorem dec_len (u : Nat) (hu : u ≤ 9223372036854775808) : (Lib.decDigits u).length ≤ 39 := by
  rw [Lib.decDigits_length]
  rcases Nat.eq_zero_or_pos u with h | h
  · subst h; rw [Lib.nDigits_small (by decide)]; decide
  · rcases Nat.lt_or_ge 39 (Lib.nDigits u) with hl | hl
    · have := pow_le_nDigits u (by omega)
      have : (10 : Nat) ^ 39 ≤ 10 ^ (Lib.nDigits u - 1) := Nat.pow_le_pow_right (by decide) (by omega)
      omega
    · exact hl

theorem itoa_len (v : Int) (h0 : -9223372036854775808 ≤ v) (h1 : v ≤ 9223372036854775807) : (Lib.itoa v).length ≤ 40 := by
  unfold Lib.itoa
  split
  · have := dec_len v.natAbs (by omega)
    simp; omega
  · have := dec_len v.toNat (by omega)
    omega
end Go.Proofs.YthacdegaeokgnaaDoor

namespace Go.Proofs.YthacdegaeokgnaaDoor
open Go.RowKit

/-- The digits and the power of a rung, all twos still in. -/
def rawM (r : Nat) : Nat := if r < 4503599627370496 then r else 4503599627370496 + r % 4503599627370496
def rawE (r : Nat) : Int := if r < 4503599627370496 then -1074 else (r / 4503599627370496 : Nat) - 1075
theorem rawM_lt (r : Nat) : rawM r < 9007199254740992 := by unfold rawM; split <;> omega
theorem rawM_pos (r : Nat) (h : r ≠ 0) : rawM r ≠ 0 := by unfold rawM; split <;> omega
theorem rawE_lt (r : Nat) (h : r < infR) : -1074 ≤ rawE r ∧ rawE r ≤ 971 := by
  have hc : infR = 9218868437227405312 := rfl
  unfold rawE; split <;> omega
def spM (r : Nat) : Nat := oddN (rawM r)
def spE (r : Nat) : Int := rawE r + (tzN (rawM r) : Int)

set_option maxRecDepth 100000 in
set_option maxHeartbeats 1000000 in
theorem split_any (r : Nat) (h0 : r ≠ 0) (h : r < infR) (w : World) (hT : Lib.TabIs Tryd.prog w "math/bits.deBruijn64tab" .u8 tz64L) :
    Calls Tryd.prog 95 #[.float .f64 r] w fun e w' => e = .returned (.tuple #[.int .u64 (spM r : Int), .int .i64 (spE r)]) ∧ w = w' := by
  have hfb := run_float64bits r
  have hM := rawM_lt r
  have hE := rawE_lt r h
  have C := Lib.hid (odd_any (rawM r) (rawE r) (by omega) (rawM_pos r h0) (by omega) (by omega) w hT)
  unfold spM spE
  have hc : infR = 9218868437227405312 := rfl
  clear hM hE hT
  by_cases hr : r < 4503599627370496
  · have e1 : rawM r = r % 4503599627370496 := by unfold rawM; rw [if_pos hr]; omega
    have e2 : rawE r = -1074 := by unfold rawE; rw [if_pos hr]
    rw [e1, e2] at C ⊢
    have hq : (r : Int) / 4503599627370496 = 0 := by omega
    have C := C.out
    rw [show ((r % 4503599627370496 : Nat) : Int) = (r : Int) % 4503599627370496 from by omega] at C
    have C := Lib.hid C
    clear h hc e1 e2
    go_enter Tryd.func95, Tryd.ntmps95
    go_wp2_with fail
    refine C.out.mono ?_
    rintro e w' ⟨rfl, rfl⟩
    go_wp2_with fail
    go_ret2
    exact ⟨rfl, rfl⟩
  · have e1 : (rawM r : Int) = (r : Int) % 4503599627370496 + 4503599627370496 := by unfold rawM; rw [if_neg hr]; omega
    have e2 : rawE r = -1074 + (r : Int) / 4503599627370496 - 1 := by unfold rawE; rw [if_neg hr]; omega
    obtain ⟨q, hq⟩ : ∃ q : Nat, (r : Int) / 4503599627370496 = (q : Int) := ⟨r / 4503599627370496, by omega⟩
    have hq1 : 0 < q := by omega
    have hq2 : q ≤ 2046 := by omega
    have C := C.out
    rw [e1, e2, hq] at C
    have C := Lib.hid C
    rw [e2, hq]
    clear h hc e1 e2 hr
    go_enter Tryd.func95, Tryd.ntmps95
    go_wp2_with fail
    refine C.out.mono ?_
    rintro e w' ⟨rfl, rfl⟩
    go_wp2_with fail
    go_ret2
    exact ⟨rfl, rfl⟩

/-- The text of a number without a sign. -/
def whole (r : Nat) : Bool := decide (0 ≤ spE r ∧ (Lib.bitLen (spM r) : Int) + spE r ≤ 53)
def unsN (r : Nat) : List UInt8 :=
  if r = 0 then [48] else if r = infR then [105, 110, 102] else if whole r then Lib.itoa ((spM r * 2 ^ (spE r).toNat : Nat) : Int)
  else Lib.itoa (spM r : Int) ++ 112 :: Lib.itoa (spE r)
def textN (x : Nat) : List UInt8 := if isN x then [110, 97, 110] else if isNeg x then 45 :: unsN (rung x) else unsN (rung x)

theorem unsN_zero : unsN 0 = [48] := by unfold unsN; rw [if_pos rfl]

theorem spM_lt (r : Nat) : spM r < 9007199254740992 := Nat.lt_of_le_of_lt (Nat.div_le_self _ _) (rawM_lt r)
theorem spE_lt (r : Nat) (h0 : r ≠ 0) (h : r < infR) : -1074 ≤ spE r ∧ spE r ≤ 1035 := by
  have h1 := rawE_lt r h
  have h2 : tzN (rawM r) < 64 := (Lib.lowest_bit 64 _ (rawM_pos r h0) (Nat.lt_trans (rawM_lt r) (by decide))).2
  unfold spE
  omega

theorem len_lt (m e : Nat) (hm : m < 18446744073709551616) (h : Lib.bitLen m + e ≤ 53) : m * 2 ^ e < 9007199254740992 := by
  by_cases h0 : m = 0
  · subst h0; rw [Nat.zero_mul]; decide
  · have hb := (Lib.bitLenAux_bounds 64 m hm h0).2.2
    have h1 : m * 2 ^ e < 2 ^ Lib.bitLen m * 2 ^ e := Nat.mul_lt_mul_of_pos_right hb (Nat.two_pow_pos _)
    rw [← Nat.pow_add] at h1
    exact Nat.lt_of_lt_of_le h1 (Nat.pow_le_pow_right (by decide) h)

set_option maxRecDepth 100000 in
set_option maxHeartbeats 2000000 in
theorem unsigned_whole (r : Nat) (h0 : r ≠ 0) (h : r < infR) (w : World) (hL : LaidR w) (hw : whole r = true) :
    Calls Tryd.prog 81 #[.float .f64 r] w fun e w' => e = .returned (.string ⟨(unsN r).toArray⟩) ∧ Below w.heap.size w w' := by
  have hM := spM_lt r
  have hE := spE_lt r h0 h
  have he := eql_eq r 0
  have hg := gtr_eq r 9218868437227405311
  have hc : infR = 9218868437227405312 := rfl
  rw [isN_small r (by omega), isN_small 0 (by decide), nkey_small r (by omega), nkey_small 0 (by decide), decide_eq_false (by omega)] at he
  rw [isN_small r (by omega), isN_small 9218868437227405311 (by decide), nkey_small r (by omega), nkey_small 9218868437227405311 (by decide), decide_eq_false (by omega)] at hg
  simp only [Bool.and_false] at he hg
  have hu : unsN r = Lib.itoa ((spM r * 2 ^ (spE r).toNat : Nat) : Int) := by unfold unsN; rw [if_neg h0, if_neg (by omega), if_pos hw]
  rw [hu]
  unfold whole at hw
  have hw := of_decide_eq_true hw
  have S := Lib.hid (split_any r h0 h w hL.tz64)
  have B := Lib.hid (Tryd.bits_Len64 (spM r : Int) w (by omega) (by omega))
  have B := B.out
  rw [Int.toNat_natCast] at B
  have B := Lib.hid B
  obtain ⟨e, hee⟩ := Int.eq_ofNat_of_zero_le hw.1
  rw [hee, Int.toNat_natCast]
  rw [hee] at hw hE S
  have hlt := len_lt (spM r) e (by omega) (by omega)
  have hwr : wrap64 (IntKind.u64.wrap ((spM r : Int) * 2 ^ e)) = ((spM r * 2 ^ e : Nat) : Int) := by
    have e1 : ((spM r : Int) * 2 ^ e) = ((spM r * 2 ^ e : Nat) : Int) := by push_cast; rfl
    rw [e1, wrap_u64_nat _ (by omega)]
    exact IntWalk.wrap64_in _ (by omega)
  have D := digits_any ((spM r * 2 ^ e : Nat) : Int) w (by omega) (by omega) hL.pow10
  have D : Calls Tryd.prog 53 #[.int .i64 (wrap64 (IntKind.u64.wrap ((spM r : Int) * 2 ^ e)))] w fun e' w' => e' = .returned (.string ⟨(Lib.itoa ((spM r * 2 ^ e : Nat) : Int)).toArray⟩) ∧ Below w.heap.size w w' := by
    rw [hwr]; exact D
  have D := Lib.hid D
  clear hwr
  have hl : (Lib.bitLen (spM r) : Int) + (e : Int) ≤ 53 := hw.2
  have he53 : e ≤ 53 := by omega
  have hl64 : Lib.bitLen (spM r) ≤ 53 := by omega
  generalize spM r = m at *
  generalize Lib.bitLen m = l at *
  clear h h0 hc hu hw hL hee hE
  go_enter Tryd.func81, Tryd.ntmps81
  go_wp2_with fail
  refine S.out.mono ?_
  rintro e w' ⟨rfl, rfl⟩
  go_wp2_with fail
  refine B.out.mono ?_
  rintro e w' ⟨rfl, rfl⟩
  go_wp2_with fail
  refine D.out.mono ?_
  rintro e w' ⟨rfl, hb⟩
  go_wp2_with fail
  go_ret
  exact ⟨rfl, hb⟩

theorem run_cat (a b : List UInt8) (ha : a.length ≤ 1000000) (hb : b.length ≤ 1000000) (w : World) : (Op.stringOp .add ⟨a.toArray⟩ ⟨b.toArray⟩).run Tryd.prog w = .ok (.string ⟨(a ++ b).toArray⟩) w := by
  rw [run_string_add_sum _ _ _ (by rw [size_mk, size_mk]; omega), ByteArray.mk_append_mk]

set_option maxRecDepth 100000 in
set_option maxHeartbeats 2000000 in
theorem unsigned_part (r : Nat) (h0 : r ≠ 0) (h : r < infR) (w : World) (hL : LaidR w) (hw : whole r = false) :
    Calls Tryd.prog 81 #[.float .f64 r] w fun e w' => e = .returned (.string ⟨(unsN r).toArray⟩) ∧ Below w.heap.size w w' := by
  have hM := spM_lt r
  have hE := spE_lt r h0 h
  have he := eql_eq r 0
  have hg := gtr_eq r 9218868437227405311
  have hc : infR = 9218868437227405312 := rfl
  rw [isN_small r (by omega), isN_small 0 (by decide), nkey_small r (by omega), nkey_small 0 (by decide), decide_eq_false (by omega)] at he
  rw [isN_small r (by omega), isN_small 9218868437227405311 (by decide), nkey_small r (by omega), nkey_small 9218868437227405311 (by decide), decide_eq_false (by omega)] at hg
  simp only [Bool.and_false] at he hg
  have hu : unsN r = Lib.itoa (spM r : Int) ++ 112 :: Lib.itoa (spE r) := by unfold unsN; rw [if_neg h0, if_neg (by omega), if_neg (by rw [hw]; decide)]
  rw [hu]
  unfold whole at hw
  have hw := of_decide_eq_false hw
  have S := Lib.hid (split_any r h0 h w hL.tz64)
  have B := Lib.hid (Tryd.bits_Len64 (spM r : Int) w (by omega) (by omega))
  have B := B.out
  rw [Int.toNat_natCast] at B
  have B := Lib.hid B
  have hl64 : Lib.bitLen (spM r) ≤ 53 := Lib.bitLen_le _ 53 (by omega) hM
  have D := digits_any (spM r : Int) w (by omega) (by omega) hL.pow10
  have E := fun W hb => Lib.hid (digits_any (spE r) W (by omega) (by omega) (hL.on hb).pow10)
  have hwr : wrap64 (spM r : Int) = (spM r : Int) := IntWalk.wrap64_in _ (by omega)
  have hl1 := itoa_len (spM r : Int) (by omega) (by omega)
  have hl2 := itoa_len (spE r) (by omega) (by omega)
  have hc1 := run_cat (Lib.itoa (spM r : Int)) [112] (by omega) (by decide)
  have hc2 := run_cat (Lib.itoa (spM r : Int) ++ [112]) (Lib.itoa (spE r)) (by rw [List.length_append]; simp only [List.length_cons, List.length_nil]; omega) (by omega)
  clear hl1 hl2
  generalize spM r = m at *
  generalize spE r = p at *
  generalize Lib.bitLen m = l at *
  have D := Lib.hid D
  clear h h0 hc hu hL
  by_cases hp : 0 ≤ p
  · have hgt : 53 < (l : Int) + p := by omega
    clear hw
    go_enter Tryd.func81, Tryd.ntmps81
    go_wp2_with fail
    refine S.out.mono ?_
    rintro e w' ⟨rfl, rfl⟩
    go_wp2_with fail
    refine B.out.mono ?_
    rintro e w' ⟨rfl, rfl⟩
    go_wp2_with fail
    refine D.out.mono ?_
    rintro e w1 ⟨rfl, hb⟩
    go_wp2_with fail
    refine (E w1 hb).out.mono ?_
    rintro e w2 ⟨rfl, hb2⟩
    go_wp2_with fail
    go_ret
    exact ⟨rfl, hb.trans (hb2.mono hb.size)⟩
  · clear hw
    go_enter Tryd.func81, Tryd.ntmps81
    go_wp2_with fail
    refine S.out.mono ?_
    rintro e w' ⟨rfl, rfl⟩
    go_wp2_with fail
    refine D.out.mono ?_
    rintro e w1 ⟨rfl, hb⟩
    go_wp2_with fail
    refine (E w1 hb).out.mono ?_
    rintro e w2 ⟨rfl, hb2⟩
    go_wp2_with fail
    go_ret
    exact ⟨rfl, hb.trans (hb2.mono hb.size)⟩

set_option maxRecDepth 100000 in
set_option maxHeartbeats 2000000 in
theorem unsigned_any (r : Nat) (h : r ≤ infR) (w : World) (hL : LaidR w) :
    Calls Tryd.prog 81 #[.float .f64 r] w fun e w' => e = .returned (.string ⟨(unsN r).toArray⟩) ∧ Below w.heap.size w w' := by
  have hc : infR = 9218868437227405312 := rfl
  by_cases h0 : r = 0
  · subst h0
    rw [unsN_zero]
    have he : (FloatKind.f64.format.order 0 0 == some .eq) = true := by decide
    clear hL hc h
    go_enter Tryd.func81, Tryd.ntmps81
    go_wp2_with fail
    go_ret
    exact ⟨rfl, Below.refl _ _⟩
  · by_cases hi : r = infR
    · have hu : unsN r = [105, 110, 102] := by unfold unsN; rw [if_neg h0, if_pos hi]
      rw [hu]
      subst hi
      have he : (FloatKind.f64.format.order infR 0 == some .eq) = false := by decide
      have hg : (FloatKind.f64.format.order infR 9218868437227405311 == some .gt) = true := by decide
      clear hL hc h hu h0
      go_enter Tryd.func81, Tryd.ntmps81
      go_wp2_with fail
      go_ret
      exact ⟨rfl, Below.refl _ _⟩
    · cases hw : whole r
      · exact unsigned_part r h0 (by omega) w hL hw
      · exact unsigned_whole r h0 (by omega) w hL hw

theorem unsN_len (r : Nat) (h : r ≤ infR) : (unsN r).length ≤ 100 := by
  unfold unsN
  split
  · decide
  · split
    · decide
    · rename_i h0 h1
      have hM := spM_lt r
      have hE := spE_lt r h0 (by omega)
      split
      · rename_i hw
        unfold whole at hw
        have hw := of_decide_eq_true hw
        have hlt := len_lt (spM r) (spE r).toNat (by omega) (by omega)
        have := itoa_len ((spM r * 2 ^ (spE r).toNat : Nat) : Int) (by omega) (by omega)
        omega
      · have hl1 := itoa_len (spM r : Int) (by omega) (by omega)
        have hl2 := itoa_len (spE r) (by omega) (by omega)
        simp only [List.length_append, List.length_cons]
        omega

set_option maxRecDepth 100000 in
set_option maxHeartbeats 2000000 in
theorem text_any (x : Nat) (hx : x < 18446744073709551616) (w : World) (hL : LaidR w) :
    Calls Tryd.prog 52 #[.float .f64 x] w fun e w' => e = .returned (.string ⟨(textN x).toArray⟩) ∧ Below w.heap.size w w' := by
  have C := Lib.hid (isnan_any x w)
  have S := Lib.hid (signed_any x hx w)
  unfold textN
  cases hn : isN x
  · have hr : rung x ≤ infR := by simpa [isN] using hn
    have U := Lib.hid (unsigned_any (rung x) hr w hL)
    have hng := neg_word x hx
    rcases word_parts x hx with ⟨h1, h2, h3⟩ | ⟨h1, h2, h3⟩
    · rw [h1, if_pos rfl] at hng
      have hng : Op.negFloat .f64 x = rung x := by omega
      have hrun : ∀ W : World, (Op.unary .neg (.float .f64 x)).run Tryd.prog W = .ok (.float .f64 (rung x)) W := fun W => by rw [run_neg_float, hng]
      rw [hn] at C
      rw [h1] at S ⊢
      simp only [Bool.false_eq_true, if_false, if_true]
      have hcat := run_cat [45] (unsN (rung x)) (by decide) (Nat.le_trans (unsN_len _ hr) (by decide))
      clear h1 h2 h3 hr hn hL hx hng
      go_enter Tryd.func52, Tryd.ntmps52
      go_wp2_with fail
      refine C.out.mono ?_
      rintro e w' ⟨rfl, rfl⟩
      go_wp2_with fail
      refine S.out.mono ?_
      rintro e w' ⟨rfl, rfl⟩
      go_wp2_with fail
      refine U.out.mono ?_
      rintro e w' ⟨rfl, hb⟩
      go_wp2_with fail
      go_ret
      exact ⟨rfl, hb⟩
    · rw [hn] at C
      rw [h1] at S ⊢
      simp only [Bool.false_eq_true, if_false]
      rw [← h2] at U ⊢
      clear h1 h2 h3 hr hn hL hx hng
      go_enter Tryd.func52, Tryd.ntmps52
      go_wp2_with fail
      refine C.out.mono ?_
      rintro e w' ⟨rfl, rfl⟩
      go_wp2_with fail
      refine S.out.mono ?_
      rintro e w' ⟨rfl, rfl⟩
      go_wp2_with fail
      refine U.out.mono ?_
      rintro e w' ⟨rfl, hb⟩
      go_wp2_with fail
      go_ret
      exact ⟨rfl, hb⟩
  · rw [hn] at C
    clear hL
    go_enter Tryd.func52, Tryd.ntmps52
    go_wp2_with fail
    refine C.out.mono ?_
    rintro e w' ⟨rfl, rfl⟩
    go_wp2_with fail
    go_ret
    exact ⟨rfl, Below.refl _ _⟩
end Go.Proofs.YthacdegaeokgnaaDoor

namespace Go.Proofs.YthacdegaeokgnaaDoor
open Go.RowKit Ieee

theorem read_norm (x : Nat) (h1 : 4503599627370496 ≤ rung x) (h : rung x < infR) :
    Ieee.double.read x = .number (isNeg x) (4503599627370496 + rung x % 4503599627370496) (-1074 + ((rung x / 4503599627370496 - 1 : Nat) : Int)) := by
  unfold Format.read
  rw [f64_sign, f64_binade, f64_inf, f64_least]
  show (if rung x < 4503599627370496 then _ else if rung x < infR then _ else _) = _
  rw [if_neg (by omega), if_pos h]
  rfl

theorem word_eq (s : Bool) (r : Nat) : Ieee.double.word s r = if s then 9223372036854775808 + r else r := by
  unfold Format.word
  rw [f64_sign]
theorem word_facts (s : Bool) (r : Nat) (h : r ≤ infR) : isNeg (Ieee.double.word s r) = s ∧ rung (Ieee.double.word s r) = r ∧ isN (Ieee.double.word s r) = false ∧ Ieee.double.word s r < 18446744073709551616 := by
  have hc : infR = 9218868437227405312 := rfl
  rw [word_eq]
  have hr : ∀ x : Nat, rung x = r → isN x = false := fun x hx => by unfold isN; rw [hx]; exact decide_eq_false (by omega)
  cases s
  · simp only [Bool.false_eq_true, if_false]
    obtain ⟨p1, p2⟩ := small_parts r (by omega)
    exact ⟨p1, p2, hr r p2, by omega⟩
  · simp only [if_true]
    have h1 : rung (9223372036854775808 + r) = r := by unfold rung; omega
    have h2 : isNeg (9223372036854775808 + r) = true := by unfold isNeg; rw [show (9223372036854775808 + r) / 9223372036854775808 % 2 = 1 from by omega]; rfl
    exact ⟨h2, h1, hr _ h1, by omega⟩
theorem word_key (s : Bool) (r : Nat) (h : r ≤ infR) : nkey (Ieee.double.word s r) = if s then -(r : Int) else (r : Int) := by
  obtain ⟨h1, h2, _⟩ := word_facts s r h
  unfold nkey
  rw [h1, h2]

/-- float64(a) of an int. -/
theorem flt_word (a : Int) (h0 : -9223372036854775808 ≤ a) (h1 : a ≤ 9223372036854775808) : floatOfInt .f64 a = Ieee.double.word (decide (a < 0)) (fltR a.natAbs) := by
  by_cases ha : a < 0
  · have e : a = -(a.natAbs : Int) := by omega
    rw [decide_eq_true ha, word_eq, if_pos rfl]
    conv => lhs; rw [e]
    exact floatOfInt_neg a.natAbs (by omega) (by omega)
  · have e : a = (a.natAbs : Int) := by omega
    rw [decide_eq_false ha, word_eq]
    conv => lhs; rw [e]
    exact floatOfInt_nat a.natAbs (by omega)

theorem fltR_top (m : Nat) (h : m ≤ 9223372036854775808) : fltR m ≤ infR := Nat.le_trans (fltR_le m h) (by decide)

theorem flt_read (a : Int) (h0 : -9223372036854775808 ≤ a) (h1 : a ≤ 9223372036854775808) (hn : a ≠ 0) :
    ∃ m k : Nat, Ieee.double.read (floatOfInt .f64 a) = .number (decide (a < 0)) m (-1074 + (k : Int)) ∧ 4503599627370496 ≤ m ∧ m < 9007199254740992 ∧ 1022 ≤ k ∧ k ≤ 1085 := by
  have hl := fltR_le a.natAbs (by omega)
  have hg := fltR_pos a.natAbs (by omega) (by omega)
  obtain ⟨f1, f2, f3, f4⟩ := word_facts (decide (a < 0)) (fltR a.natAbs) (fltR_top _ (by omega))
  have hc : infR = 9218868437227405312 := rfl
  rw [flt_word a h0 h1]
  have hr := read_norm (Ieee.double.word (decide (a < 0)) (fltR a.natAbs)) (by rw [f2]; omega) (by rw [f2]; omega)
  rw [f1, f2] at hr
  exact ⟨_, _, hr, by omega, by omega, by omega, by omega⟩
theorem flt_zero : floatOfInt .f64 0 = 0 := by decide +kernel
theorem read_zero : Ieee.double.read 0 = .number false 0 (-1074) := by decide +kernel

theorem log2_norm (m : Nat) (h0 : 4503599627370496 ≤ m) (h1 : m < 9007199254740992) : m.log2 = 52 := by
  rw [Nat.log2_eq_iff (by omega)]
  exact ⟨h0, h1⟩

theorem div_zero_zero : floatBits .quo .f64 (floatOfInt .f64 0) (floatOfInt .f64 0) = none := by
  rw [flt_zero]
  show Ieee.double.div 0 0 = none
  unfold Format.div
  rw [read_zero]
  rfl
/-- By nothing: an edge with the sign. -/
theorem div_zero (a : Int) (h0 : -9223372036854775808 ≤ a) (h1 : a ≤ 9223372036854775808) (hn : a ≠ 0) :
    floatBits .quo .f64 (floatOfInt .f64 a) (floatOfInt .f64 0) = some (Ieee.double.word (decide (a < 0)) infR) := by
  obtain ⟨m, k, e, g1, g2, g3, g4⟩ := flt_read a h0 h1 hn
  rw [flt_zero]
  show Ieee.double.div _ 0 = _
  unfold Format.div
  rw [e, read_zero]
  unfold Datum.quotient
  dsimp only
  rw [if_pos rfl, if_neg (by omega), Bool.xor_false]
  show some (Ieee.double.word _ Ieee.double.infRung) = _
  rw [f64_inf]
/-- Nothing by something. -/
theorem div_of_zero (b : Int) (h0 : -9223372036854775808 ≤ b) (h1 : b ≤ 9223372036854775808) (hn : b ≠ 0) :
    floatBits .quo .f64 (floatOfInt .f64 0) (floatOfInt .f64 b) = some (Ieee.double.word (decide (b < 0)) 0) := by
  obtain ⟨m, k, e, g1, g2, g3, g4⟩ := flt_read b h0 h1 hn
  rw [flt_zero]
  show Ieee.double.div 0 _ = _
  unfold Format.div
  rw [e, read_zero]
  unfold Datum.quotient
  dsimp only
  rw [if_neg (by omega)]
  rw [show (0 : Nat) <<< (Ieee.double.fractionBits + 2 + m.log2 - Nat.log2 0) = 0 from Nat.zero_shiftLeft _, Nat.zero_div, Nat.zero_mod]
  show some (Ieee.double.nearest (false ^^ decide (b < 0)) 0 _) = _
  unfold Format.nearest
  rw [if_pos rfl, Bool.false_xor]

/-- Something by something: no nan, not nothing, the sign as it must be. -/
theorem div_some (a b : Int) (ha0 : -9223372036854775808 ≤ a) (ha1 : a ≤ 9223372036854775808) (ha : a ≠ 0) (hb0 : -9223372036854775808 ≤ b) (hb1 : b ≤ 9223372036854775808) (hb : b ≠ 0) :
    ∃ r, floatBits .quo .f64 (floatOfInt .f64 a) (floatOfInt .f64 b) = some (Ieee.double.word (decide (a < 0) ^^ decide (b < 0)) r) ∧ 0 < r ∧ r ≤ infR := by
  obtain ⟨m, k, e, g1, g2, g3, g4⟩ := flt_read a ha0 ha1 ha
  obtain ⟨n, l, e', k1, k2, k3, k4⟩ := flt_read b hb0 hb1 hb
  have hc : infR = 9218868437227405312 := rfl
  have hq : 2 ^ 53 ≤ m * 2 ^ 54 / n := by
    refine (Nat.le_div_iff_mul_le (by omega)).2 ?_
    have h1 : 2 ^ 53 * n ≤ 2 ^ 53 * 9007199254740992 := Nat.mul_le_mul_left _ (Nat.le_of_lt k2)
    have h2 : 4503599627370496 * 2 ^ 54 ≤ m * 2 ^ 54 := Nat.mul_le_mul_right _ g1
    have h3 : (2 : Nat) ^ 53 * 9007199254740992 = 4503599627370496 * 2 ^ 54 := by decide
    rw [h3] at h1
    exact Nat.le_trans h1 h2
  obtain ⟨q, hqe⟩ : ∃ q, q = 2 * (m * 2 ^ 54 / n) + (m * 2 ^ 54 % n != 0).toNat := ⟨_, rfl⟩
  have hq54 : 2 ^ 54 ≤ q := by
    rw [hqe]
    generalize m * 2 ^ 54 / n = d at hq ⊢
    omega
  obtain ⟨p, hp⟩ : ∃ p : Int, p = -1074 + (k : Int) - (-1074 + (l : Int)) - ((54 : Nat) : Int) - 1 := ⟨_, rfl⟩
  have hp2 : -118 ≤ p := by clear hqe hq hq54; omega
  have hq0 : q ≠ 0 := by clear hqe hq hp; omega
  refine ⟨min (rungOf q p) infR, ?_, ?_, Nat.min_le_right _ _⟩
  · clear hq hq54
    show Ieee.double.div _ _ = _
    unfold Format.div
    rw [e, e']
    unfold Datum.quotient
    dsimp only
    rw [if_neg (by omega), log2_norm m g1 g2, log2_norm n k1 k2, show Ieee.double.fractionBits + 2 + 52 - 52 = 54 from by decide, Nat.shiftLeft_eq, ← hqe, ← hp]
    show some (Ieee.double.nearest _ q p) = _
    rw [nearest_eq _ _ _ hq0]
  · clear hqe hq hp e e' hc
    have hlog : 54 ≤ q.log2 := by
      rcases Nat.lt_or_ge q.log2 54 with h1 | h1
      · have h2 : q < 2 ^ (q.log2 + 1) := Nat.lt_log2_self
        have : 2 ^ (q.log2 + 1) ≤ 2 ^ 54 := Nat.pow_le_pow_right (by decide) (by omega)
        omega
      · exact h1
    have hpos : 0 < rungOf q p := by
      unfold rungOf lastP
      have : 1 ≤ (max (p + (q.log2 : Int) - 52) (-1074) + 1074).toNat := by clear hq54 hq0; omega
      generalize (max (p + (q.log2 : Int) - 52) (-1074) + 1074).toNat = z at *
      generalize keptN q p (max (p + (q.log2 : Int) - 52) (-1074)) = y
      omega
    exact Nat.lt_min.2 ⟨hpos, by decide⟩
/-- By itself: one. -/
theorem div_self' (a : Int) (ha0 : -9223372036854775808 ≤ a) (ha1 : a ≤ 9223372036854775808) (ha : a ≠ 0) :
    floatBits .quo .f64 (floatOfInt .f64 a) (floatOfInt .f64 a) = some 4607182418800017408 := by
  obtain ⟨m, k, e, g1, g2, g3, g4⟩ := flt_read a ha0 ha1 ha
  show Ieee.double.div _ _ = _
  unfold Format.div
  rw [e]
  unfold Datum.quotient
  dsimp only
  rw [if_neg (by omega), log2_norm m g1 g2, show Ieee.double.fractionBits + 2 + 52 - 52 = 54 from by decide, Nat.shiftLeft_eq, Nat.mul_div_cancel_left _ (by omega), Nat.mul_mod_right,
    show -1074 + (k : Int) - (-1074 + (k : Int)) - ((54 : Nat) : Int) - 1 = -55 from by omega, Bool.xor_self]
  decide +kernel
end Go.Proofs.YthacdegaeokgnaaDoor

namespace Go.Proofs.YthacdegaeokgnaaDoor
open Go.RowKit

/-- The NaN that the model's tape gives where a quotient is none. -/
def tapeNan (w : World) (x y : Nat) : Nat := (Question.nanBits .f64 x y).cut (w.tape w.drawn (.nanBits .f64 x y))
theorem tapeNan_is (w : World) (x y : Nat) : isN (tapeNan w x y) = true ∧ tapeNan w x y < 18446744073709551616 := by
  have e : tapeNan w x y = (w.tape w.drawn (.nanBits .f64 x y) % 2) * 2 ^ 63 + 0x7ff0000000000000 + 1 + (w.tape w.drawn (.nanBits .f64 x y) / 2) % (2 ^ 52 - 1) := rfl
  rw [e]
  generalize w.tape w.drawn (.nanBits .f64 x y) = t
  have h1 : t / 2 % (2 ^ 52 - 1) < 2 ^ 52 - 1 := Nat.mod_lt _ (by decide)
  generalize t / 2 % (2 ^ 52 - 1) = u at *
  unfold isN rung infR
  refine ⟨decide_eq_true ?_, ?_⟩ <;> omega
theorem run_quo_nan (x y : Nat) (h : floatBits .quo .f64 x y = none) (w : World) : (binOp .quo 22 (.float .f64 x) (.float .f64 y)).run Tryd.prog w = .ok (.float .f64 (tapeNan w x y)) w.drew := by
  have h : FloatKind.f64.format.div x y = none := h
  simp [binOp, Op.floatArith, h, Question.forced]
  rfl

def RatP (w : World) (g : Option Nat) (e : Ending) (w' : World) : Prop :=
  match g with
  | some r => e = .returned (.float .f64 r) ∧ w = w'
  | none => ∃ z, e = .returned (.float .f64 z) ∧ Hid (isN z = true) ∧ z < 18446744073709551616 ∧ Below w.heap.size w w'

end Go.Proofs.YthacdegaeokgnaaDoor

namespace Go.Proofs.YthacdegaeokgnaaDoor
open Go.RowKit

/-- What four of a sum's eight steps make of four bits. -/
def halvesL : List Int := [0, 274646895, 549293790, 820201905, 1098587580, 1361435347, 1640403810, 1905808397, 2197175160, 2460548119, 2722870694, 2987750089, 3280807620, 3553878443, 3811616794, 4084100981]

def halfN (i : Nat) : Nat := (halvesL.getD i 0).toNat
theorem halfN_lt : ∀ i < 16, halvesL.getD i 0 = (halfN i : Int) ∧ halfN i < 4294967296 := by decide

/-- Four bits of a sum. -/
def nib (b : Nat) : Nat := (b / 16) ^^^ halfN (b % 16)
theorem nib_lt (b : Nat) (hb : b < 4294967296) : nib b < 4294967296 := by
  have h1 := (halfN_lt (b % 16) (by omega)).2
  exact Nat.xor_lt_two_pow (n := 32) (by omega) (by omega)

/-- A sum goes on by a byte. -/
def sumStep (a : Nat) (c : UInt8) : Nat := nib (nib (a ^^^ c.toNat))
theorem sumStep_lt (a : Nat) (c : UInt8) (ha : a < 4294967296) : sumStep a c < 4294967296 :=
  nib_lt _ (nib_lt _ (Nat.xor_lt_two_pow (n := 32) ha (by have := UInt8.toNat_lt c; omega)))

def sumL (l : List UInt8) : Nat := l.foldl sumStep 4294967295
theorem foldl_sum_lt (l : List UInt8) (a : Nat) (ha : a < 4294967296) : l.foldl sumStep a < 4294967296 := by
  induction l generalizing a with
  | nil => exact ha
  | cons c r ih => exact ih _ (sumStep_lt a c ha)
theorem sumL_lt (l : List UInt8) : sumL l < 4294967296 := foldl_sum_lt l _ (by decide)

theorem sum_snoc (s : ByteArray) (k : Nat) (h : k < s.size) : sumL (s.data.toList.take (k + 1)) = sumStep (sumL (s.data.toList.take k)) s[k] := by
  unfold sumL
  rw [List.take_succ_eq_append_getElem (by simpa using h), List.foldl_append]
  rfl

theorem nib_walk (b : Nat) (hb : b < 4294967296) : bits .and .u32 (b : Int) 15 = ((b % 16 : Nat) : Int) ∧ bits .xor .u32 ((b : Int) / 16) (halvesL.getD (b % 16) 0) = (nib b : Int) := by
  have h1 := halfN_lt (b % 16) (by omega)
  constructor
  · have := u32_and_nat b 15 hb (by decide)
    rw [show b &&& 15 = b % 16 from Nat.and_two_pow_sub_one_eq_mod b 4] at this
    exact this
  · rw [h1.1, show (b : Int) / 16 = ((b / 16 : Nat) : Int) from by omega, u32_xor_nat _ _ (by omega) h1.2]
    rfl

/-- The check sum of some bytes. -/
def crc (l : List UInt8) : Nat := 4294967295 - sumL l

end Go.Proofs.YthacdegaeokgnaaDoor

namespace Go.Proofs.YthacdegaeokgnaaDoor
open Go.RowKit

/-- The tables that the laws' first call reads. -/
structure Laid (w : World) : Prop where
  halves : Lib.TabIs Tryd.prog w "bedrock/raw.halves" .u32 halvesL
  pow10 : Lib.TabIs Tryd.prog w "internal/strconv.uint64pow10" .u64 Lib.pow10Tab

theorem crc_9 : crc [49, 50, 51, 52, 53, 54, 55, 56, 57] = 3808858755 := by decide +kernel
theorem itoa_50 : Lib.itoa (-50) = [45, 53, 48] := by decide +kernel
theorem gv_300 : gv [172, 2, 120] 0 0 = .ok 300 2 := by rfl
theorem be_258 : be 258 2 = [1, 2] := by decide +kernel

end Go.Proofs.YthacdegaeokgnaaDoor

namespace Go.Proofs.YthacdegaeokgnaaDoor
open Go.RowKit

theorem gv_begin (l : List UInt8) : ∀ i v, (∀ c ∈ l, 128 ≤ c.toNat) → i + l.length < 9 → gv l i v = .err 3 := by
  induction l with
  | nil => intro i v _ h; exact gv_short _ _ _ (by simpa using h) rfl
  | cons c r ih =>
    intro i v hc hl
    rw [List.length_cons] at hl
    have hc' := hc c (by simp)
    rw [gv, if_neg (by omega), if_pos hc']
    exact ih _ _ (fun d hd => hc d (by simp [hd])) (by omega)

theorem pv_high (v : Nat) : ∀ i < (pv v).length, ∀ c ∈ (pv v).take i, 128 ≤ c.toNat := by
  induction v using Nat.strongRecOn with
  | _ v ih =>
    intro i hi c hc
    by_cases h : v < 128
    · rw [pv_last v h] at hi hc
      obtain rfl : i = 0 := by simpa using hi
      simp at hc
    · rw [pv_more v (by omega)] at hi hc
      match i, hc with
      | 0, hc => simp at hc
      | i + 1, hc =>
        rw [List.take_succ_cons, List.mem_cons] at hc
        rcases hc with rfl | hc
        · rw [UInt8.toNat_ofNat']; omega
        · exact ih (v / 128) (by omega) i (by simpa using hi) c hc

theorem pv_len (k v : Nat) (h : v < 2 ^ (7 * k)) (hk : 1 ≤ k) : (pv v).length ≤ k := by
  induction k generalizing v with
  | zero => omega
  | succ k ih =>
    by_cases hv : v < 128
    · rw [pv_last v hv]; simp
    · rw [pv_more v (by omega), List.length_cons]
      rcases Nat.eq_zero_or_pos k with h0 | h0
      · subst h0; simp at h; omega
      · have h2 : 2 ^ (7 * (k + 1)) = 128 * 2 ^ (7 * k) := by rw [Nat.mul_add, Nat.pow_add]; omega
        have := ih (v / 128) (by rw [Nat.div_lt_iff_lt_mul (by decide)]; omega) h0
        omega
theorem pv_pos (v : Nat) : 1 ≤ (pv v).length := by
  by_cases hv : v < 128
  · rw [pv_last v hv]; simp
  · rw [pv_more v (by omega)]; simp
theorem pv_len9 (v : Nat) (h : v < 9223372036854775808) : (pv v).length ≤ 9 := pv_len 9 v (by omega) (by decide)

theorem gv_pv (r : List UInt8) (u : Nat) : ∀ i a, i + (pv u).length ≤ 9 → (0 < i → 0 < u) → gv (pv u ++ r) i a = .ok (a + u * 2 ^ (7 * i)) (i + (pv u).length) := by
  induction u using Nat.strongRecOn with
  | _ u ih =>
    intro i a hi h0
    by_cases h : u < 128
    · rw [pv_last u h] at hi ⊢
      rw [List.length_singleton] at hi ⊢
      have e : (UInt8.ofNat u).toNat = u := by rw [UInt8.toNat_ofNat']; omega
      show gv (UInt8.ofNat u :: r) i a = _
      rw [gv, e, if_neg (by omega), if_neg (by omega), if_neg (by omega), Nat.mod_eq_of_lt h]
    · have hp := pv_more u (by omega)
      rw [hp] at hi ⊢
      rw [List.length_cons] at hi ⊢
      have hq := pv_pos (u / 128)
      have e : (UInt8.ofNat (u % 128 + 128)).toNat = u % 128 + 128 := by rw [UInt8.toNat_ofNat']; omega
      rw [List.cons_append, gv, e, if_neg (by omega), if_pos (by omega), ih (u / 128) (by omega) (i + 1) _ (by omega) (fun _ => by omega)]
      have e2 : (u % 128 + 128) % 128 = u % 128 := by omega
      have e3 : 2 ^ (7 * (i + 1)) = 128 * 2 ^ (7 * i) := by rw [Nat.mul_add, Nat.pow_add]; omega
      have e4 : u % 128 * 2 ^ (7 * i) + u / 128 * (128 * 2 ^ (7 * i)) = u * 2 ^ (7 * i) := by
        rw [← Nat.mul_assoc, ← Nat.add_mul]
        congr 1
        omega
      rw [e2, e3]
      congr 1
      · omega
      · omega



end Go.Proofs.YthacdegaeokgnaaDoor

namespace Go.Proofs.YthacdegaeokgnaaDoor
open Go.RowKit

set_option maxRecDepth 100000 in
set_option maxHeartbeats 1000000 in
theorem rget_bad (s : ByteArray) (w : World) (h : s.size < 1 ∨ 7 < s.size) :
    Calls Tryd.prog 70 #[.string s] w fun e w' => e = .returned (.tuple #[.int .i64 0, .int .i64 1]) ∧ w = w' := by
  by_cases h1 : s.size < 1
  · have h2 : decide (7 < (s.size : Int)) = false := decide_eq_false (by omega)
    clear h
    go_enter Tryd.func70, Tryd.ntmps70
    go_wp2
    go_ret2
    exact ⟨rfl, rfl⟩
  · have h2 : 7 < s.size := by omega
    clear h
    go_enter Tryd.func70, Tryd.ntmps70
    go_wp2
    go_ret2
    exact ⟨rfl, rfl⟩

set_option maxRecDepth 100000 in
set_option maxHeartbeats 1000000 in
theorem rget_ok (s : ByteArray) (w : World) (h1 : 1 ≤ s.size) (h7 : s.size ≤ 7) :
    Calls Tryd.prog 70 #[.string s] w fun e w' => e = .returned (.tuple #[.int .i64 (getL s.data.toList : Int), .int .i64 0]) ∧ w = w' := by
  go_enter Tryd.func70, Tryd.ntmps70
  go_wp2
  go_loop [4, 5] (fun v i => ∃ k a : Nat, k ≤ s.size ∧ i = .int .i64 (k : Int) ∧ v = .int .i64 (a : Int) ∧ a < 2 ^ (8 * k) ∧ Hid (a = getL (s.data.toList.take k))) (fun _ i => s.size - (intOf i).toNat)
  case atStart => exact ⟨0, 0, by omega, rfl, rfl, by decide, rfl⟩
  case round =>
    obtain ⟨k, a, hk, rfl, rfl, ha, Ha⟩ := hrel
    by_cases hl : k < s.size
    · have hb8 := UInt8.toNat_lt s[k]
      have h56 : (2 : Nat) ^ (8 * k) ≤ 2 ^ 48 := Nat.pow_le_pow_right (by decide) (by omega)
      have ha48 : a < 281474976710656 := by omega
      have hlt : a * 256 + s[k].toNat < 2 ^ (8 * (k + 1)) := by
        have : 2 ^ (8 * (k + 1)) = 2 ^ (8 * k) * 256 := by rw [Nat.mul_add, Nat.pow_add]
        omega
      have hsn := getL_snoc s k hl
      rw [← Ha.out] at hsn
      have Hsn := Lib.hid hsn
      have Hlt := Lib.hid hlt
      clear hsn hlt ha h56
      go_wp2
      go_round
      case rel => exact ⟨k + 1, a * 256 + s[k].toNat, by omega, by go_num, by go_num, Hlt.out, Hsn.out.symm⟩
      case measure => simp [intOf]; omega
    · obtain rfl : k = s.size := by omega
      have hae : a = getL s.data.toList := by
        have := Ha.out
        rwa [List.take_of_length_le (by simp)] at this
      have Hae := Lib.hid hae
      clear hae
      go_wp2
      go_ret2
      exact ⟨by rw [← Hae.out]; rfl, rfl⟩

theorem be_bytes (v n j : Nat) (h : j < n) : (be v n).drop j = UInt8.ofNat (v / 2 ^ (8 * (n - 1 - j)) % 256) :: (be v n).drop (j + 1) := by
  have hl : j < (be v n).length := by rw [be_length]; exact h
  have hg := be_get v n j h
  rw [List.getElem?_eq_getElem hl] at hg
  injection hg with hg
  rw [List.drop_eq_getElem_cons hl, hg]

theorem be_back (v n j k : Nat) (h : j + 1 + k = n) (x : Int) (hx : x = ((v / 2 ^ (8 * k) : Nat) : Int) % 256) :
    ((List.replicate (j + 1) (0 : UInt8) ++ (be v n).drop (j + 1)).map b8).set j (.int .u8 x) = (List.replicate j (0 : UInt8) ++ (be v n).drop j).map b8 := by
  have hb : Value.int .u8 x = b8 (UInt8.ofNat (v / 2 ^ (8 * k) % 256)) := by
    unfold b8
    rw [← u8_of _ (by omega), hx]
    congr 1
  rw [be_bytes v n j (by omega), show n - 1 - j = k from by omega, hb, ← List.map_set]
  congr 1
  rw [List.replicate_succ', List.append_assoc, List.set_append_right _ _ (by simp)]
  simp

theorem putIs_of (v n _k : Nat) (h1 : 1 ≤ n) (h7 : n ≤ 7) (s : ByteArray) (hs : s = ⟨(be v n).toArray⟩) (h : v / 2 ^ (8 * n) = 0) : PutIs v n s 0 := by
  refine Or.inl ⟨rfl, by omega, by omega, by omega, ?_, ?_⟩
  · have h2 : v < 2 ^ (8 * n) := by
      rcases Nat.lt_or_ge v (2 ^ (8 * n)) with h3 | h3
      · exact h3
      · have := (Nat.le_div_iff_mul_le (Nat.two_pow_pos (8 * n))).2 (show 1 * 2 ^ (8 * n) ≤ v by omega)
        omega
    rw [Int.toNat_natCast]
    exact_mod_cast h2
  · rw [Int.toNat_natCast, Int.toNat_natCast]; exact hs

theorem putIs_not (v n : Nat) (h : 0 < v / 2 ^ (8 * n)) : PutIs v n ByteArray.empty 1 := by
  refine Or.inr ⟨rfl, rfl, Or.inr (Or.inr (Or.inr ?_))⟩
  rw [Int.toNat_natCast]
  have h2 : 2 ^ (8 * n) ≤ v := by
    have := (Nat.le_div_iff_mul_le (Nat.two_pow_pos (8 * n))).1 h
    omega
  exact_mod_cast h2

theorem putIs_one {v n : Int} {s t : ByteArray} {e f : Int} (h : PutIs v n s e) (k : PutIs v n t f) : s = t ∧ e = f := by
  rcases h with ⟨h0, h1, h2, h3, h4, h5⟩ | ⟨h0, h1, h2⟩
  · rcases k with ⟨k0, k1, k2, k3, k4, k5⟩ | ⟨k0, k1, k2⟩
    · exact ⟨h5.trans k5.symm, h0.trans k0.symm⟩
    · omega
  · rcases k with ⟨k0, k1, k2, k3, k4, k5⟩ | ⟨k0, k1, k2⟩
    · omega
    · exact ⟨h1.trans k1.symm, h0.trans k0.symm⟩

set_option maxRecDepth 100000 in
set_option maxHeartbeats 1000000 in
theorem rput_bad (v n : Int) (w : World) (h : n < 1 ∨ 7 < n ∨ v < 0) :
    Calls Tryd.prog 65 #[.int .i64 v, .int .i64 n] w fun e w' => e = .returned (.tuple #[.string ByteArray.empty, .int .i64 1]) ∧ w = w' := by
  by_cases h1 : n < 1
  · clear h
    go_enter Tryd.func65, Tryd.ntmps65
    go_wp2
    go_ret2
    exact ⟨rfl, rfl⟩
  by_cases h2 : 7 < n
  · clear h
    go_enter Tryd.func65, Tryd.ntmps65
    go_wp2
    go_ret2
    exact ⟨rfl, rfl⟩
  have h3 : v < 0 := by omega
  clear h
  go_enter Tryd.func65, Tryd.ntmps65
  go_wp2
  go_ret2
  exact ⟨rfl, rfl⟩

set_option maxRecDepth 100000 in
set_option maxHeartbeats 2000000 in
theorem rput_nat (v n : Nat) (w : World) (h1 : 1 ≤ n) (h7 : n ≤ 7) (hv : v < 9223372036854775808) :
    Calls Tryd.prog 65 #[.int .i64 (v : Int), .int .i64 (n : Int)] w fun e w' => ∃ (s : ByteArray) (er : Int), e = .returned (.tuple #[.string s, .int .i64 er]) ∧ Hid (PutIs v n s er) ∧ Below w.heap.size w w' := by
  obtain ⟨i0, hi0, hz0, hz1, hz2⟩ := info_parts u8info
  go_enter Tryd.func65, Tryd.ntmps65
  go_wp2_with (at_make; refine wpList_make_full _ rfl (.tmp 18) (.tmp 18) 51 rfl w.heap.size 5 i0 (.int .u8 0) 1 Tryd.underlying51 hi0 hz0 hz1 .i64 .i64 _ _ n rfl rfl rfl rfl ?b2 ?b3 ?b4 ?_)
  case b2 => rw [hz2]; omega
  case b3 => unfold maxLen; omega
  case b4 => exact Nat.le_refl _
  intro w1 hown hgr
  have hb1 : Below w.heap.size w w1 := (Below.refl _ _).grown hgr (Nat.le_refl _) (by simp)
  rw [show (madeCells #[Value.int IntKind.u8 0] n).toList = (List.replicate n (0 : UInt8)).map b8 from (toList_madeCells_one _ _).trans (by simp [b8])] at hown
  have Hown := Lib.hid hown
  clear hown hgr
  go_wp2
  go_loopw [0, 7] (fun x i wr => ∃ j k y : Nat, j + k = n ∧ i = .int .i64 ((j : Int) - 1) ∧ x = .int .i64 (y : Int) ∧ y ≤ v ∧ Hid (y = v / 2 ^ (8 * k)) ∧ wr.ownsRow w.heap.size 5 1 (.slice (some ⟨w.heap.size, 0, none⟩) n n) n ((List.replicate j 0 ++ (be v n).drop j).map b8) ∧ Below w.heap.size w wr)
    (fun _ i _ => (intOf i + 1).toNat)
  case atStart => exact ⟨n, 0, v, by omega, rfl, rfl, by omega, by show v = _; simp, by simpa [List.drop_of_length_le (Nat.le_of_eq (be_length v n))] using Hown.out, hb1⟩
  case round =>
    obtain ⟨j, k, y, hjk, hi, rfl, hy, Hy, hown, hbe⟩ := hrel
    cases j with
    | succ j =>
      rw [show (((j + 1 : Nat) : Int) - 1) = (j : Int) from by omega] at hi
      subst hi
      have hln : (List.replicate (j + 1) (0 : UInt8) ++ (be v n).drop (j + 1)).length = n := by simp [be]; omega
      have hc := hown.cellAt j (by omega)
      have hf := hown.frozenAt j
      obtain ⟨x, hx⟩ : ∃ x, ((List.replicate (j + 1) (0 : UInt8) ++ (be v n).drop (j + 1)).map b8)[j]? = some x := ⟨_, List.getElem?_eq_getElem (by rw [List.length_map, hln]; omega)⟩
      rw [hx] at hc
      have Hown' := Lib.hid hown
      have hjn : j < n := by omega
      clear hown hx hln
      go_wp2
      go_roundw
      case rel =>
        have hst := World.ownsRow.stored Hown'.out j (.int .u8 ((y : Int) % 256))
        rw [be_back v n j k (by omega) ((y : Int) % 256) (by rw [Hy.out])] at hst
        refine ⟨j, k + 1, y / 256, by omega, by go_num, by go_num, by omega, ?_, hst.1, below_setCell hbe (Nat.le_refl _) _⟩
        show _ = _
        rw [Hy.out, Nat.div_div_eq_div_mul, Nat.mul_add, Nat.pow_add]
      case measure => simp [intOf]
    | zero =>
      subst hi
      obtain rfl : k = n := by omega
      by_cases hpos : 0 < y
      · go_wp2
        go_ret2
        refine ⟨_, _, rfl, ?_, hbe⟩
        exact Lib.hid (putIs_not v k (by rw [← Hy.out]; exact hpos))
      · have hby : Byt wr w.heap.size 5 (.slice (some ⟨w.heap.size, 0, none⟩) k k) (be v k) := by
          unfold Byt
          rw [be_length]
          simpa using hown
        have hcv := hby.string (src := 51) (dst := 9) Tryd.underlying51 Tryd.underlying5 Tryd.underlying9
        clear hown hby
        go_wp2
        go_ret2
        exact ⟨_, _, rfl, Lib.hid (putIs_of v k 0 h1 h7 _ rfl (by rw [← Hy.out]; omega)), hbe⟩

theorem rput_any (v n : Int) (w : World) (hv : v < 9223372036854775808) :
    Calls Tryd.prog 65 #[.int .i64 v, .int .i64 n] w fun e w' => ∃ (s : ByteArray) (er : Int), e = .returned (.tuple #[.string s, .int .i64 er]) ∧ Hid (PutIs v n s er) ∧ Below w.heap.size w w' := by
  by_cases h : n < 1 ∨ 7 < n ∨ v < 0
  · refine (rput_bad v n w h).mono ?_
    rintro e w' ⟨rfl, rfl⟩
    exact ⟨_, _, rfl, Lib.hid (Or.inr ⟨rfl, rfl, by omega⟩), Below.refl _ _⟩
  · obtain ⟨n, rfl⟩ := Int.eq_ofNat_of_zero_le (show 0 ≤ n by omega)
    obtain ⟨v, rfl⟩ := Int.eq_ofNat_of_zero_le (show 0 ≤ v by omega)
    exact rput_nat v n w (by omega) (by omega) (by omega)
end Go.Proofs.YthacdegaeokgnaaDoor

namespace Go.Proofs.YthacdegaeokgnaaDoor
open Go.RowKit

set_option maxRecDepth 100000 in
set_option maxHeartbeats 1000000 in
theorem qkey_any (x : Nat) (hx : x < 18446744073709551616) (w : World) :
    Calls Tryd.prog 64 #[.float .f64 x] w fun e w' => e = .returned (.tuple #[.int .i64 ((rankN x / 4294967296 : Nat) : Int), .int .i64 ((rankN x % 4294967296 : Nat) : Int)]) ∧ w = w' := by
  have C := Lib.hid (qisnan_any x w)
  have hfb := run_float64bits x
  cases hn : isN x
  · rw [hn] at C
    rcases word_parts x hx with ⟨h1, h2, h3⟩ | ⟨h1, h2, h3⟩
    · have hr : rankN x = 18446744073709551615 - x := by unfold rankN; rw [hn, h1]; rfl
      have r1 : ((rankN x / 4294967296 : Nat) : Int) = 4294967295 - (x : Int) / 4294967296 := by rw [hr]; omega
      have r2 : ((rankN x % 4294967296 : Nat) : Int) = 4294967295 - (x : Int) % 4294967296 := by rw [hr]; omega
      rw [r1, r2]
      have hd : decide ((2147483648 : Int) ≤ (x : Int) / 4294967296) = true := decide_eq_true (by omega)
      have hq : (x : Int) / 4294967296 ≤ 4294967295 := by omega
      have hq0 : 0 ≤ (x : Int) / 4294967296 := by omega
      clear hr r1 r2 h1 h2 h3 hn
      go_enter Tryd.func64, Tryd.ntmps64
      go_wp2_with fail
      refine C.out.mono ?_
      rintro e w' ⟨rfl, rfl⟩
      go_wp2_with fail
      go_ret2
      exact ⟨rfl, rfl⟩
    · have hr : rankN x = x + 9223372036854775808 := by unfold rankN; rw [hn, h1]; rfl
      have r1 : ((rankN x / 4294967296 : Nat) : Int) = (x : Int) / 4294967296 + 2147483648 := by rw [hr]; omega
      have r2 : ((rankN x % 4294967296 : Nat) : Int) = (x : Int) % 4294967296 := by rw [hr]; omega
      rw [r1, r2]
      have hd : decide ((2147483648 : Int) ≤ (x : Int) / 4294967296) = false := decide_eq_false (by omega)
      have hq : (x : Int) / 4294967296 ≤ 4294967295 := by omega
      have hq0 : 0 ≤ (x : Int) / 4294967296 := by omega
      clear hr r1 r2 h1 h2 h3 hn
      go_enter Tryd.func64, Tryd.ntmps64
      go_wp2_with fail
      refine C.out.mono ?_
      rintro e w' ⟨rfl, rfl⟩
      go_wp2_with fail
      go_ret2
      exact ⟨rfl, rfl⟩
  · rw [hn] at C
    rw [rank_nan x hn]
    go_enter Tryd.func64, Tryd.ntmps64
    go_wp2_with fail
    refine C.out.mono ?_
    rintro e w' ⟨rfl, rfl⟩
    go_wp2_with fail
    go_ret2
    exact ⟨rfl, rfl⟩

set_option maxRecDepth 100000 in
set_option maxHeartbeats 2000000 in
theorem qcompare_any (x y : Nat) (hx : x < 18446744073709551616) (hy : y < 18446744073709551616) (w : World) :
    Calls Tryd.prog 74 #[.float .f64 x, .float .f64 y] w fun e w' => e = .returned (.int .i64 (cmpN x y)) ∧ w = w' := by
  have C := fun W => Lib.hid (qkey_any x hx W)
  have D := fun W => Lib.hid (qkey_any y hy W)
  have hc : (((rankN x / 4294967296 : Nat) : Int) < ((rankN y / 4294967296 : Nat) : Int) ∧ cmpN x y = -1) ∨
      (((rankN x / 4294967296 : Nat) : Int) = ((rankN y / 4294967296 : Nat) : Int) ∧ ((rankN x % 4294967296 : Nat) : Int) < ((rankN y % 4294967296 : Nat) : Int) ∧ cmpN x y = -1) ∨
      (((rankN x / 4294967296 : Nat) : Int) = ((rankN y / 4294967296 : Nat) : Int) ∧ ((rankN x % 4294967296 : Nat) : Int) = ((rankN y % 4294967296 : Nat) : Int) ∧ cmpN x y = 0) ∨
      (((rankN x / 4294967296 : Nat) : Int) = ((rankN y / 4294967296 : Nat) : Int) ∧ ((rankN y % 4294967296 : Nat) : Int) < ((rankN x % 4294967296 : Nat) : Int) ∧ cmpN x y = 1) ∨
      (((rankN y / 4294967296 : Nat) : Int) < ((rankN x / 4294967296 : Nat) : Int) ∧ cmpN x y = 1) := by
    rcases Nat.lt_trichotomy (rankN x) (rankN y) with h | h | h
    · rw [cmpN_lt h]; omega
    · rw [cmpN_eq h]; omega
    · rw [cmpN_gt h]; omega
  generalize cmpN x y = c at *
  generalize ((rankN x / 4294967296 : Nat) : Int) = a at *
  generalize ((rankN x % 4294967296 : Nat) : Int) = b at *
  generalize ((rankN y / 4294967296 : Nat) : Int) = p at *
  generalize ((rankN y % 4294967296 : Nat) : Int) = q at *
  clear hx hy
  rcases hc with ⟨h1, rfl⟩ | ⟨rfl, h2, rfl⟩ | ⟨rfl, rfl, rfl⟩ | ⟨rfl, h2, rfl⟩ | ⟨h1, rfl⟩
  all_goals
    go_enter Tryd.func74, Tryd.ntmps74
    go_wp2_with fail
    refine (C _).out.mono ?_
    rintro e w' ⟨rfl, rfl⟩
    go_wp2_with fail
    refine (D _).out.mono ?_
    rintro e w' ⟨rfl, rfl⟩
    go_wp2_with fail
    go_ret
    exact ⟨rfl, rfl⟩

set_option maxHeartbeats 400000 in
theorem qsame_any (x y : Nat) (hx : x < 18446744073709551616) (hy : y < 18446744073709551616) (w : World) :
    Calls Tryd.prog 44 #[.float .f64 x, .float .f64 y] w fun e w' => e = .returned (.bool (cmpN x y == 0)) ∧ w = w' := by
  have S := Lib.hid (qcompare_any x y hx hy w)
  go_enter Tryd.func44, Tryd.ntmps44
  go_wp2_with fail
  refine S.out.mono ?_
  rintro e w' ⟨rfl, rfl⟩
  go_wp2_with fail
  go_ret
  exact ⟨rfl, rfl⟩

set_option maxHeartbeats 400000 in
theorem qmax_any (x y : Nat) (hx : x < 18446744073709551616) (hy : y < 18446744073709551616) (w : World) :
    Calls Tryd.prog 50 #[.float .f64 x, .float .f64 y] w fun e w' => e = .returned (.float .f64 (maxN x y)) ∧ w = w' := by
  have S := Lib.hid (qcompare_any x y hx hy w)
  unfold maxN
  generalize cmpN x y = c at *
  by_cases h : c < 0
  · rw [if_pos h]
    go_enter Tryd.func50, Tryd.ntmps50
    go_wp2_with fail
    refine S.out.mono ?_
    rintro e w' ⟨rfl, rfl⟩
    go_wp2_with fail
    go_ret
    exact ⟨rfl, rfl⟩
  · rw [if_neg h]
    go_enter Tryd.func50, Tryd.ntmps50
    go_wp2_with fail
    refine S.out.mono ?_
    rintro e w' ⟨rfl, rfl⟩
    go_wp2_with fail
    go_ret
    exact ⟨rfl, rfl⟩

set_option maxHeartbeats 400000 in
theorem qmin_any (x y : Nat) (hx : x < 18446744073709551616) (hy : y < 18446744073709551616) (w : World) :
    Calls Tryd.prog 51 #[.float .f64 x, .float .f64 y] w fun e w' => e = .returned (.float .f64 (minN x y)) ∧ w = w' := by
  have S := Lib.hid (qcompare_any x y hx hy w)
  unfold minN
  generalize cmpN x y = c at *
  by_cases h : 0 < c
  · rw [if_pos h]
    go_enter Tryd.func51, Tryd.ntmps51
    go_wp2_with fail
    refine S.out.mono ?_
    rintro e w' ⟨rfl, rfl⟩
    go_wp2_with fail
    go_ret
    exact ⟨rfl, rfl⟩
  · rw [if_neg h]
    go_enter Tryd.func51, Tryd.ntmps51
    go_wp2_with fail
    refine S.out.mono ?_
    rintro e w' ⟨rfl, rfl⟩
    go_wp2_with fail
    go_ret
    exact ⟨rfl, rfl⟩

/-! ### Put -/
theorem be_cat (m : Nat) : ∀ (n v : Nat), be v (n + m) = be (v / 2 ^ (8 * m)) n ++ be v m
  | 0, v => by simp [be]
  | n + 1, v => by
    rw [show n + 1 + m = (n + m) + 1 from by omega, be_succ, be_succ, be_cat m n v, List.cons_append, Nat.div_div_eq_div_mul, ← Nat.pow_add]
    congr 6
    omega
theorem be_half (v : Nat) : be v 8 = be (v / 4294967296) 4 ++ be (v % 4294967296) 4 := by
  have h := be_cat 4 4 v
  have h2 := be_mod v 4
  rw [show (2 : Nat) ^ (8 * 4) = 4294967296 from by decide] at h h2
  rw [← h2]
  exact h

theorem rput4 (v : Nat) (w : World) (hv : v < 4294967296) :
    Calls Tryd.prog 65 #[.int .i64 (v : Int), .int .i64 4] w fun e w' => e = .returned (.tuple #[.string ⟨(be v 4).toArray⟩, .int .i64 0]) ∧ Below w.heap.size w w' := by
  refine (rput_any (v : Int) 4 w (by omega)).mono ?_
  rintro e w' ⟨s, er, rfl, hp, hb⟩
  rcases hp.out with ⟨rfl, _, _, _, _, rfl⟩ | ⟨_, _, h⟩
  · exact ⟨by rw [Int.toNat_natCast]; rfl, hb⟩
  · rw [show (2 : Int) ^ (8 * (4 : Int).toNat) = 4294967296 from by decide] at h
    omega

set_option maxRecDepth 100000 in
set_option maxHeartbeats 1000000 in
theorem qput_any (x : Nat) (hx : x < 18446744073709551616) (w : World) :
    Calls Tryd.prog 38 #[.float .f64 x] w fun e w' => e = .returned (.string ⟨(be (rankN x) 8).toArray⟩) ∧ Below w.heap.size w w' := by
  have K := fun W => Lib.hid (qkey_any x hx W)
  have hr := rankN_lt x hx
  have P1 := fun W => Lib.hid (rput4 (rankN x / 4294967296) W (by omega))
  have P2 := fun W => Lib.hid (rput4 (rankN x % 4294967296) W (by omega))
  rw [be_half]
  have l1 := be_length (rankN x / 4294967296) 4
  have l2 := be_length (rankN x % 4294967296) 4
  generalize rankN x / 4294967296 = a at *
  generalize rankN x % 4294967296 = b at *
  have hcat := run_cat (be a 4) (be b 4) (by omega) (by omega)
  generalize be a 4 = p at *
  generalize be b 4 = q at *
  clear l1 l2 hr hx
  go_enter Tryd.func38, Tryd.ntmps38
  go_wp2_with fail
  refine (K _).out.mono ?_
  rintro e w' ⟨rfl, rfl⟩
  go_wp2_with fail
  refine (P1 _).out.mono ?_
  rintro e w1 ⟨rfl, hb1⟩
  go_wp2_with fail
  refine (P2 _).out.mono ?_
  rintro e w2 ⟨rfl, hb2⟩
  have hb2 := hb1.trans (hb2.mono hb1.size)
  go_wp2_with fail
  go_ret
  exact ⟨rfl, hb2⟩
end Go.Proofs.YthacdegaeokgnaaDoor

namespace Go.Proofs.YthacdegaeokgnaaDoor
open Go.RowKit

def sameActN (kd : Int) (nu : Nat) (it : Int) (tx : ByteArray) (kd' : Int) (nu' : Nat) (it' : Int) (tx' : ByteArray) : Bool := (kd == kd') && ((cmpN nu nu' == 0) && ((it == it') && (tx.toList == tx'.toList)))
def sameVerN (key : ByteArray) (xs : List Int) (o x kd : Int) (nu : Nat) (it : Int) (tx : ByteArray) (key' : ByteArray) (xs' : List Int) (o' x' kd' : Int) (nu' : Nat) (it' : Int) (tx' : ByteArray) : Bool :=
  (key.toList == key'.toList) && (decide (xs = xs') && ((o == o') && ((x == x') && sameActN kd nu it tx kd' nu' it' tx')))

/-- An act as a value. -/
def actV (kd : Int) (nu : Nat) (it : Int) (tx : ByteArray) : Value := .agg #[.int .i64 kd, .float .f64 nu, .int .i64 it, .string tx]

set_option maxRecDepth 100000 in
set_option maxHeartbeats 4000000 in
theorem rsameact_any (kd : Int) (nu : Nat) (it : Int) (tx : ByteArray) (kd' : Int) (nu' : Nat) (it' : Int) (tx' : ByteArray) (hn : nu < 18446744073709551616) (hn' : nu' < 18446744073709551616) (w : World) :
    Calls Tryd.prog 16 #[actV kd nu it tx, actV kd' nu' it' tx'] w fun e w' => e = .returned (.bool (sameActN kd nu it tx kd' nu' it' tx')) ∧ Below w.heap.size w w' := by
  unfold actV sameActN
  have C := fun W => Lib.hid (qsame_any nu nu' hn hn' W)
  have hb : Hid (Below w.heap.size w ((w.alloc (.cells #[.int .i64 kd, .float .f64 nu, .int .i64 it, .string tx] 24)).alloc (.cells #[.int .i64 kd', .float .f64 nu', .int .i64 it', .string tx'] 24))) :=
    ((Below.refl _ w).alloc (Nat.le_refl _) _).alloc (by simp) _
  obtain ⟨q1, h1⟩ : ∃ q, (kd == kd') = q := ⟨_, rfl⟩
  obtain ⟨q2, h2⟩ : ∃ q, (cmpN nu nu' == 0) = q := ⟨_, rfl⟩
  obtain ⟨q3, h3⟩ : ∃ q, (it == it') = q := ⟨_, rfl⟩
  obtain ⟨q4, h4⟩ : ∃ q, (tx.toList == tx'.toList) = q := ⟨_, rfl⟩
  rw [h1, h2, h3, h4]
  simp only [h2] at C
  clear h2
  cases q1
  · go_enter Tryd.func16, Tryd.ntmps16
    go_wp2_with fail
    go_ret
    exact ⟨rfl, hb.out⟩
  · cases q2
    · go_enter Tryd.func16, Tryd.ntmps16
      go_wp2_with fail
      refine (C _).out.mono ?_
      rintro e w' ⟨rfl, rfl⟩
      go_wp2_with fail
      go_ret
      exact ⟨rfl, hb.out⟩
    · cases q3
      · go_enter Tryd.func16, Tryd.ntmps16
        go_wp2_with fail
        refine (C _).out.mono ?_
        rintro e w' ⟨rfl, rfl⟩
        go_wp2_with fail
        go_ret
        exact ⟨rfl, hb.out⟩
      · go_enter Tryd.func16, Tryd.ntmps16
        go_wp2_with fail
        refine (C _).out.mono ?_
        rintro e w' ⟨rfl, rfl⟩
        go_wp2_with fail
        go_ret
        exact ⟨by simp, hb.out⟩

set_option maxRecDepth 100000 in
set_option maxHeartbeats 8000000 in
theorem rsamever_any (key : ByteArray) (A : Option Addr) (n c : Nat) (o x kd : Int) (nu : Nat) (it : Int) (tx : ByteArray) (xs : List Int) (key' : ByteArray) (A' : Option Addr) (n' c' : Nat) (o' x' kd' : Int) (nu' : Nat) (it' : Int) (tx' : ByteArray) (xs' : List Int)
    (w : World) (I : IntsIn w A n xs) (I' : IntsIn w A' n' xs') (hn : nu < 18446744073709551616) (hn' : nu' < 18446744073709551616) :
    Calls Tryd.prog 90 #[verV key A n c o x kd nu it tx, verV key' A' n' c' o' x' kd' nu' it' tx'] w fun e w' => e = .returned (.bool (sameVerN key xs o x kd nu it tx key' xs' o' x' kd' nu' it' tx')) ∧ Below w.heap.size w w' := by
  unfold verV sameVerN
  have hb : Hid (Below w.heap.size w ((w.alloc (.cells #[.string key, .slice A n c, .int .i64 o, .int .i64 x, .int .i64 kd, .float .f64 nu, .int .i64 it, .string tx] 44)).alloc (.cells #[.string key', .slice A' n' c', .int .i64 o', .int .i64 x', .int .i64 kd', .float .f64 nu', .int .i64 it', .string tx'] 44))) :=
    ((Below.refl _ w).alloc (Nat.le_refl _) _).alloc (by simp) _
  have S := Lib.hid (rsame_any A n c xs A' n' c' xs' _ (I.below hb.out) (I'.below hb.out))
  have CA := fun W => Lib.hid (rsameact_any kd nu it tx kd' nu' it' tx' hn hn' W)
  simp only [actV] at CA
  clear I I'
  obtain ⟨q1, h1⟩ : ∃ q, (key.toList == key'.toList) = q := ⟨_, rfl⟩
  obtain ⟨q2, h2⟩ : ∃ q, decide (xs = xs') = q := ⟨_, rfl⟩
  obtain ⟨q3, h3⟩ : ∃ q, (o == o') = q := ⟨_, rfl⟩
  obtain ⟨q4, h4⟩ : ∃ q, (x == x') = q := ⟨_, rfl⟩
  rw [h1, h2, h3, h4]
  rw [h2] at S
  generalize sameActN kd nu it tx kd' nu' it' tx' = q5 at *
  clear h2
  cases q1
  · go_enter Tryd.func90, Tryd.ntmps90
    go_wp2_with fail
    go_ret
    exact ⟨by simp, hb.out⟩
  · cases q2
    · go_enter Tryd.func90, Tryd.ntmps90
      go_wp2_with fail
      refine S.out.mono ?_
      rintro e w1 ⟨rfl, q, rfl⟩
      go_wp2_with fail
      go_ret
      exact ⟨by simp, below_drewN hb.out q⟩
    · cases q3
      · go_enter Tryd.func90, Tryd.ntmps90
        go_wp2_with fail
        refine S.out.mono ?_
        rintro e w1 ⟨rfl, q, rfl⟩
        go_wp2_with fail
        go_ret
        exact ⟨by simp, below_drewN hb.out q⟩
      · cases q4
        · go_enter Tryd.func90, Tryd.ntmps90
          go_wp2_with fail
          refine S.out.mono ?_
          rintro e w1 ⟨rfl, q, rfl⟩
          go_wp2_with fail
          go_ret
          exact ⟨by simp, below_drewN hb.out q⟩
        · go_enter Tryd.func90, Tryd.ntmps90
          go_wp2_with fail
          refine S.out.mono ?_
          rintro e w1 ⟨rfl, q, rfl⟩
          go_wp2_with fail
          refine (CA _).out.mono ?_
          rintro e w2 ⟨rfl, h2⟩
          have hb2 := (below_drewN hb.out q).trans (h2.mono (show w.heap.size ≤ (((w.alloc (.cells #[.string key, .slice A n c, .int .i64 o, .int .i64 x, .int .i64 kd, .float .f64 nu, .int .i64 it, .string tx] 44)).alloc (.cells #[.string key', .slice A' n' c', .int .i64 o', .int .i64 x', .int .i64 kd', .float .f64 nu', .int .i64 it', .string tx'] 44)).drewN q).heap.size by simp; omega))
          go_wp2_with fail
          go_ret
          exact ⟨by simp, hb2⟩
end Go.Proofs.YthacdegaeokgnaaDoor

namespace Go.Proofs.YthacdegaeokgnaaDoor
open Go.RowKit

/-- The place of +0. -/
def zr : Nat := 9223372036854775808
theorem rank_zero : rankN 0 = zr := by decide +kernel

/-- An act: its kind, the place of its number, its whole number, its text. -/
structure A6 where
  kd : Int
  r : Nat
  it : Int
  tx : List UInt8
/-- A value. -/
structure V6 where
  th : Bool
  r : Nat
  it : Int
  tx : List UInt8
def V6.zero : V6 := ⟨false, zr, 0, []⟩

def A6.same (a b : A6) : Bool := decide (a.kd = b.kd ∧ a.r = b.r ∧ a.it = b.it ∧ a.tx = b.tx)
def V6.same (a b : V6) : Bool := decide (a.th = b.th ∧ a.r = b.r ∧ a.it = b.it ∧ a.tx = b.tx)
theorem A6.same_iff (a b : A6) : a.same b = true ↔ a = b := by
  cases a; cases b
  simp [A6.same]
theorem V6.same_iff (a b : V6) : a.same b = true ↔ a = b := by
  cases a; cases b
  simp [V6.same]

/-- Is it an act? -/
def rightA (a : A6) : Bool :=
  if a.kd = 0 then decide (a.it = 0 ∧ a.tx.length ≤ 1024 ∧ (a.tx = [] ∨ a.r = zr))
  else if a.kd = 1 then decide (a.r = zr ∧ a.tx = [])
  else if a.kd = 2 ∨ a.kd = 3 then decide (a.it = 0 ∧ a.tx = [])
  else if a.kd = 4 then decide (a.r = zr ∧ a.it = 0 ∧ a.tx = [])
  else false
/-- Does a key that begins so take it? -/
def takesA (c : UInt8) (a : A6) : Bool :=
  if c = 114 then decide ((a.kd = 0 ∧ a.tx = []) ∨ a.kd = 4)
  else if c = 116 then decide ((a.kd = 0 ∧ a.r = zr) ∨ a.kd = 4)
  else if c = 99 then decide (a.kd = 1)
  else if c = 120 then decide (a.kd = 2)
  else decide (a.kd = 3)
def fitsA (key : List UInt8) (a : A6) : Bool := isKeyL key && (rightA a && takesA (key.headD 0) a)

theorem fitsA_key {key : List UInt8} {a : A6} (h : fitsA key a = true) : isKeyL key = true ∧ rightA a = true ∧ takesA (key.headD 0) a = true := by
  unfold fitsA at h
  simpa [Bool.and_eq_true] using h
theorem isKeyL_head {key : List UInt8} (h : isKeyL key = true) : key.headD 0 = 114 ∨ key.headD 0 = 116 ∨ key.headD 0 = 99 ∨ key.headD 0 = 120 ∨ key.headD 0 = 110 := (of_decide_eq_true h).2

/-- What comes of an act that fits. -/
def doneA (v : V6) (a : A6) : V6 :=
  if a.kd = 4 then V6.zero
  else if a.kd = 0 then ⟨true, a.r, 0, a.tx⟩
  else if a.kd = 1 then ⟨true, zr, if v.th then wrap64 (v.it + a.it) else a.it, []⟩
  else if a.kd = 2 then ⟨true, if v.th then max v.r a.r else a.r, 0, []⟩
  else ⟨true, if v.th then min v.r a.r else a.r, 0, []⟩
def afterA (key : List UInt8) (v : V6) (a : A6) : V6 := if fitsA key a then doneA v a else v
/-- Two acts as one. -/
def bothA (key : List UInt8) (a b : A6) : A6 :=
  if fitsA key a && fitsA key b then
    (if key.headD 0 = 99 then ⟨1, zr, wrap64 (a.it + b.it), []⟩
    else if key.headD 0 = 120 then ⟨2, max a.r b.r, 0, []⟩
    else if key.headD 0 = 110 then ⟨3, min a.r b.r, 0, []⟩
    else b)
  else b

/-- What an act that fits is, by its key. -/
theorem fits_cases {key : List UInt8} {a : A6} (h : fitsA key a = true) :
    ((key.headD 0 = 114 ∧ ((a.kd = 0 ∧ a.it = 0 ∧ a.tx = []) ∨ (a.kd = 4 ∧ a.r = zr ∧ a.it = 0 ∧ a.tx = []))) ∨
    (key.headD 0 = 116 ∧ ((a.kd = 0 ∧ a.it = 0 ∧ a.r = zr ∧ a.tx.length ≤ 1024) ∨ (a.kd = 4 ∧ a.r = zr ∧ a.it = 0 ∧ a.tx = []))) ∨
    (key.headD 0 = 99 ∧ a.kd = 1 ∧ a.r = zr ∧ a.tx = []) ∨ (key.headD 0 = 120 ∧ a.kd = 2 ∧ a.it = 0 ∧ a.tx = []) ∨ (key.headD 0 = 110 ∧ a.kd = 3 ∧ a.it = 0 ∧ a.tx = [])) := by
  obtain ⟨hk, hr, ht⟩ := fitsA_key h
  have hc := isKeyL_head hk
  generalize key.headD 0 = c at *
  unfold takesA at ht
  unfold rightA at hr
  rcases hc with rfl | rfl | rfl | rfl | rfl
  · refine Or.inl ⟨rfl, ?_⟩
    rw [if_pos rfl] at ht
    rcases of_decide_eq_true ht with ⟨h0, h1⟩ | h4
    · rw [if_pos h0] at hr
      exact Or.inl ⟨h0, (of_decide_eq_true hr).1, h1⟩
    · rw [h4] at hr
      simp at hr
      exact Or.inr ⟨h4, hr⟩
  · refine Or.inr (Or.inl ⟨rfl, ?_⟩)
    rw [if_neg (by decide), if_pos rfl] at ht
    rcases of_decide_eq_true ht with ⟨h0, h1⟩ | h4
    · rw [if_pos h0] at hr
      exact Or.inl ⟨h0, (of_decide_eq_true hr).1, h1, (of_decide_eq_true hr).2.1⟩
    · rw [h4] at hr
      simp at hr
      exact Or.inr ⟨h4, hr⟩
  · refine Or.inr (Or.inr (Or.inl ⟨rfl, ?_⟩))
    rw [if_neg (by decide), if_neg (by decide), if_pos rfl] at ht
    have h1 := of_decide_eq_true ht
    rw [h1] at hr
    simp at hr
    exact ⟨h1, hr⟩
  · refine Or.inr (Or.inr (Or.inr (Or.inl ⟨rfl, ?_⟩)))
    rw [if_neg (by decide), if_neg (by decide), if_neg (by decide), if_pos rfl] at ht
    have h1 := of_decide_eq_true ht
    rw [h1] at hr
    simp at hr
    exact ⟨h1, hr⟩
  · refine Or.inr (Or.inr (Or.inr (Or.inr ⟨rfl, ?_⟩)))
    rw [if_neg (by decide), if_neg (by decide), if_neg (by decide), if_neg (by decide)] at ht
    have h1 := of_decide_eq_true ht
    rw [h1] at hr
    simp at hr
    exact ⟨h1, hr⟩

/-! ### Two acts as one do what they do one behind the other -/
theorem fits_sum {key : List UInt8} {a b : A6} (ha : fitsA key a = true) (_hb : fitsA key b = true) (hc : key.headD 0 = 99) (z : Int) : fitsA key ⟨1, zr, z, []⟩ = true := by
  obtain ⟨hk, _, _⟩ := fitsA_key ha
  unfold fitsA
  rw [hk, hc]
  rfl
theorem both_fits {key : List UInt8} {a b : A6} (ha : fitsA key a = true) (hb : fitsA key b = true) : fitsA key (bothA key a b) = true := by
  obtain ⟨hk, _, _⟩ := fitsA_key ha
  unfold bothA
  rw [ha, hb]
  simp only [Bool.and_self, if_true]
  split
  · next hc => unfold fitsA; rw [hk, hc]; rfl
  · split
    · next hc => unfold fitsA; rw [hk, hc]; rfl
    · split
      · next hc => unfold fitsA; rw [hk, hc]; rfl
      · exact hb
theorem wrap_add3 (a b c : Int) : wrap64 (wrap64 (a + b) + c) = wrap64 (a + wrap64 (b + c)) := by
  unfold wrap64
  omega
/-- Two as one, by the key. -/
theorem both_at {key : List UInt8} {a b : A6} (ha : fitsA key a = true) (hb : fitsA key b = true) :
    bothA key a b = (if key.headD 0 = 99 then ⟨1, zr, wrap64 (a.it + b.it), []⟩ else if key.headD 0 = 120 then ⟨2, max a.r b.r, 0, []⟩ else if key.headD 0 = 110 then ⟨3, min a.r b.r, 0, []⟩ else b) := by
  unfold bothA
  rw [ha, hb]
  rfl
theorem after_both {key : List UInt8} (v : V6) {a b : A6} (ha : fitsA key a = true) (hb : fitsA key b = true) : afterA key v (bothA key a b) = afterA key (afterA key v a) b := by
  have hab := both_fits ha hb
  unfold afterA
  rw [hab, ha, hb]
  simp only [if_true]
  rw [both_at ha hb]
  rcases fits_cases ha with ⟨hc, _⟩ | ⟨hc, _⟩ | ⟨hc, h1, h2, h3⟩ | ⟨hc, h1, h2, h3⟩ | ⟨hc, h1, h2, h3⟩
  · rw [hc]
    rcases fits_cases hb with ⟨_, h | h⟩ | ⟨h', _⟩ | ⟨h', _⟩ | ⟨h', _⟩ | ⟨h', _⟩
    · simp [doneA, h.1]
    · simp [doneA, h.1]
    all_goals (rw [hc] at h'; exact absurd h' (by decide))
  · rw [hc]
    rcases fits_cases hb with ⟨h', _⟩ | ⟨_, h | h⟩ | ⟨h', _⟩ | ⟨h', _⟩ | ⟨h', _⟩
    · rw [hc] at h'; exact absurd h' (by decide)
    · simp [doneA, h.1]
    · simp [doneA, h.1]
    all_goals (rw [hc] at h'; exact absurd h' (by decide))
  · rw [hc]
    rcases fits_cases hb with ⟨h', _⟩ | ⟨h', _⟩ | ⟨_, k1, k2, k3⟩ | ⟨h', _⟩ | ⟨h', _⟩
    · rw [hc] at h'; exact absurd h' (by decide)
    · rw [hc] at h'; exact absurd h' (by decide)
    · simp only [doneA, h1, k1]
      cases v.th
      · simp
      · simp [wrap_add3]
    all_goals (rw [hc] at h'; exact absurd h' (by decide))
  · rw [hc]
    rcases fits_cases hb with ⟨h', _⟩ | ⟨h', _⟩ | ⟨h', _⟩ | ⟨_, k1, k2, k3⟩ | ⟨h', _⟩
    · rw [hc] at h'; exact absurd h' (by decide)
    · rw [hc] at h'; exact absurd h' (by decide)
    · rw [hc] at h'; exact absurd h' (by decide)
    · simp only [doneA, h1, k1]
      cases v.th
      · simp
      · simp [Nat.max_assoc]
    · rw [hc] at h'; exact absurd h' (by decide)
  · rw [hc]
    rcases fits_cases hb with ⟨h', _⟩ | ⟨h', _⟩ | ⟨h', _⟩ | ⟨h', _⟩ | ⟨_, k1, k2, k3⟩
    · rw [hc] at h'; exact absurd h' (by decide)
    · rw [hc] at h'; exact absurd h' (by decide)
    · rw [hc] at h'; exact absurd h' (by decide)
    · rw [hc] at h'; exact absurd h' (by decide)
    · simp only [doneA, h1, k1]
      cases v.th
      · simp
      · simp [Nat.min_assoc]
end Go.Proofs.YthacdegaeokgnaaDoor

namespace Go.Proofs.YthacdegaeokgnaaDoor
open Go.RowKit

/-- A value. -/
def valV (th : Bool) (nu : Nat) (it : Int) (tx : ByteArray) : Value := .agg #[.bool th, .float .f64 nu, .int .i64 it, .string tx]
/-- An act, a value as the plain lemmas see them. -/
def a6 (kd : Int) (nu : Nat) (it : Int) (tx : ByteArray) : A6 := ⟨kd, rankN nu, it, tx.data.toList⟩
def v6 (th : Bool) (nu : Nat) (it : Int) (tx : ByteArray) : V6 := ⟨th, rankN nu, it, tx.data.toList⟩

/-- What is known of an act, a value that came in. -/
structure ActIn (kd : Int) (nu : Nat) (it : Int) (tx : ByteArray) : Prop where
  nu : nu < 18446744073709551616
  kd : (Lit.int .i64 kd).wf = true
  it : (Lit.int .i64 it).wf = true
  tx : tx.size ≤ 9223372036854775807
structure ValIn (nu : Nat) (it : Int) (tx : ByteArray) : Prop where
  nu : nu < 18446744073709551616
  it : (Lit.int .i64 it).wf = true
  tx : tx.size ≤ 9223372036854775807

/-- A call told this value; its number by its place. -/
def RetV (e : Ending) (x : V6) : Prop := ∃ th nu it tx, e = .returned (valV th nu it tx) ∧ ValIn nu it tx ∧ v6 th nu it tx = x
def RetA (e : Ending) (x : A6) : Prop := ∃ kd nu it tx, e = .returned (actV kd nu it tx) ∧ ActIn kd nu it tx ∧ a6 kd nu it tx = x

/-- Numbers are the same just if their places are. -/
theorem cmp_rank (a b : Nat) : (cmpN a b == 0) = decide (rankN a = rankN b) := by
  rw [Bool.eq_iff_iff, beq_iff_eq, decide_eq_true_eq]
  unfold cmpN
  constructor
  · intro h
    split at h
    · cases h
    · split at h
      · cases h
      · omega
  · intro h
    rw [if_neg (by omega), if_neg (by omega)]
theorem cmp_zr (a : Nat) : (cmpN a 0 == 0) = decide (rankN a = zr) := by rw [cmp_rank, rank_zero]
theorem maxN_rank (a b : Nat) : rankN (maxN a b) = max (rankN a) (rankN b) := by
  unfold maxN cmpN
  by_cases h : rankN a < rankN b
  · rw [if_pos h, if_pos (by decide)]; omega
  · rw [if_neg h]
    by_cases k : rankN b < rankN a
    · rw [if_pos k, if_neg (by decide)]; omega
    · rw [if_neg k, if_neg (by decide)]; omega
theorem minN_rank (a b : Nat) : rankN (minN a b) = min (rankN a) (rankN b) := by
  unfold minN cmpN
  by_cases h : rankN a < rankN b
  · rw [if_pos h, if_neg (by decide)]; omega
  · rw [if_neg h]
    by_cases k : rankN b < rankN a
    · rw [if_pos k, if_pos (by decide)]; omega
    · rw [if_neg k, if_neg (by decide)]; omega
theorem str_nil (t : ByteArray) : (t.toList == []) = decide (t.data.toList = []) := by
  rw [Lib.toList_data, Bool.eq_iff_iff, beq_iff_eq, decide_eq_true_eq]
theorem str_same (t u : ByteArray) : (t.toList == u.toList) = decide (t.data.toList = u.data.toList) := by
  rw [Lib.toList_data, Lib.toList_data, Bool.eq_iff_iff, beq_iff_eq, decide_eq_true_eq]
theorem same_a6 (kd : Int) (nu : Nat) (it : Int) (tx : ByteArray) (kd' : Int) (nu' : Nat) (it' : Int) (tx' : ByteArray) : sameActN kd nu it tx kd' nu' it' tx' = (a6 kd nu it tx).same (a6 kd' nu' it' tx') := by
  unfold sameActN A6.same a6
  rw [cmp_rank, str_same, Bool.eq_iff_iff]
  simp
/-! ### Their cells -/
def actC (kd : Int) (nu : Nat) (it : Int) (tx : ByteArray) : Array Value := #[.int .i64 kd, .float .f64 nu, .int .i64 it, .string tx]
def valC (th : Bool) (nu : Nat) (it : Int) (tx : ByteArray) : Array Value := #[.bool th, .float .f64 nu, .int .i64 it, .string tx]
theorem act_cells {w : World} {p : Nat} {t : TypeId} {kd : Int} {nu : Nat} {it : Int} {tx : ByteArray} (h : Blk w p t (actC kd nu it tx)) :
    w.cell? ⟨p, 0, none⟩ = some (.int .i64 kd) ∧ w.cell? ⟨p, 1, none⟩ = some (.float .f64 nu) ∧ w.cell? ⟨p, 2, none⟩ = some (.int .i64 it) ∧ w.cell? ⟨p, 3, none⟩ = some (.string tx) :=
  ⟨h.cell 0, h.cell 1, h.cell 2, h.cell 3⟩
theorem val_cells {w : World} {p : Nat} {t : TypeId} {th : Bool} {nu : Nat} {it : Int} {tx : ByteArray} (h : Blk w p t (valC th nu it tx)) :
    w.cell? ⟨p, 0, none⟩ = some (.bool th) ∧ w.cell? ⟨p, 1, none⟩ = some (.float .f64 nu) ∧ w.cell? ⟨p, 2, none⟩ = some (.int .i64 it) ∧ w.cell? ⟨p, 3, none⟩ = some (.string tx) :=
  ⟨h.cell 0, h.cell 1, h.cell 2, h.cell 3⟩
theorem ValIn.zero : ValIn 0 0 ⟨#[]⟩ := ⟨by decide, by decide, by decide⟩
end Go.Proofs.YthacdegaeokgnaaDoor
