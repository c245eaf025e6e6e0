/-
  Several texts in one: Rounding to float64: it never turns the order round, and leaves what fits as it is (no program is named).
  Products and whole parts of float64 numbers (no program is named).
  float64(n) of an int; how far a clock goes (no program is named).
  A number's digits are read as the number, if it is small enough (plain lists).
  Walks over package real, part 5: split, the text of a number.
  Quotients of ints as float64 numbers (no program is named).
  Walks over package real, part 9: Ratio.
  Walks over package raw, part 6: Sum.
  The walk over the laws' first call (alive), and what the laws ask of the tables.
  RawShort: of a number in few bytes no beginning is taken for it.
  Walks over the document's own answer to chapter 1: Get, PutVar, Put.
  Walks over the document's own answer to chapter 2: key, Compare, Same, Max, Min, Put, Ratio.
  The document's own answer: are two acts, two versions alike? (chapter 5)
  What Get and Key tell of a version's bytes, and of other bytes; a byte that is changed. (Behind the contracts of package ikey.)
  Plain lemmas: what stands at which place in a version's bytes. No program is named.
  The document's own answer to chapter 5: keys, heads.
  The book of lists: of a kind of which nothing was kept. (Written by wip/gen/gen_booknil.py.)
  An append that leaves what was there readable; rows of numbers that are apart. No program is named.
  The book of lists, vectors: copies, marks, are two alike?
-/
import Derived.Test.YthacdegaeokgnaaGreatDoorM3
import Derived.Laws.FloatArith
import Derived.Test.YthacdegaeokgnaaGreatDoorM2
import Derived.Lib.ItoaNum
import Derived.Laws.Concat
import Derived.Test.YthacdegaeokgnaaGreatDoorRows
import Derived.Test.YthacdegaeokgnaaGreatDoorM1
import Derived.Lib.LaidTab
import Derived.Lib.Strings
import Derived.OpenShut
import Derived.LoopTactic
import Derived.WalkKit
import Derived.WalkSpells
import Derived.WalkLawsBesides
namespace Go.Proofs.YthacdegaeokgnaaGreatDoor
open Ieee

/-- To the nearest whole number; between two, the even one. -/
def hround (n g : Nat) : Nat := n / g + if g < 2 * (n % g) ∨ (g = 2 * (n % g) ∧ n / g % 2 = 1) then 1 else 0

theorem hround_mono {n m g : Nat} (hg : 0 < g) (h : n ≤ m) : hround n g ≤ hround m g := by
  unfold hround
  have hd : n / g ≤ m / g := Nat.div_le_div_right h
  rcases Nat.lt_or_ge (n / g) (m / g) with h1 | h1
  · split <;> split <;> omega
  · have he : n / g = m / g := by omega
    have e1 := Nat.div_add_mod n g
    have e2 := Nat.div_add_mod m g
    rw [he] at e1 ⊢
    have hr : n % g ≤ m % g := by omega
    split
    · rename_i hc
      rw [if_pos (by omega)]
      exact Nat.le_refl _
    · omega
theorem hround_mul (n g : Nat) (hg : 0 < g) : hround (n * g) g = n := by
  unfold hround
  rw [Nat.mul_div_cancel _ hg, Nat.mul_mod_left, if_neg (by omega)]
  rfl
theorem hround_small (n g : Nat) (h : 2 * n < g) : hround n g = 0 := by
  unfold hround
  rw [Nat.div_eq_of_lt (by omega), Nat.mod_eq_of_lt (by omega), if_neg (by omega)]

theorem cut_even (neg : Bool) (n d : Nat) : Toward.even.cut neg n d = hround n (2 ^ d) := by
  have key : ∀ g, n / g + (decide (g < 2 * (n % g)) || (g == 2 * (n % g) && n / g % 2 == 1)).toNat = hround n g := by
    intro g
    unfold hround
    congr 1
    by_cases h1 : g < 2 * (n % g)
    · simp [h1]
    · by_cases h2 : g = 2 * (n % g) ∧ n / g % 2 = 1
      · rw [if_pos (Or.inr h2)]
        have a1 : (g == 2 * (n % g)) = true := by rw [beq_iff_eq]; exact h2.1
        have a2 : (n / g % 2 == 1) = true := by rw [beq_iff_eq]; exact h2.2
        rw [a1, a2]
        simp
      · rw [if_neg (by omega)]
        have a : (g == 2 * (n % g) && n / g % 2 == 1) = false := by
          rw [Bool.eq_false_iff]
          intro e
          rw [Bool.and_eq_true, beq_iff_eq, beq_iff_eq] at e
          exact h2 e
        rw [a, decide_eq_false h1]
        rfl
  have hc : Toward.even.cut neg n d = hround n (1 <<< min d (n.log2 + 2)) := key _
  rw [hc, Nat.one_shiftLeft]
  rcases Nat.le_total d (n.log2 + 2) with h | h
  · rw [Nat.min_eq_left h]
  · rw [Nat.min_eq_right h]
    have h1 : n < 2 ^ (n.log2 + 1) := Nat.lt_log2_self
    have h2 : 2 ^ (n.log2 + 2) = 2 * 2 ^ (n.log2 + 1) := by rw [Nat.pow_succ]; omega
    have h3 : 2 ^ (n.log2 + 2) ≤ 2 ^ d := Nat.pow_le_pow_right (by decide) h
    rw [hround_small _ _ (by omega), hround_small _ _ (by omega)]

/-- The place of the last digit that is kept, and what is kept. -/
def lastP (m : Nat) (p : Int) : Int := max (p + (m.log2 : Int) - 52) (-1074)
def keptN (m : Nat) (p L : Int) : Nat := hround (m * 2 ^ (p - L).toNat) (2 ^ (L - p).toNat)
def rungOf (m : Nat) (p : Int) : Nat := (lastP m p + 1074).toNat * 4503599627370496 + keptN m p (lastP m p)

theorem nearest_eq (neg : Bool) (m : Nat) (p : Int) (h : m ≠ 0) : Ieee.double.nearest neg m p = Ieee.double.word neg (min (rungOf m p) infR) := by
  unfold Format.nearest
  rw [if_neg h, f64_least, f64_binade, f64_inf]
  show Ieee.double.word neg (min ((lastP m p - -1074).toNat * 4503599627370496 + Toward.even.cut neg (m <<< (p - lastP m p).toNat) (lastP m p - p).toNat) infR) = _
  rw [cut_even, Nat.shiftLeft_eq, show lastP m p - -1074 = lastP m p + 1074 from by omega]
  rfl

theorem kept_le (m : Nat) (p L : Int) (h : p + (m.log2 : Int) - 52 ≤ L) : keptN m p L ≤ 9007199254740992 := by
  have hg := Nat.two_pow_pos (L - p).toNat
  have h1 : m ≤ 2 ^ (m.log2 + 1) := Nat.le_of_lt Nat.lt_log2_self
  have h2 : m * 2 ^ (p - L).toNat ≤ 9007199254740992 * 2 ^ (L - p).toNat := by
    refine Nat.le_trans (Nat.mul_le_mul_right _ h1) ?_
    rw [← Nat.pow_add, show (9007199254740992 : Nat) = 2 ^ 53 from rfl, ← Nat.pow_add]
    exact Nat.pow_le_pow_right (by decide) (by omega)
  have := hround_mono hg h2
  rwa [hround_mul _ _ hg] at this
theorem kept_ge (m : Nat) (p L : Int) (hm : m ≠ 0) (h : L ≤ p + (m.log2 : Int) - 52) : 4503599627370496 ≤ keptN m p L := by
  have hg := Nat.two_pow_pos (L - p).toNat
  have h1 : 2 ^ m.log2 ≤ m := Nat.log2_self_le hm
  have h2 : 4503599627370496 * 2 ^ (L - p).toNat ≤ m * 2 ^ (p - L).toNat := by
    refine Nat.le_trans ?_ (Nat.mul_le_mul_right _ h1)
    rw [← Nat.pow_add, show (4503599627370496 : Nat) = 2 ^ 52 from rfl, ← Nat.pow_add]
    exact Nat.pow_le_pow_right (by decide) (by omega)
  have := hround_mono hg h2
  rwa [hround_mul _ _ hg] at this

theorem log2_mono {m n : Nat} (hm : m ≠ 0) (h : m ≤ n) : m.log2 ≤ n.log2 := by
  have h1 : 2 ^ m.log2 ≤ m := Nat.log2_self_le hm
  have h2 : n < 2 ^ (n.log2 + 1) := Nat.lt_log2_self
  rcases Nat.lt_or_ge n.log2 m.log2 with h3 | h3
  · have : 2 ^ (n.log2 + 1) ≤ 2 ^ m.log2 := Nat.pow_le_pow_right (by decide) (by omega)
    omega
  · exact h3

/-- Rounding never turns the order round (one place for both). -/
theorem rungOf_mono (m n : Nat) (p : Int) (hm : m ≠ 0) (h : m ≤ n) : rungOf m p ≤ rungOf n p := by
  have hl := log2_mono hm h
  have hL : lastP m p ≤ lastP n p := by unfold lastP; omega
  have hb : -1074 ≤ lastP m p := by unfold lastP; omega
  unfold rungOf
  by_cases he : lastP m p = lastP n p
  · rw [he]
    have : keptN m p (lastP n p) ≤ keptN n p (lastP n p) := hround_mono (Nat.two_pow_pos _) (Nat.mul_le_mul_right _ h)
    omega
  · have h1 := kept_le m p (lastP m p) (by unfold lastP; omega)
    have h2 : lastP n p = p + (n.log2 : Int) - 52 := by unfold lastP at *; omega
    have h3 := kept_ge n p (lastP n p) (by omega) (by omega)
    omega

/-- What fits stays as it is. -/
theorem rungOf_exact (m : Nat) (p : Int) (hm : m ≠ 0) (h : m < 9007199254740992) (hp : -1074 ≤ p) : magOf (rungOf m p) = m * 2 ^ (p + 1074).toNat := by
  have hlog : m.log2 ≤ 52 := by
    have h1 : 2 ^ m.log2 ≤ m := Nat.log2_self_le hm
    rcases Nat.lt_or_ge 52 m.log2 with h2 | h2
    · have : 2 ^ 53 ≤ 2 ^ m.log2 := Nat.pow_le_pow_right (by decide) h2
      omega
    · exact h2
  have hLp : lastP m p ≤ p := by unfold lastP; omega
  have hb : -1074 ≤ lastP m p := by unfold lastP; omega
  have hk : keptN m p (lastP m p) = m * 2 ^ (p - lastP m p).toNat := by
    unfold keptN
    have := hround_mul (m * 2 ^ (p - lastP m p).toNat) 1 (by decide)
    rw [Nat.mul_one] at this
    rw [show (lastP m p - p).toNat = 0 from by omega]
    exact this
  have hlt : m < 2 ^ (m.log2 + 1) := Nat.lt_log2_self
  have hlt2 : m * 2 ^ (p - lastP m p).toNat < 9007199254740992 := by
    have h1 : m * 2 ^ (p - lastP m p).toNat < 2 ^ (m.log2 + 1) * 2 ^ (p - lastP m p).toNat := Nat.mul_lt_mul_of_pos_right hlt (Nat.two_pow_pos _)
    rw [← Nat.pow_add] at h1
    have h2 : 2 ^ (m.log2 + 1 + (p - lastP m p).toNat) ≤ 2 ^ 53 := Nat.pow_le_pow_right (by decide) (by unfold lastP; omega)
    omega
  unfold rungOf
  rw [hk]
  by_cases hL : lastP m p = -1074
  · rw [hL] at hlt2 ⊢
    rw [show (-1074 + 1074 : Int).toNat = 0 from rfl, Nat.zero_mul, Nat.zero_add, show p - -1074 = p + 1074 from by omega] at *
    unfold magOf
    split
    · rfl
    · rw [show m * 2 ^ (p + 1074).toNat / 4503599627370496 - 1 = 0 from by omega]
      omega
  · have hLe : lastP m p = p + (m.log2 : Int) - 52 := by unfold lastP at *; omega
    have hge := kept_ge m p (lastP m p) hm (by omega)
    rw [hk] at hge
    obtain ⟨x, hx⟩ : ∃ x, x = m * 2 ^ (p - lastP m p).toNat := ⟨_, rfl⟩
    obtain ⟨a, ha⟩ : ∃ a, a = (lastP m p + 1074).toNat := ⟨_, rfl⟩
    have hsum : m * 2 ^ (p + 1074).toNat = x * 2 ^ a := by
      rw [hx, Nat.mul_assoc, ← Nat.pow_add, show (p + 1074).toNat = (p - lastP m p).toNat + a from by omega]
    rw [hsum, ← ha, ← hx]
    rw [← hx] at hge hlt2
    unfold magOf
    rw [if_neg (by omega), show (a * 4503599627370496 + x) / 4503599627370496 - 1 = a from by omega, show 4503599627370496 + (a * 4503599627370496 + x) % 4503599627370496 = x from by omega]

theorem hround_scale (n g c : Nat) (hc : 0 < c) : hround (n * c) (g * c) = hround n g := by
  unfold hround
  rw [Nat.mul_div_mul_right _ _ hc, Nat.mul_mod_mul_right]
  have e1 : g * c < 2 * (n % g * c) ↔ g < 2 * (n % g) := by rw [← Nat.mul_assoc]; exact Nat.mul_lt_mul_right hc
  have e2 : g * c = 2 * (n % g * c) ↔ g = 2 * (n % g) := by
    rw [← Nat.mul_assoc]
    exact ⟨fun h => Nat.eq_of_mul_eq_mul_right hc h, fun h => by rw [← h]⟩
  simp only [e1, e2]

/-- The same value at another place is rounded the same. -/
theorem rungOf_scale (m k : Nat) (p : Int) (hm : m ≠ 0) : rungOf (m * 2 ^ k) p = rungOf m (p + (k : Int)) := by
  have hm2 : m * 2 ^ k ≠ 0 := Nat.mul_ne_zero hm (Nat.ne_of_gt (Nat.two_pow_pos _))
  have hlog : (m * 2 ^ k).log2 = m.log2 + k := by
    rw [Nat.log2_eq_iff hm2]
    have h1 : 2 ^ m.log2 ≤ m := Nat.log2_self_le hm
    have h2 : m < 2 ^ (m.log2 + 1) := Nat.lt_log2_self
    constructor
    · rw [Nat.pow_add]; exact Nat.mul_le_mul_right _ h1
    · rw [show m.log2 + k + 1 = (m.log2 + 1) + k from by omega, Nat.pow_add]
      exact Nat.mul_lt_mul_of_pos_right h2 (Nat.two_pow_pos _)
  have hL : lastP (m * 2 ^ k) p = lastP m (p + (k : Int)) := by unfold lastP; rw [hlog]; omega
  unfold rungOf
  rw [hL]
  congr 1
  generalize lastP m (p + (k : Int)) = L
  unfold keptN
  obtain ⟨c, h1, h2⟩ : ∃ c : Nat, k + (p - L).toNat = (p + (k : Int) - L).toNat + c ∧ (L - p).toNat = (L - (p + (k : Int))).toNat + c := ⟨(L - p).toNat - (L - (p + (k : Int))).toNat, by omega, by omega⟩
  rw [Nat.mul_assoc, ← Nat.pow_add, h1, h2, Nat.pow_add, Nat.pow_add, ← Nat.mul_assoc]
  exact hround_scale _ _ _ (Nat.two_pow_pos _)
end Go.Proofs.YthacdegaeokgnaaGreatDoor

namespace Go.Proofs.YthacdegaeokgnaaGreatDoor
open Ieee

/-- The rung of a product of two magnitudes (in units of the least one). -/
def mulR (a b : Nat) : Nat := if a * b = 0 then 0 else min (rungOf (a * b) (-2148)) infR

theorem mulR_mono {a b c d : Nat} (h1 : a ≤ c) (h2 : b ≤ d) : mulR a b ≤ mulR c d := by
  have h := Nat.mul_le_mul h1 h2
  unfold mulR
  by_cases h0 : a * b = 0
  · rw [if_pos h0]; exact Nat.zero_le _
  · have := rungOf_mono (a * b) (c * d) (-2148) h0 h
    rw [if_neg h0, if_neg (by omega)]
    omega

theorem mul_fin (x y : Nat) (hx : rung x < infR) (hy : rung y < infR) :
    Ieee.double.mul x y = some (Ieee.double.word (isNeg x ^^ isNeg y) (mulR (magOf (rung x)) (magOf (rung y)))) := by
  obtain ⟨m, k, e1, f1⟩ := read_fin x hx
  obtain ⟨n, l, e2, f2⟩ := read_fin y hy
  unfold Format.mul
  rw [e1, e2]
  show some (Ieee.double.nearest (isNeg x ^^ isNeg y) (m * n) ((-1074 + (k : Int)) + (-1074 + (l : Int)))) = _
  congr 1
  have hp : magOf (rung x) * magOf (rung y) = (m * n) * 2 ^ (k + l) := by
    rw [← f1, ← f2, Nat.pow_add]
    rw [Nat.mul_assoc, Nat.mul_assoc, Nat.mul_left_comm (2 ^ k)]
  unfold mulR
  by_cases h0 : m * n = 0
  · rw [h0, hp, h0, Nat.zero_mul, if_pos rfl]
    unfold Format.nearest
    rw [if_pos rfl]
  · rw [nearest_eq _ _ _ h0, hp, if_neg (Nat.mul_ne_zero h0 (Nat.ne_of_gt (Nat.two_pow_pos _))), rungOf_scale _ _ _ h0]
    congr 3
    omega

theorem cut_down (way : Toward) (hw : way = .zero ∨ way = .down) (n d : Nat) : way.cut false n d = n / 2 ^ d := by
  have key : way.cut false n d = n / (1 <<< min d (n.log2 + 2)) := by
    rcases hw with rfl | rfl
    · rfl
    · show n / _ + ((false && _ : Bool)).toNat = _
      rw [Bool.false_and]
      rfl
  rw [key, Nat.one_shiftLeft]
  rcases Nat.le_total d (n.log2 + 2) with h | h
  · rw [Nat.min_eq_left h]
  · rw [Nat.min_eq_right h]
    have h1 : n < 2 ^ (n.log2 + 1) := Nat.lt_log2_self
    have h2 : 2 ^ (n.log2 + 2) = 2 * 2 ^ (n.log2 + 1) := by rw [Nat.pow_succ]; omega
    have h3 : 2 ^ (n.log2 + 2) ≤ 2 ^ d := Nat.pow_le_pow_right (by decide) h
    rw [Nat.div_eq_of_lt (by omega), Nat.div_eq_of_lt (by omega)]

/-- The whole part of a number that is not negative. -/
theorem whole_fin (way : Toward) (hw : way = .zero ∨ way = .down) (x : Nat) (hx : rung x < infR) (h0 : isNeg x = false) :
    (Ieee.double.read x).toInt way = some ((magOf (rung x) / 2 ^ 1074 : Nat) : Int) := by
  obtain ⟨m, k, e, f⟩ := read_fin x hx
  rw [e, h0, ← f]
  show some (signed false (way.cut false (m <<< (-1074 + (k : Int)).toNat) (-(-1074 + (k : Int))).toNat) 0) = _
  rw [cut_down way hw, Nat.shiftLeft_eq]
  have h : m * 2 ^ (-1074 + (k : Int)).toNat / 2 ^ (-(-1074 + (k : Int))).toNat = m * 2 ^ k / 2 ^ 1074 := by
    rcases Nat.le_total k 1074 with h1 | h1
    · rw [show (-1074 + (k : Int)).toNat = 0 from by omega, show (-(-1074 + (k : Int))).toNat = 1074 - k from by omega, Nat.pow_zero, Nat.mul_one]
      have : (2 : Nat) ^ 1074 = 2 ^ (1074 - k) * 2 ^ k := by rw [← Nat.pow_add, show 1074 - k + k = 1074 from by omega]
      rw [this, Nat.mul_div_mul_right _ _ (Nat.two_pow_pos _)]
    · rw [show (-1074 + (k : Int)).toNat = k - 1074 from by omega, show (-(-1074 + (k : Int))).toNat = 0 from by omega, Nat.pow_zero, Nat.div_one]
      have h5 := Nat.pow_add 2 (k - 1074) 1074
      rw [show k - 1074 + 1074 = k from by omega] at h5
      have h6 := Nat.two_pow_pos 1074
      rw [h5]
      generalize 2 ^ 1074 = c at *
      rw [← Nat.mul_assoc, Nat.mul_div_cancel _ h6]
  rw [h]
  unfold signed
  simp only [Bool.false_eq_true, if_false, Nat.shiftLeft_zero]
end Go.Proofs.YthacdegaeokgnaaGreatDoor

namespace Go.Proofs.YthacdegaeokgnaaGreatDoor
open Go.RowKit Ieee

theorem leq_eq (x y : Nat) : (FloatKind.f64.format.order x y == some .lt || FloatKind.f64.format.order x y == some .eq) = (!isN x && !isN y && decide (nkey x ≤ nkey y)) := by
  rw [lss_eq, eql_eq]
  cases isN x <;> cases isN y <;> simp
  rw [Bool.eq_iff_iff]
  simp
  omega
theorem geq_eq (x y : Nat) : (FloatKind.f64.format.order x y == some .gt || FloatKind.f64.format.order x y == some .eq) = (!isN x && !isN y && decide (nkey y ≤ nkey x)) := by
  rw [gtr_eq, eql_eq]
  cases isN x <;> cases isN y <;> simp
  rw [Bool.eq_iff_iff]
  simp
  omega

/-- The rung of float64(m) of a natural number. -/
def fltR (m : Nat) : Nat := if m = 0 then 0 else rungOf m 0
theorem rungOf_top : rungOf 9223372036854775808 0 = 4890909195324358656 := by decide +kernel
theorem fltR_le (m : Nat) (h : m ≤ 9223372036854775808) : fltR m ≤ 4890909195324358656 := by
  unfold fltR
  split
  · omega
  · rename_i h0
    rw [← rungOf_top]
    exact rungOf_mono m _ 0 h0 h
theorem fltR_mono {m n : Nat} (h : m ≤ n) : fltR m ≤ fltR n := by
  unfold fltR
  by_cases h0 : m = 0
  · rw [if_pos h0]; exact Nat.zero_le _
  · rw [if_neg h0, if_neg (by omega)]
    exact rungOf_mono m n 0 h0 h
theorem fltR_mag (m : Nat) (h : m < 9007199254740992) : magOf (fltR m) = m * 2 ^ 1074 := by
  unfold fltR
  by_cases h0 : m = 0
  · generalize 2 ^ 1074 = U
    rw [if_pos h0, h0, Nat.zero_mul]; exact (magOf_zero 0).2 rfl
  · rw [if_neg h0, rungOf_exact m 0 h0 h (by decide), show ((0 : Int) + 1074).toNat = 1074 from rfl]
theorem floatOfInt_nat (m : Nat) (h : m ≤ 9223372036854775808) : floatOfInt .f64 (m : Int) = fltR m := by
  have hl := fltR_le m h
  show Ieee.double.nearest (decide ((m : Int) < 0)) (m : Int).natAbs 0 = _
  rw [decide_eq_false (by omega), Int.natAbs_natCast]
  by_cases h0 : m = 0
  · subst h0; rfl
  · unfold fltR at hl ⊢
    rw [if_neg h0] at hl ⊢
    rw [nearest_eq _ _ _ h0, Nat.min_eq_left (by unfold infR; omega)]
    rfl
theorem floatOfInt_neg (m : Nat) (h : m ≤ 9223372036854775808) (h0 : m ≠ 0) : floatOfInt .f64 (-(m : Int)) = 9223372036854775808 + fltR m := by
  have hl := fltR_le m h
  show Ieee.double.nearest (decide (-(m : Int) < 0)) (-(m : Int)).natAbs 0 = _
  rw [decide_eq_true (by omega), Int.natAbs_neg, Int.natAbs_natCast]
  unfold fltR at hl ⊢
  rw [if_neg h0] at hl ⊢
  rw [nearest_eq _ _ _ h0, Nat.min_eq_left (by unfold infR; omega)]
  rfl
theorem fltR_pos (m : Nat) (h : m ≤ 9223372036854775808) (h0 : m ≠ 0) : 4607182418800017408 ≤ fltR m := by
  have h1 : fltR 1 = 4607182418800017408 := by decide +kernel
  rw [← h1]
  exact fltR_mono (by omega)

theorem small_parts (r : Nat) (h : r < 9223372036854775808) : isNeg r = false ∧ rung r = r := by
  unfold isNeg rung
  rw [show r / 9223372036854775808 % 2 = 0 from by omega]
  exact ⟨rfl, by omega⟩
theorem isN_small (r : Nat) (h : r ≤ infR) : isN r = false := by
  have hc : infR = 9218868437227405312 := rfl
  unfold isN
  rw [(small_parts r (by omega)).2]
  exact decide_eq_false (by omega)
theorem nkey_small (r : Nat) (h : r < 9223372036854775808) : nkey r = (r : Int) := by
  unfold nkey
  rw [(small_parts r h).1, (small_parts r h).2]
  rfl

/-- The rung of float64(m) times x (m above 0, x above 0). -/
def farR (m x : Nat) : Nat := if rung x = infR then infR else mulR (m * 2 ^ 1074) (magOf (rung x))
theorem farR_le (m x : Nat) : farR m x ≤ infR := by
  unfold farR
  split
  · exact Nat.le_refl _
  · unfold mulR; split
    · exact Nat.zero_le _
    · exact Nat.min_le_right _ _
theorem word_pp (r : Nat) : Ieee.double.word (false ^^ false) r = r := rfl
theorem mul_far (m x : Nat) (h0 : m ≠ 0) (hm : m ≤ 281474976710656) (hx : isN x = false) (hs : isNeg x = false) :
    floatBits .mul .f64 (fltR m) x = some (farR m x) := by
  show Ieee.double.mul (fltR m) x = _
  have hc : infR = 9218868437227405312 := rfl
  have hi : rung x ≤ infR := by simpa [isN] using hx
  have hl := fltR_le m (by omega)
  obtain ⟨p1, p2⟩ := small_parts (fltR m) (by omega)
  have hmag := fltR_mag m (by omega)
  unfold farR
  by_cases h : rung x = infR
  · rw [if_pos h]
    obtain ⟨a, k, e1, f1⟩ := read_fin (fltR m) (by omega)
    have ha : a ≠ 0 := by
      rintro rfl
      rw [p2, hmag, Nat.zero_mul] at f1
      have hp := Nat.two_pow_pos 1074
      have := Nat.mul_ne_zero h0 (Nat.ne_of_gt hp)
      generalize m * 2 ^ 1074 = z at *
      exact this f1.symm
    unfold Format.mul
    rw [e1, read_inf x h, p1, hs]
    show Option.map _ (if a = 0 then none else some (Datum.infinity (false ^^ false))) = _
    rw [if_neg ha]
    show some (Ieee.double.word (false ^^ false) Ieee.double.infRung) = _
    rw [word_pp, f64_inf]
  · rw [if_neg h, mul_fin (fltR m) x (by omega) (by omega), p1, p2, hs, hmag, word_pp]

theorem int_far (r : Nat) (h : r < 4823355200913801216) : floatToIntVal .f64 r .i64 = some ((magOf r / 2 ^ 1074 : Nat) : Int) ∧ magOf r / 2 ^ 1074 < 281474976710656 := by
  have hlt : magOf r / 2 ^ 1074 < 281474976710656 := by
    have h1 : magOf r < magOf 4823355200913801216 := (magOf_lt _ _).2 h
    have h2 : magOf 4823355200913801216 = 281474976710656 * 2 ^ 1074 := by decide +kernel
    rw [h2] at h1
    have hp := Nat.two_pow_pos 1074
    clear h2
    generalize 2 ^ 1074 = U at *
    exact (Nat.div_lt_iff_lt_mul hp).2 h1
  refine ⟨?_, hlt⟩
  obtain ⟨p1, p2⟩ := small_parts r (by omega)
  have hw := whole_fin .zero (Or.inl rfl) r (by unfold infR; omega) p1
  rw [p2] at hw
  unfold floatToIntVal
  show (match (Ieee.double.read r).toInt .zero with | some n => _ | none => _) = _
  rw [hw]
  generalize magOf r / 2 ^ 1074 = q at *
  show (if IntKind.i64.min ≤ (q : Int) ∧ (q : Int) ≤ IntKind.i64.max then some (q : Int) else none) = _
  have e1 : IntKind.i64.min = -9223372036854775808 := by decide
  have e2 : IntKind.i64.max = 9223372036854775807 := by decide
  rw [e1, e2, if_pos ⟨by omega, by omega⟩]

/-- How far a clock goes. -/
def capN (n : Int) : Nat := if n < 0 then 0 else if 281474976710656 < n then 281474976710656 else n.toNat
def goesN (m x : Nat) : Nat := if 4823355200913801216 ≤ farR m x then 281474976710656 else magOf (farR m x) / 2 ^ 1074
def scaleN (m x : Nat) : Nat := if isN x then m else if m = 0 then 0 else if nkey x ≤ 0 then 0 else goesN m x

theorem goesN_le (m x : Nat) : goesN m x ≤ 281474976710656 := by
  unfold goesN
  split
  · exact Nat.le_refl _
  · rename_i h
    exact Nat.le_of_lt (int_far _ (by omega)).2
theorem farR_mono {m n x y : Nat} (h : m ≤ n) (hx : rung x ≤ infR) (hy : rung y ≤ infR) (hxy : rung x ≤ rung y) : farR m x ≤ farR n y := by
  by_cases h1 : rung y = infR
  · have : farR n y = infR := by unfold farR; rw [if_pos h1]
    rw [this]
    exact farR_le m x
  · unfold farR
    rw [if_neg h1, if_neg (by omega)]
    refine mulR_mono (Nat.mul_le_mul_right _ h) ?_
    rcases Nat.lt_or_ge (rung x) (rung y) with h2 | h2
    · exact Nat.le_of_lt (magOf_mono h2)
    · rw [show rung x = rung y from by omega]; exact Nat.le_refl _
theorem goesN_mono {m n x y : Nat} (h : farR m x ≤ farR n y) : goesN m x ≤ goesN n y := by
  by_cases h1 : 4823355200913801216 ≤ farR n y
  · have : goesN n y = 281474976710656 := by unfold goesN; rw [if_pos h1]
    rw [this]
    exact goesN_le m x
  · unfold goesN
    rw [if_neg h1, if_neg (by omega)]
    refine Nat.div_le_div_right ?_
    rcases Nat.lt_or_ge (farR m x) (farR n y) with h2 | h2
    · exact Nat.le_of_lt (magOf_mono h2)
    · rw [show farR m x = farR n y from by omega]; exact Nat.le_refl _
theorem scaleN_le (m x : Nat) (h : m ≤ 281474976710656) : scaleN m x ≤ 281474976710656 := by
  unfold scaleN
  split
  · exact h
  · split
    · omega
    · split
      · omega
      · exact goesN_le m x

/-- A longer time goes further. -/
theorem scaleN_longer {m n : Nat} (x : Nat) (h : m ≤ n) : scaleN m x ≤ scaleN n x := by
  unfold scaleN
  cases hx : isN x
  · simp only [Bool.false_eq_true, if_false]
    by_cases h0 : m = 0
    · rw [if_pos h0]; exact Nat.zero_le _
    · rw [if_neg h0, if_neg (show ¬ n = 0 by omega)]
      split
      · exact Nat.le_refl _
      · have hi : rung x ≤ infR := by simpa [isN] using hx
        exact goesN_mono (farR_mono h hi hi (Nat.le_refl _))
  · simp only [if_true]; exact h
/-- A faster clock goes further. -/
theorem scaleN_faster (m : Nat) {x y : Nat} (hx : isN x = false) (hy : isN y = false) (h : nkey x ≤ nkey y) : scaleN m x ≤ scaleN m y := by
  unfold scaleN
  rw [hx, hy]
  simp only [Bool.false_eq_true, if_false]
  by_cases h0 : m = 0
  · rw [if_pos h0]; exact Nat.zero_le _
  · rw [if_neg h0, if_neg h0]
    by_cases h1 : nkey x ≤ 0
    · rw [if_pos h1]; exact Nat.zero_le _
    · rw [if_neg h1, if_neg (by omega)]
      have hi : rung x ≤ infR := by simpa [isN] using hx
      have hj : rung y ≤ infR := by simpa [isN] using hy
      refine goesN_mono (farR_mono (Nat.le_refl _) hi hj ?_)
      unfold nkey at h h1
      cases hs : isNeg x <;> rw [hs] at h h1 <;> cases ht : isNeg y <;> rw [ht] at h <;> simp at h h1 <;> omega
/-- At the speed 1 as far as time goes. -/
theorem scaleN_one (m : Nat) (h : m ≤ 281474976710656) : scaleN m 4607182418800017408 = m := by
  have h1 : isN 4607182418800017408 = false := by decide
  have h2 : ¬ nkey 4607182418800017408 ≤ 0 := by decide
  have h3 : rung 4607182418800017408 = 4607182418800017408 := by decide
  have h4 : magOf 4607182418800017408 = 2 ^ 1074 := by decide +kernel
  unfold scaleN
  rw [h1, if_neg h2]
  simp only [Bool.false_eq_true, if_false]
  by_cases h0 : m = 0
  · rw [if_pos h0, h0]
  · rw [if_neg h0]
    have hf : farR m 4607182418800017408 = fltR m := by
      have hl := fltR_le m (by omega)
      unfold farR mulR
      rw [h3, if_neg (by decide), h4]
      have hp : (2 : Nat) ^ 1074 ≠ 0 := Nat.ne_of_gt (Nat.two_pow_pos 1074)
      have ea : ∀ U : Nat, m * U * U = m * (U * U) := fun U => Nat.mul_assoc _ _ _
      have eb := (Nat.pow_add 2 1074 1074).symm
      rw [if_neg (Nat.mul_ne_zero (Nat.mul_ne_zero h0 hp) hp), ea, eb, rungOf_scale m (1074 + 1074) (-2148) h0]
      unfold fltR at hl ⊢
      rw [if_neg h0] at hl ⊢
      have hz : (-2148 + ((1074 + 1074 : Nat) : Int)) = 0 := by decide
      rw [hz]
      exact Nat.min_eq_left (by unfold infR; omega)
    have hmag := fltR_mag m (by omega)
    have h48 : fltR 281474976710656 = 4823355200913801216 := by decide +kernel
    have ed : ∀ U : Nat, 0 < U → m * U / U = m := fun U hU => Nat.mul_div_cancel m hU
    unfold goesN
    rw [hf, hmag, ed _ (Nat.two_pow_pos 1074)]
    split
    · rename_i hg
      rcases Nat.lt_or_ge m 281474976710656 with h5 | h5
      · have : magOf (fltR m) < magOf (fltR 281474976710656) := by
          have hp := Nat.two_pow_pos 1074
          have h6 := fltR_mag 281474976710656 (by decide)
          clear ed hf
          rw [hmag, h6]
          have hp := Nat.two_pow_pos 1074
          clear hmag h6
          generalize 2 ^ 1074 = U at *
          exact Nat.mul_lt_mul_of_pos_right h5 hp
        have := (magOf_lt _ _).1 this
        omega
      · omega
    · rfl
end Go.Proofs.YthacdegaeokgnaaGreatDoor

namespace Go.Proofs.YthacdegaeokgnaaGreatDoor
open Go.RowKit

theorem dec_digit (u : Nat) : ∀ c ∈ Lib.decDigits u, 48 ≤ c.toNat ∧ c.toNat ≤ 57 := by
  induction u using Nat.strongRecOn with
  | _ u ih =>
    intro c hc
    rw [Lib.decDigits] at hc
    split at hc
    · obtain rfl := List.mem_singleton.1 hc
      rw [UInt8.toNat_ofNat']; omega
    · rcases List.mem_append.1 hc with h | h
      · exact ih (u / 10) (by omega) c h
      · obtain rfl := List.mem_singleton.1 h
        rw [UInt8.toNat_ofNat']; omega

theorem digs_dec (u : Nat) : ∀ (r : List UInt8) (a : Nat), digs (Lib.decDigits u ++ r) a = digs r (a * 10 ^ Lib.nDigits u + u) := by
  induction u using Nat.strongRecOn with
  | _ u ih =>
    intro r a
    rw [Lib.decDigits]
    split
    · rename_i h
      have e : (UInt8.ofNat (48 + u)).toNat = 48 + u := by rw [UInt8.toNat_ofNat']; omega
      rw [Lib.nDigits_small h, List.cons_append, List.nil_append, digs, e, if_pos (by omega)]
      congr 1
      omega
    · rename_i h
      have e : (UInt8.ofNat (48 + u % 10)).toNat = 48 + u % 10 := by rw [UInt8.toNat_ofNat']; omega
      rw [Lib.nDigits_big h, List.append_assoc, ih (u / 10) (by omega), List.cons_append, List.nil_append, digs, e, if_pos (by omega)]
      congr 1
      rw [Nat.pow_succ, ← Nat.mul_assoc]
      omega

theorem dec_ne (u : Nat) : Lib.decDigits u ≠ [] := by
  intro h
  have := Lib.decDigits_length u
  have h2 := Lib.nDigits_pos u
  rw [h] at this
  simp at this
  omega

theorem dec_head (u : Nat) (hu : u ≠ 0) : ((Lib.decDigits u).headD 0).toNat ≠ 48 := by
  induction u using Nat.strongRecOn with
  | _ u ih =>
    rw [Lib.decDigits]
    split
    · rw [List.headD_cons, UInt8.toNat_ofNat']; omega
    · have := ih (u / 10) (by omega) (by omega)
      cases h : Lib.decDigits (u / 10) with
      | nil => exact absurd h (dec_ne _)
      | cons c r => rw [h] at this; exact this

theorem pow_le_nDigits (u : Nat) (hu : u ≠ 0) : 10 ^ (Lib.nDigits u - 1) ≤ u := by
  induction u using Nat.strongRecOn with
  | _ u ih =>
    by_cases h : u < 10
    · rw [Lib.nDigits_small h]; simp; omega
    · have h1 := ih (u / 10) (by omega) (by omega)
      have h2 := Lib.nDigits_pos (u / 10)
      rw [Lib.nDigits_big h, show Lib.nDigits (u / 10) + 1 - 1 = (Lib.nDigits (u / 10) - 1) + 1 from by omega, Nat.pow_succ]
      omega

theorem natL_dec (u : Nat) (hu : u ≠ 0) : natL (Lib.decDigits u) = if u < 10000000000000000 then some u else none := by
  have h1 := dec_head u hu
  have h2 := Lib.nDigits_pos u
  unfold natL
  rw [Lib.decDigits_length]
  by_cases h : u < 10000000000000000
  · have h3 : Lib.nDigits u ≤ 16 := by
      rcases Nat.lt_or_ge 16 (Lib.nDigits u) with hl | hl
      · have := pow_le_nDigits u hu
        have : (10 : Nat) ^ 16 ≤ 10 ^ (Lib.nDigits u - 1) := Nat.pow_le_pow_right (by decide) (by omega)
        omega
      · exact hl
    have := digs_dec u [] 0
    rw [List.append_nil] at this
    rw [if_pos h, if_neg (by omega), this]
    show some (0 * _ + u) = _
    congr 1
    omega
  · have h3 : 16 < Lib.nDigits u := by
      rcases Nat.lt_or_ge 16 (Lib.nDigits u) with hl | hl
      · exact hl
      · have := Lib.lt_pow_nDigits u
        have : (10 : Nat) ^ (Lib.nDigits u) ≤ 10 ^ 16 := Nat.pow_le_pow_right (by decide) hl
        omega
    rw [if_neg h, if_pos (Or.inr (Or.inl h3))]

theorem numL_itoa (v : Int) : numL (Lib.itoa v) = if -10000000000000000 < v ∧ v < 10000000000000000 then some v else none := by
  rcases Int.lt_trichotomy v 0 with h | h | h
  · have hi : Lib.itoa v = 45 :: Lib.decDigits v.natAbs := by unfold Lib.itoa; rw [if_pos h]
    have hp : Lib.hasPrefix (45 :: Lib.decDigits v.natAbs) [45] = true := by simp [Lib.hasPrefix]
    unfold numL
    rw [hi, if_neg (by simp)]
    unfold Lib.trimPrefix
    rw [if_pos hp, hp]
    show (natL (Lib.decDigits v.natAbs)).map _ = _
    rw [natL_dec _ (by omega)]
    by_cases hv : -10000000000000000 < v
    · rw [if_pos (by omega), if_pos (by omega)]
      simp
      omega
    · rw [if_neg (by omega), if_neg (by omega)]
      rfl
  · subst h
    have hi : Lib.itoa 0 = [48] := by unfold Lib.itoa; rw [if_neg (by decide)]; exact Lib.decDigits_one (by decide)
    rw [hi, if_pos (by decide)]
    rfl
  · have hi : Lib.itoa v = Lib.decDigits v.toNat := by unfold Lib.itoa; rw [if_neg (by omega)]
    have hd := dec_head v.toNat (by omega)
    have hn : Lib.decDigits v.toNat ≠ [48] := by intro e; rw [e] at hd; exact hd rfl
    have hp : Lib.hasPrefix (Lib.decDigits v.toNat) [45] = false := by
      cases hc : Lib.decDigits v.toNat with
      | nil => exact absurd hc (dec_ne _)
      | cons c r =>
        have := dec_digit v.toNat c (by rw [hc]; simp)
        simp only [Lib.hasPrefix, List.isPrefixOf, Bool.and_true, beq_eq_false_iff_ne]
        intro e
        rw [← e] at this
        exact absurd this (by decide)
    unfold numL
    rw [hi, if_neg hn]
    unfold Lib.trimPrefix
    rw [hp, if_neg (by decide), natL_dec _ (by omega)]
    by_cases hv : v < 10000000000000000
    · rw [if_pos (by omega), if_pos (by omega)]
      simp
      omega
    · rw [if_neg (by omega), if_neg (by omega)]
      rfl

theorem dec_len (u : Nat) (hu : u ≤ 9223372036854775808) : (Lib.decDigits u).length ≤ 39 := by
  rw [Lib.decDigits_length]
  rcases Nat.eq_zero_or_pos u with h | h
  · subst h; rw [Lib.nDigits_small (by decide)]; decide
  · rcases Nat.lt_or_ge 39 (Lib.nDigits u) with hl | hl
    · have := pow_le_nDigits u (by omega)
      have : (10 : Nat) ^ 39 ≤ 10 ^ (Lib.nDigits u - 1) := Nat.pow_le_pow_right (by decide) (by omega)
      omega
    · exact hl

theorem itoa_len (v : Int) (h0 : -9223372036854775808 ≤ v) (h1 : v ≤ 9223372036854775807) : (Lib.itoa v).length ≤ 40 := by
  unfold Lib.itoa
  split
  · have := dec_len v.natAbs (by omega)
    simp; omega
  · have := dec_len v.toNat (by omega)
    omega
end Go.Proofs.YthacdegaeokgnaaGreatDoor

namespace Go.Proofs.YthacdegaeokgnaaGreatDoor
open Go.RowKit

/-- The digits and the power of a rung, all twos still in. -/
def rawM (r : Nat) : Nat := if r < 4503599627370496 then r else 4503599627370496 + r % 4503599627370496
def rawE (r : Nat) : Int := if r < 4503599627370496 then -1074 else (r / 4503599627370496 : Nat) - 1075
theorem rawM_lt (r : Nat) : rawM r < 9007199254740992 := by unfold rawM; split <;> omega
theorem rawM_pos (r : Nat) (h : r ≠ 0) : rawM r ≠ 0 := by unfold rawM; split <;> omega
theorem rawE_lt (r : Nat) (h : r < infR) : -1074 ≤ rawE r ∧ rawE r ≤ 971 := by
  have hc : infR = 9218868437227405312 := rfl
  unfold rawE; split <;> omega
def spM (r : Nat) : Nat := oddN (rawM r)
def spE (r : Nat) : Int := rawE r + (tzN (rawM r) : Int)

/-- The text of a number without a sign. -/
def whole (r : Nat) : Bool := decide (0 ≤ spE r ∧ (Lib.bitLen (spM r) : Int) + spE r ≤ 53)
def unsN (r : Nat) : List UInt8 :=
  if r = 0 then [48] else if r = infR then [105, 110, 102] else if whole r then Lib.itoa ((spM r * 2 ^ (spE r).toNat : Nat) : Int)
  else Lib.itoa (spM r : Int) ++ 112 :: Lib.itoa (spE r)
def textN (x : Nat) : List UInt8 := if isN x then [110, 97, 110] else if isNeg x then 45 :: unsN (rung x) else unsN (rung x)

theorem unsN_zero : unsN 0 = [48] := by unfold unsN; rw [if_pos rfl]

theorem spM_lt (r : Nat) : spM r < 9007199254740992 := Nat.lt_of_le_of_lt (Nat.div_le_self _ _) (rawM_lt r)
theorem spE_lt (r : Nat) (h0 : r ≠ 0) (h : r < infR) : -1074 ≤ spE r ∧ spE r ≤ 1035 := by
  have h1 := rawE_lt r h
  have h2 : tzN (rawM r) < 64 := (Lib.lowest_bit 64 _ (rawM_pos r h0) (Nat.lt_trans (rawM_lt r) (by decide))).2
  unfold spE
  omega

theorem len_lt (m e : Nat) (hm : m < 18446744073709551616) (h : Lib.bitLen m + e ≤ 53) : m * 2 ^ e < 9007199254740992 := by
  by_cases h0 : m = 0
  · subst h0; rw [Nat.zero_mul]; decide
  · have hb := (Lib.bitLenAux_bounds 64 m hm h0).2.2
    have h1 : m * 2 ^ e < 2 ^ Lib.bitLen m * 2 ^ e := Nat.mul_lt_mul_of_pos_right hb (Nat.two_pow_pos _)
    rw [← Nat.pow_add] at h1
    exact Nat.lt_of_lt_of_le h1 (Nat.pow_le_pow_right (by decide) h)

theorem run_cat (a b : List UInt8) (ha : a.length ≤ 1000000) (hb : b.length ≤ 1000000) (w : World) : (Op.stringOp .add ⟨a.toArray⟩ ⟨b.toArray⟩).run Tryz.prog w = .ok (.string ⟨(a ++ b).toArray⟩) w := by
  rw [run_string_add_sum _ _ _ (by rw [size_mk, size_mk]; omega), ByteArray.mk_append_mk]

theorem unsN_len (r : Nat) (h : r ≤ infR) : (unsN r).length ≤ 100 := by
  unfold unsN
  split
  · decide
  · split
    · decide
    · rename_i h0 h1
      have hM := spM_lt r
      have hE := spE_lt r h0 (by omega)
      split
      · rename_i hw
        unfold whole at hw
        have hw := of_decide_eq_true hw
        have hlt := len_lt (spM r) (spE r).toNat (by omega) (by omega)
        have := itoa_len ((spM r * 2 ^ (spE r).toNat : Nat) : Int) (by omega) (by omega)
        omega
      · have hl1 := itoa_len (spM r : Int) (by omega) (by omega)
        have hl2 := itoa_len (spE r) (by omega) (by omega)
        simp only [List.length_append, List.length_cons, List.length_nil]
        omega

end Go.Proofs.YthacdegaeokgnaaGreatDoor

namespace Go.Proofs.YthacdegaeokgnaaGreatDoor
open Go.RowKit Ieee

theorem read_norm (x : Nat) (h1 : 4503599627370496 ≤ rung x) (h : rung x < infR) :
    Ieee.double.read x = .number (isNeg x) (4503599627370496 + rung x % 4503599627370496) (-1074 + ((rung x / 4503599627370496 - 1 : Nat) : Int)) := by
  unfold Format.read
  rw [f64_sign, f64_binade, f64_inf, f64_least]
  show (if rung x < 4503599627370496 then _ else if rung x < infR then _ else _) = _
  rw [if_neg (by omega), if_pos h]
  rfl

theorem word_eq (s : Bool) (r : Nat) : Ieee.double.word s r = if s then 9223372036854775808 + r else r := by
  unfold Format.word
  rw [f64_sign]
theorem word_facts (s : Bool) (r : Nat) (h : r ≤ infR) : isNeg (Ieee.double.word s r) = s ∧ rung (Ieee.double.word s r) = r ∧ isN (Ieee.double.word s r) = false ∧ Ieee.double.word s r < 18446744073709551616 := by
  have hc : infR = 9218868437227405312 := rfl
  rw [word_eq]
  have hr : ∀ x : Nat, rung x = r → isN x = false := fun x hx => by unfold isN; rw [hx]; exact decide_eq_false (by omega)
  cases s
  · simp only [Bool.false_eq_true, if_false]
    obtain ⟨p1, p2⟩ := small_parts r (by omega)
    exact ⟨p1, p2, hr r p2, by omega⟩
  · simp only [if_true]
    have h1 : rung (9223372036854775808 + r) = r := by unfold rung; omega
    have h2 : isNeg (9223372036854775808 + r) = true := by unfold isNeg; rw [show (9223372036854775808 + r) / 9223372036854775808 % 2 = 1 from by omega]; rfl
    exact ⟨h2, h1, hr _ h1, by omega⟩
theorem word_key (s : Bool) (r : Nat) (h : r ≤ infR) : nkey (Ieee.double.word s r) = if s then -(r : Int) else (r : Int) := by
  obtain ⟨h1, h2, _⟩ := word_facts s r h
  unfold nkey
  rw [h1, h2]

/-- float64(a) of an int. -/
theorem flt_word (a : Int) (h0 : -9223372036854775808 ≤ a) (h1 : a ≤ 9223372036854775808) : floatOfInt .f64 a = Ieee.double.word (decide (a < 0)) (fltR a.natAbs) := by
  by_cases ha : a < 0
  · have e : a = -(a.natAbs : Int) := by omega
    rw [decide_eq_true ha, word_eq, if_pos rfl]
    conv => lhs; rw [e]
    exact floatOfInt_neg a.natAbs (by omega) (by omega)
  · have e : a = (a.natAbs : Int) := by omega
    rw [decide_eq_false ha, word_eq]
    conv => lhs; rw [e]
    exact floatOfInt_nat a.natAbs (by omega)

theorem fltR_top (m : Nat) (h : m ≤ 9223372036854775808) : fltR m ≤ infR := Nat.le_trans (fltR_le m h) (by decide)

theorem flt_read (a : Int) (h0 : -9223372036854775808 ≤ a) (h1 : a ≤ 9223372036854775808) (hn : a ≠ 0) :
    ∃ m k : Nat, Ieee.double.read (floatOfInt .f64 a) = .number (decide (a < 0)) m (-1074 + (k : Int)) ∧ 4503599627370496 ≤ m ∧ m < 9007199254740992 ∧ 1022 ≤ k ∧ k ≤ 1085 := by
  have hl := fltR_le a.natAbs (by omega)
  have hg := fltR_pos a.natAbs (by omega) (by omega)
  obtain ⟨f1, f2, f3, f4⟩ := word_facts (decide (a < 0)) (fltR a.natAbs) (fltR_top _ (by omega))
  have hc : infR = 9218868437227405312 := rfl
  rw [flt_word a h0 h1]
  have hr := read_norm (Ieee.double.word (decide (a < 0)) (fltR a.natAbs)) (by rw [f2]; omega) (by rw [f2]; omega)
  rw [f1, f2] at hr
  exact ⟨_, _, hr, by omega, by omega, by omega, by omega⟩
theorem flt_zero : floatOfInt .f64 0 = 0 := by decide +kernel
theorem read_zero : Ieee.double.read 0 = .number false 0 (-1074) := by decide +kernel

theorem log2_norm (m : Nat) (h0 : 4503599627370496 ≤ m) (h1 : m < 9007199254740992) : m.log2 = 52 := by
  rw [Nat.log2_eq_iff (by omega)]
  exact ⟨h0, h1⟩

theorem div_zero_zero : floatBits .quo .f64 (floatOfInt .f64 0) (floatOfInt .f64 0) = none := by
  rw [flt_zero]
  show Ieee.double.div 0 0 = none
  unfold Format.div
  rw [read_zero]
  rfl
/-- By nothing: an edge with the sign. -/
theorem div_zero (a : Int) (h0 : -9223372036854775808 ≤ a) (h1 : a ≤ 9223372036854775808) (hn : a ≠ 0) :
    floatBits .quo .f64 (floatOfInt .f64 a) (floatOfInt .f64 0) = some (Ieee.double.word (decide (a < 0)) infR) := by
  obtain ⟨m, k, e, g1, g2, g3, g4⟩ := flt_read a h0 h1 hn
  rw [flt_zero]
  show Ieee.double.div _ 0 = _
  unfold Format.div
  rw [e, read_zero]
  unfold Datum.quotient
  dsimp only
  rw [if_pos rfl, if_neg (by omega), Bool.xor_false]
  show some (Ieee.double.word _ Ieee.double.infRung) = _
  rw [f64_inf]
/-- Nothing by something. -/
theorem div_of_zero (b : Int) (h0 : -9223372036854775808 ≤ b) (h1 : b ≤ 9223372036854775808) (hn : b ≠ 0) :
    floatBits .quo .f64 (floatOfInt .f64 0) (floatOfInt .f64 b) = some (Ieee.double.word (decide (b < 0)) 0) := by
  obtain ⟨m, k, e, g1, g2, g3, g4⟩ := flt_read b h0 h1 hn
  rw [flt_zero]
  show Ieee.double.div 0 _ = _
  unfold Format.div
  rw [e, read_zero]
  unfold Datum.quotient
  dsimp only
  rw [if_neg (by omega)]
  rw [show (0 : Nat) <<< (Ieee.double.fractionBits + 2 + m.log2 - Nat.log2 0) = 0 from Nat.zero_shiftLeft _, Nat.zero_div, Nat.zero_mod]
  show some (Ieee.double.nearest (false ^^ decide (b < 0)) 0 _) = _
  unfold Format.nearest
  rw [if_pos rfl, Bool.false_xor]

/-- Something by something: no nan, not nothing, the sign as it must be. -/
theorem div_some (a b : Int) (ha0 : -9223372036854775808 ≤ a) (ha1 : a ≤ 9223372036854775808) (ha : a ≠ 0) (hb0 : -9223372036854775808 ≤ b) (hb1 : b ≤ 9223372036854775808) (hb : b ≠ 0) :
    ∃ r, floatBits .quo .f64 (floatOfInt .f64 a) (floatOfInt .f64 b) = some (Ieee.double.word (decide (a < 0) ^^ decide (b < 0)) r) ∧ 0 < r ∧ r ≤ infR := by
  obtain ⟨m, k, e, g1, g2, g3, g4⟩ := flt_read a ha0 ha1 ha
  obtain ⟨n, l, e', k1, k2, k3, k4⟩ := flt_read b hb0 hb1 hb
  have hc : infR = 9218868437227405312 := rfl
  have hq : 2 ^ 53 ≤ m * 2 ^ 54 / n := by
    refine (Nat.le_div_iff_mul_le (by omega)).2 ?_
    have h1 : 2 ^ 53 * n ≤ 2 ^ 53 * 9007199254740992 := Nat.mul_le_mul_left _ (Nat.le_of_lt k2)
    have h2 : 4503599627370496 * 2 ^ 54 ≤ m * 2 ^ 54 := Nat.mul_le_mul_right _ g1
    have h3 : (2 : Nat) ^ 53 * 9007199254740992 = 4503599627370496 * 2 ^ 54 := by decide
    rw [h3] at h1
    exact Nat.le_trans h1 h2
  obtain ⟨q, hqe⟩ : ∃ q, q = 2 * (m * 2 ^ 54 / n) + (m * 2 ^ 54 % n != 0).toNat := ⟨_, rfl⟩
  have hq54 : 2 ^ 54 ≤ q := by
    rw [hqe]
    generalize m * 2 ^ 54 / n = d at hq ⊢
    omega
  obtain ⟨p, hp⟩ : ∃ p : Int, p = -1074 + (k : Int) - (-1074 + (l : Int)) - ((54 : Nat) : Int) - 1 := ⟨_, rfl⟩
  have hp2 : -118 ≤ p := by clear hqe hq hq54; omega
  have hq0 : q ≠ 0 := by clear hqe hq hp; omega
  refine ⟨min (rungOf q p) infR, ?_, ?_, Nat.min_le_right _ _⟩
  · clear hq hq54
    show Ieee.double.div _ _ = _
    unfold Format.div
    rw [e, e']
    unfold Datum.quotient
    dsimp only
    rw [if_neg (by omega), log2_norm m g1 g2, log2_norm n k1 k2, show Ieee.double.fractionBits + 2 + 52 - 52 = 54 from by decide, Nat.shiftLeft_eq, ← hqe, ← hp]
    show some (Ieee.double.nearest _ q p) = _
    rw [nearest_eq _ _ _ hq0]
  · clear hqe hq hp e e' hc
    have hlog : 54 ≤ q.log2 := by
      rcases Nat.lt_or_ge q.log2 54 with h1 | h1
      · have h2 : q < 2 ^ (q.log2 + 1) := Nat.lt_log2_self
        have : 2 ^ (q.log2 + 1) ≤ 2 ^ 54 := Nat.pow_le_pow_right (by decide) (by omega)
        omega
      · exact h1
    have hpos : 0 < rungOf q p := by
      unfold rungOf lastP
      have : 1 ≤ (max (p + (q.log2 : Int) - 52) (-1074) + 1074).toNat := by clear hq54 hq0; omega
      generalize (max (p + (q.log2 : Int) - 52) (-1074) + 1074).toNat = z at *
      generalize keptN q p (max (p + (q.log2 : Int) - 52) (-1074)) = y
      omega
    exact Nat.lt_min.2 ⟨hpos, by decide⟩
/-- By itself: one. -/
theorem div_self' (a : Int) (ha0 : -9223372036854775808 ≤ a) (ha1 : a ≤ 9223372036854775808) (ha : a ≠ 0) :
    floatBits .quo .f64 (floatOfInt .f64 a) (floatOfInt .f64 a) = some 4607182418800017408 := by
  obtain ⟨m, k, e, g1, g2, g3, g4⟩ := flt_read a ha0 ha1 ha
  show Ieee.double.div _ _ = _
  unfold Format.div
  rw [e]
  unfold Datum.quotient
  dsimp only
  rw [if_neg (by omega), log2_norm m g1 g2, show Ieee.double.fractionBits + 2 + 52 - 52 = 54 from by decide, Nat.shiftLeft_eq, Nat.mul_div_cancel_left _ (by omega), Nat.mul_mod_right,
    show -1074 + (k : Int) - (-1074 + (k : Int)) - ((54 : Nat) : Int) - 1 = -55 from by omega, Bool.xor_self]
  decide +kernel
end Go.Proofs.YthacdegaeokgnaaGreatDoor

namespace Go.Proofs.YthacdegaeokgnaaGreatDoor
open Go.RowKit

/-- The NaN that the model's tape gives where a quotient is none. -/
def tapeNan (w : World) (x y : Nat) : Nat := (Question.nanBits .f64 x y).cut (w.tape w.drawn (.nanBits .f64 x y))
theorem tapeNan_is (w : World) (x y : Nat) : isN (tapeNan w x y) = true ∧ tapeNan w x y < 18446744073709551616 := by
  have e : tapeNan w x y = (w.tape w.drawn (.nanBits .f64 x y) % 2) * 2 ^ 63 + 0x7ff0000000000000 + 1 + (w.tape w.drawn (.nanBits .f64 x y) / 2) % (2 ^ 52 - 1) := rfl
  rw [e]
  generalize w.tape w.drawn (.nanBits .f64 x y) = t
  have h1 : t / 2 % (2 ^ 52 - 1) < 2 ^ 52 - 1 := Nat.mod_lt _ (by decide)
  generalize t / 2 % (2 ^ 52 - 1) = u at *
  unfold isN rung infR
  refine ⟨decide_eq_true ?_, ?_⟩ <;> omega
theorem run_quo_nan (x y : Nat) (h : floatBits .quo .f64 x y = none) (w : World) : (binOp .quo 24 (.float .f64 x) (.float .f64 y)).run Tryz.prog w = .ok (.float .f64 (tapeNan w x y)) w.drew := by
  have h : FloatKind.f64.format.div x y = none := h
  simp [binOp, Op.floatArith, h, Question.forced]
  rfl

def RatP (w : World) (g : Option Nat) (e : Ending) (w' : World) : Prop :=
  match g with
  | some r => e = .returned (.float .f64 r) ∧ w = w'
  | none => ∃ z, e = .returned (.float .f64 z) ∧ Hid (isN z = true) ∧ z < 18446744073709551616 ∧ Below w.heap.size w w'

end Go.Proofs.YthacdegaeokgnaaGreatDoor

namespace Go.Proofs.YthacdegaeokgnaaGreatDoor
open Go.RowKit

/-- What four of a sum's eight steps make of four bits. -/
def halvesL : List Int := [0, 274646895, 549293790, 820201905, 1098587580, 1361435347, 1640403810, 1905808397, 2197175160, 2460548119, 2722870694, 2987750089, 3280807620, 3553878443, 3811616794, 4084100981]

def halfN (i : Nat) : Nat := (halvesL.getD i 0).toNat
theorem halfN_lt : ∀ i < 16, halvesL.getD i 0 = (halfN i : Int) ∧ halfN i < 4294967296 := by decide

/-- Four bits of a sum. -/
def nib (b : Nat) : Nat := (b / 16) ^^^ halfN (b % 16)
theorem nib_lt (b : Nat) (hb : b < 4294967296) : nib b < 4294967296 := by
  have h1 := (halfN_lt (b % 16) (by omega)).2
  exact Nat.xor_lt_two_pow (n := 32) (by omega) (by omega)

/-- A sum goes on by a byte. -/
def sumStep (a : Nat) (c : UInt8) : Nat := nib (nib (a ^^^ c.toNat))
theorem sumStep_lt (a : Nat) (c : UInt8) (ha : a < 4294967296) : sumStep a c < 4294967296 :=
  nib_lt _ (nib_lt _ (Nat.xor_lt_two_pow (n := 32) ha (by have := UInt8.toNat_lt c; omega)))

def sumL (l : List UInt8) : Nat := l.foldl sumStep 4294967295
theorem foldl_sum_lt (l : List UInt8) (a : Nat) (ha : a < 4294967296) : l.foldl sumStep a < 4294967296 := by
  induction l generalizing a with
  | nil => exact ha
  | cons c r ih => exact ih _ (sumStep_lt a c ha)
theorem sumL_lt (l : List UInt8) : sumL l < 4294967296 := foldl_sum_lt l _ (by decide)

theorem sum_snoc (s : ByteArray) (k : Nat) (h : k < s.size) : sumL (s.data.toList.take (k + 1)) = sumStep (sumL (s.data.toList.take k)) s[k] := by
  unfold sumL
  rw [List.take_succ_eq_append_getElem (by simpa using h), List.foldl_append]
  rfl

theorem nib_walk (b : Nat) (hb : b < 4294967296) : bits .and .u32 (b : Int) 15 = ((b % 16 : Nat) : Int) ∧ bits .xor .u32 ((b : Int) / 16) (halvesL.getD (b % 16) 0) = (nib b : Int) := by
  have h1 := halfN_lt (b % 16) (by omega)
  constructor
  · have := u32_and_nat b 15 hb (by decide)
    rw [show b &&& 15 = b % 16 from Nat.and_two_pow_sub_one_eq_mod b 4] at this
    exact this
  · rw [h1.1, show (b : Int) / 16 = ((b / 16 : Nat) : Int) from by omega, u32_xor_nat _ _ (by omega) h1.2]
    rfl

/-- The check sum of some bytes. -/
def crc (l : List UInt8) : Nat := 4294967295 - sumL l

end Go.Proofs.YthacdegaeokgnaaGreatDoor

namespace Go.Proofs.YthacdegaeokgnaaGreatDoor
open Go.RowKit

/-- The tables that the laws' first call reads. -/
structure Laid (w : World) : Prop where
  halves : Lib.TabIs Tryz.prog w "bedrock/raw.halves" .u32 halvesL
  pow10 : Lib.TabIs Tryz.prog w "internal/strconv.uint64pow10" .u64 Lib.pow10Tab

theorem crc_9 : crc [49, 50, 51, 52, 53, 54, 55, 56, 57] = 3808858755 := by decide +kernel
theorem itoa_50 : Lib.itoa (-50) = [45, 53, 48] := by decide +kernel
theorem gv_300 : gv [172, 2, 120] 0 0 = .ok 300 2 := by rfl
theorem be_258 : be 258 2 = [1, 2] := by decide +kernel

end Go.Proofs.YthacdegaeokgnaaGreatDoor

namespace Go.Proofs.YthacdegaeokgnaaGreatDoor
open Go.RowKit

theorem gv_begin (l : List UInt8) : ∀ i v, (∀ c ∈ l, 128 ≤ c.toNat) → i + l.length < 9 → gv l i v = .err 3 := by
  induction l with
  | nil => intro i v _ h; exact gv_short _ _ _ (by simpa using h) rfl
  | cons c r ih =>
    intro i v hc hl
    rw [List.length_cons] at hl
    have hc' := hc c (by simp)
    rw [gv, if_neg (by omega), if_pos hc']
    exact ih _ _ (fun d hd => hc d (by simp [hd])) (by omega)

theorem pv_high (v : Nat) : ∀ i < (pv v).length, ∀ c ∈ (pv v).take i, 128 ≤ c.toNat := by
  induction v using Nat.strongRecOn with
  | _ v ih =>
    intro i hi c hc
    by_cases h : v < 128
    · rw [pv_last v h] at hi hc
      obtain rfl : i = 0 := by simpa using hi
      simp at hc
    · rw [pv_more v (by omega)] at hi hc
      match i, hc with
      | 0, hc => simp at hc
      | i + 1, hc =>
        rw [List.take_succ_cons, List.mem_cons] at hc
        rcases hc with rfl | hc
        · rw [UInt8.toNat_ofNat']; omega
        · exact ih (v / 128) (by omega) i (by simpa using hi) c hc

theorem pv_len (k v : Nat) (h : v < 2 ^ (7 * k)) (hk : 1 ≤ k) : (pv v).length ≤ k := by
  induction k generalizing v with
  | zero => omega
  | succ k ih =>
    by_cases hv : v < 128
    · rw [pv_last v hv]; simp
    · rw [pv_more v (by omega), List.length_cons]
      rcases Nat.eq_zero_or_pos k with h0 | h0
      · subst h0; simp at h; omega
      · have h2 : 2 ^ (7 * (k + 1)) = 128 * 2 ^ (7 * k) := by rw [Nat.mul_add, Nat.pow_add]; omega
        have := ih (v / 128) (by rw [Nat.div_lt_iff_lt_mul (by decide)]; omega) h0
        omega
theorem pv_pos (v : Nat) : 1 ≤ (pv v).length := by
  by_cases hv : v < 128
  · rw [pv_last v hv]; simp
  · rw [pv_more v (by omega)]; simp
theorem pv_len9 (v : Nat) (h : v < 9223372036854775808) : (pv v).length ≤ 9 := pv_len 9 v (by omega) (by decide)

theorem gv_pv (r : List UInt8) (u : Nat) : ∀ i a, i + (pv u).length ≤ 9 → (0 < i → 0 < u) → gv (pv u ++ r) i a = .ok (a + u * 2 ^ (7 * i)) (i + (pv u).length) := by
  induction u using Nat.strongRecOn with
  | _ u ih =>
    intro i a hi h0
    by_cases h : u < 128
    · rw [pv_last u h] at hi ⊢
      rw [List.length_singleton] at hi ⊢
      have e : (UInt8.ofNat u).toNat = u := by rw [UInt8.toNat_ofNat']; omega
      show gv (UInt8.ofNat u :: r) i a = _
      rw [gv, e, if_neg (by omega), if_neg (by omega), if_neg (by omega), Nat.mod_eq_of_lt h]
    · have hp := pv_more u (by omega)
      rw [hp] at hi ⊢
      rw [List.length_cons] at hi ⊢
      have hq := pv_pos (u / 128)
      have e : (UInt8.ofNat (u % 128 + 128)).toNat = u % 128 + 128 := by rw [UInt8.toNat_ofNat']; omega
      rw [List.cons_append, gv, e, if_neg (by omega), if_pos (by omega), ih (u / 128) (by omega) (i + 1) _ (by omega) (fun _ => by omega)]
      have e2 : (u % 128 + 128) % 128 = u % 128 := by omega
      have e3 : 2 ^ (7 * (i + 1)) = 128 * 2 ^ (7 * i) := by rw [Nat.mul_add, Nat.pow_add]; omega
      have e4 : u % 128 * 2 ^ (7 * i) + u / 128 * (128 * 2 ^ (7 * i)) = u * 2 ^ (7 * i) := by
        rw [← Nat.mul_assoc, ← Nat.add_mul]
        congr 1
        omega
      rw [e2, e3]
      congr 1
      · omega
      · omega



end Go.Proofs.YthacdegaeokgnaaGreatDoor

namespace Go.Proofs.YthacdegaeokgnaaGreatDoor
open Go.RowKit

set_option maxRecDepth 100000 in
set_option maxHeartbeats 1000000 in
theorem rget_bad (s : ByteArray) (w : World) (h : s.size < 1 ∨ 7 < s.size) :
    Calls Tryz.prog 30 #[.string s] w fun e w' => e = .returned (.tuple #[.int .i64 0, .int .i64 1]) ∧ w = w' := by
  by_cases h1 : s.size < 1
  · have h2 : decide (7 < (s.size : Int)) = false := decide_eq_false (by omega)
    clear h
    go_enter Tryz.func30, Tryz.ntmps30
    go_wp2
    go_ret2
    exact ⟨rfl, rfl⟩
  · have h2 : 7 < s.size := by omega
    clear h
    go_enter Tryz.func30, Tryz.ntmps30
    go_wp2
    go_ret2
    exact ⟨rfl, rfl⟩

set_option maxRecDepth 100000 in
set_option maxHeartbeats 1000000 in
theorem rget_ok (s : ByteArray) (w : World) (h1 : 1 ≤ s.size) (h7 : s.size ≤ 7) :
    Calls Tryz.prog 30 #[.string s] w fun e w' => e = .returned (.tuple #[.int .i64 (getL s.data.toList : Int), .int .i64 0]) ∧ w = w' := by
  go_enter Tryz.func30, Tryz.ntmps30
  go_wp2
  go_loop [4, 5] (fun v i => ∃ k a : Nat, k ≤ s.size ∧ i = .int .i64 (k : Int) ∧ v = .int .i64 (a : Int) ∧ a < 2 ^ (8 * k) ∧ Hid (a = getL (s.data.toList.take k))) (fun _ i => s.size - (intOf i).toNat)
  case atStart => exact ⟨0, 0, by omega, rfl, rfl, by decide, rfl⟩
  case round =>
    obtain ⟨k, a, hk, rfl, rfl, ha, Ha⟩ := hrel
    by_cases hl : k < s.size
    · have hb8 := UInt8.toNat_lt s[k]
      have h56 : (2 : Nat) ^ (8 * k) ≤ 2 ^ 48 := Nat.pow_le_pow_right (by decide) (by omega)
      have ha48 : a < 281474976710656 := by omega
      have hlt : a * 256 + s[k].toNat < 2 ^ (8 * (k + 1)) := by
        have : 2 ^ (8 * (k + 1)) = 2 ^ (8 * k) * 256 := by rw [Nat.mul_add, Nat.pow_add]
        omega
      have hsn := getL_snoc s k hl
      rw [← Ha.out] at hsn
      have Hsn := Lib.hid hsn
      have Hlt := Lib.hid hlt
      clear hsn hlt ha h56
      go_wp2
      go_round
      case rel => exact ⟨k + 1, a * 256 + s[k].toNat, by omega, by go_num, by go_num, Hlt.out, Hsn.out.symm⟩
      case measure => simp [intOf]; omega
    · obtain rfl : k = s.size := by omega
      have hae : a = getL s.data.toList := by
        have := Ha.out
        rwa [List.take_of_length_le (by simp)] at this
      have Hae := Lib.hid hae
      clear hae
      go_wp2
      go_ret2
      exact ⟨by rw [← Hae.out]; rfl, rfl⟩

theorem be_bytes (v n j : Nat) (h : j < n) : (be v n).drop j = UInt8.ofNat (v / 2 ^ (8 * (n - 1 - j)) % 256) :: (be v n).drop (j + 1) := by
  have hl : j < (be v n).length := by rw [be_length]; exact h
  have hg := be_get v n j h
  rw [List.getElem?_eq_getElem hl] at hg
  injection hg with hg
  rw [List.drop_eq_getElem_cons hl, hg]

theorem be_back (v n j k : Nat) (h : j + 1 + k = n) (x : Int) (hx : x = ((v / 2 ^ (8 * k) : Nat) : Int) % 256) :
    ((List.replicate (j + 1) (0 : UInt8) ++ (be v n).drop (j + 1)).map b8).set j (.int .u8 x) = (List.replicate j (0 : UInt8) ++ (be v n).drop j).map b8 := by
  have hb : Value.int .u8 x = b8 (UInt8.ofNat (v / 2 ^ (8 * k) % 256)) := by
    unfold b8
    rw [← u8_of _ (by omega), hx]
    congr 1
  rw [be_bytes v n j (by omega), show n - 1 - j = k from by omega, hb, ← List.map_set]
  congr 1
  rw [List.replicate_succ', List.append_assoc, List.set_append_right _ _ (by simp)]
  simp

theorem putIs_of (v n k : Nat) (h1 : 1 ≤ n) (h7 : n ≤ 7) (s : ByteArray) (hs : s = ⟨(be v n).toArray⟩) (h : v / 2 ^ (8 * n) = 0) : PutIs v n s 0 := by
  refine Or.inl ⟨rfl, by omega, by omega, by omega, ?_, ?_⟩
  · have h2 : v < 2 ^ (8 * n) := by
      rcases Nat.lt_or_ge v (2 ^ (8 * n)) with h3 | h3
      · exact h3
      · have := (Nat.le_div_iff_mul_le (Nat.two_pow_pos (8 * n))).2 (show 1 * 2 ^ (8 * n) ≤ v by omega)
        omega
    rw [Int.toNat_natCast]
    exact_mod_cast h2
  · rw [Int.toNat_natCast, Int.toNat_natCast]; exact hs

theorem putIs_not (v n : Nat) (h : 0 < v / 2 ^ (8 * n)) : PutIs v n ByteArray.empty 1 := by
  refine Or.inr ⟨rfl, rfl, Or.inr (Or.inr (Or.inr ?_))⟩
  rw [Int.toNat_natCast]
  have h2 : 2 ^ (8 * n) ≤ v := by
    have := (Nat.le_div_iff_mul_le (Nat.two_pow_pos (8 * n))).1 h
    omega
  exact_mod_cast h2

theorem putIs_one {v n : Int} {s t : ByteArray} {e f : Int} (h : PutIs v n s e) (k : PutIs v n t f) : s = t ∧ e = f := by
  rcases h with ⟨h0, h1, h2, h3, h4, h5⟩ | ⟨h0, h1, h2⟩
  · rcases k with ⟨k0, k1, k2, k3, k4, k5⟩ | ⟨k0, k1, k2⟩
    · exact ⟨h5.trans k5.symm, h0.trans k0.symm⟩
    · omega
  · rcases k with ⟨k0, k1, k2, k3, k4, k5⟩ | ⟨k0, k1, k2⟩
    · omega
    · exact ⟨h1.trans k1.symm, h0.trans k0.symm⟩

set_option maxRecDepth 100000 in
set_option maxHeartbeats 1000000 in
theorem rput_bad (v n : Int) (w : World) (h : n < 1 ∨ 7 < n ∨ v < 0) :
    Calls Tryz.prog 24 #[.int .i64 v, .int .i64 n] w fun e w' => e = .returned (.tuple #[.string ByteArray.empty, .int .i64 1]) ∧ w = w' := by
  by_cases h1 : n < 1
  · clear h
    go_enter Tryz.func24, Tryz.ntmps24
    go_wp2
    go_ret2
    exact ⟨rfl, rfl⟩
  by_cases h2 : 7 < n
  · clear h
    go_enter Tryz.func24, Tryz.ntmps24
    go_wp2
    go_ret2
    exact ⟨rfl, rfl⟩
  have h3 : v < 0 := by omega
  clear h
  go_enter Tryz.func24, Tryz.ntmps24
  go_wp2
  go_ret2
  exact ⟨rfl, rfl⟩

set_option maxRecDepth 100000 in
set_option maxHeartbeats 2000000 in
theorem rput_nat (v n : Nat) (w : World) (h1 : 1 ≤ n) (h7 : n ≤ 7) (hv : v < 9223372036854775808) :
    Calls Tryz.prog 24 #[.int .i64 (v : Int), .int .i64 (n : Int)] w fun e w' => ∃ (s : ByteArray) (er : Int), e = .returned (.tuple #[.string s, .int .i64 er]) ∧ Hid (PutIs v n s er) ∧ Below w.heap.size w w' := by
  obtain ⟨i0, hi0, hz0, hz1, hz2⟩ := info_parts u8info
  go_enter Tryz.func24, Tryz.ntmps24
  go_wp2_with (at_make; refine wpList_make_full _ rfl (.tmp 18) (.tmp 18) 68 rfl w.heap.size 5 i0 (.int .u8 0) 1 Tryz.underlying68 hi0 hz0 hz1 .i64 .i64 _ _ n rfl rfl rfl rfl ?b2 ?b3 ?b4 ?_)
  case b2 => rw [hz2]; omega
  case b3 => unfold maxLen; omega
  case b4 => exact Nat.le_refl _
  intro w1 hown hgr
  have hb1 : Below w.heap.size w w1 := (Below.refl _ _).grown hgr (Nat.le_refl _) (by simp)
  rw [show (madeCells #[Value.int IntKind.u8 0] n).toList = (List.replicate n (0 : UInt8)).map b8 from (toList_madeCells_one _ _).trans (by simp [b8])] at hown
  have Hown := Lib.hid hown
  clear hown hgr
  go_wp2
  go_loopw [0, 7] (fun x i wr => ∃ j k y : Nat, j + k = n ∧ i = .int .i64 ((j : Int) - 1) ∧ x = .int .i64 (y : Int) ∧ y ≤ v ∧ Hid (y = v / 2 ^ (8 * k)) ∧ wr.ownsRow w.heap.size 5 1 (.slice (some ⟨w.heap.size, 0, none⟩) n n) n ((List.replicate j 0 ++ (be v n).drop j).map b8) ∧ Below w.heap.size w wr)
    (fun _ i _ => (intOf i + 1).toNat)
  case atStart => exact ⟨n, 0, v, by omega, rfl, rfl, by omega, by show v = _; simp, by simpa [List.drop_of_length_le (Nat.le_of_eq (be_length v n))] using Hown.out, hb1⟩
  case round =>
    obtain ⟨j, k, y, hjk, hi, rfl, hy, Hy, hown, hbe⟩ := hrel
    cases j with
    | succ j =>
      rw [show (((j + 1 : Nat) : Int) - 1) = (j : Int) from by omega] at hi
      subst hi
      have hln : (List.replicate (j + 1) (0 : UInt8) ++ (be v n).drop (j + 1)).length = n := by simp [be]; omega
      have hc := hown.cellAt j (by omega)
      have hf := hown.frozenAt j
      obtain ⟨x, hx⟩ : ∃ x, ((List.replicate (j + 1) (0 : UInt8) ++ (be v n).drop (j + 1)).map b8)[j]? = some x := ⟨_, List.getElem?_eq_getElem (by rw [List.length_map, hln]; omega)⟩
      rw [hx] at hc
      have Hown' := Lib.hid hown
      have hjn : j < n := by omega
      clear hown hx hln
      go_wp2
      go_roundw
      case rel =>
        have hst := World.ownsRow.stored Hown'.out j (.int .u8 ((y : Int) % 256))
        rw [be_back v n j k (by omega) ((y : Int) % 256) (by rw [Hy.out])] at hst
        refine ⟨j, k + 1, y / 256, by omega, by go_num, by go_num, by omega, ?_, hst.1, below_setCell hbe (Nat.le_refl _) _⟩
        show _ = _
        rw [Hy.out, Nat.div_div_eq_div_mul, Nat.mul_add, Nat.pow_add]
      case measure => simp [intOf]
    | zero =>
      subst hi
      obtain rfl : k = n := by omega
      by_cases hpos : 0 < y
      · go_wp2
        go_ret2
        refine ⟨_, _, rfl, ?_, hbe⟩
        exact Lib.hid (putIs_not v k (by rw [← Hy.out]; exact hpos))
      · have hby : Byt wr w.heap.size 5 (.slice (some ⟨w.heap.size, 0, none⟩) k k) (be v k) := by
          unfold Byt
          rw [be_length]
          simpa using hown
        have hcv := hby.string (src := 68) (dst := 9) Tryz.underlying68 Tryz.underlying5 Tryz.underlying9
        clear hown hby
        go_wp2
        go_ret2
        exact ⟨_, _, rfl, Lib.hid (putIs_of v k 0 h1 h7 _ rfl (by rw [← Hy.out]; omega)), hbe⟩

theorem rput_any (v n : Int) (w : World) (hv : v < 9223372036854775808) :
    Calls Tryz.prog 24 #[.int .i64 v, .int .i64 n] w fun e w' => ∃ (s : ByteArray) (er : Int), e = .returned (.tuple #[.string s, .int .i64 er]) ∧ Hid (PutIs v n s er) ∧ Below w.heap.size w w' := by
  by_cases h : n < 1 ∨ 7 < n ∨ v < 0
  · refine (rput_bad v n w h).mono ?_
    rintro e w' ⟨rfl, rfl⟩
    exact ⟨_, _, rfl, Lib.hid (Or.inr ⟨rfl, rfl, by omega⟩), Below.refl _ _⟩
  · obtain ⟨n, rfl⟩ := Int.eq_ofNat_of_zero_le (show 0 ≤ n by omega)
    obtain ⟨v, rfl⟩ := Int.eq_ofNat_of_zero_le (show 0 ≤ v by omega)
    exact rput_nat v n w (by omega) (by omega) (by omega)
end Go.Proofs.YthacdegaeokgnaaGreatDoor

namespace Go.Proofs.YthacdegaeokgnaaGreatDoor
open Go.RowKit

set_option maxRecDepth 100000 in
set_option maxHeartbeats 1000000 in
theorem qkey_any (x : Nat) (hx : x < 18446744073709551616) (w : World) :
    Calls Tryz.prog 160 #[.float .f64 x] w fun e w' => e = .returned (.tuple #[.int .i64 ((rankN x / 4294967296 : Nat) : Int), .int .i64 ((rankN x % 4294967296 : Nat) : Int)]) ∧ w = w' := by
  have C := Lib.hid (qisnan_any x w)
  have hfb := run_float64bits x
  cases hn : isN x
  · rw [hn] at C
    rcases word_parts x hx with ⟨h1, h2, h3⟩ | ⟨h1, h2, h3⟩
    · have hr : rankN x = 18446744073709551615 - x := by unfold rankN; rw [hn, h1]; rfl
      have r1 : ((rankN x / 4294967296 : Nat) : Int) = 4294967295 - (x : Int) / 4294967296 := by rw [hr]; omega
      have r2 : ((rankN x % 4294967296 : Nat) : Int) = 4294967295 - (x : Int) % 4294967296 := by rw [hr]; omega
      rw [r1, r2]
      have hd : decide ((2147483648 : Int) ≤ (x : Int) / 4294967296) = true := decide_eq_true (by omega)
      have hq : (x : Int) / 4294967296 ≤ 4294967295 := by omega
      have hq0 : 0 ≤ (x : Int) / 4294967296 := by omega
      clear hr r1 r2 h1 h2 h3 hn
      go_enter Tryz.func160, Tryz.ntmps160
      go_wp2_with fail
      refine C.out.mono ?_
      rintro e w' ⟨rfl, rfl⟩
      go_wp2_with fail
      go_ret2
      exact ⟨rfl, rfl⟩
    · have hr : rankN x = x + 9223372036854775808 := by unfold rankN; rw [hn, h1]; rfl
      have r1 : ((rankN x / 4294967296 : Nat) : Int) = (x : Int) / 4294967296 + 2147483648 := by rw [hr]; omega
      have r2 : ((rankN x % 4294967296 : Nat) : Int) = (x : Int) % 4294967296 := by rw [hr]; omega
      rw [r1, r2]
      have hd : decide ((2147483648 : Int) ≤ (x : Int) / 4294967296) = false := decide_eq_false (by omega)
      have hq : (x : Int) / 4294967296 ≤ 4294967295 := by omega
      have hq0 : 0 ≤ (x : Int) / 4294967296 := by omega
      clear hr r1 r2 h1 h2 h3 hn
      go_enter Tryz.func160, Tryz.ntmps160
      go_wp2_with fail
      refine C.out.mono ?_
      rintro e w' ⟨rfl, rfl⟩
      go_wp2_with fail
      go_ret2
      exact ⟨rfl, rfl⟩
  · rw [hn] at C
    rw [rank_nan x hn]
    go_enter Tryz.func160, Tryz.ntmps160
    go_wp2_with fail
    refine C.out.mono ?_
    rintro e w' ⟨rfl, rfl⟩
    go_wp2_with fail
    go_ret2
    exact ⟨rfl, rfl⟩

set_option maxRecDepth 100000 in
set_option maxHeartbeats 2000000 in
theorem qcompare_any (x y : Nat) (hx : x < 18446744073709551616) (hy : y < 18446744073709551616) (w : World) :
    Calls Tryz.prog 146 #[.float .f64 x, .float .f64 y] w fun e w' => e = .returned (.int .i64 (cmpN x y)) ∧ w = w' := by
  have C := fun W => Lib.hid (qkey_any x hx W)
  have D := fun W => Lib.hid (qkey_any y hy W)
  have hc : (((rankN x / 4294967296 : Nat) : Int) < ((rankN y / 4294967296 : Nat) : Int) ∧ cmpN x y = -1) ∨
      (((rankN x / 4294967296 : Nat) : Int) = ((rankN y / 4294967296 : Nat) : Int) ∧ ((rankN x % 4294967296 : Nat) : Int) < ((rankN y % 4294967296 : Nat) : Int) ∧ cmpN x y = -1) ∨
      (((rankN x / 4294967296 : Nat) : Int) = ((rankN y / 4294967296 : Nat) : Int) ∧ ((rankN x % 4294967296 : Nat) : Int) = ((rankN y % 4294967296 : Nat) : Int) ∧ cmpN x y = 0) ∨
      (((rankN x / 4294967296 : Nat) : Int) = ((rankN y / 4294967296 : Nat) : Int) ∧ ((rankN y % 4294967296 : Nat) : Int) < ((rankN x % 4294967296 : Nat) : Int) ∧ cmpN x y = 1) ∨
      (((rankN y / 4294967296 : Nat) : Int) < ((rankN x / 4294967296 : Nat) : Int) ∧ cmpN x y = 1) := by
    rcases Nat.lt_trichotomy (rankN x) (rankN y) with h | h | h
    · rw [cmpN_lt h]; omega
    · rw [cmpN_eq h]; omega
    · rw [cmpN_gt h]; omega
  generalize cmpN x y = c at *
  generalize ((rankN x / 4294967296 : Nat) : Int) = a at *
  generalize ((rankN x % 4294967296 : Nat) : Int) = b at *
  generalize ((rankN y / 4294967296 : Nat) : Int) = p at *
  generalize ((rankN y % 4294967296 : Nat) : Int) = q at *
  clear hx hy
  rcases hc with ⟨h1, rfl⟩ | ⟨rfl, h2, rfl⟩ | ⟨rfl, rfl, rfl⟩ | ⟨rfl, h2, rfl⟩ | ⟨h1, rfl⟩
  all_goals
    go_enter Tryz.func146, Tryz.ntmps146
    go_wp2_with fail
    refine (C _).out.mono ?_
    rintro e w' ⟨rfl, rfl⟩
    go_wp2_with fail
    refine (D _).out.mono ?_
    rintro e w' ⟨rfl, rfl⟩
    go_wp2_with fail
    go_ret
    exact ⟨rfl, rfl⟩

set_option maxHeartbeats 400000 in
theorem qsame_any (x y : Nat) (hx : x < 18446744073709551616) (hy : y < 18446744073709551616) (w : World) :
    Calls Tryz.prog 107 #[.float .f64 x, .float .f64 y] w fun e w' => e = .returned (.bool (cmpN x y == 0)) ∧ w = w' := by
  have S := Lib.hid (qcompare_any x y hx hy w)
  go_enter Tryz.func107, Tryz.ntmps107
  go_wp2_with fail
  refine S.out.mono ?_
  rintro e w' ⟨rfl, rfl⟩
  go_wp2_with fail
  go_ret
  exact ⟨rfl, rfl⟩

/-! ### Put -/
theorem be_cat (m : Nat) : ∀ (n v : Nat), be v (n + m) = be (v / 2 ^ (8 * m)) n ++ be v m
  | 0, v => by simp [be]
  | n + 1, v => by
    rw [show n + 1 + m = (n + m) + 1 from by omega, be_succ, be_succ, be_cat m n v, List.cons_append, Nat.div_div_eq_div_mul, ← Nat.pow_add]
    congr 6
    omega
theorem be_half (v : Nat) : be v 8 = be (v / 4294967296) 4 ++ be (v % 4294967296) 4 := by
  have h := be_cat 4 4 v
  have h2 := be_mod v 4
  rw [show (2 : Nat) ^ (8 * 4) = 4294967296 from by decide] at h h2
  rw [← h2]
  exact h

theorem rput4 (v : Nat) (w : World) (hv : v < 4294967296) :
    Calls Tryz.prog 24 #[.int .i64 (v : Int), .int .i64 4] w fun e w' => e = .returned (.tuple #[.string ⟨(be v 4).toArray⟩, .int .i64 0]) ∧ Below w.heap.size w w' := by
  refine (rput_any (v : Int) 4 w (by omega)).mono ?_
  rintro e w' ⟨s, er, rfl, hp, hb⟩
  rcases hp.out with ⟨rfl, _, _, _, _, rfl⟩ | ⟨_, _, h⟩
  · exact ⟨by rw [Int.toNat_natCast]; rfl, hb⟩
  · rw [show (2 : Int) ^ (8 * (4 : Int).toNat) = 4294967296 from by decide] at h
    omega

end Go.Proofs.YthacdegaeokgnaaGreatDoor

namespace Go.Proofs.YthacdegaeokgnaaGreatDoor
open Go.RowKit

def sameActN (kd : Int) (nu : Nat) (it : Int) (tx : ByteArray) (kd' : Int) (nu' : Nat) (it' : Int) (tx' : ByteArray) : Bool := (kd == kd') && ((cmpN nu nu' == 0) && ((it == it') && (tx.toList == tx'.toList)))
def sameVerN (key : ByteArray) (xs : List Int) (o x kd : Int) (nu : Nat) (it : Int) (tx : ByteArray) (key' : ByteArray) (xs' : List Int) (o' x' kd' : Int) (nu' : Nat) (it' : Int) (tx' : ByteArray) : Bool :=
  (key.toList == key'.toList) && (decide (xs = xs') && ((o == o') && ((x == x') && sameActN kd nu it tx kd' nu' it' tx')))

/-- An act as a value. -/
def actV (kd : Int) (nu : Nat) (it : Int) (tx : ByteArray) : Value := .agg #[.int .i64 kd, .float .f64 nu, .int .i64 it, .string tx]

set_option maxRecDepth 100000 in
set_option maxHeartbeats 4000000 in
theorem rsameact_any (kd : Int) (nu : Nat) (it : Int) (tx : ByteArray) (kd' : Int) (nu' : Nat) (it' : Int) (tx' : ByteArray) (hn : nu < 18446744073709551616) (hn' : nu' < 18446744073709551616) (w : World) :
    Calls Tryz.prog 33 #[actV kd nu it tx, actV kd' nu' it' tx'] w fun e w' => e = .returned (.bool (sameActN kd nu it tx kd' nu' it' tx')) ∧ Below w.heap.size w w' := by
  unfold actV sameActN
  have C := fun W => Lib.hid (qsame_any nu nu' hn hn' W)
  have hb : Hid (Below w.heap.size w ((w.alloc (.cells #[.int .i64 kd, .float .f64 nu, .int .i64 it, .string tx] 26)).alloc (.cells #[.int .i64 kd', .float .f64 nu', .int .i64 it', .string tx'] 26))) :=
    ((Below.refl _ w).alloc (Nat.le_refl _) _).alloc (by simp) _
  obtain ⟨q1, h1⟩ : ∃ q, (kd == kd') = q := ⟨_, rfl⟩
  obtain ⟨q2, h2⟩ : ∃ q, (cmpN nu nu' == 0) = q := ⟨_, rfl⟩
  obtain ⟨q3, h3⟩ : ∃ q, (it == it') = q := ⟨_, rfl⟩
  obtain ⟨q4, h4⟩ : ∃ q, (tx.toList == tx'.toList) = q := ⟨_, rfl⟩
  rw [h1, h2, h3, h4]
  simp only [h2] at C
  clear h2
  cases q1
  · go_enter Tryz.func33, Tryz.ntmps33
    go_wp2_with fail
    go_ret
    exact ⟨rfl, hb.out⟩
  · cases q2
    · go_enter Tryz.func33, Tryz.ntmps33
      go_wp2_with fail
      refine (C _).out.mono ?_
      rintro e w' ⟨rfl, rfl⟩
      go_wp2_with fail
      go_ret
      exact ⟨rfl, hb.out⟩
    · cases q3
      · go_enter Tryz.func33, Tryz.ntmps33
        go_wp2_with fail
        refine (C _).out.mono ?_
        rintro e w' ⟨rfl, rfl⟩
        go_wp2_with fail
        go_ret
        exact ⟨rfl, hb.out⟩
      · go_enter Tryz.func33, Tryz.ntmps33
        go_wp2_with fail
        refine (C _).out.mono ?_
        rintro e w' ⟨rfl, rfl⟩
        go_wp2_with fail
        go_ret
        exact ⟨by simp, hb.out⟩

set_option maxRecDepth 100000 in
set_option maxHeartbeats 8000000 in
theorem rsamever_any (key : ByteArray) (A : Option Addr) (n c : Nat) (o x kd : Int) (nu : Nat) (it : Int) (tx : ByteArray) (xs : List Int) (key' : ByteArray) (A' : Option Addr) (n' c' : Nat) (o' x' kd' : Int) (nu' : Nat) (it' : Int) (tx' : ByteArray) (xs' : List Int)
    (w : World) (I : IntsIn w A n xs) (I' : IntsIn w A' n' xs') (hn : nu < 18446744073709551616) (hn' : nu' < 18446744073709551616) :
    Calls Tryz.prog 11 #[verV key A n c o x kd nu it tx, verV key' A' n' c' o' x' kd' nu' it' tx'] w fun e w' => e = .returned (.bool (sameVerN key xs o x kd nu it tx key' xs' o' x' kd' nu' it' tx')) ∧ Below w.heap.size w w' := by
  unfold verV sameVerN
  have hb : Hid (Below w.heap.size w ((w.alloc (.cells #[.string key, .slice A n c, .int .i64 o, .int .i64 x, .int .i64 kd, .float .f64 nu, .int .i64 it, .string tx] 28)).alloc (.cells #[.string key', .slice A' n' c', .int .i64 o', .int .i64 x', .int .i64 kd', .float .f64 nu', .int .i64 it', .string tx'] 28))) :=
    ((Below.refl _ w).alloc (Nat.le_refl _) _).alloc (by simp) _
  have S := Lib.hid (rsame_any A n c xs A' n' c' xs' _ (I.below hb.out) (I'.below hb.out))
  have CA := fun W => Lib.hid (rsameact_any kd nu it tx kd' nu' it' tx' hn hn' W)
  simp only [actV] at CA
  clear I I'
  obtain ⟨q1, h1⟩ : ∃ q, (key.toList == key'.toList) = q := ⟨_, rfl⟩
  obtain ⟨q2, h2⟩ : ∃ q, decide (xs = xs') = q := ⟨_, rfl⟩
  obtain ⟨q3, h3⟩ : ∃ q, (o == o') = q := ⟨_, rfl⟩
  obtain ⟨q4, h4⟩ : ∃ q, (x == x') = q := ⟨_, rfl⟩
  rw [h1, h2, h3, h4]
  rw [h2] at S
  generalize sameActN kd nu it tx kd' nu' it' tx' = q5 at *
  clear h2
  cases q1
  · go_enter Tryz.func11, Tryz.ntmps11
    go_wp2_with fail
    go_ret
    exact ⟨by simp, hb.out⟩
  · cases q2
    · go_enter Tryz.func11, Tryz.ntmps11
      go_wp2_with fail
      refine S.out.mono ?_
      rintro e w1 ⟨rfl, q, rfl⟩
      go_wp2_with fail
      go_ret
      exact ⟨by simp, below_drewN hb.out q⟩
    · cases q3
      · go_enter Tryz.func11, Tryz.ntmps11
        go_wp2_with fail
        refine S.out.mono ?_
        rintro e w1 ⟨rfl, q, rfl⟩
        go_wp2_with fail
        go_ret
        exact ⟨by simp, below_drewN hb.out q⟩
      · cases q4
        · go_enter Tryz.func11, Tryz.ntmps11
          go_wp2_with fail
          refine S.out.mono ?_
          rintro e w1 ⟨rfl, q, rfl⟩
          go_wp2_with fail
          go_ret
          exact ⟨by simp, below_drewN hb.out q⟩
        · go_enter Tryz.func11, Tryz.ntmps11
          go_wp2_with fail
          refine S.out.mono ?_
          rintro e w1 ⟨rfl, q, rfl⟩
          go_wp2_with fail
          refine (CA _).out.mono ?_
          rintro e w2 ⟨rfl, h2⟩
          have hb2 := (below_drewN hb.out q).trans (h2.mono (show w.heap.size ≤ (((w.alloc (.cells #[.string key, .slice A n c, .int .i64 o, .int .i64 x, .int .i64 kd, .float .f64 nu, .int .i64 it, .string tx] 28)).alloc (.cells #[.string key', .slice A' n' c', .int .i64 o', .int .i64 x', .int .i64 kd', .float .f64 nu', .int .i64 it', .string tx'] 28)).drewN q).heap.size by simp; omega))
          go_wp2_with fail
          go_ret
          exact ⟨by simp, hb2⟩
end Go.Proofs.YthacdegaeokgnaaGreatDoor

namespace Go.Proofs.YthacdegaeokgnaaGreatDoor
open Go.RowKit

theorem bytes_ext {X Y : ByteArray} (h : X.data.toList = Y.data.toList) : X = Y := by
  cases X; cases Y
  simpa using h
/-- Of a version's bytes Get tells the version. -/
theorem kget_of {key : ByteArray} {xs : List Int} {o x : Int} (h : OkV key.data.toList xs o x) (s : ByteArray) (hs : s.data.toList = putVL key.data.toList xs o x) (w : World) :
    Calls Tryz.prog 8 #[.string s] w fun e w' => (∃ A c, e = .returned (.tuple #[verV key A xs.length c o x 0 0 0 ByteArray.empty, .int .i64 0]) ∧ Nums w' w.heap.size 3 (.slice A xs.length c) xs) ∧ Below w.heap.size w w' := by
  have hsz : s.size ≤ 140737488351232 := by
    rw [str_size, hs]
    have := putVL_length h
    omega
  refine (kget_any s w hsz).mono fun e w' ⟨hg, hb⟩ => ⟨?_, hb⟩
  rcases hg with ⟨key', A, c, o', x', xs', h', e1, e2, hN⟩ | ⟨hno, _⟩
  · obtain ⟨k1, k2, k3, k4⟩ := putVL_inj h h' (hs.symm.trans e1)
    have k1 := bytes_ext k1
    subst k1 k2 k3 k4
    exact ⟨A, c, e2, hN⟩
  · exact absurd hs (hno key xs o x h)
theorem kkey_of {key : ByteArray} {xs : List Int} {o x : Int} (h : OkV key.data.toList xs o x) (s : ByteArray) (hs : s.data.toList = putVL key.data.toList xs o x) (w : World) :
    Calls Tryz.prog 10 #[.string s] w fun e w' => e = .returned (.tuple #[.string key, .int .i64 0]) ∧ Below w.heap.size w w' := by
  have hsz : s.size ≤ 140737488351232 := by
    rw [str_size, hs]
    have := putVL_length h
    omega
  refine (kkey_any s w hsz).mono fun e w' ⟨hg, hb⟩ => ⟨?_, hb⟩
  rcases hg with ⟨key', xs', o', x', h', e1, e2⟩ | ⟨hno, _⟩
  · obtain ⟨k1, k2, k3, k4⟩ := putVL_inj h h' (hs.symm.trans e1)
    rw [bytes_ext k1]
    exact e2
  · exact absurd hs (hno key xs o x h)
theorem sameVerN_self (key : ByteArray) (xs : List Int) (o x kd : Int) (it : Int) (tx : ByteArray) : sameVerN key xs o x kd 0 it tx key xs o x kd 0 it tx = true := by
  unfold sameVerN sameActN
  have : (cmpN 0 0 == 0) = true := by decide
  simp [this]
theorem sameVerN_ne {key key' : ByteArray} {xs xs' : List Int} {o o' x x' kd kd' : Int} {nu nu' : Nat} {it it' : Int} {tx tx' : ByteArray} (h : ¬ (key = key' ∧ xs = xs' ∧ o = o' ∧ x = x')) : sameVerN key xs o x kd nu it tx key' xs' o' x' kd' nu' it' tx' = false := by
  unfold sameVerN
  rw [str_eq]
  by_cases h1 : key.data.toList = key'.data.toList
  · by_cases h2 : xs = xs'
    · by_cases h3 : o = o'
      · by_cases h4 : x = x'
        · exact absurd ⟨bytes_ext h1, h2, h3, h4⟩ h
        · simp [h4]
      · simp [h3]
    · simp [h2]
  · simp [h1]
/-- Of other bytes Get tells another version, or none. -/
theorem kget_other {key : ByteArray} {xs : List Int} {o x : Int} (h : OkV key.data.toList xs o x) (s : ByteArray) (hsz : s.size ≤ 140737488351232) (hs : s.data.toList ≠ putVL key.data.toList xs o x) (w : World) :
    Calls Tryz.prog 8 #[.string s] w fun e w' => ((∃ key' A c o' x' xs', e = .returned (.tuple #[verV key' A xs'.length c o' x' 0 0 0 ByteArray.empty, .int .i64 0]) ∧ Nums w' w.heap.size 3 (.slice A xs'.length c) xs' ∧ validL xs' = true ∧ sameVerN key' xs' o' x' 0 0 0 ByteArray.empty key xs o x 0 0 0 ByteArray.empty = false) ∨
      e = .returned (.tuple #[verV ByteArray.empty none 0 0 0 0 0 0 0 ByteArray.empty, .int .i64 4])) ∧ Below w.heap.size w w' := by
  refine (kget_any s w hsz).mono fun e w' ⟨hg, hb⟩ => ⟨?_, hb⟩
  rcases hg with ⟨key', A, c, o', x', xs', h', e1, e2, hN⟩ | ⟨_, e2⟩
  · refine Or.inl ⟨key', A, c, o', x', xs', e2, hN, h'.at_, sameVerN_ne ?_⟩
    rintro ⟨rfl, rfl, rfl, rfl⟩
    exact hs e1
  · exact Or.inr e2
/-- The numbers of an own row as they are read. -/
theorem nums_in {w : World} {B : Nat} {A : Option Addr} {c : Nat} {xs : List Int} (h : Nums w B 3 (.slice A xs.length c) xs) (hv : validL xs = true) : IntsIn w A xs.length xs := by
  obtain ⟨A', c', e, hI, _⟩ := Nums.ints h (fun z hz => by have := valid_mem hv z hz; simp [Lit.wf, IntKind.min, IntKind.max, IntKind.signed, IntKind.bits]; omega)
  cases e
  exact hI
end Go.Proofs.YthacdegaeokgnaaGreatDoor

namespace Go.Proofs.YthacdegaeokgnaaGreatDoor
open Go.RowKit

theorem get5_plain {data acc : List UInt8} {k : Nat} (F : scanL (data.length + 1) [] data = (acc, data.drop k)) {key : List UInt8} {xs : List Int} {o x : Int} (h : OkV key xs o x) (e : data = putVL key xs o x) :
    acc = key ∧ k + 15 ≤ data.length ∧ 255 - ((getL ((data.drop (k + 8)).take 1) : Nat) : Int) = o ∧ 281474976710655 - ((getL ((data.drop (k + 9)).take 6) : Nat) : Int) = x ∧ data.drop (k + 15) = vecB xs := by
  have hl := putVL_length h
  have hh := headL_two key
  have h1 := scanL_put key xs o x data.length (by rw [e]; omega)
  rw [← e, F] at h1
  have ha : acc = key := congrArg Prod.fst h1
  have hr : data.drop k = 0 :: 1 :: tailL (timeN xs o).toNat o.toNat x.toNat (vecB xs) := congrArg Prod.snd h1
  have t := h.time
  have a1 := h.o0
  have a2 := h.o255
  have b1 := h.x0
  have b2 := h.x1
  have hlen := congrArg List.length hr
  rw [List.length_drop, List.length_cons, List.length_cons, tailL_length, vecB_length] at hlen
  have hd : ∀ j, data.drop (k + j) = (0 :: 1 :: tailL (timeN xs o).toNat o.toNat x.toNat (vecB xs)).drop j := by
    intro j
    rw [← hr, List.drop_drop]
  have l1 := be_length (281474976710655 - (timeN xs o).toNat) 6
  have l2 := be_length (255 - o.toNat) 1
  have l3 := be_length (281474976710655 - x.toNat) 6
  have g2 := getL_be 1 (255 - o.toNat) (by omega)
  have g3 := getL_be 6 (281474976710655 - x.toNat) (by omega)
  refine ⟨ha, by omega, ?_, ?_, ?_⟩
  · rw [hd 8]
    unfold tailL
    generalize be (281474976710655 - (timeN xs o).toNat) 6 = B1 at *
    generalize be (255 - o.toNat) 1 = B2 at *
    have : (0 :: 1 :: (B1 ++ (B2 ++ (be (281474976710655 - x.toNat) 6 ++ vecB xs)))).drop 8 = B2 ++ (be (281474976710655 - x.toNat) 6 ++ vecB xs) := by
      show (B1 ++ (B2 ++ (be (281474976710655 - x.toNat) 6 ++ vecB xs))).drop 6 = _
      rw [← l1, List.drop_left]
    rw [this, ← l2, List.take_left, g2]
    omega
  · rw [hd 9]
    unfold tailL
    generalize be (281474976710655 - (timeN xs o).toNat) 6 = B1 at *
    generalize be (255 - o.toNat) 1 = B2 at *
    generalize be (281474976710655 - x.toNat) 6 = B3 at *
    have : (0 :: 1 :: (B1 ++ (B2 ++ (B3 ++ vecB xs)))).drop 9 = B3 ++ vecB xs := by
      show (B1 ++ (B2 ++ (B3 ++ vecB xs))).drop 7 = _
      rw [← List.append_assoc, show 7 = (B1 ++ B2).length by rw [List.length_append]; omega, List.drop_left]
    rw [this, ← l3, List.take_left, g3]
    omega
  · rw [hd 15]
    unfold tailL
    generalize be (281474976710655 - (timeN xs o).toNat) 6 = B1 at *
    generalize be (255 - o.toNat) 1 = B2 at *
    generalize be (281474976710655 - x.toNat) 6 = B3 at *
    show (B1 ++ (B2 ++ (B3 ++ vecB xs))).drop 13 = _
    rw [← List.append_assoc, ← List.append_assoc, show 13 = (B1 ++ B2 ++ B3).length by rw [List.length_append, List.length_append]; omega, List.drop_left]
end Go.Proofs.YthacdegaeokgnaaGreatDoor

namespace Go.Proofs.YthacdegaeokgnaaGreatDoor
open Go.RowKit

/-- A key with its zeros told apart. -/
def escL (l : List UInt8) : List UInt8 := l.flatMap fun c => if c = 0 then [0, 255] else [c]
theorem headL_esc : ∀ l : List UInt8, headL l = escL l ++ [0, 1]
  | [] => rfl
  | c :: l => by
    unfold headL escL
    rw [List.flatMap_cons]
    have := headL_esc l
    unfold escL at this
    by_cases h : c = 0
    · rw [if_pos h, if_pos h, this]; rfl
    · rw [if_neg h, if_neg h, this]; rfl
theorem escL_length (l : List UInt8) : (escL l).length ≤ 2 * l.length := by
  have := (headL_two l).2.2
  rw [headL_esc, List.length_append] at this
  simp at this
  omega
theorem escL_snoc (s : ByteArray) (k : Nat) (h : k < s.size) : escL (s.data.toList.take (k + 1)) = escL (s.data.toList.take k) ++ (if s[k] = 0 then [0, 255] else [s[k]]) := by
  have e : s.data.toList.take (k + 1) = s.data.toList.take k ++ [s[k]] := by
    rw [List.take_succ_eq_append_getElem (by simpa using h)]
    rfl
  rw [e]
  unfold escL
  rw [List.flatMap_append]
  simp

set_option maxRecDepth 100000 in
set_option maxHeartbeats 4000000 in
theorem riskey_any (s : ByteArray) (w : World) (hs : s.size ≤ 9223372036854775807) :
    Calls Tryz.prog 15 #[.string s] w fun e w' => e = .returned (.bool (isKeyL s.data.toList)) ∧ w' = w := by
  have hlen : s.data.toList.length = s.size := (str_size s).symm
  by_cases h1 : 1 ≤ s.size
  · by_cases h2 : s.size ≤ 64
    · have hlt : 0 < s.size := by omega
      obtain ⟨c, hc⟩ : ∃ c : UInt8, s[0]'hlt = c := ⟨_, rfl⟩
      have hd : s.data.toList.headD 0 = c := by
        rw [← hc]
        cases hx : s.data.toList with
        | nil => rw [hx] at hlen; simp at hlen; omega
        | cons a l =>
          have : s[0]'hlt = s.data.toList[0]'(by rw [hlen]; omega) := rfl
          rw [this]
          simp [hx]
      have hk : isKeyL s.data.toList = decide (c = 114 ∨ c = 116 ∨ c = 99 ∨ c = 120 ∨ c = 110) := by
        unfold isKeyL
        rw [hlen, hd]
        congr 1
        apply propext
        constructor
        · exact fun h => h.2
        · exact fun h => ⟨⟨h1, h2⟩, h⟩
      rw [hk]
      have e0 : (1 : Int) ≤ (s.size : Int) := by omega
      have e64 : (s.size : Int) ≤ 64 := by omega
      have eq : ∀ d : UInt8, ((c.toNat : Int) == (d.toNat : Int)) = decide (c = d) := by
        intro d
        rw [Bool.eq_iff_iff, beq_iff_eq, decide_eq_true_eq]
        constructor
        · intro h; exact UInt8.toNat_inj.1 (by omega)
        · rintro rfl; rfl
      have q1 := eq 114
      have q2 := eq 116
      have q3 := eq 99
      have q4 := eq 120
      have q5 := eq 110
      rw [show ((114 : UInt8).toNat : Int) = 114 from rfl] at q1
      rw [show ((116 : UInt8).toNat : Int) = 116 from rfl] at q2
      rw [show ((99 : UInt8).toNat : Int) = 99 from rfl] at q3
      rw [show ((120 : UInt8).toNat : Int) = 120 from rfl] at q4
      rw [show ((110 : UInt8).toNat : Int) = 110 from rfl] at q5
      clear eq hk hd hlen h1 h2
      by_cases g1 : c = 114
      · rw [decide_eq_true g1] at q1
        rw [decide_eq_true (Or.inl g1)]
        clear q2 q3 q4 q5 g1
        go_enter Tryz.func15, Tryz.ntmps15
        go_wp2_with fail
        go_ret
        exact ⟨rfl, rfl⟩
      · rw [decide_eq_false g1] at q1
        by_cases g2 : c = 116
        · rw [decide_eq_true g2] at q2
          rw [decide_eq_true (Or.inr (Or.inl g2))]
          clear q3 q4 q5 g1 g2
          go_enter Tryz.func15, Tryz.ntmps15
          go_wp2_with fail
          go_ret
          exact ⟨rfl, rfl⟩
        · rw [decide_eq_false g2] at q2
          by_cases g3 : c = 99
          · rw [decide_eq_true g3] at q3
            rw [decide_eq_true (Or.inr (Or.inr (Or.inl g3)))]
            clear q4 q5 g1 g2 g3
            go_enter Tryz.func15, Tryz.ntmps15
            go_wp2_with fail
            go_ret
            exact ⟨rfl, rfl⟩
          · rw [decide_eq_false g3] at q3
            by_cases g4 : c = 120
            · rw [decide_eq_true g4] at q4
              rw [decide_eq_true (Or.inr (Or.inr (Or.inr (Or.inl g4))))]
              clear q5 g1 g2 g3 g4
              go_enter Tryz.func15, Tryz.ntmps15
              go_wp2_with fail
              go_ret
              exact ⟨rfl, rfl⟩
            · rw [decide_eq_false g4] at q4
              have hf : decide (c = 114 ∨ c = 116 ∨ c = 99 ∨ c = 120 ∨ c = 110) = decide (c = 110) := by
                congr 1
                apply propext
                constructor
                · rintro (h | h | h | h | h)
                  · exact absurd h g1
                  · exact absurd h g2
                  · exact absurd h g3
                  · exact absurd h g4
                  · exact h
                · exact fun h => Or.inr (Or.inr (Or.inr (Or.inr h)))
              rw [hf]
              generalize decide (c = 110) = r at *
              clear g1 g2 g3 g4 hf
              go_enter Tryz.func15, Tryz.ntmps15
              go_wp2_with fail
              go_ret
              exact ⟨rfl, rfl⟩
    · have hk : isKeyL s.data.toList = false := by unfold isKeyL; rw [hlen]; exact decide_eq_false (by omega)
      rw [hk]
      have e0 : (1 : Int) ≤ (s.size : Int) := by omega
      have e64 : ¬ (s.size : Int) ≤ 64 := by omega
      clear hk hlen
      go_enter Tryz.func15, Tryz.ntmps15
      go_wp2_with fail
      go_ret
      exact ⟨rfl, rfl⟩
  · have hk : isKeyL s.data.toList = false := by unfold isKeyL; rw [hlen]; exact decide_eq_false (by omega)
    rw [hk]
    have e0 : ¬ (1 : Int) ≤ (s.size : Int) := by omega
    clear hk hlen
    go_enter Tryz.func15, Tryz.ntmps15
    go_wp2_with fail
    go_ret
    exact ⟨rfl, rfl⟩

set_option maxRecDepth 100000 in
set_option maxHeartbeats 4000000 in
theorem rhead_any (s : ByteArray) (w : World) (hs : s.size ≤ 100000) :
    Calls Tryz.prog 17 #[.string s] w fun e w' => e = .returned (.string ⟨(headL s.data.toList).toArray⟩) ∧ Below w.heap.size w w' := by
  go_enter Tryz.func17, Tryz.ntmps17
  go_wp2_with fail
  go_loopw [3, 4] (fun b i wr => ∃ k : Nat, k ≤ s.size ∧ i = .int .i64 (k : Int) ∧ Byt wr w.heap.size 5 b (escL (s.data.toList.take k)) ∧ Below w.heap.size w wr) (fun _ i _ => s.size - (intOf i).toNat)
  case atStart => exact ⟨0, by omega, rfl, Byt.nil _ _ _, Below.refl _ _⟩
  case round =>
    obtain ⟨k, hk, rfl, hown, hbe⟩ := hrel
    have hle := escL_length (s.data.toList.take k)
    have hl2 := List.length_take_le k s.data.toList
    have hlen : (escL (s.data.toList.take k)).length + 4 < 140737488355328 := by omega
    have Hlen := Lib.hid hlen
    clear hle hl2 hlen
    by_cases hl : k < s.size
    · have hl1 : (k : Int) < (s.size : Int) := by omega
      have Hs := Lib.hid (escL_snoc s k hl)
      by_cases h0 : s[k] = 0
      · have Hs2 : Hid (escL (s.data.toList.take (k + 1)) = (escL (s.data.toList.take k) ++ [s[k]]) ++ [255]) := by
          have := Hs.out
          rw [if_pos h0] at this
          unfold Hid
          rw [this, h0, List.append_assoc]
          rfl
        have e0 : ((s[k].toNat : Int) == 0) = true := by rw [h0]; rfl
        clear Hs h0
        go_wp2_with (first
          | (at_builtin; refine wpList_append_byte _ rfl (.tmp 11) (.tmp 15) 68 rfl Tryz.underlying68 u8info rfl (hown.alloc _) ⟨wr.heap.size, 0, none⟩ 1 rfl _ (cell_new _ _ _) s[k] rfl (Nat.lt_of_le_of_lt (Nat.le_add_right _ _) Hlen.out) (Nat.le_trans hbe.size (by simp)) ?_; intro v1 w1 hown1 hgr1; have hb1 := (hown.alloc (.cells #[.int .u8 (s[k].toNat : Int)] 5)).grown (below_alloc hbe (Nat.le_refl _) _) (Nat.le_trans hbe.size (by simp)) hgr1; clear hgr1 hown hbe)
          | (at_builtin; refine wpList_append_byte _ rfl (.tmp 21) (.tmp 22) 68 rfl Tryz.underlying68 u8info rfl (hown1.alloc _) ⟨w1.heap.size, 0, none⟩ 1 rfl _ (cell_new _ _ _) 255 rfl (by have := Hlen.out; simp; omega) (Nat.le_trans hb1.size (by simp)) ?_; intro v2 w2 hown2 hgr2; have hb2 := (hown1.alloc (.cells #[.int .u8 255] 5)).grown (below_alloc hb1 (Nat.le_refl _) _) (Nat.le_trans hb1.size (by simp)) hgr2; have Hb := Lib.hid hown2; clear hown2 hgr2 hown1 hb1))
        go_roundw
        case rel => exact ⟨k + 1, by omega, by go_num, by rw [Hs2.out]; exact Hb.out, hb2⟩
        case measure => simp [intOf]; omega
      · have Hs2 : Hid (escL (s.data.toList.take (k + 1)) = escL (s.data.toList.take k) ++ [s[k]]) := by
          have := Hs.out
          rw [if_neg h0] at this
          exact this
        have e0 : ((s[k].toNat : Int) == 0) = false := by
          rw [beq_eq_false_iff_ne]
          intro h
          exact h0 (UInt8.toNat_inj.1 (by simpa using h))
        clear Hs h0
        go_wp2_with (at_builtin; refine wpList_append_byte _ rfl (.tmp 11) (.tmp 15) 68 rfl Tryz.underlying68 u8info rfl (hown.alloc _) ⟨wr.heap.size, 0, none⟩ 1 rfl _ (cell_new _ _ _) s[k] rfl (Nat.lt_of_le_of_lt (Nat.le_add_right _ _) Hlen.out) (Nat.le_trans hbe.size (by simp)) ?_; intro v1 w1 hown1 hgr1; have hb1 := (hown.alloc (.cells #[.int .u8 (s[k].toNat : Int)] 5)).grown (below_alloc hbe (Nat.le_refl _) _) (Nat.le_trans hbe.size (by simp)) hgr1; have Hb := Lib.hid hown1; clear hgr1 hown hbe hown1)
        go_roundw
        case rel => exact ⟨k + 1, by omega, by go_num, by rw [Hs2.out]; exact Hb.out, hb1⟩
        case measure => simp [intOf]; omega
    · obtain rfl : k = s.size := by omega
      have hl1 : ¬ (s.size : Int) < (s.size : Int) := by omega
      go_wp2_with (at_builtin; refine wpList_append_bytes _ rfl (.tmp 24) (.tmp 25) 68 rfl Tryz.underlying68 u8info rfl (hown.alloc _) ⟨wr.heap.size, 0, none⟩ 2 2 rfl [0, 1] rfl (cells_new wr 5 ([0, 1].map b8)) (by have := Hlen.out; omega) (Nat.le_trans hbe.size (by simp)) ?_; intro v1 w1 hown1 hgr1; have hb1 := (hown.alloc (.cells #[.int .u8 0, .int .u8 1] 5)).grown (below_alloc hbe (Nat.le_refl _) _) (Nat.le_trans hbe.size (by simp)) hgr1; have hcv := hown1.string (src := 68) (dst := 9) Tryz.underlying68 Tryz.underlying5 Tryz.underlying9; clear hown1 hgr1)
      go_ret
      refine ⟨?_, hb1⟩
      rw [List.take_of_length_le (by simp), headL_esc]
      rfl
end Go.Proofs.YthacdegaeokgnaaGreatDoor

namespace Go.Proofs.YthacdegaeokgnaaGreatDoor
open Go.RowKit

def nilS : Value := .slice none 0 0


theorem stillTexts_nil (bk : Nat) (w : World) (h : w.cell? ⟨bk, 0, none⟩ = some (.slice none 0 0)) :
    Calls Tryz.prog 39 #[.pointer (some ⟨bk, 0, none⟩)] w fun e w' => e = .returned (.bool true) ∧ w = w' := by
  go_enter Tryz.func39, Tryz.ntmps39
  go_wp2_with fail
  go_loop [3] (fun i => i = .int .i64 0) (fun _ => 0)
  case atStart => rfl
  case round =>
    subst hrel
    go_wp2_with fail
    go_ret
    exact ⟨rfl, rfl⟩
theorem putTexts_nil (bk : Nat) (w : World) (h : w.cell? ⟨bk, 0, none⟩ = some (.slice none 0 0)) :
    Calls Tryz.prog 59 #[.pointer (some ⟨bk, 0, none⟩)] w fun e w' => e = .returned (.tuple #[]) ∧ w = w' := by
  go_enter Tryz.func59, Tryz.ntmps59
  go_wp2_with fail
  go_loop [2] (fun i => i = .int .i64 0) (fun _ => 0)
  case atStart => rfl
  case round =>
    subst hrel
    go_wp2_with fail
    go_end0
    exact ⟨rfl, rfl⟩
theorem growTexts_nil (bk : Nat) (w : World) (h : w.cell? ⟨bk, 0, none⟩ = some (.slice none 0 0)) :
    Calls Tryz.prog 69 #[.pointer (some ⟨bk, 0, none⟩)] w fun e w' => e = .returned (.slice none 0 0) ∧ w = w' := by
  go_enter Tryz.func69, Tryz.ntmps69
  go_wp2_with fail
  go_loop [3, 4] (fun o i => o = .slice none 0 0 ∧ i = .int .i64 0) (fun _ _ => 0)
  case atStart => exact ⟨rfl, rfl⟩
  case round =>
    obtain ⟨rfl, rfl⟩ := hrel
    go_wp2_with fail
    go_ret
    exact ⟨rfl, rfl⟩
theorem markedTexts_nil (w : World) :
    Calls Tryz.prog 84 #[.slice none 0 0] w fun e w' => e = .returned (.bool true) ∧ w = w' := by
  go_enter Tryz.func84, Tryz.ntmps84
  go_wp2_with fail
  go_loop [3] (fun i => i = .int .i64 0) (fun _ => 0)
  case atStart => rfl
  case round =>
    subst hrel
    go_wp2_with fail
    go_ret
    exact ⟨rfl, rfl⟩

theorem stillInts_nil (bk : Nat) (w : World) (h : w.cell? ⟨bk, 2, none⟩ = some (.slice none 0 0)) :
    Calls Tryz.prog 40 #[.pointer (some ⟨bk, 0, none⟩)] w fun e w' => e = .returned (.bool true) ∧ w = w' := by
  go_enter Tryz.func40, Tryz.ntmps40
  go_wp2_with fail
  go_loop [3] (fun i => i = .int .i64 0) (fun _ => 0)
  case atStart => rfl
  case round =>
    subst hrel
    go_wp2_with fail
    go_ret
    exact ⟨rfl, rfl⟩
theorem putInts_nil (bk : Nat) (w : World) (h : w.cell? ⟨bk, 2, none⟩ = some (.slice none 0 0)) :
    Calls Tryz.prog 60 #[.pointer (some ⟨bk, 0, none⟩)] w fun e w' => e = .returned (.tuple #[]) ∧ w = w' := by
  go_enter Tryz.func60, Tryz.ntmps60
  go_wp2_with fail
  go_loop [2] (fun i => i = .int .i64 0) (fun _ => 0)
  case atStart => rfl
  case round =>
    subst hrel
    go_wp2_with fail
    go_end0
    exact ⟨rfl, rfl⟩
theorem growInts_nil (bk : Nat) (w : World) (h : w.cell? ⟨bk, 2, none⟩ = some (.slice none 0 0)) :
    Calls Tryz.prog 70 #[.pointer (some ⟨bk, 0, none⟩)] w fun e w' => e = .returned (.slice none 0 0) ∧ w = w' := by
  go_enter Tryz.func70, Tryz.ntmps70
  go_wp2_with fail
  go_loop [3, 4] (fun o i => o = .slice none 0 0 ∧ i = .int .i64 0) (fun _ _ => 0)
  case atStart => exact ⟨rfl, rfl⟩
  case round =>
    obtain ⟨rfl, rfl⟩ := hrel
    go_wp2_with fail
    go_ret
    exact ⟨rfl, rfl⟩
theorem markedInts_nil (w : World) :
    Calls Tryz.prog 85 #[.slice none 0 0] w fun e w' => e = .returned (.bool true) ∧ w = w' := by
  go_enter Tryz.func85, Tryz.ntmps85
  go_wp2_with fail
  go_loop [3] (fun i => i = .int .i64 0) (fun _ => 0)
  case atStart => rfl
  case round =>
    subst hrel
    go_wp2_with fail
    go_ret
    exact ⟨rfl, rfl⟩

theorem stillVecs_nil (bk : Nat) (w : World) (h : w.cell? ⟨bk, 4, none⟩ = some (.slice none 0 0)) :
    Calls Tryz.prog 41 #[.pointer (some ⟨bk, 0, none⟩)] w fun e w' => e = .returned (.bool true) ∧ w = w' := by
  go_enter Tryz.func41, Tryz.ntmps41
  go_wp2_with fail
  go_loop [3] (fun i => i = .int .i64 0) (fun _ => 0)
  case atStart => rfl
  case round =>
    subst hrel
    go_wp2_with fail
    go_ret
    exact ⟨rfl, rfl⟩
theorem putVecs_nil (bk : Nat) (w : World) (h : w.cell? ⟨bk, 4, none⟩ = some (.slice none 0 0)) :
    Calls Tryz.prog 61 #[.pointer (some ⟨bk, 0, none⟩)] w fun e w' => e = .returned (.tuple #[]) ∧ w = w' := by
  go_enter Tryz.func61, Tryz.ntmps61
  go_wp2_with fail
  go_loop [2] (fun i => i = .int .i64 0) (fun _ => 0)
  case atStart => rfl
  case round =>
    subst hrel
    go_wp2_with fail
    go_end0
    exact ⟨rfl, rfl⟩
theorem growVecs_nil (bk : Nat) (w : World) (h : w.cell? ⟨bk, 4, none⟩ = some (.slice none 0 0)) :
    Calls Tryz.prog 71 #[.pointer (some ⟨bk, 0, none⟩)] w fun e w' => e = .returned (.slice none 0 0) ∧ w = w' := by
  go_enter Tryz.func71, Tryz.ntmps71
  go_wp2_with fail
  go_loop [3, 4] (fun o i => o = .slice none 0 0 ∧ i = .int .i64 0) (fun _ _ => 0)
  case atStart => exact ⟨rfl, rfl⟩
  case round =>
    obtain ⟨rfl, rfl⟩ := hrel
    go_wp2_with fail
    go_ret
    exact ⟨rfl, rfl⟩
theorem markedVecs_nil (w : World) :
    Calls Tryz.prog 86 #[.slice none 0 0] w fun e w' => e = .returned (.bool true) ∧ w = w' := by
  go_enter Tryz.func86, Tryz.ntmps86
  go_wp2_with fail
  go_loop [3] (fun i => i = .int .i64 0) (fun _ => 0)
  case atStart => rfl
  case round =>
    subst hrel
    go_wp2_with fail
    go_ret
    exact ⟨rfl, rfl⟩

theorem stillKeys_nil (bk : Nat) (w : World) (h : w.cell? ⟨bk, 6, none⟩ = some (.slice none 0 0)) :
    Calls Tryz.prog 42 #[.pointer (some ⟨bk, 0, none⟩)] w fun e w' => e = .returned (.bool true) ∧ w = w' := by
  go_enter Tryz.func42, Tryz.ntmps42
  go_wp2_with fail
  go_loop [3] (fun i => i = .int .i64 0) (fun _ => 0)
  case atStart => rfl
  case round =>
    subst hrel
    go_wp2_with fail
    go_ret
    exact ⟨rfl, rfl⟩
theorem putKeys_nil (bk : Nat) (w : World) (h : w.cell? ⟨bk, 6, none⟩ = some (.slice none 0 0)) :
    Calls Tryz.prog 62 #[.pointer (some ⟨bk, 0, none⟩)] w fun e w' => e = .returned (.tuple #[]) ∧ w = w' := by
  go_enter Tryz.func62, Tryz.ntmps62
  go_wp2_with fail
  go_loop [2] (fun i => i = .int .i64 0) (fun _ => 0)
  case atStart => rfl
  case round =>
    subst hrel
    go_wp2_with fail
    go_end0
    exact ⟨rfl, rfl⟩
theorem growKeys_nil (bk : Nat) (w : World) (h : w.cell? ⟨bk, 6, none⟩ = some (.slice none 0 0)) :
    Calls Tryz.prog 72 #[.pointer (some ⟨bk, 0, none⟩)] w fun e w' => e = .returned (.slice none 0 0) ∧ w = w' := by
  go_enter Tryz.func72, Tryz.ntmps72
  go_wp2_with fail
  go_loop [3, 4] (fun o i => o = .slice none 0 0 ∧ i = .int .i64 0) (fun _ _ => 0)
  case atStart => exact ⟨rfl, rfl⟩
  case round =>
    obtain ⟨rfl, rfl⟩ := hrel
    go_wp2_with fail
    go_ret
    exact ⟨rfl, rfl⟩
theorem markedKeys_nil (w : World) :
    Calls Tryz.prog 87 #[.slice none 0 0] w fun e w' => e = .returned (.bool true) ∧ w = w' := by
  go_enter Tryz.func87, Tryz.ntmps87
  go_wp2_with fail
  go_loop [3] (fun i => i = .int .i64 0) (fun _ => 0)
  case atStart => rfl
  case round =>
    subst hrel
    go_wp2_with fail
    go_ret
    exact ⟨rfl, rfl⟩

theorem stillPairs_nil (bk : Nat) (w : World) (h : w.cell? ⟨bk, 8, none⟩ = some (.slice none 0 0)) :
    Calls Tryz.prog 43 #[.pointer (some ⟨bk, 0, none⟩)] w fun e w' => e = .returned (.bool true) ∧ w = w' := by
  go_enter Tryz.func43, Tryz.ntmps43
  go_wp2_with fail
  go_loop [3] (fun i => i = .int .i64 0) (fun _ => 0)
  case atStart => rfl
  case round =>
    subst hrel
    go_wp2_with fail
    go_ret
    exact ⟨rfl, rfl⟩
theorem putPairs_nil (bk : Nat) (w : World) (h : w.cell? ⟨bk, 8, none⟩ = some (.slice none 0 0)) :
    Calls Tryz.prog 63 #[.pointer (some ⟨bk, 0, none⟩)] w fun e w' => e = .returned (.tuple #[]) ∧ w = w' := by
  go_enter Tryz.func63, Tryz.ntmps63
  go_wp2_with fail
  go_loop [2] (fun i => i = .int .i64 0) (fun _ => 0)
  case atStart => rfl
  case round =>
    subst hrel
    go_wp2_with fail
    go_end0
    exact ⟨rfl, rfl⟩
theorem growPairs_nil (bk : Nat) (w : World) (h : w.cell? ⟨bk, 8, none⟩ = some (.slice none 0 0)) :
    Calls Tryz.prog 73 #[.pointer (some ⟨bk, 0, none⟩)] w fun e w' => e = .returned (.slice none 0 0) ∧ w = w' := by
  go_enter Tryz.func73, Tryz.ntmps73
  go_wp2_with fail
  go_loop [3, 4] (fun o i => o = .slice none 0 0 ∧ i = .int .i64 0) (fun _ _ => 0)
  case atStart => exact ⟨rfl, rfl⟩
  case round =>
    obtain ⟨rfl, rfl⟩ := hrel
    go_wp2_with fail
    go_ret
    exact ⟨rfl, rfl⟩
theorem markedPairs_nil (w : World) :
    Calls Tryz.prog 88 #[.slice none 0 0] w fun e w' => e = .returned (.bool true) ∧ w = w' := by
  go_enter Tryz.func88, Tryz.ntmps88
  go_wp2_with fail
  go_loop [3] (fun i => i = .int .i64 0) (fun _ => 0)
  case atStart => rfl
  case round =>
    subst hrel
    go_wp2_with fail
    go_ret
    exact ⟨rfl, rfl⟩

theorem stillVersions_nil (bk : Nat) (w : World) (h : w.cell? ⟨bk, 10, none⟩ = some (.slice none 0 0)) :
    Calls Tryz.prog 44 #[.pointer (some ⟨bk, 0, none⟩)] w fun e w' => e = .returned (.bool true) ∧ w = w' := by
  go_enter Tryz.func44, Tryz.ntmps44
  go_wp2_with fail
  go_loop [3] (fun i => i = .int .i64 0) (fun _ => 0)
  case atStart => rfl
  case round =>
    subst hrel
    go_wp2_with fail
    go_ret
    exact ⟨rfl, rfl⟩
theorem putVersions_nil (bk : Nat) (w : World) (h : w.cell? ⟨bk, 10, none⟩ = some (.slice none 0 0)) :
    Calls Tryz.prog 54 #[.pointer (some ⟨bk, 0, none⟩)] w fun e w' => e = .returned (.tuple #[]) ∧ w = w' := by
  go_enter Tryz.func54, Tryz.ntmps54
  go_wp2_with fail
  go_loop [2] (fun i => i = .int .i64 0) (fun _ => 0)
  case atStart => rfl
  case round =>
    subst hrel
    go_wp2_with fail
    go_end0
    exact ⟨rfl, rfl⟩
theorem growVersions_nil (bk : Nat) (w : World) (h : w.cell? ⟨bk, 10, none⟩ = some (.slice none 0 0)) :
    Calls Tryz.prog 74 #[.pointer (some ⟨bk, 0, none⟩)] w fun e w' => e = .returned (.slice none 0 0) ∧ w = w' := by
  go_enter Tryz.func74, Tryz.ntmps74
  go_wp2_with fail
  go_loop [3, 4] (fun o i => o = .slice none 0 0 ∧ i = .int .i64 0) (fun _ _ => 0)
  case atStart => exact ⟨rfl, rfl⟩
  case round =>
    obtain ⟨rfl, rfl⟩ := hrel
    go_wp2_with fail
    go_ret
    exact ⟨rfl, rfl⟩
theorem markedVersions_nil (w : World) :
    Calls Tryz.prog 89 #[.slice none 0 0] w fun e w' => e = .returned (.bool true) ∧ w = w' := by
  go_enter Tryz.func89, Tryz.ntmps89
  go_wp2_with fail
  go_loop [3] (fun i => i = .int .i64 0) (fun _ => 0)
  case atStart => rfl
  case round =>
    subst hrel
    go_wp2_with fail
    go_ret
    exact ⟨rfl, rfl⟩

theorem stillWrites_nil (bk : Nat) (w : World) (h : w.cell? ⟨bk, 12, none⟩ = some (.slice none 0 0)) :
    Calls Tryz.prog 45 #[.pointer (some ⟨bk, 0, none⟩)] w fun e w' => e = .returned (.bool true) ∧ w = w' := by
  go_enter Tryz.func45, Tryz.ntmps45
  go_wp2_with fail
  go_loop [3] (fun i => i = .int .i64 0) (fun _ => 0)
  case atStart => rfl
  case round =>
    subst hrel
    go_wp2_with fail
    go_ret
    exact ⟨rfl, rfl⟩
theorem putWrites_nil (bk : Nat) (w : World) (h : w.cell? ⟨bk, 12, none⟩ = some (.slice none 0 0)) :
    Calls Tryz.prog 64 #[.pointer (some ⟨bk, 0, none⟩)] w fun e w' => e = .returned (.tuple #[]) ∧ w = w' := by
  go_enter Tryz.func64, Tryz.ntmps64
  go_wp2_with fail
  go_loop [2] (fun i => i = .int .i64 0) (fun _ => 0)
  case atStart => rfl
  case round =>
    subst hrel
    go_wp2_with fail
    go_end0
    exact ⟨rfl, rfl⟩
theorem growWrites_nil (bk : Nat) (w : World) (h : w.cell? ⟨bk, 12, none⟩ = some (.slice none 0 0)) :
    Calls Tryz.prog 75 #[.pointer (some ⟨bk, 0, none⟩)] w fun e w' => e = .returned (.slice none 0 0) ∧ w = w' := by
  go_enter Tryz.func75, Tryz.ntmps75
  go_wp2_with fail
  go_loop [3, 4] (fun o i => o = .slice none 0 0 ∧ i = .int .i64 0) (fun _ _ => 0)
  case atStart => exact ⟨rfl, rfl⟩
  case round =>
    obtain ⟨rfl, rfl⟩ := hrel
    go_wp2_with fail
    go_ret
    exact ⟨rfl, rfl⟩
theorem markedWrites_nil (w : World) :
    Calls Tryz.prog 90 #[.slice none 0 0] w fun e w' => e = .returned (.bool true) ∧ w = w' := by
  go_enter Tryz.func90, Tryz.ntmps90
  go_wp2_with fail
  go_loop [3] (fun i => i = .int .i64 0) (fun _ => 0)
  case atStart => rfl
  case round =>
    subst hrel
    go_wp2_with fail
    go_ret
    exact ⟨rfl, rfl⟩

theorem stillTxns_nil (bk : Nat) (w : World) (h : w.cell? ⟨bk, 14, none⟩ = some (.slice none 0 0)) :
    Calls Tryz.prog 46 #[.pointer (some ⟨bk, 0, none⟩)] w fun e w' => e = .returned (.bool true) ∧ w = w' := by
  go_enter Tryz.func46, Tryz.ntmps46
  go_wp2_with fail
  go_loop [3] (fun i => i = .int .i64 0) (fun _ => 0)
  case atStart => rfl
  case round =>
    subst hrel
    go_wp2_with fail
    go_ret
    exact ⟨rfl, rfl⟩
theorem putTxns_nil (bk : Nat) (w : World) (h : w.cell? ⟨bk, 14, none⟩ = some (.slice none 0 0)) :
    Calls Tryz.prog 55 #[.pointer (some ⟨bk, 0, none⟩)] w fun e w' => e = .returned (.tuple #[]) ∧ w = w' := by
  go_enter Tryz.func55, Tryz.ntmps55
  go_wp2_with fail
  go_loop [2] (fun i => i = .int .i64 0) (fun _ => 0)
  case atStart => rfl
  case round =>
    subst hrel
    go_wp2_with fail
    go_end0
    exact ⟨rfl, rfl⟩
theorem growTxns_nil (bk : Nat) (w : World) (h : w.cell? ⟨bk, 14, none⟩ = some (.slice none 0 0)) :
    Calls Tryz.prog 76 #[.pointer (some ⟨bk, 0, none⟩)] w fun e w' => e = .returned (.slice none 0 0) ∧ w = w' := by
  go_enter Tryz.func76, Tryz.ntmps76
  go_wp2_with fail
  go_loop [3, 4] (fun o i => o = .slice none 0 0 ∧ i = .int .i64 0) (fun _ _ => 0)
  case atStart => exact ⟨rfl, rfl⟩
  case round =>
    obtain ⟨rfl, rfl⟩ := hrel
    go_wp2_with fail
    go_ret
    exact ⟨rfl, rfl⟩
theorem markedTxns_nil (w : World) :
    Calls Tryz.prog 91 #[.slice none 0 0] w fun e w' => e = .returned (.bool true) ∧ w = w' := by
  go_enter Tryz.func91, Tryz.ntmps91
  go_wp2_with fail
  go_loop [3] (fun i => i = .int .i64 0) (fun _ => 0)
  case atStart => rfl
  case round =>
    subst hrel
    go_wp2_with fail
    go_ret
    exact ⟨rfl, rfl⟩

theorem stillFiles_nil (bk : Nat) (w : World) (h : w.cell? ⟨bk, 16, none⟩ = some (.slice none 0 0)) :
    Calls Tryz.prog 47 #[.pointer (some ⟨bk, 0, none⟩)] w fun e w' => e = .returned (.bool true) ∧ w = w' := by
  go_enter Tryz.func47, Tryz.ntmps47
  go_wp2_with fail
  go_loop [3] (fun i => i = .int .i64 0) (fun _ => 0)
  case atStart => rfl
  case round =>
    subst hrel
    go_wp2_with fail
    go_ret
    exact ⟨rfl, rfl⟩
theorem putFiles_nil (bk : Nat) (w : World) (h : w.cell? ⟨bk, 16, none⟩ = some (.slice none 0 0)) :
    Calls Tryz.prog 65 #[.pointer (some ⟨bk, 0, none⟩)] w fun e w' => e = .returned (.tuple #[]) ∧ w = w' := by
  go_enter Tryz.func65, Tryz.ntmps65
  go_wp2_with fail
  go_loop [2] (fun i => i = .int .i64 0) (fun _ => 0)
  case atStart => rfl
  case round =>
    subst hrel
    go_wp2_with fail
    go_end0
    exact ⟨rfl, rfl⟩
theorem growFiles_nil (bk : Nat) (w : World) (h : w.cell? ⟨bk, 16, none⟩ = some (.slice none 0 0)) :
    Calls Tryz.prog 77 #[.pointer (some ⟨bk, 0, none⟩)] w fun e w' => e = .returned (.slice none 0 0) ∧ w = w' := by
  go_enter Tryz.func77, Tryz.ntmps77
  go_wp2_with fail
  go_loop [3, 4] (fun o i => o = .slice none 0 0 ∧ i = .int .i64 0) (fun _ _ => 0)
  case atStart => exact ⟨rfl, rfl⟩
  case round =>
    obtain ⟨rfl, rfl⟩ := hrel
    go_wp2_with fail
    go_ret
    exact ⟨rfl, rfl⟩
theorem markedFiles_nil (w : World) :
    Calls Tryz.prog 92 #[.slice none 0 0] w fun e w' => e = .returned (.bool true) ∧ w = w' := by
  go_enter Tryz.func92, Tryz.ntmps92
  go_wp2_with fail
  go_loop [3] (fun i => i = .int .i64 0) (fun _ => 0)
  case atStart => rfl
  case round =>
    subst hrel
    go_wp2_with fail
    go_ret
    exact ⟨rfl, rfl⟩

theorem stillNotes_nil (bk : Nat) (w : World) (h : w.cell? ⟨bk, 18, none⟩ = some (.slice none 0 0)) :
    Calls Tryz.prog 48 #[.pointer (some ⟨bk, 0, none⟩)] w fun e w' => e = .returned (.bool true) ∧ w = w' := by
  go_enter Tryz.func48, Tryz.ntmps48
  go_wp2_with fail
  go_loop [3] (fun i => i = .int .i64 0) (fun _ => 0)
  case atStart => rfl
  case round =>
    subst hrel
    go_wp2_with fail
    go_ret
    exact ⟨rfl, rfl⟩
theorem putNotes_nil (bk : Nat) (w : World) (h : w.cell? ⟨bk, 18, none⟩ = some (.slice none 0 0)) :
    Calls Tryz.prog 66 #[.pointer (some ⟨bk, 0, none⟩)] w fun e w' => e = .returned (.tuple #[]) ∧ w = w' := by
  go_enter Tryz.func66, Tryz.ntmps66
  go_wp2_with fail
  go_loop [2] (fun i => i = .int .i64 0) (fun _ => 0)
  case atStart => rfl
  case round =>
    subst hrel
    go_wp2_with fail
    go_end0
    exact ⟨rfl, rfl⟩
theorem growNotes_nil (bk : Nat) (w : World) (h : w.cell? ⟨bk, 18, none⟩ = some (.slice none 0 0)) :
    Calls Tryz.prog 78 #[.pointer (some ⟨bk, 0, none⟩)] w fun e w' => e = .returned (.slice none 0 0) ∧ w = w' := by
  go_enter Tryz.func78, Tryz.ntmps78
  go_wp2_with fail
  go_loop [3, 4] (fun o i => o = .slice none 0 0 ∧ i = .int .i64 0) (fun _ _ => 0)
  case atStart => exact ⟨rfl, rfl⟩
  case round =>
    obtain ⟨rfl, rfl⟩ := hrel
    go_wp2_with fail
    go_ret
    exact ⟨rfl, rfl⟩
theorem markedNotes_nil (w : World) :
    Calls Tryz.prog 93 #[.slice none 0 0] w fun e w' => e = .returned (.bool true) ∧ w = w' := by
  go_enter Tryz.func93, Tryz.ntmps93
  go_wp2_with fail
  go_loop [3] (fun i => i = .int .i64 0) (fun _ => 0)
  case atStart => rfl
  case round =>
    subst hrel
    go_wp2_with fail
    go_ret
    exact ⟨rfl, rfl⟩

theorem stillLeases_nil (bk : Nat) (w : World) (h : w.cell? ⟨bk, 20, none⟩ = some (.slice none 0 0)) :
    Calls Tryz.prog 49 #[.pointer (some ⟨bk, 0, none⟩)] w fun e w' => e = .returned (.bool true) ∧ w = w' := by
  go_enter Tryz.func49, Tryz.ntmps49
  go_wp2_with fail
  go_loop [3] (fun i => i = .int .i64 0) (fun _ => 0)
  case atStart => rfl
  case round =>
    subst hrel
    go_wp2_with fail
    go_ret
    exact ⟨rfl, rfl⟩
theorem putLeases_nil (bk : Nat) (w : World) (h : w.cell? ⟨bk, 20, none⟩ = some (.slice none 0 0)) :
    Calls Tryz.prog 56 #[.pointer (some ⟨bk, 0, none⟩)] w fun e w' => e = .returned (.tuple #[]) ∧ w = w' := by
  go_enter Tryz.func56, Tryz.ntmps56
  go_wp2_with fail
  go_loop [2] (fun i => i = .int .i64 0) (fun _ => 0)
  case atStart => rfl
  case round =>
    subst hrel
    go_wp2_with fail
    go_end0
    exact ⟨rfl, rfl⟩
theorem growLeases_nil (bk : Nat) (w : World) (h : w.cell? ⟨bk, 20, none⟩ = some (.slice none 0 0)) :
    Calls Tryz.prog 79 #[.pointer (some ⟨bk, 0, none⟩)] w fun e w' => e = .returned (.slice none 0 0) ∧ w = w' := by
  go_enter Tryz.func79, Tryz.ntmps79
  go_wp2_with fail
  go_loop [3, 4] (fun o i => o = .slice none 0 0 ∧ i = .int .i64 0) (fun _ _ => 0)
  case atStart => exact ⟨rfl, rfl⟩
  case round =>
    obtain ⟨rfl, rfl⟩ := hrel
    go_wp2_with fail
    go_ret
    exact ⟨rfl, rfl⟩
theorem markedLeases_nil (w : World) :
    Calls Tryz.prog 94 #[.slice none 0 0] w fun e w' => e = .returned (.bool true) ∧ w = w' := by
  go_enter Tryz.func94, Tryz.ntmps94
  go_wp2_with fail
  go_loop [3] (fun i => i = .int .i64 0) (fun _ => 0)
  case atStart => rfl
  case round =>
    subst hrel
    go_wp2_with fail
    go_ret
    exact ⟨rfl, rfl⟩

theorem stillLetters_nil (bk : Nat) (w : World) (h : w.cell? ⟨bk, 22, none⟩ = some (.slice none 0 0)) :
    Calls Tryz.prog 50 #[.pointer (some ⟨bk, 0, none⟩)] w fun e w' => e = .returned (.bool true) ∧ w = w' := by
  go_enter Tryz.func50, Tryz.ntmps50
  go_wp2_with fail
  go_loop [3] (fun i => i = .int .i64 0) (fun _ => 0)
  case atStart => rfl
  case round =>
    subst hrel
    go_wp2_with fail
    go_ret
    exact ⟨rfl, rfl⟩
theorem putLetters_nil (bk : Nat) (w : World) (h : w.cell? ⟨bk, 22, none⟩ = some (.slice none 0 0)) :
    Calls Tryz.prog 67 #[.pointer (some ⟨bk, 0, none⟩)] w fun e w' => e = .returned (.tuple #[]) ∧ w = w' := by
  go_enter Tryz.func67, Tryz.ntmps67
  go_wp2_with fail
  go_loop [2] (fun i => i = .int .i64 0) (fun _ => 0)
  case atStart => rfl
  case round =>
    subst hrel
    go_wp2_with fail
    go_end0
    exact ⟨rfl, rfl⟩
theorem growLetters_nil (bk : Nat) (w : World) (h : w.cell? ⟨bk, 22, none⟩ = some (.slice none 0 0)) :
    Calls Tryz.prog 80 #[.pointer (some ⟨bk, 0, none⟩)] w fun e w' => e = .returned (.slice none 0 0) ∧ w = w' := by
  go_enter Tryz.func80, Tryz.ntmps80
  go_wp2_with fail
  go_loop [3, 4] (fun o i => o = .slice none 0 0 ∧ i = .int .i64 0) (fun _ _ => 0)
  case atStart => exact ⟨rfl, rfl⟩
  case round =>
    obtain ⟨rfl, rfl⟩ := hrel
    go_wp2_with fail
    go_ret
    exact ⟨rfl, rfl⟩
theorem markedLetters_nil (w : World) :
    Calls Tryz.prog 95 #[.slice none 0 0] w fun e w' => e = .returned (.bool true) ∧ w = w' := by
  go_enter Tryz.func95, Tryz.ntmps95
  go_wp2_with fail
  go_loop [3] (fun i => i = .int .i64 0) (fun _ => 0)
  case atStart => rfl
  case round =>
    subst hrel
    go_wp2_with fail
    go_ret
    exact ⟨rfl, rfl⟩

theorem stillSteps_nil (bk : Nat) (w : World) (h : w.cell? ⟨bk, 24, none⟩ = some (.slice none 0 0)) :
    Calls Tryz.prog 51 #[.pointer (some ⟨bk, 0, none⟩)] w fun e w' => e = .returned (.bool true) ∧ w = w' := by
  go_enter Tryz.func51, Tryz.ntmps51
  go_wp2_with fail
  go_loop [3] (fun i => i = .int .i64 0) (fun _ => 0)
  case atStart => rfl
  case round =>
    subst hrel
    go_wp2_with fail
    go_ret
    exact ⟨rfl, rfl⟩
theorem putSteps_nil (bk : Nat) (w : World) (h : w.cell? ⟨bk, 24, none⟩ = some (.slice none 0 0)) :
    Calls Tryz.prog 57 #[.pointer (some ⟨bk, 0, none⟩)] w fun e w' => e = .returned (.tuple #[]) ∧ w = w' := by
  go_enter Tryz.func57, Tryz.ntmps57
  go_wp2_with fail
  go_loop [2] (fun i => i = .int .i64 0) (fun _ => 0)
  case atStart => rfl
  case round =>
    subst hrel
    go_wp2_with fail
    go_end0
    exact ⟨rfl, rfl⟩
theorem growSteps_nil (bk : Nat) (w : World) (h : w.cell? ⟨bk, 24, none⟩ = some (.slice none 0 0)) :
    Calls Tryz.prog 81 #[.pointer (some ⟨bk, 0, none⟩)] w fun e w' => e = .returned (.slice none 0 0) ∧ w = w' := by
  go_enter Tryz.func81, Tryz.ntmps81
  go_wp2_with fail
  go_loop [3, 4] (fun o i => o = .slice none 0 0 ∧ i = .int .i64 0) (fun _ _ => 0)
  case atStart => exact ⟨rfl, rfl⟩
  case round =>
    obtain ⟨rfl, rfl⟩ := hrel
    go_wp2_with fail
    go_ret
    exact ⟨rfl, rfl⟩
theorem markedSteps_nil (w : World) :
    Calls Tryz.prog 96 #[.slice none 0 0] w fun e w' => e = .returned (.bool true) ∧ w = w' := by
  go_enter Tryz.func96, Tryz.ntmps96
  go_wp2_with fail
  go_loop [3] (fun i => i = .int .i64 0) (fun _ => 0)
  case atStart => rfl
  case round =>
    subst hrel
    go_wp2_with fail
    go_ret
    exact ⟨rfl, rfl⟩

theorem stillReals_nil (bk : Nat) (w : World) (h : w.cell? ⟨bk, 26, none⟩ = some (.slice none 0 0)) :
    Calls Tryz.prog 52 #[.pointer (some ⟨bk, 0, none⟩)] w fun e w' => e = .returned (.bool true) ∧ w = w' := by
  go_enter Tryz.func52, Tryz.ntmps52
  go_wp2_with fail
  go_loop [3] (fun i => i = .int .i64 0) (fun _ => 0)
  case atStart => rfl
  case round =>
    subst hrel
    go_wp2_with fail
    go_ret
    exact ⟨rfl, rfl⟩
theorem putReals_nil (bk : Nat) (w : World) (h : w.cell? ⟨bk, 26, none⟩ = some (.slice none 0 0)) :
    Calls Tryz.prog 68 #[.pointer (some ⟨bk, 0, none⟩)] w fun e w' => e = .returned (.tuple #[]) ∧ w = w' := by
  go_enter Tryz.func68, Tryz.ntmps68
  go_wp2_with fail
  go_loop [2] (fun i => i = .int .i64 0) (fun _ => 0)
  case atStart => rfl
  case round =>
    subst hrel
    go_wp2_with fail
    go_end0
    exact ⟨rfl, rfl⟩
theorem growReals_nil (bk : Nat) (w : World) (h : w.cell? ⟨bk, 26, none⟩ = some (.slice none 0 0)) :
    Calls Tryz.prog 82 #[.pointer (some ⟨bk, 0, none⟩)] w fun e w' => e = .returned (.slice none 0 0) ∧ w = w' := by
  go_enter Tryz.func82, Tryz.ntmps82
  go_wp2_with fail
  go_loop [3, 4] (fun o i => o = .slice none 0 0 ∧ i = .int .i64 0) (fun _ _ => 0)
  case atStart => exact ⟨rfl, rfl⟩
  case round =>
    obtain ⟨rfl, rfl⟩ := hrel
    go_wp2_with fail
    go_ret
    exact ⟨rfl, rfl⟩
theorem markedReals_nil (w : World) :
    Calls Tryz.prog 97 #[.slice none 0 0] w fun e w' => e = .returned (.bool true) ∧ w = w' := by
  go_enter Tryz.func97, Tryz.ntmps97
  go_wp2_with fail
  go_loop [3] (fun i => i = .int .i64 0) (fun _ => 0)
  case atStart => rfl
  case round =>
    subst hrel
    go_wp2_with fail
    go_ret
    exact ⟨rfl, rfl⟩

theorem stillLists_nil (bk : Nat) (w : World) (h : w.cell? ⟨bk, 28, none⟩ = some (.slice none 0 0)) :
    Calls Tryz.prog 53 #[.pointer (some ⟨bk, 0, none⟩)] w fun e w' => e = .returned (.bool true) ∧ w = w' := by
  go_enter Tryz.func53, Tryz.ntmps53
  go_wp2_with fail
  go_loop [3] (fun i => i = .int .i64 0) (fun _ => 0)
  case atStart => rfl
  case round =>
    subst hrel
    go_wp2_with fail
    go_ret
    exact ⟨rfl, rfl⟩
theorem putLists_nil (bk : Nat) (w : World) (h : w.cell? ⟨bk, 28, none⟩ = some (.slice none 0 0)) :
    Calls Tryz.prog 58 #[.pointer (some ⟨bk, 0, none⟩)] w fun e w' => e = .returned (.tuple #[]) ∧ w = w' := by
  go_enter Tryz.func58, Tryz.ntmps58
  go_wp2_with fail
  go_loop [2] (fun i => i = .int .i64 0) (fun _ => 0)
  case atStart => rfl
  case round =>
    subst hrel
    go_wp2_with fail
    go_end0
    exact ⟨rfl, rfl⟩
theorem growLists_nil (bk : Nat) (w : World) (h : w.cell? ⟨bk, 28, none⟩ = some (.slice none 0 0)) :
    Calls Tryz.prog 83 #[.pointer (some ⟨bk, 0, none⟩)] w fun e w' => e = .returned (.slice none 0 0) ∧ w = w' := by
  go_enter Tryz.func83, Tryz.ntmps83
  go_wp2_with fail
  go_loop [3, 4] (fun o i => o = .slice none 0 0 ∧ i = .int .i64 0) (fun _ _ => 0)
  case atStart => exact ⟨rfl, rfl⟩
  case round =>
    obtain ⟨rfl, rfl⟩ := hrel
    go_wp2_with fail
    go_ret
    exact ⟨rfl, rfl⟩
theorem markedLists_nil (w : World) :
    Calls Tryz.prog 98 #[.slice none 0 0] w fun e w' => e = .returned (.bool true) ∧ w = w' := by
  go_enter Tryz.func98, Tryz.ntmps98
  go_wp2_with fail
  go_loop [3] (fun i => i = .int .i64 0) (fun _ => 0)
  case atStart => rfl
  case round =>
    subst hrel
    go_wp2_with fail
    go_ret
    exact ⟨rfl, rfl⟩

end Go.Proofs.YthacdegaeokgnaaGreatDoor

namespace Go.Proofs.YthacdegaeokgnaaGreatDoor
open Go.RowKit

theorem append_keep {P : Program} (w : World) (base : Nat) (t ty e : TypeId) (i : TypeInfo) (z : Value) (size bytes : Nat) (ht : P.underlying t = some (.slice e)) (hi : P.info? e = some i) (hz : i.zero = some z)
    (hsize : i.size = size) (hby : i.bytes = bytes) (v : Value) (n : Nat) (xs : List Value) (hown : w.ownsRow base e size v n xs)
    (a : Addr) (m c : Nat) (news : List Value) (hl : news.length = m * size) (hnews : ∀ j u, news[j]? = some u → w.cell? (a.add j) = some u) (h1 : ∀ u ∈ news, u.oneCell' = true)
    (h63 : n + m ≤ maxLen) (hbytes : (n + m) * bytes ≤ 140737488355328) (v' : Value) (w' : World) (hr : (Builtin.append_ #[t, t] ty #[v, .slice (some a) m c]).run P w = .ok v' w') :
    w'.ownsRow base e size v n xs ∧ (v'.ownBlock = v.ownBlock ∨ ∀ g, v'.ownBlock = some g → w.heap.size ≤ g) := by
  subst hsize
  subst hby
  have hsmall : n + m ≤ 9223372036854775807 := by simp only [maxLen] at h63; omega
  rcases hown.2 with ⟨rfl, rfl⟩ | ⟨g, cap, cur, rfl, hbg, hg, hnc, hcm, hcs, htake⟩
  · have hx : xs = [] := List.eq_nil_of_length_eq_zero (by simpa using hown.1)
    subst hx
    refine ⟨World.ownsRow_nil _ _ _ _, ?_⟩
    by_cases hm : m = 0
    · subst hm
      have hr2 : (Builtin.append_ #[t, t] ty #[.slice none 0 0, .slice (some a) 0 c]).run P w = .ok (.slice none 0 0) w := by
        simp [Builtin.append_, run_underlying ht, sizeOf, typeInfo, hi, Builtin.lenOf, Builtin.firstCells, loadCells, loadCellsFrom]
      rw [hr] at hr2
      injection hr2 with e1 e2
      left
      rw [e1]
    · have hr2 := run_append_nil (P := P) w t ty e i z ht hi hz a m c news hl hnews (by omega) (by omega) (by have hb := hbytes; simp only [Nat.zero_add] at hb; omega)
      rw [hr] at hr2
      injection hr2 with e1 e2
      right
      intro g hg
      rw [e1] at hg
      simp [Value.ownBlock] at hg
      omega
  · by_cases hroom : n + m ≤ cap
    · have hfit : n * i.size + news.length ≤ cur.size := by rw [hl, hcs, ← Nat.add_mul]; exact Nat.mul_le_mul_right _ hroom
      have hr2 := run_append_room (P := P) w t ty e i ht hi g n cap cur hg a m c news hl hnews h1 hroom hfit
      rw [hr] at hr2
      injection hr2 with e1 e2
      refine ⟨⟨hown.1, .inr ⟨g, cap, _, rfl, hbg, by rw [e2]; exact setRow_heap w g cur _ e _ hg, hnc, hcm, ?_, ?_⟩⟩, Or.inl (by rw [e1]; rfl)⟩
      · simp only [List.size_toArray, List.length_append, List.length_take, List.length_drop, Array.length_toList]
        omega
      · rw [htake]
        have hlx : xs.length = n * i.size := hown.1
        show List.take (n * i.size) (xs ++ news ++ _) = xs
        rw [List.append_assoc, ← hlx]
        exact List.take_left
    · have holds : ∀ j u, xs[j]? = some u → w.cell? ((⟨g, 0, none⟩ : Addr).add j) = some u := hown.cells (g := g) rfl
      have hr2 := run_append_grow (P := P) w t ty e i z ht hi hz ⟨g, 0, none⟩ n cap xs hown.1 holds a m c news hl hnews (by omega) (by omega) (growslice_fits (by omega) hbytes)
      rw [hr] at hr2
      injection hr2 with e1 e2
      refine ⟨?_, Or.inr fun k hk => ?_⟩
      · rw [e2]
        exact World.ownsRow.alloc (World.ownsRow.drew hown) _
      · rw [e1] at hk
        simp [Value.ownBlock] at hk
        omega

theorem wp_append_keep {P : Program} (w : World) {o : Oper} {a : Act} {K : Act → World → Prop} {Q : Exit → Act → World → Prop} (s x : Operand) (t : TypeId)
    (ho : o.op = .call { callee := .builtin .append, args := #[s, x], argTypes := #[t, t] })
    (base : Nat) (e : TypeId) (i : TypeInfo) (z : Value) (size bytes : Nat) (ht : P.underlying t = some (.slice e)) (hi : P.info? e = some i) (hz : i.zero = some z)
    (hsize : i.size = size) (hby : i.bytes = bytes) (hzs : z.cells.size = size) (hsz : 0 < size)
    (v : Value) (n : Nat) (xs : List Value) (hs : a.eval s = v) (hown : w.ownsRow base e size v n xs)
    (ad : Addr) (m c : Nat) (news : List Value) (hx : a.eval x = .slice (some ad) m c) (hl : news.length = m * size) (hnews : ∀ j u, news[j]? = some u → w.cell? (ad.add j) = some u) (h1 : ∀ u ∈ news, u.oneCell' = true)
    (h63 : n + m ≤ maxLen) (hbytes : (n + m) * bytes ≤ 140737488355328) (hbase : base ≤ w.heap.size)
    (h : ∀ v' w', w'.ownsRow base e size v' (n + m) (xs ++ news) → w.grownBy w' v.ownBlock → w'.ownsRow base e size v n xs → (v'.ownBlock = v.ownBlock ∨ ∀ g, v'.ownBlock = some g → w.heap.size ≤ g) → K (a.put o.dst v') w') : o.wp P a w K Q := by
  obtain ⟨v', w', hr, h2, h3, _⟩ := run_append_own (P := P) w base t o.type e i z size bytes ht hi hz hsize hby hzs hsz v n xs hown ad m c news hl hnews h1 h63 hbytes hbase
  obtain ⟨h4, h5⟩ := append_keep w base t o.type e i z size bytes ht hi hz hsize hby v n xs hown ad m c news hl hnews h1 h63 hbytes v' w' hr
  unfold Oper.wp execOp
  simp only [ho, resolve, invoke, builtin, Sem.run_bind, Sem.run_pure, Result.andThen_ok, List.map_toArray, List.map_cons, List.map_nil, hs, hx, hr]
  exact h v' w' h2 h3 h4 h5

theorem wpList_append_keep {P : Program} (w : World) {ops : Array Oper} {rest : List Oper} {o : Oper} {a : Act} {Q : Exit → Act → World → Prop} (hgd : o.guard = none) (s x : Operand) (t : TypeId)
    (ho : o.op = .call { callee := .builtin .append, args := #[s, x], argTypes := #[t, t] })
    (base : Nat) (e : TypeId) (i : TypeInfo) (z : Value) (size bytes : Nat) (ht : P.underlying t = some (.slice e)) (hi : P.info? e = some i) (hz : i.zero = some z)
    (hsize : i.size = size) (hby : i.bytes = bytes) (hzs : z.cells.size = size) (hsz : 0 < size)
    (v : Value) (n : Nat) (xs : List Value) (hs : a.eval s = v) (hown : w.ownsRow base e size v n xs)
    (ad : Addr) (m c : Nat) (news : List Value) (hx : a.eval x = .slice (some ad) m c) (hl : news.length = m * size) (hnews : ∀ j u, news[j]? = some u → w.cell? (ad.add j) = some u) (h1 : ∀ u ∈ news, u.oneCell' = true)
    (h63 : n + m ≤ maxLen) (hbytes : (n + m) * bytes ≤ 140737488355328) (hbase : base ≤ w.heap.size)
    (h : ∀ v' w', w'.ownsRow base e size v' (n + m) (xs ++ news) → w.grownBy w' v.ownBlock → w'.ownsRow base e size v n xs → (v'.ownBlock = v.ownBlock ∨ ∀ g, v'.ownBlock = some g → w.heap.size ≤ g) → wpList P ops Q rest (a.put o.dst v') w') :
    wpList P ops Q (o :: rest) a w := by
  refine wpList_plain hgd fun K hK => ?_
  exact wp_append_keep w s x t ho base e i z size bytes ht hi hz hsize hby hzs hsz v n xs hs hown ad m c news hx hl hnews h1 h63 hbytes hbase fun v' w' a1 a2 a3 a4 => hK _ _ (h v' w' a1 a2 a3 a4)

theorem step_append_keep {P : Program} {w : World} {ops : Array Oper} {o : Oper} {a : Act} {K : Act → World → Prop} {Q : Exit → Act → World → Prop} {E : Prop} (hgd : o.guard = none) (s x : Operand) (t : TypeId)
    (ho : o.op = .call { callee := .builtin .append, args := #[s, x], argTypes := #[t, t] })
    (base : Nat) (e : TypeId) (i : TypeInfo) (z : Value) (size bytes : Nat) (ht : P.underlying t = some (.slice e)) (hi : P.info? e = some i) (hz : i.zero = some z)
    (hsize : i.size = size) (hby : i.bytes = bytes) (hzs : z.cells.size = size) (hsz : 0 < size)
    (v : Value) (n : Nat) (xs : List Value) (hs : a.eval s = v) (hown : w.ownsRow base e size v n xs)
    (ad : Addr) (m c : Nat) (news : List Value) (hx : a.eval x = .slice (some ad) m c) (hl : news.length = m * size) (hnews : ∀ j u, news[j]? = some u → w.cell? (ad.add j) = some u) (h1 : ∀ u ∈ news, u.oneCell' = true)
    (h63 : n + m ≤ maxLen) (hbytes : (n + m) * bytes ≤ 140737488355328) (hbase : base ≤ w.heap.size)
    (h : ∀ v' w', w'.ownsRow base e size v' (n + m) (xs ++ news) → w.grownBy w' v.ownBlock → w'.ownsRow base e size v n xs → (v'.ownBlock = v.ownBlock ∨ ∀ g, v'.ownBlock = some g → w.heap.size ≤ g) → K (a.put o.dst v') w') :
    if Region.wanted o (yielded ops a.tmps) = true then Oper.wp P o a w K Q else E := by
  rw [if_pos (by simp [Region.wanted, hgd])]
  exact wp_append_keep w s x t ho base e i z size bytes ht hi hz hsize hby hzs hsz v n xs hs hown ad m c news hx hl hnews h1 h63 hbytes hbase h

/-- Nothing put behind nothing. -/
theorem wpList_append_nothing {P : Program} (w : World) {ops : Array Oper} {rest : List Oper} {o : Oper} {a : Act} {Q : Exit → Act → World → Prop} (hgd : o.guard = none) (s x : Operand) (t e : TypeId) (i : TypeInfo)
    (ho : o.op = .call { callee := .builtin .append, args := #[s, x], argTypes := #[t, t] }) (ht : P.underlying t = some (.slice e)) (hi : P.info? e = some i)
    (hs : a.eval s = .slice none 0 0) (A : Option Addr) (c : Nat) (hx : a.eval x = .slice A 0 c)
    (h : wpList P ops Q rest (a.put o.dst (.slice none 0 0)) w) : wpList P ops Q (o :: rest) a w := by
  refine wpList_plain hgd fun _ hK => ?_
  have hr : (Builtin.append_ #[t, t] o.type #[.slice none 0 0, .slice A 0 c]).run P w = .ok (.slice none 0 0) w := by
    cases A <;> simp [Builtin.append_, run_underlying ht, sizeOf, typeInfo, hi, Builtin.lenOf, Builtin.firstCells, loadCells, loadCellsFrom]
  unfold Oper.wp execOp
  simp only [ho, resolve, invoke, builtin, Sem.run_bind, Sem.run_pure, Result.andThen_ok, List.map_toArray, List.map_cons, List.map_nil, hs, hx, hr]
  exact hK _ _ h

/-! ### Rows of numbers of the call's own, each in a block of its own -/
abbrev Row := Value × List Int
/-- v's block is none of w's. -/
def Off (v u : Value) : Prop := ∀ g, v.ownBlock = some g → u.ownBlock ≠ some g
theorem Off.symm {v u : Value} (h : Off v u) : Off u v := fun g hg hv => h g hv hg

structure Rows (w : World) (B : Nat) (e : TypeId) (rs : List Row) : Prop where
  each : ∀ r ∈ rs, Nums w B e r.1 r.2
  apart : rs.Pairwise fun r s => Off r.1 s.1

section
variable {w w' : World} {B : Nat} {e : TypeId} {rs : List Row}
theorem Rows.below (h : Rows w B e rs) {B' : Nat} (hb : Below B' w w') (hB : w.heap.size ≤ B') : Rows w' B e rs := ⟨fun r hr => (h.each r hr).below hb hB, h.apart⟩
theorem Nums.lt_ {v : Value} {zs : List Int} (h : Nums w B e v zs) {g : Nat} (hg : v.ownBlock = some g) : B ≤ g ∧ g < w.heap.size := World.ownsRow.lt h g hg
/-- A row that a call made behind them. -/
theorem Rows.add (h : Rows w B e rs) (hb : Below w.heap.size w w') {v : Value} {zs : List Int} (hN : Nums w' w.heap.size e v zs) (hB : B ≤ w.heap.size) : Rows w' B e ((v, zs) :: rs) :=
  ⟨fun r hr => by
    rcases List.mem_cons.1 hr with rfl | hr
    · exact hN.low hB
    · exact (h.each r hr).below hb (Nat.le_refl _),
   List.pairwise_cons.2 ⟨fun r hr g hg hv => by
    have h1 := (hN.lt_ hg).1
    have h2 := ((h.each r hr).lt_ hv).2
    omega, h.apart⟩⟩
end
end Go.Proofs.YthacdegaeokgnaaGreatDoor

namespace Go.Proofs.YthacdegaeokgnaaGreatDoor
open Go.RowKit

/-- The marks of list i, from a place on. -/
def markV (i start n : Nat) : List Int := (List.range n).map fun k => -1000000 * (i : Int) - ((start + k : Nat) : Int) - 9
theorem markV_length (i start n : Nat) : (markV i start n).length = n := by simp [markV]
theorem markV_succ (i start n : Nat) : markV i start (n + 1) = markV i start n ++ [-1000000 * (i : Int) - ((start + n : Nat) : Int) - 9] := by
  unfold markV
  rw [List.range_succ, List.map_append]
  rfl
theorem markV_append (i start n m : Nat) : markV i start n ++ markV i (start + n) m = markV i start (n + m) := by
  induction m with
  | zero => simp [markV]
  | succ m ih => rw [markV_succ, ← List.append_assoc, ih, ← Nat.add_assoc, markV_succ, Nat.add_assoc]
theorem markV_wf (i start n : Nat) (hi : i ≤ 1000) (hn : start + n ≤ 1000000) : ∀ z ∈ markV i start n, (Lit.int .i64 z).wf = true := by
  intro z hz
  unfold markV at hz
  obtain ⟨k, hk, rfl⟩ := List.mem_map.1 hz
  have := List.mem_range.1 hk
  exact WalkArith.wf_i64 ⟨by omega, by omega⟩

set_option maxRecDepth 100000 in
set_option maxHeartbeats 1000000 in
theorem markVecs_any (i start n : Nat) (w : World) (hi : i ≤ 1000) (hn : start + n ≤ 1000000) :
    Calls Tryz.prog 133 #[.int .i64 (i : Int), .int .i64 (start : Int), .int .i64 (n : Int)] w fun e w' => ∃ v, e = .returned v ∧ Nums w' w.heap.size 3 v (markV i start n) ∧ Below w.heap.size w w' := by
  obtain ⟨i0, hi0, hz0, hz1, hz2⟩ := info_parts i64info
  have a1 : (i : Int) ≤ 1000 := by omega
  have a2 : (start : Int) + (n : Int) ≤ 1000000 := by omega
  go_enter Tryz.func133, Tryz.ntmps133
  go_wp2_with fail
  go_loopw [7, 8] (fun o k wr => ∃ j : Nat, j ≤ n ∧ k = .int .i64 ((start : Int) + (j : Int)) ∧ Nums wr w.heap.size 3 o (markV i start j) ∧ Below w.heap.size w wr) (fun _ k _ => start + n - (intOf k).toNat)
  case atStart => exact ⟨0, by omega, by simp, World.ownsRow_nil _ _ _ _, Below.refl _ _⟩
  case round =>
    obtain ⟨j, hj, rfl, hN, hb⟩ := hrel
    by_cases hl : j < n
    · have HN := Lib.hid hN
      have hl1 : (start : Int) + (j : Int) < (start : Int) + (n : Int) := by omega
      have hsz := hb.size
      clear hN
      go_wp2_with (at_builtin; refine wpList_append_own _ rfl _ _ 22 rfl w.heap.size 3 i0 (.int .i64 0) 1 8 Tryz.underlying22 hi0 hz0 hz1 hz2 rfl (by decide) _ _ _ rfl (World.ownsRow.alloc HN.out _) ⟨wr.heap.size, 0, none⟩ 1 1 [.int .i64 (-1000000 * (i : Int) - ((start : Int) + (j : Int)) - 9)] rfl rfl ?c1 ?c2 ?c3 ?c4 ?c5 ?_)
      case c1 =>
        intro j' u hj'
        match j', hj' with
        | 0, hj' => simp at hj'; subst hj'; simp [Addr.add]
      case c2 => intro u hu; simp at hu; subst hu; rfl
      case c3 => rw [markV_length]; unfold maxLen; omega
      case c4 => rw [markV_length]; omega
      case c5 => simp; omega
      intro v' w2 hown hgr _
      have hb2 : Below w.heap.size w w2 := (below_alloc hb (Nat.le_refl _) _).grown hgr (by simp; omega) (fun k hk => (HN.out.lt_ hk).1)
      have hN2 : Nums w2 w.heap.size 3 v' (markV i start (j + 1)) := by
        unfold Nums
        rw [markV_succ, List.length_append, List.map_append]
        have e : -1000000 * (i : Int) - ((start + j : Nat) : Int) - 9 = -1000000 * (i : Int) - ((start : Int) + (j : Int)) - 9 := by omega
        rw [e]
        exact hown
      have HN2 := Lib.hid hN2
      clear hown hgr hN2 hsz
      go_wp2_with fail
      go_roundw
      case rel => exact ⟨j + 1, by omega, by go_num, HN2.out, hb2⟩
      case measure => simp [intOf]; omega
    · obtain rfl : j = n := by omega
      have HN := Lib.hid hN
      clear hN
      go_wp2_with fail
      go_ret
      exact ⟨_, rfl, HN.out, hb⟩
set_option maxRecDepth 100000 in
set_option maxHeartbeats 1000000 in
theorem sameVecs_any (A1 : Option Addr) (n1 c1 : Nat) (xs : List Int) (A2 : Option Addr) (n2 c2 : Nat) (ys : List Int) (w : World) (I1 : IntsIn w A1 n1 xs) (I2 : IntsIn w A2 n2 ys) :
    Calls Tryz.prog 113 #[.slice A1 n1 c1, .slice A2 n2 c2] w fun e w' => e = .returned (.bool (decide (xs = ys))) ∧ ∃ q, w' = w.drewN q := by
  have J1 := Lib.hid I1
  have J2 := Lib.hid I2
  have l1 := I1.len
  have l2 := I2.len
  have m1 := I1.max
  have m2 := I2.max
  clear I1 I2
  by_cases hne : n1 = n2
  · subst hne
    go_enter Tryz.func113, Tryz.ntmps113
    go_wp2_with fail
    go_loopw [5] (fun i wr => ∃ k q : Nat, k ≤ n1 ∧ i = .int .i64 (k : Int) ∧ Hid (wr = w.drewN q) ∧ Hid (∀ j, j < k → xs.getD j 0 = ys.getD j 0)) (fun i _ => n1 - (intOf i).toNat)
    case atStart => exact ⟨0, 0, by omega, rfl, rfl, fun j hj => absurd hj (by omega)⟩
    case round =>
      obtain ⟨k, q, hk, rfl, Hw, Hle⟩ := hrel
      by_cases hl : k < n1
      · have K1 := J1.out.drewN q
        have K2 := J2.out.drewN q
        rw [← Hw.out] at K1 K2
        obtain ⟨b1, o1, rfl, _, hc1⟩ := K1.some (by omega)
        obtain ⟨b2, o2, rfl, _, hc2⟩ := K2.some (by omega)
        have d1 := hc1 k hl
        have d2 := hc2 k hl
        obtain ⟨x, hx⟩ : ∃ x, xs.getD k 0 = x := ⟨_, rfl⟩
        obtain ⟨y, hy⟩ : ∃ y, ys.getD k 0 = y := ⟨_, rfl⟩
        rw [hx] at d1
        rw [hy] at d2
        have Hx := Lib.hid hx
        have Hy := Lib.hid hy
        have hl1 : (k : Int) < (n1 : Int) := by omega
        clear hc1 hc2 hx hy K1 K2
        by_cases hg : x ≠ y

        · have hbe : (x == y) = false := beq_eq_false_iff_ne.2 hg
          go_wp2_with fail
          go_quiet (fail)
          go_wp2_with fail
          have : decide (xs = ys) = false := by
            refine decide_eq_false fun h => ?_
            have h1 := Hx.out
            rw [h, Hy.out] at h1
            exact hg h1.symm
          rw [this]
          go_ret
          exact ⟨rfl, drewN_more Hw.out _⟩
        · have hbe : (x == y) = true := beq_iff_eq.2 (Decidable.of_not_not hg)
          go_wp2_with fail
          go_quiet (fail)
          go_wp2_with fail
          go_roundw
          case rel =>
            refine ⟨k + 1, _, by omega, by go_num, (by rw [Hw.out, World.drewN_drewN]; rfl), fun j hj => ?_⟩
            by_cases hjk : j = k
            · subst hjk; rw [Hx.out, Hy.out]; exact Decidable.of_not_not hg
            · exact Hle.out j (by omega)
          case measure => simp [intOf]; omega
      · obtain rfl : k = n1 := by omega
        go_wp2_with fail
        have : decide (xs = ys) = true := by
          exact decide_eq_true (list_ext_getD (by omega) (fun j hj => Hle.out j (by omega)))
        rw [this]
        go_ret
        exact ⟨rfl, _, Hw.out⟩
  · go_enter Tryz.func113, Tryz.ntmps113
    go_wp2_with fail
    have : decide (xs = ys) = false := by
      exact decide_eq_false fun h => hne (by rw [← l1, ← l2, h])
    rw [this]
    go_ret
    exact ⟨rfl, 0, rfl⟩


set_option maxRecDepth 100000 in
set_option maxHeartbeats 1000000 in
theorem copyVecs_any (A : Option Addr) (n c : Nat) (zs : List Int) (w : World) (I : IntsIn w A n zs) (hn : n ≤ 17592186044416) :
    Calls Tryz.prog 110 #[.slice A n c] w fun e w' => ∃ v, e = .returned v ∧ Nums w' w.heap.size 3 v zs ∧ Below w.heap.size w w' := by
  obtain ⟨i0, hi, hz0, hz1, hz2⟩ := info_parts i64info
  have J := Lib.hid I
  have l := I.len
  clear I
  by_cases hn0 : n = 0
  · subst hn0
    have hz : zs = [] := List.eq_nil_of_length_eq_zero l
    go_enter Tryz.func110, Tryz.ntmps110
    go_wp2_with (at_builtin; refine wpList_append_nothing _ rfl _ _ 22 3 i0 rfl Tryz.underlying22 hi rfl A c rfl ?_)
    go_ret
    subst hz
    exact ⟨_, rfl, World.ownsRow_nil _ _ _ _, Below.refl _ _⟩
  · obtain ⟨b, o, rfl, hlt, hcc⟩ := J.out.some (by omega)
    have hcell : ∀ j u, (zs.map (Value.int .i64))[j]? = some u → w.cell? (({ block := b, off := o, spot := none } : Addr).add j) = some u := by
      intro j u hj
      have hjn : j < zs.length := by
        have := (List.getElem?_eq_some_iff.1 hj).1
        simpa using this
      rw [Addr.add_lit, hcc j (by omega)]
      rw [List.getElem?_map, List.getElem?_eq_getElem hjn] at hj
      rw [List.getD_eq_getElem?_getD, List.getElem?_eq_getElem hjn]
      simpa using hj
    have Hc := Lib.hid hcell
    clear hcell hcc
    go_enter Tryz.func110, Tryz.ntmps110
    go_wp2_with (at_builtin; refine wpList_append_own _ rfl _ _ 22 rfl w.heap.size 3 i0 (.int .i64 0) 1 8 Tryz.underlying22 hi hz0 hz1 hz2 rfl (by decide) _ _ _ rfl (World.ownsRow_nil w w.heap.size 3 1) ⟨b, o, none⟩ n c (zs.map (Value.int .i64)) rfl ?qc1 Hc.out ?qc3 ?qc4 ?qc5 ?qc6 ?_)
    case qc1 => simp; omega
    case qc3 => intro u hu; obtain ⟨x, _, rfl⟩ := List.mem_map.1 hu; rfl
    case qc4 => unfold maxLen; omega
    case qc5 => omega
    case qc6 => exact Nat.le_refl _
    intro v' w1 hown hgrow hnil
    have hb := (Below.refl w.heap.size w).grown hgrow (Nat.le_refl _) (by intro k hk; simp [Value.ownBlock] at hk)
    have hN : Nums w1 w.heap.size 3 v' zs := by
      unfold Nums
      rw [l]
      simpa using hown
    have HN := Lib.hid hN
    clear hown hgrow hnil hN
    go_wp2_with fail
    go_ret
    exact ⟨_, rfl, HN.out, hb⟩
end Go.Proofs.YthacdegaeokgnaaGreatDoor
