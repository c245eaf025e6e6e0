/-
  A number's text is read as the number (plain lists).
-/
import Derived.Test.YtcnjjolmjpeeoaaDoorReal8
import Derived.Test.YtcnjjolmjpeeoaaDoorItoaPlain
import Derived.Test.YtcnjjolmjpeeoaaDoorNumPlain
namespace Go.Proofs.YtcnjjolmjpeeoaaDoor
open Go.RowKit

/-! ### Odd digits -/
theorem ctzFrom_mul : ∀ (e f m : Nat), m % 2 = 1 → e < f → Lib.ctzFrom f (m * 2 ^ e) = e
  | 0, f, m, hm, hf => by
    obtain ⟨f, rfl⟩ : ∃ g, f = g + 1 := ⟨f - 1, by omega⟩
    rw [Nat.pow_zero, Nat.mul_one]
    unfold Lib.ctzFrom
    rw [if_pos hm]
  | e + 1, f, m, hm, hf => by
    obtain ⟨f, rfl⟩ : ∃ g, f = g + 1 := ⟨f - 1, by omega⟩
    have h2 : m * 2 ^ (e + 1) = 2 * (m * 2 ^ e) := by rw [Nat.pow_succ]; rw [← Nat.mul_assoc]; omega
    unfold Lib.ctzFrom
    rw [h2, if_neg (by omega), show 2 * (m * 2 ^ e) / 2 = m * 2 ^ e from by omega, ctzFrom_mul e f m hm (by omega)]
    omega
theorem tzN_mul (m e : Nat) (hm : m % 2 = 1) (he : e < 64) : tzN (m * 2 ^ e) = e := by
  unfold tzN Lib.ctz
  rw [if_neg (Nat.mul_ne_zero (by omega) (Nat.ne_of_gt (Nat.two_pow_pos e))), ctzFrom_mul e 64 m hm he]
theorem oddN_mul (m e : Nat) (hm : m % 2 = 1) (he : e < 64) : oddN (m * 2 ^ e) = m := by
  unfold oddN
  rw [tzN_mul m e hm he]
  exact Nat.mul_div_cancel m (Nat.two_pow_pos e)
theorem odd_parts (m : Nat) (h0 : m ≠ 0) (hm : m < 18446744073709551616) : oddN m % 2 = 1 ∧ m = oddN m * 2 ^ tzN m ∧ tzN m < 64 := by
  obtain ⟨k, hk, hlt⟩ := Lib.ctzFrom_spec 64 m (by omega) hm
  have e : tzN m = Lib.ctzFrom 64 m := by unfold tzN Lib.ctz; rw [if_neg h0]
  rw [← e] at hk hlt
  have h1 : oddN m = 2 * k + 1 := Nat.div_eq_of_eq_mul_right (Nat.two_pow_pos _) hk
  rw [h1]
  refine ⟨by omega, ?_, hlt⟩
  rw [Nat.mul_comm]
  exact hk

/-- What split answers is packed as it was. -/
theorem pack_split (r : Nat) (h0 : r ≠ 0) (h : r < infR) :
    packN (spM r) (spE r) = r ∧ spM r % 2 = 1 ∧ spM r < 9007199254740992 ∧ -1074 ≤ spE r ∧ (Lib.bitLen (spM r) : Int) + spE r ≤ 1024 := by
  have hc : infR = 9218868437227405312 := rfl
  have hM := rawM_lt r
  have hM0 := rawM_pos r h0
  obtain ⟨o1, o2, o3⟩ := odd_parts (rawM r) hM0 (by omega)
  have hs := spM_lt r
  have hE : rawE r + 1074 = ((if r < 4503599627370496 then 0 else r / 4503599627370496 - 1 : Nat) : Int) ∧ rawM r = (if r < 4503599627370496 then r else 4503599627370496 + r % 4503599627370496) := by
    unfold rawE rawM
    split <;> exact ⟨by omega, rfl⟩
  unfold spE at *
  unfold spM at *
  generalize tzN (rawM r) = k at *
  generalize oddN (rawM r) = m at *
  obtain ⟨l1, l2, l3, l4⟩ := bitLen_facts m (by omega) hs
  have hlo : 2 ^ (Lib.bitLen m - 1 + k) ≤ rawM r := by
    rw [Nat.pow_add, o2]
    exact Nat.mul_le_mul_right _ l4
  have hhi : rawM r < 2 ^ (Lib.bitLen m + k) := by
    rw [Nat.pow_add, o2]
    exact Nat.mul_lt_mul_of_pos_right l3 (Nat.two_pow_pos _)
  have up : ∀ j, rawM r < 2 ^ j → Lib.bitLen m + k ≤ j := fun j hj => by
    rcases Nat.lt_or_ge j (Lib.bitLen m + k) with h1 | h1
    · have : 2 ^ j ≤ 2 ^ (Lib.bitLen m - 1 + k) := Nat.pow_le_pow_right (by decide) (by omega)
      omega
    · exact h1
  have hle := up 53 hM
  have hleft : leftN m (rawE r + (k : Int)) = (k : Int) := by
    unfold leftN
    by_cases hr : r < 4503599627370496
    · rw [if_pos hr, if_pos hr] at hE
      have := up 52 (by rw [hE.2]; exact hr)
      rw [if_neg (by omega)]
      omega
    · rw [if_neg hr, if_neg hr] at hE
      have hge : 53 ≤ Lib.bitLen m + k := by
        rcases Nat.lt_or_ge (Lib.bitLen m + k) 53 with h1 | h1
        · have : 2 ^ (Lib.bitLen m + k) ≤ 2 ^ 52 := Nat.pow_le_pow_right (by decide) (by omega)
          omega
        · exact h1
      rw [if_pos (by omega)]
      omega
  refine ⟨?_, o1, hs, by split at hE <;> omega, by split at hE <;> omega⟩
  unfold packN
  rw [hleft, Int.toNat_natCast, ← o2, show rawE r + (k : Int) - (k : Int) + 1074 = rawE r + 1074 from by omega, hE.1, hE.2, Int.toNat_natCast]
  split <;> omega

theorem join_odd (m e : Nat) (p : Int) (hm : m % 2 = 1) (hs : m * 2 ^ e < 9007199254740992) (he : e < 64) (h1 : -1074 ≤ p + (e : Int)) (h2 : (Lib.bitLen m : Int) + (p + (e : Int)) ≤ 1024) :
    joinN (m * 2 ^ e) p = some (packN m (p + (e : Int))) := by
  unfold joinN
  rw [if_neg (by omega), if_neg (Nat.mul_ne_zero (by omega) (Nat.ne_of_gt (Nat.two_pow_pos e))), tzN_mul m e hm he, oddN_mul m e hm he, if_neg (by omega)]

/-! ### Digits and 'p' -/
theorem cutP_plain : ∀ a : List UInt8, (∀ c ∈ a, c ≠ 112) → cutP a = (a, none)
  | [], _ => rfl
  | c :: a, h => by
    unfold cutP
    rw [if_neg (h c (by simp)), cutP_plain a (fun d hd => h d (by simp [hd]))]
theorem cutP_cat : ∀ a b : List UInt8, (∀ c ∈ a, c ≠ 112) → cutP (a ++ 112 :: b) = (a, some b)
  | [], b, _ => by simp [cutP]
  | c :: a, b, h => by
    rw [List.cons_append]
    unfold cutP
    rw [if_neg (h c (by simp)), cutP_cat a b (fun d hd => h d (by simp [hd]))]
theorem dec_no_p (u : Nat) : ∀ c ∈ Lib.decDigits u, c ≠ 112 := by
  intro c hc h
  have := dec_digit u c hc
  subst h
  revert this
  decide
theorem dec_cons (u : Nat) : ∃ c r, Lib.decDigits u = c :: r ∧ 48 ≤ c.toNat ∧ c.toNat ≤ 57 := by
  cases h : Lib.decDigits u with
  | nil => exact absurd h (dec_ne u)
  | cons c r =>
    have := dec_digit u c (by rw [h]; simp)
    exact ⟨c, r, rfl, this.1, this.2⟩
theorem pre_digit (c : UInt8) (r : List UInt8) (h : 48 ≤ c.toNat) : Lib.hasPrefix (c :: r) [45] = false := by
  simp only [Lib.hasPrefix, List.isPrefixOf, Bool.and_true, beq_eq_false_iff_ne]
  rintro rfl
  revert h
  decide
theorem nd_le (u k : Nat) (h : u < 10 ^ k) (hk : 1 ≤ k) : (Lib.decDigits u).length ≤ k := by
  rw [Lib.decDigits_length]
  rcases Nat.eq_zero_or_pos u with h0 | h0
  · subst h0; rw [Lib.nDigits_small (by decide)]; exact hk
  · rcases Nat.lt_or_ge k (Lib.nDigits u) with hl | hl
    · have := pow_le_nDigits u (by omega)
      have : 10 ^ k ≤ 10 ^ (Lib.nDigits u - 1) := Nat.pow_le_pow_right (by decide) (by omega)
      omega
    · exact hl
theorem itoa_nat (u : Nat) : Lib.itoa (u : Int) = Lib.decDigits u := by
  unfold Lib.itoa
  rw [if_neg (by omega), Int.toNat_natCast]
theorem itoa_le5 (p : Int) (h0 : -9999 ≤ p) (h1 : p ≤ 9999) : (Lib.itoa p).length ≤ 5 := by
  unfold Lib.itoa
  split
  · have := nd_le p.natAbs 4 (by omega) (by decide)
    simp; omega
  · have := nd_le p.toNat 4 (by omega) (by decide)
    omega

/-- The text of a number without a sign is read. -/
theorem prod_uns (r : Nat) (h : r < infR) : ∃ m p c u, prodL (unsN r) = some (m, p) ∧ joinN m p = some r ∧ unsN r = c :: u ∧ 48 ≤ c.toNat ∧ c.toNat ≤ 57 := by
  by_cases h0 : r = 0
  · subst h0
    exact ⟨0, 0, 48, [], by decide +kernel, by decide +kernel, unsN_zero, by decide, by decide⟩
  · obtain ⟨p1, p2, p3, p4, p5⟩ := pack_split r h0 h
    have hE := spE_lt r h0 h
    cases hw : whole r
    · have hu : unsN r = Lib.itoa (spM r : Int) ++ 112 :: Lib.itoa (spE r) := by unfold unsN; rw [if_neg h0, if_neg (by omega), if_neg (by rw [hw]; decide)]
      rw [itoa_nat] at hu
      obtain ⟨c, t, hc, g1, g2⟩ := dec_cons (spM r)
      have hn1 : numL (Lib.decDigits (spM r)) = some (spM r : Int) := by
        have := numL_itoa (spM r : Int)
        rw [itoa_nat, if_pos ⟨by omega, by omega⟩] at this
        exact this
      have hn2 : numL (Lib.itoa (spE r)) = some (spE r) := by
        have := numL_itoa (spE r)
        rw [if_pos ⟨by omega, by omega⟩] at this
        exact this
      refine ⟨spM r, spE r, c, t ++ 112 :: Lib.itoa (spE r), ?_, ?_, by rw [hu, hc, List.cons_append], g1, g2⟩
      · unfold prodL
        rw [hu, cutP_cat _ _ (dec_no_p _)]
        dsimp only
        rw [show Lib.hasPrefix (Lib.decDigits (spM r)) [45] = false from by rw [hc]; exact pre_digit c t g1, hn1]
        simp only [Bool.false_eq_true, if_false, Option.getD_some, hn2, Int.toNat_natCast]
        rw [if_neg (by have := itoa_le5 (spE r) (by omega) (by omega); omega)]
      · have := join_odd (spM r) 0 (spE r) p2 (by rw [Nat.pow_zero, Nat.mul_one]; exact p3) (by decide) (by simpa using p4) (by simpa using p5)
        rw [Nat.pow_zero, Nat.mul_one] at this
        rw [this, show spE r + ((0 : Nat) : Int) = spE r from by omega, p1]
    · have hu : unsN r = Lib.itoa ((spM r * 2 ^ (spE r).toNat : Nat) : Int) := by unfold unsN; rw [if_neg h0, if_neg (by omega), if_pos hw]
      rw [itoa_nat] at hu
      unfold whole at hw
      have hw := of_decide_eq_true hw
      have hlt := len_lt (spM r) (spE r).toNat (by omega) (by omega)
      obtain ⟨c, t, hc, g1, g2⟩ := dec_cons (spM r * 2 ^ (spE r).toNat)
      have hn1 : numL (Lib.decDigits (spM r * 2 ^ (spE r).toNat)) = some ((spM r * 2 ^ (spE r).toNat : Nat) : Int) := by
        have := numL_itoa ((spM r * 2 ^ (spE r).toNat : Nat) : Int)
        rw [itoa_nat, if_pos ⟨by omega, by omega⟩] at this
        exact this
      refine ⟨spM r * 2 ^ (spE r).toNat, 0, c, t, ?_, ?_, by rw [hu, hc], g1, g2⟩
      · unfold prodL
        rw [hu, cutP_plain _ (dec_no_p _)]
        dsimp only
        rw [show Lib.hasPrefix (Lib.decDigits (spM r * 2 ^ (spE r).toNat)) [45] = false from by rw [hc]; exact pre_digit c t g1, hn1]
        simp only [Bool.false_eq_true, if_false, Option.getD_none, List.length_nil, Int.toNat_natCast]
        rw [if_neg (by omega)]
      · have hl1 := (bitLen_facts (spM r) (by omega) p3).1
        have := join_odd (spM r) (spE r).toNat 0 p2 hlt (by omega) (by omega) (by omega)
        rw [this, show (0 : Int) + ((spE r).toNat : Int) = spE r from by omega, p1]

/-- **A number's text is read as the number.** -/
theorem parse_text (x : Nat) (hx : x < 18446744073709551616) (hn : isN x = false) : parseN (textN x) = (x, 0) := by
  have hi : rung x ≤ infR := by simpa [isN] using hn
  have hc : infR = 9218868437227405312 := rfl
  unfold textN
  rw [hn]
  simp only [Bool.false_eq_true, if_false]
  by_cases hr : rung x = infR
  · have hu : unsN infR = [105, 110, 102] := by decide
    rcases word_parts x hx with ⟨h1, h2, h3⟩ | ⟨h1, h2, h3⟩
    · rw [h1, if_pos rfl, hr, hu]
      have : x = 18442240474082181120 := by omega
      rw [this]
      decide
    · rw [h1, hr, hu]
      have : x = 9218868437227405312 := by omega
      rw [this]
      decide
  · obtain ⟨m, p, c, u, hP, hJ, hu, g1, g2⟩ := prod_uns (rung x) (by omega)
    have hc1 : c ≠ 110 := by rintro rfl; revert g2; decide
    have hc2 : c ≠ 105 := by rintro rfl; revert g2; decide
    have hc3 : c ≠ 45 := by rintro rfl; revert g1; decide
    rcases word_parts x hx with ⟨h1, h2, h3⟩ | ⟨h1, h2, h3⟩
    · rw [h1]
      simp only [if_true]
      have ht : Lib.trimPrefix (45 :: unsN (rung x)) [45] = unsN (rung x) := by
        unfold Lib.trimPrefix
        rw [if_pos (by simp [Lib.hasPrefix])]
        rfl
      have hh : Lib.hasPrefix (45 :: unsN (rung x)) [45] = true := by simp [Lib.hasPrefix]
      have hng : Op.negFloat .f64 (rung x) = x := by
        rw [neg_word _ (by omega), (small_parts (rung x) h3).1]
        simp only [Bool.false_eq_true, if_false]
        omega
      unfold parseN
      rw [ht, hh, hP]
      dsimp only
      rw [hJ]
      dsimp only
      rw [if_neg (by rw [hu]; simp), if_neg (by rw [hu]; simp), if_neg (by rw [hu]; simp [hc2]), if_pos rfl, hng]
    · rw [h1]
      simp only [Bool.false_eq_true, if_false]
      have hh : Lib.hasPrefix (unsN (rung x)) [45] = false := by rw [hu]; exact pre_digit c u g1
      have ht : Lib.trimPrefix (unsN (rung x)) [45] = unsN (rung x) := by
        unfold Lib.trimPrefix
        rw [if_neg (by rw [hh]; decide)]
      unfold parseN
      rw [ht, hh, hP]
      dsimp only
      rw [hJ]
      dsimp only
      rw [if_neg (by rw [hu]; simp [hc1]), if_neg (by rw [hu]; simp [hc2]), if_neg (by rw [hu]; simp [hc3])]
      simp only [Bool.false_eq_true, if_false]
      rw [← h2]
end Go.Proofs.YtcnjjolmjpeeoaaDoor
