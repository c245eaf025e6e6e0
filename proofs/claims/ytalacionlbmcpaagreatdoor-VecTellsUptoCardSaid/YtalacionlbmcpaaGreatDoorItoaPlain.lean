/-
  A number's digits are read as the number, if it is small enough (plain lists).
-/
import Derived.Test.YtalacionlbmcpaaGreatDoorRaw13
import Derived.Lib.ItoaNum
namespace Go.Proofs.YtalacionlbmcpaaGreatDoor
open Go.RowKit

theorem dec_digit (u : Nat) : ∀ c ∈ Lib.decDigits u, 48 ≤ c.toNat ∧ c.toNat ≤ 57 := by
  induction u using Nat.strongRecOn with
  | _ u ih =>
    intro c hc
    rw [Lib.decDigits] at hc
    split at hc
    · obtain rfl := List.mem_singleton.1 hc
      rw [UInt8.toNat_ofNat']; omega
    · rcases List.mem_append.1 hc with h | h
      · exact ih (u / 10) (by omega) c h
      · obtain rfl := List.mem_singleton.1 h
        rw [UInt8.toNat_ofNat']; omega

theorem digs_dec (u : Nat) : ∀ (r : List UInt8) (a : Nat), digs (Lib.decDigits u ++ r) a = digs r (a * 10 ^ Lib.nDigits u + u) := by
  induction u using Nat.strongRecOn with
  | _ u ih =>
    intro r a
    rw [Lib.decDigits]
    split
    · rename_i h
      have e : (UInt8.ofNat (48 + u)).toNat = 48 + u := by rw [UInt8.toNat_ofNat']; omega
      rw [Lib.nDigits_small h, List.cons_append, List.nil_append, digs, e, if_pos (by omega)]
      congr 1
      omega
    · rename_i h
      have e : (UInt8.ofNat (48 + u % 10)).toNat = 48 + u % 10 := by rw [UInt8.toNat_ofNat']; omega
      rw [Lib.nDigits_big h, List.append_assoc, ih (u / 10) (by omega), List.cons_append, List.nil_append, digs, e, if_pos (by omega)]
      congr 1
      rw [Nat.pow_succ, ← Nat.mul_assoc]
      omega

theorem dec_ne (u : Nat) : Lib.decDigits u ≠ [] := by
  intro h
  have := Lib.decDigits_length u
  have h2 := Lib.nDigits_pos u
  rw [h] at this
  simp at this
  omega

theorem dec_head (u : Nat) (hu : u ≠ 0) : ((Lib.decDigits u).headD 0).toNat ≠ 48 := by
  induction u using Nat.strongRecOn with
  | _ u ih =>
    rw [Lib.decDigits]
    split
    · rw [List.headD_cons, UInt8.toNat_ofNat']; omega
    · have := ih (u / 10) (by omega) (by omega)
      cases h : Lib.decDigits (u / 10) with
      | nil => exact absurd h (dec_ne _)
      | cons c r => rw [h] at this; exact this

theorem pow_le_nDigits (u : Nat) (hu : u ≠ 0) : 10 ^ (Lib.nDigits u - 1) ≤ u := by
  induction u using Nat.strongRecOn with
  | _ u ih =>
    by_cases h : u < 10
    · rw [Lib.nDigits_small h]; simp; omega
    · have h1 := ih (u / 10) (by omega) (by omega)
      have h2 := Lib.nDigits_pos (u / 10)
      rw [Lib.nDigits_big h, show Lib.nDigits (u / 10) + 1 - 1 = (Lib.nDigits (u / 10) - 1) + 1 from by omega, Nat.pow_succ]
      omega

theorem natL_dec (u : Nat) (hu : u ≠ 0) : natL (Lib.decDigits u) = if u < 10000000000000000 then some u else none := by
  have h1 := dec_head u hu
  have h2 := Lib.nDigits_pos u
  unfold natL
  rw [Lib.decDigits_length]
  by_cases h : u < 10000000000000000
  · have h3 : Lib.nDigits u ≤ 16 := by
      rcases Nat.lt_or_ge 16 (Lib.nDigits u) with hl | hl
      · have := pow_le_nDigits u hu
        have : (10 : Nat) ^ 16 ≤ 10 ^ (Lib.nDigits u - 1) := Nat.pow_le_pow_right (by decide) (by omega)
        omega
      · exact hl
    have := digs_dec u [] 0
    rw [List.append_nil] at this
    rw [if_pos h, if_neg (by omega), this]
    show some (0 * _ + u) = _
    congr 1
    omega
  · have h3 : 16 < Lib.nDigits u := by
      rcases Nat.lt_or_ge 16 (Lib.nDigits u) with hl | hl
      · exact hl
      · have := Lib.lt_pow_nDigits u
        have : (10 : Nat) ^ (Lib.nDigits u) ≤ 10 ^ 16 := Nat.pow_le_pow_right (by decide) hl
        omega
    rw [if_neg h, if_pos (Or.inr (Or.inl h3))]

theorem numL_itoa (v : Int) : numL (Lib.itoa v) = if -10000000000000000 < v ∧ v < 10000000000000000 then some v else none := by
  rcases Int.lt_trichotomy v 0 with h | h | h
  · have hi : Lib.itoa v = 45 :: Lib.decDigits v.natAbs := by unfold Lib.itoa; rw [if_pos h]
    have hp : Lib.hasPrefix (45 :: Lib.decDigits v.natAbs) [45] = true := by simp [Lib.hasPrefix]
    unfold numL
    rw [hi, if_neg (by simp)]
    unfold Lib.trimPrefix
    rw [if_pos hp, hp]
    show (natL (Lib.decDigits v.natAbs)).map _ = _
    rw [natL_dec _ (by omega)]
    by_cases hv : -10000000000000000 < v
    · rw [if_pos (by omega), if_pos (by omega)]
      simp
      omega
    · rw [if_neg (by omega), if_neg (by omega)]
      rfl
  · subst h
    have hi : Lib.itoa 0 = [48] := by unfold Lib.itoa; rw [if_neg (by decide)]; exact Lib.decDigits_one (by decide)
    rw [hi, if_pos (by decide)]
    rfl
  · have hi : Lib.itoa v = Lib.decDigits v.toNat := by unfold Lib.itoa; rw [if_neg (by omega)]
    have hd := dec_head v.toNat (by omega)
    have hn : Lib.decDigits v.toNat ≠ [48] := by intro e; rw [e] at hd; exact hd rfl
    have hp : Lib.hasPrefix (Lib.decDigits v.toNat) [45] = false := by
      cases hc : Lib.decDigits v.toNat with
      | nil => exact absurd hc (dec_ne _)
      | cons c r =>
        have := dec_digit v.toNat c (by rw [hc]; simp)
        simp only [Lib.hasPrefix, List.isPrefixOf, Bool.and_true, beq_eq_false_iff_ne]
        intro e
        rw [← e] at this
        exact absurd this (by decide)
    unfold numL
    rw [hi, if_neg hn]
    unfold Lib.trimPrefix
    rw [hp, if_neg (by decide), natL_dec _ (by omega)]
    by_cases hv : v < 10000000000000000
    · rw [if_pos (by omega), if_pos (by omega)]
      simp
      omega
    · rw [if_neg (by omega), if_neg (by omega)]
      rfl

theorem dec_len (u : Nat) (hu : u ≤ 9223372036854775808) : (Lib.decDigits u).length ≤ 39 := by
  rw [Lib.decDigits_length]
  rcases Nat.eq_zero_or_pos u with h | h
  · subst h; rw [Lib.nDigits_small (by decide)]; decide
  · rcases Nat.lt_or_ge 39 (Lib.nDigits u) with hl | hl
    · have := pow_le_nDigits u (by omega)
      have : (10 : Nat) ^ 39 ≤ 10 ^ (Lib.nDigits u - 1) := Nat.pow_le_pow_right (by decide) (by omega)
      omega
    · exact hl

theorem itoa_len (v : Int) (h0 : -9223372036854775808 ≤ v) (h1 : v ≤ 9223372036854775807) : (Lib.itoa v).length ≤ 40 := by
  unfold Lib.itoa
  split
  · have := dec_len v.natAbs (by omega)
    simp; omega
  · have := dec_len v.toNat (by omega)
    omega
end Go.Proofs.YtalacionlbmcpaaGreatDoor
