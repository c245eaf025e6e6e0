/-
  RawShort: of a number in few bytes no beginning is taken for it.
-/
import Derived.Test.YtalacionlbmcpaaGreatDoorAlive
import Derived.Lib.Strings
import Derived.OpenShut
namespace Go.Proofs.YtalacionlbmcpaaGreatDoor
open Go.RowKit

theorem gv_begin (l : List UInt8) : ∀ i v, (∀ c ∈ l, 128 ≤ c.toNat) → i + l.length < 9 → gv l i v = .err 3 := by
  induction l with
  | nil => intro i v _ h; exact gv_short _ _ _ (by simpa using h) rfl
  | cons c r ih =>
    intro i v hc hl
    rw [List.length_cons] at hl
    have hc' := hc c (by simp)
    rw [gv, if_neg (by omega), if_pos hc']
    exact ih _ _ (fun d hd => hc d (by simp [hd])) (by omega)

theorem pv_high (v : Nat) : ∀ i < (pv v).length, ∀ c ∈ (pv v).take i, 128 ≤ c.toNat := by
  induction v using Nat.strongRecOn with
  | _ v ih =>
    intro i hi c hc
    by_cases h : v < 128
    · rw [pv_last v h] at hi hc
      obtain rfl : i = 0 := by simpa using hi
      simp at hc
    · rw [pv_more v (by omega)] at hi hc
      match i, hc with
      | 0, hc => simp at hc
      | i + 1, hc =>
        rw [List.take_succ_cons, List.mem_cons] at hc
        rcases hc with rfl | hc
        · rw [UInt8.toNat_ofNat']; omega
        · exact ih (v / 128) (by omega) i (by simpa using hi) c hc

theorem pv_len (k v : Nat) (h : v < 2 ^ (7 * k)) (hk : 1 ≤ k) : (pv v).length ≤ k := by
  induction k generalizing v with
  | zero => omega
  | succ k ih =>
    by_cases hv : v < 128
    · rw [pv_last v hv]; simp
    · rw [pv_more v (by omega), List.length_cons]
      rcases Nat.eq_zero_or_pos k with h0 | h0
      · subst h0; simp at h; omega
      · have h2 : 2 ^ (7 * (k + 1)) = 128 * 2 ^ (7 * k) := by rw [Nat.mul_add, Nat.pow_add]; omega
        have := ih (v / 128) (by rw [Nat.div_lt_iff_lt_mul (by decide)]; omega) h0
        omega
theorem pv_pos (v : Nat) : 1 ≤ (pv v).length := by
  by_cases hv : v < 128
  · rw [pv_last v hv]; simp
  · rw [pv_more v (by omega)]; simp
theorem pv_len9 (v : Nat) (h : v < 9223372036854775808) : (pv v).length ≤ 9 := pv_len 9 v (by omega) (by decide)

theorem gv_pv (r : List UInt8) (u : Nat) : ∀ i a, i + (pv u).length ≤ 9 → (0 < i → 0 < u) → gv (pv u ++ r) i a = .ok (a + u * 2 ^ (7 * i)) (i + (pv u).length) := by
  induction u using Nat.strongRecOn with
  | _ u ih =>
    intro i a hi h0
    by_cases h : u < 128
    · rw [pv_last u h] at hi ⊢
      rw [List.length_singleton] at hi ⊢
      have e : (UInt8.ofNat u).toNat = u := by rw [UInt8.toNat_ofNat']; omega
      show gv (UInt8.ofNat u :: r) i a = _
      rw [gv, e, if_neg (by omega), if_neg (by omega), if_neg (by omega), Nat.mod_eq_of_lt h]
    · have hp := pv_more u (by omega)
      rw [hp] at hi ⊢
      rw [List.length_cons] at hi ⊢
      have hq := pv_pos (u / 128)
      have e : (UInt8.ofNat (u % 128 + 128)).toNat = u % 128 + 128 := by rw [UInt8.toNat_ofNat']; omega
      rw [List.cons_append, gv, e, if_neg (by omega), if_pos (by omega), ih (u / 128) (by omega) (i + 1) _ (by omega) (fun _ => by omega)]
      have e2 : (u % 128 + 128) % 128 = u % 128 := by omega
      have e3 : 2 ^ (7 * (i + 1)) = 128 * 2 ^ (7 * i) := by rw [Nat.mul_add, Nat.pow_add]; omega
      have e4 : u % 128 * 2 ^ (7 * i) + u / 128 * (128 * 2 ^ (7 * i)) = u * 2 ^ (7 * i) := by
        rw [← Nat.mul_assoc, ← Nat.add_mul]
        congr 1
        omega
      rw [e2, e3]
      congr 1
      · omega
      · omega



end Go.Proofs.YtalacionlbmcpaaGreatDoor
