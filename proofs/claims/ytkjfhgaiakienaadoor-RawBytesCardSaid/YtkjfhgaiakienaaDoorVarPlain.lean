/-
  Numbers in groups of seven bits: the last group not zero, or only one (plain lists).
-/
import Derived.Test.YtkjfhgaiakienaaDoorRawShort
namespace Go.Proofs.YtkjfhgaiakienaaDoor
open Go.RowKit

def val : List UInt8 → Nat
  | [] => 0
  | c :: r => c.toNat % 128 + 128 * val r

theorem gv_val (h r : List UInt8) (c : UInt8) (hc : c.toNat < 128) : ∀ i a, (∀ d ∈ h, 128 ≤ d.toNat) → i + h.length < 9 →
    gv (h ++ c :: r) i a = if c.toNat = 0 ∧ 0 < i + h.length then .err 4 else .ok (a + val (h ++ [c]) * 2 ^ (7 * i)) (i + h.length + 1) := by
  induction h with
  | nil =>
    intro i a _ hl
    rw [List.nil_append, gv, if_neg (by simp at hl; omega), if_neg (by omega)]
    simp only [List.length_nil, Nat.add_zero, List.nil_append, val, Nat.mul_zero]
  | cons d h ih =>
    intro i a hd hl
    have hd0 := hd d (by simp)
    rw [List.length_cons] at hl
    rw [List.cons_append, gv, if_neg (by omega), if_pos hd0, ih (i + 1) _ (fun x hx => hd x (by simp [hx])) (by omega)]
    have e1 : i + (d :: h).length = i + 1 + h.length := by rw [List.length_cons]; omega
    rw [e1]
    split
    · rfl
    · congr 1
      show _ = a + val (d :: (h ++ [c])) * _
      rw [val, Nat.add_mul, show 7 * (i + 1) = 7 * i + 7 from by omega, Nat.pow_add]
      have e2 : 128 * val (h ++ [c]) * 2 ^ (7 * i) = val (h ++ [c]) * (2 ^ (7 * i) * 2 ^ 7) := by
        rw [show (2 : Nat) ^ 7 = 128 from rfl, Nat.mul_comm 128, Nat.mul_assoc, Nat.mul_comm 128]
      omega

theorem gv_high (l : List UInt8) : ∀ i a, 9 ≤ i + l.length → (∀ c ∈ l.take (9 - i), 128 ≤ c.toNat) → gv l i a = .err 4 := by
  induction l with
  | nil => intro i a h _; exact gv_long _ _ _ (by simpa using h)
  | cons c r ih =>
    intro i a h hc
    by_cases h9 : 9 ≤ i
    · exact gv_long _ _ _ h9
    · rw [show 9 - i = (9 - (i + 1)) + 1 from by omega, List.take_succ_cons] at hc
      rw [gv, if_neg h9, if_pos (hc c (by simp))]
      rw [List.length_cons] at h
      exact ih (i + 1) _ (by omega) (fun d hd => hc d (List.mem_cons_of_mem _ hd))

theorem val_pos (h : List UInt8) (c : UInt8) (hc : c.toNat < 128) (h0 : c.toNat ≠ 0) : 1 ≤ val (h ++ [c]) := by
  induction h with
  | nil => show 1 ≤ c.toNat % 128 + 128 * 0; omega
  | cons d h ih => rw [List.cons_append, val]; omega

theorem pv_val (h : List UInt8) (c : UInt8) (hc : c.toNat < 128) (hh : ∀ d ∈ h, 128 ≤ d.toNat) (h0 : ¬ (c.toNat = 0 ∧ 0 < h.length)) : pv (val (h ++ [c])) = h ++ [c] := by
  induction h with
  | nil =>
    have e : val ([] ++ [c]) = c.toNat := by show c.toNat % 128 + 128 * 0 = _; omega
    rw [e, pv_last _ hc]
    simp
  | cons d h ih =>
    have hd := hh d (by simp)
    have hd8 := UInt8.toNat_lt d
    have hc0 : c.toNat ≠ 0 := fun e => h0 ⟨e, by simp⟩
    have hp := val_pos h c hc hc0
    have hi := ih (fun x hx => hh x (by simp [hx])) (fun e => hc0 e.1)
    rw [List.cons_append, val, pv_more _ (by omega), show (d.toNat % 128 + 128 * val (h ++ [c])) / 128 = val (h ++ [c]) from by omega, hi]
    congr 1
    rw [show (d.toNat % 128 + 128 * val (h ++ [c])) % 128 + 128 = d.toNat from by omega]
    simp

theorem pv_end (v : Nat) : ∀ l : List UInt8, l ≠ [] → ∀ c : UInt8, c.toNat = 0 → pv v ≠ l ++ [c] := by
  induction v using Nat.strongRecOn with
  | _ v ih =>
    intro l hl c hc e
    cases l with
    | nil => exact hl rfl
    | cons x r =>
      by_cases h : v < 128
      · rw [pv_last v h] at e
        have := congrArg List.length e
        simp at this
      · rw [pv_more v (by omega)] at e
        have e2 : pv (v / 128) = r ++ [c] := by injection e
        by_cases hr : r = []
        · subst hr
          by_cases h2 : v / 128 < 128
          · rw [pv_last _ h2] at e2
            have e3 : UInt8.ofNat (v / 128) = c := by injection e2
            rw [← e3, UInt8.toNat_ofNat'] at hc
            omega
          · rw [pv_more _ (by omega)] at e2
            have := congrArg List.length e2
            have h3 := pv_pos (v / 128 / 128)
            rw [List.length_cons, List.length_append] at this
            simp only [List.length_nil, List.length_singleton] at this
            omega
        · exact ih (v / 128) (by omega) r hr c hc e2

theorem val_lt (l : List UInt8) : val l < 2 ^ (7 * l.length) := by
  induction l with
  | nil => decide
  | cons c r ih =>
    rw [val, List.length_cons, Nat.mul_add, Nat.pow_add]
    omega
theorem val_drop (l : List UInt8) (i : Nat) (h : i < l.length) : val (l.drop i) = val (l.drop (i + 1)) * 128 + l[i].toNat % 128 := by
  rw [List.drop_eq_getElem_cons h, val]
  omega
end Go.Proofs.YtkjfhgaiakienaaDoor
