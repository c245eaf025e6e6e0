/-
  Quotes, without the program: what is put in quotes is read as it was, whatever stands behind it; no byte of it is outside of 32 to 126.
-/
import Derived.Test.YtkjfhgaiakienaaDoorRaw10
namespace Go.Proofs.YtkjfhgaiakienaaDoor
open Go.RowKit

theorem hexv_hx : ∀ n < 16, hexv (hx n).toNat = some n ∧ 48 ≤ (hx n).toNat ∧ (hx n).toNat ≤ 102 := by decide

theorem uq_qb (c : UInt8) (r acc : List UInt8) (m : Nat) : onto acc m (uq (qb c ++ r)) = onto (acc ++ [c]) (m + (qb c).length) (uq r) := by
  have hc := UInt8.toNat_lt c
  by_cases h1 : c.toNat < 32 ∨ 126 < c.toNat
  · have hq : qb c = [92, 120, hx (c.toNat / 16), hx (c.toNat % 16)] := by unfold qb; rw [if_pos h1]
    have he : esc (120 :: hx (c.toNat / 16) :: hx (c.toNat % 16) :: r) = some (c, 3) := by
      rw [esc, if_neg (by decide), if_pos (by decide), escx_cons, (hexv_hx _ (by omega)).1, (hexv_hx _ (by omega)).1]
      have e : 16 * (c.toNat / 16) + c.toNat % 16 = c.toNat := by omega
      show some (UInt8.ofNat _, 3) = _
      rw [e, UInt8.ofNat_toNat]
    rw [hq]
    show onto acc m (uq (92 :: 120 :: hx (c.toNat / 16) :: hx (c.toNat % 16) :: r)) = _
    rw [uq_esc _ _ c 3 (by decide) he]
    rfl
  · by_cases h2 : c.toNat = 34 ∨ c.toNat = 92
    · have hq : qb c = [92, c] := by unfold qb; rw [if_neg h1, if_pos h2]
      have he : esc (c :: r) = some (c, 1) := by rw [esc, if_pos h2]
      rw [hq]
      show onto acc m (uq (92 :: c :: r)) = _
      rw [uq_esc _ _ c 1 (by decide) he]
      rfl
    · have hq : qb c = [c] := by unfold qb; rw [if_neg h1, if_neg h2]
      rw [hq]
      show onto acc m (uq (c :: r)) = _
      rw [uq_plain _ _ (by omega) (by omega) (by omega)]
      rfl
theorem uq_flat (l : List UInt8) : ∀ (r acc : List UInt8) (m : Nat), onto acc m (uq ((l.map qb).flatten ++ 34 :: r)) = some (acc ++ l, m + (l.map qb).flatten.length + 1) := by
  induction l with
  | nil => intro r acc m; rw [List.map_nil, List.flatten_nil, List.nil_append, uq_end _ _ (by decide)]; simp [onto]
  | cons c t ih =>
    intro r acc m
    rw [List.map_cons, List.flatten_cons, List.append_assoc, uq_qb, ih]
    simp
    omega
theorem unq_quote (l r : List UInt8) : unq (quoteL l ++ r) = some (l, (quoteL l).length) := by
  unfold quoteL
  rw [List.append_assoc, List.cons_append, unq, if_pos (by decide)]
  show onto [] 1 (uq ((l.map qb).flatten ++ 34 :: r)) = _
  rw [uq_flat]
  simp
  omega
theorem qb_plain (c : UInt8) : ∀ d ∈ qb c, 32 ≤ d.toNat ∧ d.toNat ≤ 126 := by
  have hc := UInt8.toNat_lt c
  intro d hd
  unfold qb at hd
  split at hd
  · have h1 := hexv_hx (c.toNat / 16) (by omega)
    have h2 := hexv_hx (c.toNat % 16) (by omega)
    simp at hd
    rcases hd with rfl | rfl | rfl | rfl
    · decide
    · decide
    · omega
    · omega
  · split at hd
    · simp at hd
      rcases hd with rfl | rfl
      · decide
      · omega
    · simp at hd
      subst hd
      omega
theorem quote_plain (l : List UInt8) : ∀ d ∈ quoteL l, 32 ≤ d.toNat ∧ d.toNat ≤ 126 := by
  intro d hd
  unfold quoteL at hd
  rw [List.mem_append, List.mem_cons, List.mem_singleton] at hd
  rcases hd with (rfl | h) | rfl
  · decide
  · obtain ⟨m, hm, hd⟩ := List.mem_flatten.1 h
    obtain ⟨c, _, rfl⟩ := List.mem_map.1 hm
    exact qb_plain c d hd
  · decide
theorem quote_len (l : List UInt8) : 2 ≤ (quoteL l).length ∧ (quoteL l).length ≤ 4 * l.length + 2 := by
  have := flat_len l
  unfold quoteL
  rw [List.length_append, List.length_cons, List.length_singleton]
  omega
end Go.Proofs.YtkjfhgaiakienaaDoor
