/-
  Package skip, plain: each key with the byte of its first place: what Get, From, Last tell.
-/
import Derived.Test.YtpkoiacenamccaaSpH
namespace Go.Proofs.Ytpkoiacenamccaa
open Go.RowKit

/-- The text of one byte. -/
def vb (j : Nat) : ByteArray := ⟨#[UInt8.ofNat j]⟩
theorem vb_size (j : Nat) : (vb j).size = 1 := rfl
/-- Put are the first k of these keys, each with the byte of the first place where it stands. -/
structure InvV (f : Nat → ByteArray) (k : Nat) (s : S10) : Prop where
  fz : s.frozen = false
  len : s.L.length ≤ k
  all : ∀ j, j < k → ∃ m ∈ s.L, m.1 = f j
  val : ∀ m ∈ s.L, ∃ j, j < k ∧ m.1 = f j ∧ m.2.1 = vb j ∧ ∀ i, i < j → f i ≠ f j
theorem InvV.zero (f : Nat → ByteArray) : InvV f 0 ⟨[], false⟩ := ⟨rfl, Nat.le_refl _, fun j hj => by omega, fun m hm => by simp at hm⟩
theorem InvV.put {f : Nat → ByteArray} {k : Nat} {s : S10} (h : InvV f k s) (hR : Rising s.L) (t : Int) (hk : (f k).size ≤ 65536) : InvV f (k + 1) (putL s (f k) (vb k) t).2 := by
  obtain ⟨h1, h2, h3, h4⟩ := put_spec s (f k) (vb k) t hR h.fz hk (by rw [vb_size]; omega)
  refine ⟨h1, Nat.le_trans h2 (by have := h.len; omega), fun j hj => ?_, fun m hm => ?_⟩
  · by_cases e : j = k
    · subst e
      rcases h4 with ⟨a, _, b⟩ | ⟨a, _, b, c⟩
      · rw [b]; exact (hasL_iff hR _).1 a
      · rw [b]; exact ⟨_, mem_insL.2 (Or.inr rfl), rfl⟩
    · obtain ⟨m, hm, e2⟩ := h.all j (by omega)
      exact ⟨m, h3 m hm, e2⟩
  · rcases h4 with ⟨a, _, b⟩ | ⟨a, _, b, c⟩
    · rw [b] at hm
      obtain ⟨j, hj, e⟩ := h.val m hm
      exact ⟨j, by omega, e⟩
    · rw [b] at hm
      rcases mem_insL.1 hm with hm | rfl
      · obtain ⟨j, hj, e⟩ := h.val m hm
        exact ⟨j, by omega, e⟩
      · refine ⟨k, by omega, rfl, rfl, fun i hi e => ?_⟩
        obtain ⟨m, hm, e2⟩ := h.all i hi
        have := (hasL_iff hR (f k)).2 ⟨m, hm, by rw [e2, e]⟩
        rw [this] at a
        cases a
theorem found_any {f : Nat → ByteArray} {n : Nat} {s : S10} (h : InvV f n s) (hR : Rising s.L) {i q : Nat} (hi : i < n) (hq : f q = f i) (hmin : ∀ j, j < q → f j ≠ f i) :
    getL s.L (f i) = (vb q, 0) ∧ fromL s.L (f i) 1 = [(f i, vb q)] ∧
      ∃ a v ok, lastL s.L (f i) = (a, v, ok) ∧ (∀ k, k < n → cmpT (f k) (f i) < 0 → ok = true ∧ ¬ cmpT a (f k) < 0) ∧ (ok = true → cmpT a (f i) < 0) := by
  obtain ⟨m, hm, em⟩ := h.all i hi
  obtain ⟨j, hj, e1, e2, e3⟩ := h.val m hm
  have hjq : j = q := by
    rcases Nat.lt_trichotomy j q with a | a | a
    · exact absurd (e1.symm.trans em) (hmin j a)
    · exact a
    · exact absurd (hq.trans (em.symm.trans e1)) (e3 q a)
  subst hjq
  obtain ⟨x, hx⟩ := List.mem_iff_getElem?.1 hm
  have hpl : placeL s.L (f i) = x := by rw [← em]; exact place_mem hR hx
  have hxl := (List.getElem?_eq_some_iff.1 hx).1
  refine ⟨by rw [← em, getL_mem hR hm, e2], ?_, ?_⟩
  · unfold fromL pairsOf
    rw [if_neg (by decide), hpl, List.drop_eq_getElem_cons hxl, (List.getElem?_eq_some_iff.1 hx).2]
    simp [em, e2]
  · unfold lastL
    rw [hpl]
    have hbelow : ∀ k, k < n → cmpT (f k) (f i) < 0 → ∃ (y : Nat) (m' : P10), y < x ∧ s.L[y]? = some m' ∧ m'.1 = f k := fun k hk hc => by
      obtain ⟨m', hm', e'⟩ := h.all k hk
      obtain ⟨y, hy⟩ := List.mem_iff_getElem?.1 hm'
      rcases Nat.lt_or_ge y x with a | a
      · exact ⟨y, m', a, hy, e'⟩
      · have := place_ge hR (by rw [hpl]; exact a) hy (key := f i)
        rw [e'] at this
        omega
    cases x with
    | zero =>
      obtain ⟨m0, hm0⟩ : ∃ m0, s.L[0 - 1]? = some m0 := ⟨m, hx⟩
      rw [hm0]
      refine ⟨⟨#[]⟩, ⟨#[]⟩, false, rfl, fun k hk hc => ?_, fun e => Bool.noConfusion e⟩
      obtain ⟨y, _, hy, _⟩ := hbelow k hk hc
      omega
    | succ x =>
      have hx' : s.L[x + 1 - 1]? = some s.L[x] := by rw [Nat.add_sub_cancel]; exact List.getElem?_eq_getElem (by omega)
      have hx2 : s.L[x]? = some s.L[x] := List.getElem?_eq_getElem (by omega)
      generalize s.L[x] = m0 at *
      rw [hx']
      refine ⟨m0.1, m0.2.1, true, by dsimp only; rw [if_neg (by omega)], fun k hk hc => ⟨rfl, fun hlt => ?_⟩, fun _ => ?_⟩
      · obtain ⟨y, m', hy, hm', e'⟩ := hbelow k hk hc
        rw [← e'] at hlt
        rcases Nat.lt_or_ge y x with a | a
        · have := hR y x m' m0 a hm' hx2
          rw [cmpT_swap] at this
          omega
        · obtain rfl : y = x := by omega
          rw [hx2] at hm'
          cases hm'
          rw [(cmpT_eq _ _).2 rfl] at hlt
          omega
      · exact place_lt (by rw [hpl]; omega) hx2
end Go.Proofs.Ytpkoiacenamccaa
