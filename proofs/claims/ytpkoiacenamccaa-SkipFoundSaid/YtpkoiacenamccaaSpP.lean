/-
  Package skip, plain: what Get, From, Last tell of what was put. No program is named but in what is imported.
-/
import Derived.Test.YtpkoiacenamccaaSp1
namespace Go.Proofs.Ytpkoiacenamccaa
open Go.RowKit

theorem place_mem {L : List P10} (hR : Rising L) {i : Nat} {m : P10} (hm : L[i]? = some m) : placeL L m.1 = i := by
  refine placeL_of m.1 L i (by have := (List.getElem?_eq_some_iff.1 hm).1; omega) (fun j n hj hn => hR j i n m hj hn hm) (fun n hn => ?_)
  rw [hm] at hn
  cases hn
  rw [(cmpT_eq m.1 m.1).2 rfl]
  omega
theorem getL_mem {L : List P10} (hR : Rising L) {m : P10} (hm : m ∈ L) : getL L m.1 = (m.2.1, 0) := by
  obtain ⟨i, hi⟩ := List.mem_iff_getElem?.1 hm
  unfold getL
  rw [place_mem hR hi, hi]
  dsimp only
  rw [if_pos rfl]
theorem hasL_iff {L : List P10} (hR : Rising L) (key : ByteArray) : hasL L key = true ↔ ∃ m ∈ L, m.1 = key := by
  constructor
  · intro h
    unfold hasL at h
    cases hm : L[placeL L key]? with
    | none => rw [hm] at h; cases h
    | some m =>
      rw [hm] at h
      exact ⟨m, List.mem_of_getElem? hm, of_decide_eq_true h⟩
  · rintro ⟨m, hm, rfl⟩
    obtain ⟨i, hi⟩ := List.mem_iff_getElem?.1 hm
    unfold hasL
    rw [place_mem hR hi, hi]
    exact decide_eq_true rfl
theorem mem_insL {L : List P10} {k : Nat} {x m : P10} : m ∈ insL L k x ↔ m ∈ L ∨ m = x := by
  unfold insL
  rw [List.mem_append, List.mem_append, List.mem_singleton]
  conv => rhs; rw [← List.take_append_drop k L, List.mem_append]
  constructor
  · rintro ((h | h) | h)
    · exact Or.inl (Or.inl h)
    · exact Or.inr h
    · exact Or.inl (Or.inr h)
  · rintro ((h | h) | h)
    · exact Or.inl (Or.inl h)
    · exact Or.inr h
    · exact Or.inl (Or.inr h)
/-- A pair put into a list that is not frozen. -/
theorem put_spec (s : S10) (key value : ByteArray) (ht : Int) (hR : Rising s.L) (hf : s.frozen = false) (hk : key.size ≤ 65536) (hv : value.size ≤ 65536) :
    (putL s key value ht).2.frozen = false ∧ (putL s key value ht).2.L.length ≤ s.L.length + 1 ∧ (∀ m ∈ s.L, m ∈ (putL s key value ht).2.L) ∧
      ((hasL s.L key = true ∧ (putL s key value ht).1 = 23 ∧ (putL s key value ht).2 = s) ∨ (hasL s.L key = false ∧ (putL s key value ht).1 = 0 ∧ (putL s key value ht).2 = { s with L := insL s.L (placeL s.L key) (key, value, clampH ht) } ∧ Rising (insL s.L (placeL s.L key) (key, value, clampH ht)))) := by
  have hl : ¬ (65536 < key.size ∨ 65536 < value.size) := by omega
  cases hh : hasL s.L key with
  | true =>
    have e : putL s key value ht = (23, s) := by unfold putL; rw [hf, hh]; simp [hl]
    rw [e]
    exact ⟨hf, Nat.le_succ _, fun m hm => hm, Or.inl ⟨rfl, rfl, rfl⟩⟩
  | false =>
    have e : putL s key value ht = (0, { s with L := insL s.L (placeL s.L key) (key, value, clampH ht) }) := by unfold putL; rw [hf, hh]; simp [hl]
    rw [e]
    refine ⟨hf, by show (insL _ _ _).length ≤ _; rw [insL_length (placeL_le _ _)]; omega, fun m hm => mem_insL.2 (Or.inl hm), Or.inr ⟨rfl, rfl, rfl, ?_⟩⟩
    refine rising_ins hR (x := (key, value, clampH ht)) (fun m hm e => ?_)
    unfold hasL at hh
    rw [hm] at hh
    exact absurd e (of_decide_eq_false hh)
theorem cmp_nil (a : ByteArray) : 0 ≤ cmpT a ⟨#[]⟩ := by
  unfold cmpT
  cases a.data.toList with
  | nil => decide
  | cons x l => rw [show (⟨#[]⟩ : ByteArray).data.toList = [] from rfl, Lib.compareBytes]; decide
theorem place_nil (L : List P10) : placeL L ⟨#[]⟩ = 0 := placeL_of _ L 0 (Nat.zero_le _) (fun i m h _ => by omega) (fun m _ => cmp_nil _)
theorem from_all (L : List P10) : fromL L ⟨#[]⟩ (-1) = L.map fun m => (m.1, m.2.1) := by
  unfold fromL
  rw [if_pos (by decide), place_nil]
  unfold pairsOf
  rw [List.drop_zero]
end Go.Proofs.Ytpkoiacenamccaa
