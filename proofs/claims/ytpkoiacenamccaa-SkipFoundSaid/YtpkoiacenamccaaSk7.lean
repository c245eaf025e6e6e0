/-
  The document's own list of chapter 10, part 7: Lanes.
-/
import Derived.Test.YtpkoiacenamccaaSk1
import Derived.Test.YtpkoiacenamccaaBkInts1
namespace Go.Proofs.Ytpkoiacenamccaa
open Go.RowKit

/-- How many pairs are higher than h. -/
def cntL (L : List P10) (h : Nat) : Nat := (L.filter fun m => decide ((h : Int) < m.2.2)).length
theorem cntL_le (L : List P10) (h : Nat) : cntL L h ≤ L.length := List.length_filter_le _ _
theorem cntL_take (L : List P10) (h k : Nat) (m : P10) (hm : L[k]? = some m) : cntL (L.take (k + 1)) h = cntL (L.take k) h + if (h : Int) < m.2.2 then 1 else 0 := by
  have hk := (List.getElem?_eq_some_iff.1 hm).1
  unfold cntL
  rw [List.take_succ_eq_append_getElem hk, (List.getElem?_eq_some_iff.1 hm).2, List.filter_append, List.length_append]
  by_cases z : (h : Int) < m.2.2
  · simp [z]
  · simp [z]
/-- The lanes below h. -/
def lanesTo (L : List P10) (k : Nat) : List Int := (List.range k).map fun h => (cntL L h : Int)
theorem lanesTo_length (L : List P10) (k : Nat) : (lanesTo L k).length = k := by simp [lanesTo]
theorem lanesTo_succ (L : List P10) (k : Nat) : lanesTo L k ++ [(cntL L k : Int)] = lanesTo L (k + 1) := by simp [lanesTo, List.range_succ]
/-- How many lanes there are. -/
def hiL (L : List P10) : Nat := ((List.range 12).takeWhile fun h => decide (0 < cntL L h)).length
theorem takeWhile_all (f : Nat → Bool) : ∀ (n k s : Nat), k ≤ n → (∀ i, i < k → f (s + i) = true) → (k < n → f (s + k) = false) → ((List.range' s n).takeWhile f).length = k := by
  intro n
  induction n with
  | zero => intro k s hk _ _; simp at hk; subst hk; rfl
  | succ n ih =>
    intro k s hk h1 h2
    rw [List.range'_succ]
    cases k with
    | zero =>
      have := h2 (by omega)
      rw [List.takeWhile_cons_of_neg (by simpa using this)]
      rfl
    | succ k =>
      have := h1 0 (by omega)
      rw [List.takeWhile_cons_of_pos (by simpa using this), List.length_cons, ih k (s + 1) (by omega) (fun i hi => by have := h1 (i + 1) (by omega); rwa [show s + 1 + i = s + (i + 1) by omega]) (fun hk' => by have := h2 (by omega); rwa [show s + 1 + k = s + (k + 1) by omega])]
theorem hiL_of (L : List P10) (k : Nat) (hk : k ≤ 12) (h1 : ∀ i, i < k → 0 < cntL L i) (h2 : k < 12 → cntL L k = 0) : hiL L = k := by
  unfold hiL
  rw [List.range_eq_range']
  exact takeWhile_all _ 12 k 0 hk (fun i hi => by rw [Nat.zero_add]; exact decide_eq_true (h1 i hi)) (fun hk => by rw [Nat.zero_add, h2 hk]; rfl)

end Go.Proofs.Ytpkoiacenamccaa
