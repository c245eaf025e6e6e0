/-
  Plain lemmas: a key's zeros told apart; a key read from the front of bytes, as far as its end. No program is named.
-/
import Derived.Test.YthjphiniljopgaaDoorIkP3
import Derived.Lib.Bytealg
import Derived.Lib.IndexLaws
namespace Go.Proofs.YthjphiniljopgaaDoor
open Go.RowKit

/-! ### A key with its zeros told apart, from one zero to the next -/
def esc5 (l : List UInt8) : List UInt8 := l.flatMap fun c => if c = 0 then [0, 255] else [c]
theorem headL_esc5 : ∀ l : List UInt8, headL l = esc5 l ++ [0, 1]
  | [] => rfl
  | c :: l => by
    unfold headL esc5
    rw [List.flatMap_cons]
    have := headL_esc5 l
    unfold esc5 at this
    by_cases h : c = 0
    · rw [if_pos h, if_pos h, this]; rfl
    · rw [if_neg h, if_neg h, this]; rfl
theorem esc5_length (l : List UInt8) : (esc5 l).length ≤ 2 * l.length := by
  have := (headL_two l).2.2
  rw [headL_esc5, List.length_append] at this
  simp at this
  omega
theorem esc5_app (a b : List UInt8) : esc5 (a ++ b) = esc5 a ++ esc5 b := by
  unfold esc5
  rw [List.flatMap_append]
theorem esc5_clean : ∀ (a : List UInt8), (∀ c ∈ a, c ≠ 0) → esc5 a = a
  | [], _ => rfl
  | c :: a, h => by
    have := esc5_clean a (fun d hd => h d (List.mem_cons_of_mem _ hd))
    unfold esc5 at this ⊢
    rw [List.flatMap_cons, this, if_neg (h c List.mem_cons_self)]
    rfl
theorem clean_of {a : List UInt8} (h : ∀ k : Nat, a[k]? ≠ some 0) : ∀ c ∈ a, c ≠ 0 := by
  rintro c hc rfl
  obtain ⟨k, hk, e⟩ := List.getElem_of_mem hc
  exact h k (by rw [List.getElem?_eq_getElem hk, e])
theorem count_clean {a : List UInt8} (h : ∀ c ∈ a, c ≠ 0) : a.count 0 = 0 := List.count_eq_zero.2 fun hm => h 0 hm rfl
theorem clean_count {a : List UInt8} (h : a.count 0 = 0) : ∀ c ∈ a, c ≠ 0 := fun c hc e => List.count_eq_zero.1 h (e ▸ hc)

/-- At the next zero. -/
structure NextZero (l : List UInt8) (j : Nat) : Prop where
  lt : j < l.length
  clean : ∀ c ∈ l.take j, c ≠ 0
  rest : l = l.take j ++ 0 :: l.drop (j + 1)
theorem nextZero_of {l : List UInt8} {j : Nat} (h : Lib.indexByte l 0 = (j : Int)) : NextZero l j := by
  obtain ⟨h1, h2⟩ := Lib.indexByte_some h
  have hj : j < l.length := (List.getElem?_eq_some_iff.1 h1).1
  have e : l[j] = 0 := (List.getElem?_eq_some_iff.1 h1).2
  refine ⟨hj, clean_of fun k hk => ?_, ?_⟩
  · by_cases hkj : k < j
    · rw [List.getElem?_take_of_lt hkj] at hk
      exact h2 k hkj hk
    · rw [List.getElem?_eq_none (by rw [List.length_take]; omega)] at hk
      cases hk
  · conv => lhs; rw [← List.take_append_drop j l, List.drop_eq_getElem_cons hj, e]
theorem noZero_of {l : List UInt8} (h : Lib.indexByte l 0 = -1) : ∀ c ∈ l, c ≠ 0 := clean_of (Lib.indexByte_none h)
theorem NextZero.count {l : List UInt8} {j : Nat} (h : NextZero l j) : l.count 0 = (l.drop (j + 1)).count 0 + 1 := by
  rw [h.rest]
  rw [List.count_append, count_clean h.clean, List.count_cons]
  have e : (List.drop (j + 1) (List.take j l ++ 0 :: List.drop (j + 1) l)) = List.drop (j + 1) l := by rw [← h.rest]
  rw [e]
  simp
theorem NextZero.esc {l : List UInt8} {j : Nat} (h : NextZero l j) : esc5 l = l.take j ++ [0, 255] ++ esc5 (l.drop (j + 1)) := by
  have e := congrArg esc5 h.rest
  rw [e, esc5_app, esc5_clean _ h.clean]
  have : esc5 (0 :: l.drop (j + 1)) = [0, 255] ++ esc5 (l.drop (j + 1)) := by unfold esc5; rw [List.flatMap_cons, if_pos rfl]
  rw [this, List.append_assoc]
theorem zero_next {l : List UInt8} (h : 0 < l.count 0) : ∃ j : Nat, Lib.indexByte l 0 = (j : Int) := by
  have hge := Lib.indexByte_ge l 0
  by_cases hm : Lib.indexByte l 0 = -1
  · rw [count_clean (noZero_of hm)] at h; omega
  · exact ⟨(Lib.indexByte l 0).toNat, by omega⟩

/-! ### A key read -/
/-- The key at the front of bytes, as Head writes it, and what stands behind its end. -/
def readK : List UInt8 → Option (List UInt8 × List UInt8)
  | [] => none
  | [_] => none
  | c :: d :: l =>
    if c = 0 then (if d = 1 then some ([], l) else if d = 255 then (readK l).map fun x => (0 :: x.1, x.2) else none)
    else (readK (d :: l)).map fun x => (c :: x.1, x.2)
theorem readK_end (l : List UInt8) : readK (0 :: 1 :: l) = some ([], l) := by simp [readK]
theorem readK_nought (l : List UInt8) : readK (0 :: 255 :: l) = (readK l).map fun x => (0 :: x.1, x.2) := by
  rw [readK, if_pos rfl, if_neg (by decide), if_pos rfl]
theorem readK_other (d : UInt8) (l : List UInt8) (h1 : d ≠ 1) (h2 : d ≠ 255) : readK (0 :: d :: l) = none := by
  rw [readK, if_pos rfl, if_neg h1, if_neg h2]
theorem readK_one (c : UInt8) (hc : c ≠ 0) (l : List UInt8) : readK (c :: l) = (readK l).map fun x => (c :: x.1, x.2) := by
  cases l with
  | nil => simp [readK]
  | cons d l => rw [readK, if_neg hc]
theorem readK_clean : ∀ (p l : List UInt8), (∀ c ∈ p, c ≠ 0) → readK (p ++ l) = (readK l).map fun x => (p ++ x.1, x.2)
  | [], l, _ => by simp
  | c :: p, l, h => by
    rw [List.cons_append, readK_one c (h c List.mem_cons_self), readK_clean p l (fun d hd => h d (List.mem_cons_of_mem _ hd)), Option.map_map]
    rfl
theorem readK_none {l : List UInt8} (h : ∀ c ∈ l, c ≠ 0) : readK l = none := by
  have := readK_clean l [] h
  rw [List.append_nil] at this
  rw [this]
  simp [readK]
theorem readK_head : ∀ (k r : List UInt8), readK (headL k ++ r) = some (k, r)
  | [], r => readK_end r
  | c :: k, r => by
    unfold headL
    by_cases hc : c = 0
    · rw [if_pos hc]
      simp only [List.cons_append]
      rw [readK_nought, readK_head k r, hc]
      rfl
    · rw [if_neg hc]
      simp only [List.cons_append]
      rw [readK_one c hc, readK_head k r]
      rfl
theorem readK_some : ∀ (n : Nat) (l k r : List UInt8), l.length ≤ n → readK l = some (k, r) → l = headL k ++ r
  | 0, l, k, r, hn, h => by
    have : l = [] := List.eq_nil_of_length_eq_zero (by omega)
    subst this
    simp [readK] at h
  | n + 1, [], k, r, hn, h => by simp [readK] at h
  | n + 1, [_], k, r, hn, h => by simp [readK] at h
  | n + 1, c :: d :: l, k, r, hn, h => by
    have hn1 : (d :: l).length ≤ n := by simpa using hn
    have hn2 : l.length ≤ n := by simp at hn1; omega
    by_cases hc : c = 0
    · subst hc
      by_cases hd : d = 1
      · subst hd
        rw [readK_end] at h
        cases h
        rfl
      · by_cases hd2 : d = 255
        · subst hd2
          rw [readK_nought] at h
          obtain ⟨⟨k', r'⟩, hx, hy⟩ := Option.map_eq_some_iff.1 h
          cases hy
          have := readK_some n l k' r' hn2 hx
          rw [this]
          simp [headL]
        · rw [readK_other d l hd hd2] at h
          cases h
    · rw [readK_one c hc] at h
      obtain ⟨⟨k', r'⟩, hx, hy⟩ := Option.map_eq_some_iff.1 h
      cases hy
      have := readK_some n (d :: l) k' r' hn1 hx
      rw [this, show headL (c :: k') = c :: headL k' from by rw [headL, if_neg hc]]
      rfl
theorem readK_is {l k r : List UInt8} (h : readK l = some (k, r)) : l = headL k ++ r := readK_some l.length l k r (Nat.le_refl _) h
/-- Ahead of the next zero. -/
theorem NextZero.read {l : List UInt8} {j : Nat} (h : NextZero l j) : readK l = (readK (0 :: l.drop (j + 1))).map fun x => (l.take j ++ x.1, x.2) := by
  have e := congrArg readK h.rest
  rw [e, readK_clean _ _ h.clean]
end Go.Proofs.YthjphiniljopgaaDoor
