/-
  Plain lemmas on the keys under which versions are kept: heads, their order, the bytes of a version. No program is named.
-/
import Derived.Test.YthjphiniljopgaaDoorRaw7
import Derived.Test.YthjphiniljopgaaDoorRaw12
import Derived.Test.YthjphiniljopgaaDoorVec4
namespace Go.Proofs.YthjphiniljopgaaDoor
open Go.RowKit

/-- How all versions of a key begin. -/
def headL : List UInt8 → List UInt8
  | [] => [0, 1]
  | c :: l => if c = 0 then 0 :: 255 :: headL l else c :: headL l

theorem headL_two : ∀ a : List UInt8, 2 ≤ (headL a).length ∧ a.length ≤ (headL a).length ∧ (headL a).length ≤ 2 * a.length + 2
  | [] => by simp [headL]
  | c :: l => by
    have := headL_two l
    unfold headL
    split <;> simp <;> omega

/-- No head begins another one's. -/
theorem headL_apart : ∀ (a b s t : List UInt8), headL a ++ s = headL b ++ t → a = b ∧ s = t
  | [], [], s, t, h => by simpa [headL] using h
  | [], d :: m, s, t, h => by
    unfold headL at h
    by_cases hd : d = 0
    · subst hd; simp at h
    · rw [if_neg hd] at h
      simp at h
      exact absurd h.1.symm hd
  | c :: l, [], s, t, h => by
    unfold headL at h
    by_cases hc : c = 0
    · subst hc; simp at h
    · rw [if_neg hc] at h
      simp at h
      exact absurd h.1 hc
  | c :: l, d :: m, s, t, h => by
    unfold headL at h
    by_cases hc : c = 0
    · by_cases hd : d = 0
      · subst hc hd
        simp only [if_true, List.cons_append, List.cons.injEq, true_and] at h
        obtain ⟨rfl, rfl⟩ := headL_apart l m s t h
        exact ⟨rfl, rfl⟩
      · rw [if_pos hc, if_neg hd] at h
        simp at h
        exact absurd h.1.symm hd
    · by_cases hd : d = 0
      · rw [if_neg hc, if_pos hd] at h
        simp at h
        exact absurd h.1 hc
      · rw [if_neg hc, if_neg hd] at h
        simp only [List.cons_append, List.cons.injEq] at h
        obtain ⟨rfl, h⟩ := h
        obtain ⟨rfl, rfl⟩ := headL_apart l m s t h
        exact ⟨rfl, rfl⟩

theorem less_cons (a b : UInt8) (x y : List UInt8) : Op.bytesLess (a :: x) (b :: y) = (decide (a < b) || (a == b && Op.bytesLess x y)) := rfl
theorem less_same (a : UInt8) (x y : List UInt8) : Op.bytesLess (a :: x) (a :: y) = Op.bytesLess x y := by
  rw [less_cons]
  simp
theorem less_ne {a b : UInt8} (h : a ≠ b) (x y : List UInt8) : Op.bytesLess (a :: x) (b :: y) = decide (a < b) := by
  rw [less_cons]
  simp [h]
theorem less_app : ∀ (p x y : List UInt8), Op.bytesLess (p ++ x) (p ++ y) = Op.bytesLess x y
  | [], _, _ => rfl
  | a :: p, x, y => by rw [List.cons_append, List.cons_append, less_same]; exact less_app p x y
/-- Of two unlike rows of one length it doesn't matter what stands behind them. -/
theorem less_front : ∀ (p q x y : List UInt8), p.length = q.length → p ≠ q → Op.bytesLess (p ++ x) (q ++ y) = Op.bytesLess p q
  | [], [], _, _, _, h => absurd rfl h
  | a :: p, b :: q, x, y, hl, hn => by
    rw [List.cons_append, List.cons_append]
    by_cases hab : a = b
    · subst hab
      rw [less_same, less_same]
      exact less_front p q x y (by simpa using hl) (fun e => hn (by rw [e]))
    · rw [less_ne hab, less_ne hab]
theorem less_iff : ∀ (a b : List UInt8), Op.bytesLess a b = decide (Lib.compareBytes a b < 0)
  | [], [] => by simp [Op.bytesLess, Lib.compareBytes]
  | [], _ :: _ => by simp [Op.bytesLess, Lib.compareBytes]
  | _ :: _, [] => by simp [Op.bytesLess, Lib.compareBytes]
  | a :: x, b :: y => by
    unfold Lib.compareBytes
    by_cases h : a = b
    · subst h
      have hn : ¬ a < a := fun h => by simp at h
      rw [less_same, if_neg hn, if_neg hn]
      exact less_iff x y
    · rw [less_ne h]
      by_cases hl : a < b
      · simp [hl]
      · have hb : b < a := by
          rcases Nat.lt_trichotomy a.toNat b.toNat with g | g | g
          · exact absurd (UInt8.lt_iff_toNat_lt.2 g) hl
          · exact absurd (UInt8.toNat_inj.1 g) h
          · exact UInt8.lt_iff_toNat_lt.2 g
        simp [hl, hb]
theorem be_less (n v u : Nat) (hv : v < 2 ^ (8 * n)) (hu : u < 2 ^ (8 * n)) : Op.bytesLess (be v n) (be u n) = decide (v < u) := by
  rw [less_iff, be_cmp n v u hv hu]
  by_cases h : v < u
  · simp [h]
  · rw [if_neg h]
    by_cases g : v = u
    · simp [g]
    · rw [if_neg g]; simp [h]
theorem be_inj (n v u : Nat) (hv : v < 2 ^ (8 * n)) (hu : u < 2 ^ (8 * n)) (h : be v n = be u n) : v = u := by
  have h1 := be_less n v u hv hu
  have h2 := be_less n u v hu hv
  have h3 := be_less n u u hu hu
  rw [h] at h1
  rw [← h, h] at h2
  rw [h1] at h3
  have e1 : ¬ v < u := by
    intro g
    rw [decide_eq_true g, decide_eq_false (Nat.lt_irrefl u)] at h3
    cases h3
  have e2 : ¬ u < v := by
    intro g
    have h4 := be_less n u u hu hu
    rw [h2, decide_eq_true g, decide_eq_false (Nat.lt_irrefl u)] at h4
    cases h4
  omega

/-- Bytes of a lesser key come first, whatever stands behind. -/
theorem headL_less : ∀ (a b s t : List UInt8), a ≠ b → Op.bytesLess (headL a ++ s) (headL b ++ t) = Op.bytesLess a b
  | [], [], _, _, h => absurd rfl h
  | [], d :: m, s, t, _ => by
    unfold headL
    by_cases hd : d = 0
    · subst hd
      simp [Op.bytesLess]
    · rw [if_neg hd]
      have : (0 : UInt8) < d := by
        rcases Nat.eq_zero_or_pos d.toNat with g | g
        · exact absurd (UInt8.toNat_inj.1 (by simpa using g)) hd
        · exact UInt8.lt_iff_toNat_lt.2 (by simpa using g)
      simp [Op.bytesLess, this]
  | c :: l, [], s, t, _ => by
    unfold headL
    by_cases hc : c = 0
    · subst hc
      simp [Op.bytesLess]
    · rw [if_neg hc]
      have : ¬ c < 0 := by
        intro g
        have := UInt8.lt_iff_toNat_lt.1 g
        simp at this
      simp [Op.bytesLess, hc]
  | c :: l, d :: m, s, t, h => by
    unfold headL
    by_cases hcd : c = d
    · subst hcd
      have hn : l ≠ m := fun e => h (by rw [e])
      rw [less_same]
      by_cases hc : c = 0
      · rw [if_pos hc, if_pos hc]
        simp only [List.cons_append]
        rw [less_same, less_same]
        exact headL_less l m s t hn
      · rw [if_neg hc, if_neg hc]
        simp only [List.cons_append]
        rw [less_same]
        exact headL_less l m s t hn
    · rw [less_ne hcd]
      by_cases hc : c = 0
      · rw [if_pos hc, if_neg (fun e => hcd (hc.trans e.symm))]
        simp only [List.cons_append]
        subst hc
        rw [less_ne hcd]
      · by_cases hd : d = 0
        · rw [if_neg hc, if_pos hd]
          simp only [List.cons_append]
          subst hd
          rw [less_ne hcd]
        · rw [if_neg hc, if_neg hd]
          simp only [List.cons_append]
          rw [less_ne hcd]
theorem headL_only (a b : List UInt8) (h : a ≠ b) : Op.bytesLess (headL a) (headL b) = Op.bytesLess a b := by
  have := headL_less a b [] [] h
  simpa using this
theorem less_irrefl (a : List UInt8) : Op.bytesLess a a = false := by
  have := less_app a [] []
  rw [List.append_nil] at this
  rw [this]
  rfl

/-- The bytes behind a head: the time, the place and the number, from behind, and the vector. -/
def tailL (tm o x : Nat) (r : List UInt8) : List UInt8 := be (281474976710655 - tm) 6 ++ (be (255 - o) 1 ++ (be (281474976710655 - x) 6 ++ r))
/-- Of one key the bytes of the later stamp come first. -/
theorem tailL_less (tm o x tm' o' x' : Nat) (r r' : List UInt8) (h1 : tm ≤ 281474976710655) (h1' : tm' ≤ 281474976710655) (h2 : o ≤ 255) (h2' : o' ≤ 255) (h3 : x ≤ 281474976710655) (h3' : x' ≤ 281474976710655)
    (hn : ¬ (tm = tm' ∧ o = o' ∧ x = x')) :
    Op.bytesLess (tailL tm o x r) (tailL tm' o' x' r') = decide (tm' < tm ∨ (tm = tm' ∧ (o' < o ∨ (o = o' ∧ x' < x)))) := by
  unfold tailL
  by_cases e1 : tm = tm'
  · subst e1
    rw [less_app]
    by_cases e2 : o = o'
    · subst e2
      rw [less_app]
      have e3 : x ≠ x' := fun e => hn ⟨rfl, rfl, e⟩
      rw [less_front _ _ _ _ (by rw [be_length, be_length]) (fun e => e3 (by have := be_inj 6 _ _ (by omega) (by omega) e; omega)), be_less 6 _ _ (by omega) (by omega)]
      congr 1
      apply propext
      omega
    · rw [less_front _ _ _ _ (by rw [be_length, be_length]) (fun e => e2 (by have := be_inj 1 _ _ (by omega) (by omega) e; omega)), be_less 1 _ _ (by omega) (by omega)]
      congr 1
      apply propext
      omega
  · rw [less_front _ _ _ _ (by rw [be_length, be_length]) (fun e => e1 (by have := be_inj 6 _ _ (by omega) (by omega) e; omega)), be_less 6 _ _ (by omega) (by omega)]
    congr 1
    apply propext
    omega
end Go.Proofs.YthjphiniljopgaaDoor
