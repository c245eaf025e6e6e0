/-
  Joins and meets of lists of times (plain).
-/
import Derived.Test.YtcnjjolmjpeeoaaDoorVec3
namespace Go.Proofs.YtcnjjolmjpeeoaaDoor

theorem joinL_length {xs ys : List Int} (h : xs.length = ys.length) : (joinL xs ys).length = xs.length := by
  unfold joinL; rw [if_pos h, List.length_zipWith]; omega
theorem meetL_length {xs ys : List Int} (h : xs.length = ys.length) : (meetL xs ys).length = xs.length := by
  unfold meetL; rw [if_pos h, List.length_zipWith]; omega
theorem zip_at (f : Int → Int → Int) (xs ys : List Int) (j : Nat) (hx : j < xs.length) (hy : j < ys.length) : (List.zipWith f xs ys).getD j 0 = f (xs.getD j 0) (ys.getD j 0) := by
  rw [List.getD_eq_getElem?_getD, List.getD_eq_getElem?_getD, List.getD_eq_getElem?_getD, List.getElem?_eq_getElem (by rw [List.length_zipWith]; omega), List.getElem?_eq_getElem hx, List.getElem?_eq_getElem hy]
  simp
theorem joinL_at {xs ys : List Int} (h : xs.length = ys.length) {j : Nat} (hj : j < xs.length) : (joinL xs ys).getD j 0 = if xs.getD j 0 < ys.getD j 0 then ys.getD j 0 else xs.getD j 0 := by
  unfold joinL; rw [if_pos h, zip_at _ _ _ _ hj (by omega)]
theorem meetL_at {xs ys : List Int} (h : xs.length = ys.length) {j : Nat} (hj : j < xs.length) : (meetL xs ys).getD j 0 = if ys.getD j 0 < xs.getD j 0 then ys.getD j 0 else xs.getD j 0 := by
  unfold meetL; rw [if_pos h, zip_at _ _ _ _ hj (by omega)]

theorem leqL_true {xs ys : List Int} : leqL xs ys = true ↔ xs.length = ys.length ∧ ∀ j, j < xs.length → xs.getD j 0 ≤ ys.getD j 0 := decide_eq_true_iff
theorem leqL_refl (xs : List Int) : leqL xs xs = true := leqL_true.2 ⟨rfl, fun _ _ => Int.le_refl _⟩
theorem leqL_trans {xs ys zs : List Int} (h : leqL xs ys = true) (k : leqL ys zs = true) : leqL xs zs = true := by
  rw [leqL_true] at *
  exact ⟨h.1.trans k.1, fun j hj => Int.le_trans (h.2 j hj) (k.2 j (by omega))⟩
theorem leqL_anti {xs ys : List Int} (h : leqL xs ys = true) : leqL ys xs = decide (xs = ys) := by
  by_cases e : xs = ys
  · subst e; rw [leqL_refl]; simp
  · rw [decide_eq_false e]
    cases k : leqL ys xs with
    | false => rfl
    | true =>
      rw [leqL_true] at h k
      exact absurd (list_ext_getD h.1 fun j hj => Int.le_antisymm (h.2 j hj) (k.2 j (by omega))) e
theorem leq_join_l {xs ys : List Int} (h : xs.length = ys.length) : leqL xs (joinL xs ys) = true := by
  rw [leqL_true]
  refine ⟨(joinL_length h).symm, fun j hj => ?_⟩
  rw [joinL_at h hj]; split <;> omega
theorem leq_join_r {xs ys : List Int} (h : xs.length = ys.length) : leqL ys (joinL xs ys) = true := by
  rw [leqL_true]
  refine ⟨by rw [joinL_length h]; exact h.symm, fun j hj => ?_⟩
  rw [joinL_at h (by omega)]; split <;> omega
theorem meet_leq_l {xs ys : List Int} (h : xs.length = ys.length) : leqL (meetL xs ys) xs = true := by
  rw [leqL_true]
  refine ⟨meetL_length h, fun j hj => ?_⟩
  rw [meetL_length h] at hj
  rw [meetL_at h hj]; split <;> omega
theorem meet_leq_r {xs ys : List Int} (h : xs.length = ys.length) : leqL (meetL xs ys) ys = true := by
  rw [leqL_true]
  refine ⟨by rw [meetL_length h]; exact h, fun j hj => ?_⟩
  rw [meetL_length h] at hj
  rw [meetL_at h hj]; split <;> omega
theorem join_least {xs ys zs : List Int} (h : leqL xs zs = true) (k : leqL ys zs = true) : leqL (joinL xs ys) zs = true := by
  rw [leqL_true] at *
  have e : xs.length = ys.length := by omega
  refine ⟨by rw [joinL_length e]; exact h.1, fun j hj => ?_⟩
  rw [joinL_length e] at hj
  have h1 := h.2 j hj
  have h2 := k.2 j (by omega)
  rw [joinL_at e hj]; split <;> omega
theorem meet_greatest {xs ys zs : List Int} (h : leqL zs xs = true) (k : leqL zs ys = true) : leqL zs (meetL xs ys) = true := by
  rw [leqL_true] at *
  have e : xs.length = ys.length := by omega
  refine ⟨by rw [meetL_length e]; exact h.1, fun j hj => ?_⟩
  have h1 := h.2 j hj
  have h2 := k.2 j (by omega)
  rw [meetL_at e (by omega)]; split <;> omega
theorem join_assoc {xs ys zs : List Int} (h : xs.length = ys.length) (k : ys.length = zs.length) : joinL (joinL xs ys) zs = joinL xs (joinL ys zs) := by
  have a := joinL_length h
  have b := joinL_length k
  have d := joinL_length (xs := joinL xs ys) (ys := zs) (by omega)
  have e := joinL_length (xs := xs) (ys := joinL ys zs) (by omega)
  refine list_ext_getD (by omega) fun j hj => ?_
  rw [joinL_at (xs := joinL xs ys) (by omega) (by omega), joinL_at h (by omega), joinL_at (xs := xs) (ys := joinL ys zs) (by omega) (by omega), joinL_at k (by omega)]
  (repeat' split) <;> first | rfl | omega
theorem meet_join {xs ys zs : List Int} (h : xs.length = ys.length) (k : ys.length = zs.length) : meetL xs (joinL ys zs) = joinL (meetL xs ys) (meetL xs zs) := by
  have a := meetL_length h
  have b := joinL_length k
  have c := meetL_length (h.trans k)
  have d := meetL_length (xs := xs) (ys := joinL ys zs) (by omega)
  have e := joinL_length (xs := meetL xs ys) (ys := meetL xs zs) (by omega)
  refine list_ext_getD (by omega) fun j hj => ?_
  rw [meetL_at (ys := joinL ys zs) (by omega) (by omega), joinL_at k (by omega), joinL_at (xs := meetL xs ys) (by omega) (by omega), meetL_at h (by omega), meetL_at (h.trans k) (by omega)]
  (repeat' split) <;> first | rfl | omega
theorem join_comm {xs ys : List Int} (h : xs.length = ys.length) : joinL ys xs = joinL xs ys := by
  refine list_ext_getD (by rw [joinL_length h.symm, joinL_length h, h]) fun j hj => ?_
  rw [joinL_length h.symm] at hj
  rw [joinL_at h.symm hj, joinL_at h (by omega)]
  (repeat' split) <;> first | rfl | omega
theorem leq_join {xs ys : List Int} (h : xs.length = ys.length) : leqL xs ys = decide (joinL xs ys = ys) := by
  cases k : leqL xs ys with
  | true =>
    rw [leqL_true] at k
    refine (decide_eq_true ?_).symm
    refine list_ext_getD (by rw [joinL_length h]; exact h) fun j hj => ?_
    rw [joinL_length h] at hj
    have := k.2 j hj
    rw [joinL_at h hj]; split <;> omega
  | false =>
    refine (decide_eq_false fun e => ?_).symm
    have : leqL xs ys = true := by
      have := leq_join_l h
      rwa [e] at this
    rw [k] at this
    cases this
end Go.Proofs.YtcnjjolmjpeeoaaDoor
