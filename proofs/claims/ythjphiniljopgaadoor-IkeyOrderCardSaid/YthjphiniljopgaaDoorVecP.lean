/-
  Plain lemmas on the bytes of vectors. No program is named.
-/
import Derived.Test.YthjphiniljopgaaDoorVec4
import Derived.Test.YthjphiniljopgaaDoorVec5
import Derived.Test.YthjphiniljopgaaDoorNumPlain
namespace Go.Proofs.YthjphiniljopgaaDoor
open Go.RowKit

theorem flat6_length (zs : List Int) : ((zs.map fun z => be z.toNat 6).flatten).length = 6 * zs.length := by
  induction zs with
  | nil => rfl
  | cons z r ih => rw [List.map_cons, List.flatten_cons, List.length_append, ih, be_length, List.length_cons]; omega
theorem vecB_length (xs : List Int) : (vecB xs).length = 1 + 6 * xs.length := by
  unfold vecB
  rw [List.length_cons, flat6_length]
  omega
theorem flat6_drop (zs : List Int) (more : List UInt8) : ∀ (k : Nat), k < zs.length → (((zs.map fun z => be z.toNat 6).flatten ++ more).drop (6 * k)).take 6 = be (zs.getD k 0).toNat 6 := by
  induction zs with
  | nil => intro k hk; simp at hk
  | cons z r ih =>
    intro k hk
    rw [List.map_cons, List.flatten_cons, List.append_assoc]
    cases k with
    | zero => rw [Nat.mul_zero, List.drop_zero, List.take_left' (be_length _ _)]; rfl
    | succ k =>
      rw [show 6 * (k + 1) = 6 + 6 * k from by omega, ← List.drop_drop, List.drop_left' (be_length _ _)]
      exact ih k (by simpa using hk)
theorem times_vecB (xs : List Int) (more : List UInt8) (h : validL xs = true) : timesL (vecB xs ++ more) xs.length = xs := by
  obtain ⟨_, hall⟩ := validL_of h
  refine list_ext_getD (by rw [timesL_length]) fun j hj => ?_
  rw [timesL_length] at hj
  unfold timesL
  rw [List.getD_eq_getElem?_getD, List.getElem?_map, List.getElem?_range hj]
  show ((getL _ : Nat) : Int) = _
  have e : ((vecB xs ++ more).drop (1 + 6 * j)).take 6 = be (xs.getD j 0).toNat 6 := by
    unfold vecB
    rw [List.cons_append, show 1 + 6 * j = 6 * j + 1 from by omega, List.drop_succ_cons, flat6_drop xs more j hj]
  have hz := hall j hj
  rw [e, getL_be 6 _ (by omega)]
  omega
theorem head_vecB (xs : List Int) (more : List UInt8) (h : validL xs = true) : getL ((vecB xs ++ more).take 1) = xs.length := by
  obtain ⟨⟨h1, h8⟩, _⟩ := validL_of h
  unfold vecB
  rw [List.cons_append, List.take_succ_cons, List.take_zero]
  show 0 * 256 + (UInt8.ofNat xs.length).toNat = xs.length
  rw [UInt8.toNat_ofNat']
  omega
theorem vecB_inj {xs ys : List Int} (hx : validL xs = true) (hy : validL ys = true) (h : vecB xs = vecB ys) : xs = ys := by
  have h1 := head_vecB xs [] hx
  have h2 := head_vecB ys [] hy
  rw [h] at h1
  have hl : xs.length = ys.length := h1.symm.trans h2
  have t1 := times_vecB xs [] hx
  have t2 := times_vecB ys [] hy
  rw [h, hl] at t1
  exact t1.symm.trans t2
end Go.Proofs.YthjphiniljopgaaDoor
