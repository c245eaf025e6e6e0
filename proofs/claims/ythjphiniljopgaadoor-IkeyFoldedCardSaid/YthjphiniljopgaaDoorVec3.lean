/-
  Walks over package vec, part 3: With, each, Join, Meet.
-/
import Derived.Test.YthjphiniljopgaaDoorVec2
import Derived.Deep.RegionWith
namespace Go.Proofs.YthjphiniljopgaaDoor
open Go.RowKit

/-- A vector with another time at a place. -/
def withL (zs : List Int) (i t : Int) : List Int := if 0 ≤ i ∧ i < (zs.length : Int) then zs.set i.toNat t else zs

theorem run_max2 (x y : Int) (W : World) : (Builtin.max_ #[3, 3] 3 #[.int .i64 x, .int .i64 y]).run Tryd.prog W = .ok (.int .i64 (if x < y then y else x)) W := by
  simp [Builtin.max_, Builtin.max2]
theorem run_min2 (x y : Int) (W : World) : (Builtin.min_ #[3, 3] 3 #[.int .i64 x, .int .i64 y]).run Tryd.prog W = .ok (.int .i64 (if y < x then y else x)) W := by
  simp [Builtin.min_, Builtin.min2]

/-- Time by time; none, if they are not as long as each other. -/
def joinL (xs ys : List Int) : List Int := if xs.length = ys.length then List.zipWith (fun x y => if x < y then y else x) xs ys else []
def meetL (xs ys : List Int) : List Int := if xs.length = ys.length then List.zipWith (fun x y => if y < x then y else x) xs ys else []

theorem zip_step (f : Int → Int → Int) (xs ys : List Int) (n k : Nat) (hx : xs.length = n) (hy : ys.length = n) (hk : k < n) :
    (((List.zipWith f xs ys).take k ++ List.replicate (n - k) (0 : Int)).map (Value.int .i64)).set k (.int .i64 (f (xs.getD k 0) (ys.getD k 0)))
      = ((List.zipWith f xs ys).take (k + 1) ++ List.replicate (n - (k + 1)) (0 : Int)).map (Value.int .i64) := by
  have hl : (List.zipWith f xs ys).length = n := by rw [List.length_zipWith]; omega
  have hlt : (List.take k (List.zipWith f xs ys)).length = k := by simp; omega
  have hg : (List.zipWith f xs ys)[k]? = some (f (xs.getD k 0) (ys.getD k 0)) := by
    rw [List.getElem?_eq_getElem (by omega), List.getElem_zipWith]
    simp [List.getD, List.getElem?_eq_getElem (show k < xs.length by omega), List.getElem?_eq_getElem (show k < ys.length by omega)]
  rw [← List.map_set, List.set_append_right _ _ (by omega), hlt, Nat.sub_self, show n - k = (n - (k + 1)) + 1 from by omega, List.replicate_succ, List.set_cons_zero]
  rw [List.take_add_one, hg]
  simp

end Go.Proofs.YthjphiniljopgaaDoor
