/-
  What a law on versions meets: a version in a block of the call's own; texts by their bytes.
-/
import Derived.Test.YthjphiniljopgaaDoorIkP2
import Derived.Test.YthjphiniljopgaaDoorVer
import Derived.Test.YthjphiniljopgaaDoorLib
import Derived.Test.YthjphiniljopgaaDoorRows
namespace Go.Proofs.YthjphiniljopgaaDoor
open Go.RowKit

/-- The cells of a version. -/
def verC (key : ByteArray) (A : Option Addr) (n c : Nat) (o x kd : Int) (nu : Nat) (it : Int) (tx : ByteArray) : Array Value :=
  #[.string key, .slice A n c, .int .i64 o, .int .i64 x, .int .i64 kd, .float .f64 nu, .int .i64 it, .string tx]

theorem ver_cells {w : World} {p : Nat} {t : TypeId} {key : ByteArray} {A : Option Addr} {n c : Nat} {o x kd : Int} {nu : Nat} {it : Int} {tx : ByteArray} (h : Blk w p t (verC key A n c o x kd nu it tx)) :
    w.cell? ⟨p, 0, none⟩ = some (.string key) ∧ w.cell? ⟨p, 1, none⟩ = some (.slice A n c) ∧ w.cell? ⟨p, 2, none⟩ = some (.int .i64 o) ∧ w.cell? ⟨p, 3, none⟩ = some (.int .i64 x) ∧
    w.cell? ⟨p, 4, none⟩ = some (.int .i64 kd) ∧ w.cell? ⟨p, 5, none⟩ = some (.float .f64 nu) ∧ w.cell? ⟨p, 6, none⟩ = some (.int .i64 it) ∧ w.cell? ⟨p, 7, none⟩ = some (.string tx) :=
  ⟨h.cell 0, h.cell 1, h.cell 2, h.cell 3, h.cell 4, h.cell 5, h.cell 6, h.cell 7⟩

theorem run_sto_f64 (W : World) (ad : Addr) (v : Nat) : (store ad (.float .f64 v)).run Tryd.prog W = stored Tryd.prog W ad (.float .f64 v) .plain := run_store _ W ad _ _ rfl

/-! ### Texts by their bytes -/
theorem str_eq {X Y : ByteArray} : (X.toList == Y.toList) = decide (X.data.toList = Y.data.toList) := by
  rw [Lib.toList_data, Lib.toList_data]
  exact Bool.eq_iff_iff.2 (by rw [beq_iff_eq, decide_eq_true_eq])
theorem str_less {X Y : ByteArray} : Op.bytesLess X.toList Y.toList = Op.bytesLess X.data.toList Y.data.toList := by rw [Lib.toList_data, Lib.toList_data]
theorem str_take (X : ByteArray) (k : Nat) : (X.extract 0 k).data.toList = X.data.toList.take k := by simp [ByteArray.data_extract]
theorem str_size (X : ByteArray) : X.size = X.data.toList.length := by rw [Array.length_toList]; rfl
/-- X stands at the front of Y. -/
theorem str_front {X Y : ByteArray} (h : X.size ≤ Y.size) : ((Y.extract 0 X.size).toList == X.toList) = true ↔ ∃ r, Y.data.toList = X.data.toList ++ r := by
  rw [str_eq, decide_eq_true_eq, str_take]
  constructor
  · intro e
    exact ⟨Y.data.toList.drop X.size, by rw [← e]; exact (List.take_append_drop _ _).symm⟩
  · rintro ⟨r, e⟩
    rw [e, str_size, List.take_left]
theorem str_not_front {X Y : ByteArray} (h : X.size ≤ Y.size) (hn : ∀ r, Y.data.toList ≠ X.data.toList ++ r) : ((Y.extract 0 X.size).toList == X.toList) = false := by
  cases e : ((Y.extract 0 X.size).toList == X.toList)
  · rfl
  · obtain ⟨r, hr⟩ := (str_front h).1 e
    exact absurd hr (hn r)
theorem mk_data (l : List UInt8) : (⟨l.toArray⟩ : ByteArray).data.toList = l := by simp
end Go.Proofs.YthjphiniljopgaaDoor
