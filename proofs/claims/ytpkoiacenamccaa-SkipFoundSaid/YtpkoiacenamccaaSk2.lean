/-
  The document's own list of chapter 10, part 2: Get, Before, Bytes.
-/
import Derived.Test.YtpkoiacenamccaaSk1
namespace Go.Proofs.Ytpkoiacenamccaa
open Go.RowKit

theorem teq9 (a b : ByteArray) : (a.toList == b.toList) = decide (a = b) := by
  rw [Lib.toList_data, Lib.toList_data, Bool.eq_iff_iff, beq_iff_eq, decide_eq_true_eq]
  exact ⟨fun h => ByteArray.ext (Array.toList_inj.1 h), fun h => by rw [h]⟩
/-- What Get answers. -/
def getL (L : List P10) (key : ByteArray) : ByteArray × Int :=
  match L[placeL L key]? with
  | some m => if m.1 = key then (m.2.1, 0) else (⟨#[]⟩, 22)
  | none => (⟨#[]⟩, 22)

/-- What Before answers. -/
def lastL (L : List P10) (key : ByteArray) : ByteArray × ByteArray × Bool :=
  match L[placeL L key - 1]? with
  | some m => if placeL L key = 0 then (⟨#[]⟩, ⟨#[]⟩, false) else (m.1, m.2.1, true)
  | none => (⟨#[]⟩, ⟨#[]⟩, false)

/-- How many bytes keys and values have. -/
def bytesL (L : List P10) : Nat := (L.map fun m => m.1.size + m.2.1.size).sum
theorem bytesL_take (L : List P10) (k : Nat) (m : P10) (h : L[k]? = some m) : bytesL (L.take (k + 1)) = bytesL (L.take k) + m.1.size + m.2.1.size := by
  have hk := (List.getElem?_eq_some_iff.1 h).1
  have hm := (List.getElem?_eq_some_iff.1 h).2
  unfold bytesL
  rw [List.take_succ_eq_append_getElem hk, hm]
  simp
  omega
theorem bytesL_le (L : List P10) (h : ∀ m ∈ L, m.1.size ≤ 65536 ∧ m.2.1.size ≤ 65536) : bytesL L ≤ L.length * 131072 := by
  induction L with
  | nil => simp [bytesL]
  | cons x L ih =>
    have h1 := ih (fun m hm => h m (List.mem_cons_of_mem _ hm))
    have h2 := h x (List.mem_cons_self ..)
    simp only [bytesL, List.map_cons, List.sum_cons, List.length_cons] at *
    omega

theorem wrapB (b s t k n : Nat) (h : b ≤ k * 131072) (hk : k < n) (hn : n ≤ 100000000) (hs : s ≤ 65536) (ht : t ≤ 65536) :
    wrap64 ((b : Int) + (s : Int)) = (b : Int) + (s : Int) ∧ wrap64 ((b : Int) + (s : Int) + (t : Int)) = (b : Int) + (s : Int) + (t : Int) := by
  have h1 : k * 131072 ≤ 100000000 * 131072 := Nat.mul_le_mul_right _ (by omega)
  have h2 : b ≤ 13107200000000 := Nat.le_trans h h1
  clear h h1 hk hn
  exact ⟨IntWalk.wrap64_in _ (by omega), IntWalk.wrap64_in _ (by omega)⟩
end Go.Proofs.Ytpkoiacenamccaa
