/-
  The book of lists, vectors: rows that are apart; marks are put into them.
-/
import Derived.Test.YthacdegaeokgnaaDoorMXBook4
namespace Go.Proofs.YthacdegaeokgnaaDoor
open Go.RowKit

theorem getD_set_selfB (zs : List Int) (j : Nat) (x : Int) (hj : j < zs.length) : (zs.set j x).getD j 0 = x := by
  rw [List.getD_eq_getElem?_getD, List.getElem?_set_self hj]; rfl
theorem getD_set_ne (zs : List Int) (i j : Nat) (x : Int) (h : i ≠ j) : (zs.set i x).getD j 0 = zs.getD j 0 := by
  rw [List.getD_eq_getElem?_getD, List.getElem?_set_ne h, ← List.getD_eq_getElem?_getD]
theorem markV_getD (i n j : Nat) (hj : j < n) : (markV i 0 n).getD j 0 = -1000000 * (i : Int) - (j : Int) - 9 := by
  unfold markV
  rw [List.getD_eq_getElem?_getD, List.getElem?_map, List.getElem?_range hj]
  simp

/-- m rows of numbers, apart. -/
structure Rws (w : World) (B m : Nat) (a : Nat → Value) (F : Nat → List Int) : Prop where
  each : ∀ i, i < m → Nums w B 3 (a i) (F i)
  apart : ∀ i j, i < m → j < m → i ≠ j → Off (a i) (a j)

theorem nums_block {w : World} {B : Nat} {g n c : Nat} {zs : List Int} (h : Nums w B 3 (.slice (some ⟨g, 0, none⟩) n c) zs) : ∃ cs, B ≤ g ∧ n = zs.length ∧ w.heap[g]? = some (.cells cs 3 (0, 0)) := by
  rcases h.2 with ⟨h', _⟩ | ⟨g', cap, cur, h', hb, hh, _⟩
  · simp at h'
  · simp only [Value.slice.injEq, Option.some.injEq, Addr.mk.injEq, and_true] at h'
    obtain ⟨rfl, rfl, _⟩ := h'
    exact ⟨cur, hb, rfl, hh⟩

theorem nums_some {w : World} {B : Nat} {v : Value} {zs : List Int} {e : TypeId} (h : Nums w B e v zs) (hn : 0 < zs.length) : ∃ g c, v = .slice (some ⟨g, 0, none⟩) zs.length c := by
  rcases h.2 with ⟨_, h0⟩ | ⟨g, cap, cur, hv, _⟩
  · omega
  · exact ⟨g, cap, hv⟩

theorem Rws.below {w w' : World} {B m : Nat} {a : Nat → Value} {F : Nat → List Int} (h : Rws w B m a F) {B' : Nat} (hb : Below B' w w') (hB : w.heap.size ≤ B') : Rws w' B m a F := ⟨fun i hi => (h.each i hi).below hb hB, h.apart⟩

end Go.Proofs.YthacdegaeokgnaaDoor
