/-
  The book of lists, vectors: all are grown.
-/
import Derived.Test.YthacdegaeokgnaaDoorMXBook6
namespace Go.Proofs.YthacdegaeokgnaaDoor
open Go.RowKit

theorem slice_cells {w : World} {B g n c : Nat} {e : TypeId} {xs : List Value} (h : w.ownsRow B e 1 (.slice (some ⟨g, 0, none⟩) n c) n xs) : ∀ j u, xs[j]? = some u → w.cell? ((⟨g, 0, none⟩ : Addr).add j) = some u := World.ownsRow.cells h rfl
theorem one_cell_map (zs : List Int) : ∀ u ∈ zs.map (Value.int .i64), u.oneCell' = true := by
  intro u hu
  obtain ⟨x, _, rfl⟩ := List.mem_map.1 hu
  rfl

theorem own_below {w w' : World} {B : Nat} {e : TypeId} {v : Value} {n : Nat} {xs : List Value} (h : w.ownsRow B e 1 v n xs) {B' : Nat} (hb : Below B' w w') (hB : w.heap.size ≤ B') : w'.ownsRow B e 1 v n xs := by
  refine ⟨h.1, ?_⟩
  rcases h.2 with hn | ⟨g, cap, cur, hv, hg, hh, r⟩
  · exact Or.inl hn
  · exact Or.inr ⟨g, cap, cur, hv, hg, (hb.block g (Nat.lt_of_lt_of_le (Array.getElem?_eq_some_iff.1 hh).1 hB)).trans hh, r⟩
theorem grow_step {w w' : World} {B m k N p : Nat} {a b : Nat → Value} {F H : Nat → List Int} {l l' : Value} (h : Fam w B m a (upd b k l) F (upd H k (markV k 0 N))) (hk : k < m)
    (hown : w'.ownsRow B 3 1 l' (N + p) ((markV k 0 N).map (Value.int .i64) ++ (markV k N p).map (Value.int .i64))) (hgr : w.grownBy w' l.ownBlock)
    (hold : w'.ownsRow B 3 1 l N ((markV k 0 N).map (Value.int .i64))) (hblk : l'.ownBlock = l.ownBlock ∨ ∀ g, l'.ownBlock = some g → w.heap.size ≤ g) :
    Fam w' B m a (upd b k l') F (upd H k (markV k 0 (N + p))) := by
  have := Fam.append h hk (v' := l') (zs := markV k N p) (p := p) (markV_length _ _ _) (by rw [upd_at, markV_length]; exact hown) (by rw [upd_at]; exact hgr) (by rw [upd_at, upd_at, markV_length]; exact hold) (by rw [upd_at]; exact hblk)
  rw [upd_upd, upd_upd, upd_at] at this
  have e := markV_append k 0 N p
  rw [Nat.zero_add] at e
  rw [e] at this
  exact this
theorem range_upd (b : Nat → Value) (k : Nat) (x : Value) : (List.range k).map b ++ [x] = (List.range (k + 1)).map (upd b k x) := by
  rw [List.range_succ, List.map_append, List.map_singleton, upd_at]
  congr 1
  refine List.map_congr_left fun i hi => ?_
  rw [upd_ne]
  have := List.mem_range.1 hi
  omega
theorem grown_low {w w' w'' : World} {B B2 : Nat} {e : TypeId} {v : Value} {n : Nat} {xs : List Value} (h : Below B w w') (hB : B ≤ w.heap.size) (hBB : B ≤ B2) (hown : w'.ownsRow B2 e 1 v n xs) (hgr : w'.grownBy w'' v.ownBlock) : Below B w w'' :=
  h.grown hgr (Nat.le_trans hB h.size) (fun k hk => Nat.le_trans hBB (World.ownsRow.lt hown k hk).1)
theorem grown_below {w w' w'' : World} {B : Nat} {e : TypeId} {v : Value} {n : Nat} {xs : List Value} (h : Below B w w') (hB : B ≤ w.heap.size) (hown : w'.ownsRow B e 1 v n xs) (hgr : w'.grownBy w'' v.ownBlock) : Below B w w'' :=
  h.grown hgr (Nat.le_trans hB h.size) (fun k hk => (World.ownsRow.lt hown k hk).1)

end Go.Proofs.YthacdegaeokgnaaDoor
