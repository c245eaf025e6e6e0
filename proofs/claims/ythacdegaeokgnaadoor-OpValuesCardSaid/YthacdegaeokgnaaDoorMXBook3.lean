/-
  The book of lists, vectors: one more is kept.
-/
import Derived.Test.YthacdegaeokgnaaDoorMXBook2
import Derived.Deep.RegionLaw
namespace Go.Proofs.YthacdegaeokgnaaDoor
open Go.RowKit

theorem sliceinfo : (Tryd.prog.info? 41).map (fun i => (i.zero, i.size, i.bytes)) = some (some (.slice none 0 0), 1, 24) := by kernel_rfl

/-- The book's fields where vectors alone are kept. -/
def bookV (v1 v2 : Value) : Array Value := #[.slice none 0 0, .slice none 0 0, .slice none 0 0, .slice none 0 0, v1, v2, .slice none 0 0, .slice none 0 0, .slice none 0 0, .slice none 0 0, .slice none 0 0, .slice none 0 0, .slice none 0 0, .slice none 0 0, .slice none 0 0, .slice none 0 0, .slice none 0 0, .slice none 0 0, .slice none 0 0, .slice none 0 0, .slice none 0 0, .slice none 0 0, .slice none 0 0, .slice none 0 0, .slice none 0 0, .slice none 0 0, .slice none 0 0, .slice none 0 0, .slice none 0 0, .slice none 0 0]

/-- Blocks of type t are as they were. -/
structure KeepT (t : TypeId) (w w' : World) : Prop where
  size : w.heap.size ≤ w'.heap.size
  keep : ∀ (k : Nat) (cs : Array Value) (fr : Nat × Nat), w.heap[k]? = some (Obj.cells cs t fr) → w'.heap[k]? = some (Obj.cells cs t fr)
section
variable {t : TypeId} {w w' w'' : World}
theorem KeepT.refl (t : TypeId) (w : World) : KeepT t w w := ⟨Nat.le_refl _, fun _ _ _ h => h⟩
theorem KeepT.trans (h : KeepT t w w') (k : KeepT t w' w'') : KeepT t w w'' := ⟨Nat.le_trans h.size k.size, fun _ _ _ x => k.keep _ _ _ (h.keep _ _ _ x)⟩
theorem KeepT.of_below {B : Nat} (h : Below B w w') (hB : w.heap.size ≤ B) : KeepT t w w' := ⟨h.size, fun k _ _ x => (h.block k (Nat.lt_of_lt_of_le (Array.getElem?_eq_some_iff.1 x).1 hB)).trans x⟩
theorem KeepT.drew (h : KeepT t w w') : KeepT t w w'.drew := ⟨h.size, h.keep⟩
theorem KeepT.drewN (h : KeepT t w w') (q : Nat) : KeepT t w (w'.drewN q) := ⟨h.size, h.keep⟩
theorem KeepT.alloc (h : KeepT t w w') (o : Obj) : KeepT t w (w'.alloc o) := h.trans (KeepT.of_below (below_alloc (Below.refl w'.heap.size w') (Nat.le_refl _) o) (Nat.le_refl _))
theorem KeepT.set {g : Nat} {cs : Array Value} {u : TypeId} {fr : Nat × Nat} (h : KeepT t w w') (hg : w'.heap[g]? = some (Obj.cells cs u fr)) (hne : u ≠ t) (p : Addr) (hp : p.block = g) (x : Value) : KeepT t w (w'.setCell p x) :=
  h.trans ⟨by simp [World.setCell], fun k cs' fr' hk => by
    refine (Below.heap_setCell w' p x k ?_).trans hk
    rintro rfl
    rw [hp, hg] at hk
    injection hk with hk
    injection hk with _ h2
    exact hne h2⟩
/-- Behind an append to a row of another type. -/
theorem KeepT.grown {B : Nat} {u : TypeId} {v : Value} {n : Nat} {xs : List Value} (h : KeepT t w w') (hg : w'.grownBy w'' v.ownBlock) (hown : w'.ownsRow B u 1 v n xs) (hne : u ≠ t) : KeepT t w w'' :=
  h.trans ⟨hg.size, fun k cs fr hk => by
    refine (hg.block k (Array.getElem?_eq_some_iff.1 hk).1 ?_).trans hk
    intro e
    rcases hown.2 with ⟨rfl, _⟩ | ⟨g, cap, cur, rfl, _, hh, _⟩
    · simp [Value.ownBlock] at e
    · simp [Value.ownBlock] at e
      subst e
      rw [hh] at hk
      injection hk with hk
      injection hk with _ h2
      exact hne h2⟩
theorem Nums.keep {B : Nat} {v : Value} {zs : List Int} (h : Nums w B t v zs) (hk : KeepT t w w') : Nums w' B t v zs := by
  refine ⟨h.1, ?_⟩
  rcases h.2 with hn | ⟨g, cap, cur, hv, hg, hh, r⟩
  · exact Or.inl hn
  · exact Or.inr ⟨g, cap, cur, hv, hg, hk.keep _ _ _ hh, r⟩
theorem Rows.keep {B : Nat} {rs : List Row} (h : Rows w B t rs) (hk : KeepT t w w') : Rows w' B t rs := ⟨fun r hr => (h.each r hr).keep hk, h.apart⟩
end

section
variable {w w' : World} {B bk : Nat} {v1 v2 : Value} {L C : List Value}
end

theorem own_ne_blk {w : World} {B bk : Nat} {e t : TypeId} {v : Value} {n : Nat} {xs : List Value} {cs : Array Value} (h : w.ownsRow B e 1 v n xs) (hb : Blk w bk t cs) (hne : e ≠ t) : v.ownBlock ≠ some bk := by
  intro hv
  rcases h.2 with ⟨rfl, _⟩ | ⟨g, cap, cur, rfl, _, hh, _⟩
  · simp [Value.ownBlock] at hv
  · simp [Value.ownBlock] at hv
    subst hv
    unfold Blk at hb
    rw [hh] at hb
    injection hb with hb
    injection hb with _ h2
    exact hne h2


theorem size_bookV (a b : Value) : (bookV a b).size = 30 := rfl
theorem set4_bookV (a b u : Value) : (bookV a b).setIfInBounds 4 u = bookV u b := rfl
theorem set5_bookV (a b u : Value) : (bookV a b).setIfInBounds 5 u = bookV a u := rfl

theorem own_some {w : World} {B : Nat} {e : TypeId} {v : Value} {n : Nat} {xs : List Value} (h : w.ownsRow B e 1 v (n + 1) xs) : ∃ g d, v = .slice (some ⟨g, 0, none⟩) (n + 1) d := by
  rcases h.2 with ⟨_, h0⟩ | ⟨g, cap, cur, hv, _⟩
  · omega
  · exact ⟨g, cap, hv⟩
end Go.Proofs.YthacdegaeokgnaaDoor
