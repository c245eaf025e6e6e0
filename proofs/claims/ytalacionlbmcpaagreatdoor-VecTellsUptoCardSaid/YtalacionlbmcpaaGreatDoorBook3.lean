/-
  The book of lists, vectors: one more is kept.
-/
import Derived.Test.YtalacionlbmcpaaGreatDoorBook2
import Derived.Deep.RegionLaw
namespace Go.Proofs.YtalacionlbmcpaaGreatDoor
open Go.RowKit

theorem sliceinfo : (Tryz.prog.info? 22).map (fun i => (i.zero, i.size, i.bytes)) = some (some (.slice none 0 0), 1, 24) := by kernel_rfl

/-- The book's fields where vectors alone are kept. -/
def bookV (v1 v2 : Value) : Array Value := #[.slice none 0 0, .slice none 0 0, .slice none 0 0, .slice none 0 0, v1, v2, .slice none 0 0, .slice none 0 0, .slice none 0 0, .slice none 0 0, .slice none 0 0, .slice none 0 0, .slice none 0 0, .slice none 0 0, .slice none 0 0, .slice none 0 0, .slice none 0 0, .slice none 0 0, .slice none 0 0, .slice none 0 0, .slice none 0 0, .slice none 0 0, .slice none 0 0, .slice none 0 0, .slice none 0 0, .slice none 0 0, .slice none 0 0, .slice none 0 0, .slice none 0 0, .slice none 0 0]

/-- Blocks of type t are as they were. -/
structure KeepT (t : TypeId) (w w' : World) : Prop where
  size : w.heap.size ≤ w'.heap.size
  keep : ∀ (k : Nat) (cs : Array Value) (fr : Nat × Nat), w.heap[k]? = some (Obj.cells cs t fr) → w'.heap[k]? = some (Obj.cells cs t fr)
section
variable {t : TypeId} {w w' w'' : World}
theorem KeepT.refl (t : TypeId) (w : World) : KeepT t w w := ⟨Nat.le_refl _, fun _ _ _ h => h⟩
theorem KeepT.trans (h : KeepT t w w') (k : KeepT t w' w'') : KeepT t w w'' := ⟨Nat.le_trans h.size k.size, fun _ _ _ x => k.keep _ _ _ (h.keep _ _ _ x)⟩
theorem KeepT.of_below {B : Nat} (h : Below B w w') (hB : w.heap.size ≤ B) : KeepT t w w' := ⟨h.size, fun k _ _ x => (h.block k (Nat.lt_of_lt_of_le (Array.getElem?_eq_some_iff.1 x).1 hB)).trans x⟩
theorem KeepT.drew (h : KeepT t w w') : KeepT t w w'.drew := ⟨h.size, h.keep⟩
theorem KeepT.drewN (h : KeepT t w w') (q : Nat) : KeepT t w (w'.drewN q) := ⟨h.size, h.keep⟩
theorem KeepT.alloc (h : KeepT t w w') (o : Obj) : KeepT t w (w'.alloc o) := h.trans (KeepT.of_below (below_alloc (Below.refl w'.heap.size w') (Nat.le_refl _) o) (Nat.le_refl _))
theorem KeepT.set {g : Nat} {cs : Array Value} {u : TypeId} {fr : Nat × Nat} (h : KeepT t w w') (hg : w'.heap[g]? = some (Obj.cells cs u fr)) (hne : u ≠ t) (p : Addr) (hp : p.block = g) (x : Value) : KeepT t w (w'.setCell p x) :=
  h.trans ⟨by simp [World.setCell], fun k cs' fr' hk => by
    refine (Below.heap_setCell w' p x k ?_).trans hk
    rintro rfl
    rw [hp, hg] at hk
    injection hk with hk
    injection hk with _ h2
    exact hne h2⟩
/-- Behind an append to a row of another type. -/
theorem KeepT.grown {B : Nat} {u : TypeId} {v : Value} {n : Nat} {xs : List Value} (h : KeepT t w w') (hg : w'.grownBy w'' v.ownBlock) (hown : w'.ownsRow B u 1 v n xs) (hne : u ≠ t) : KeepT t w w'' :=
  h.trans ⟨hg.size, fun k cs fr hk => by
    refine (hg.block k (Array.getElem?_eq_some_iff.1 hk).1 ?_).trans hk
    intro e
    rcases hown.2 with ⟨rfl, _⟩ | ⟨g, cap, cur, rfl, _, hh, _⟩
    · simp [Value.ownBlock] at e
    · simp [Value.ownBlock] at e
      subst e
      rw [hh] at hk
      injection hk with hk
      injection hk with _ h2
      exact hne h2⟩
theorem Nums.keep {B : Nat} {v : Value} {zs : List Int} (h : Nums w B t v zs) (hk : KeepT t w w') : Nums w' B t v zs := by
  refine ⟨h.1, ?_⟩
  rcases h.2 with hn | ⟨g, cap, cur, hv, hg, hh, r⟩
  · exact Or.inl hn
  · exact Or.inr ⟨g, cap, cur, hv, hg, hk.keep _ _ _ hh, r⟩
theorem Rows.keep {B : Nat} {rs : List Row} (h : Rows w B t rs) (hk : KeepT t w w') : Rows w' B t rs := ⟨fun r hr => (h.each r hr).keep hk, h.apart⟩
end

/-- The book keeps the lists L, and the copies C. -/
structure VBook (w : World) (B bk : Nat) (v1 v2 : Value) (L C : List Value) : Prop where
  low : B ≤ bk
  blk : Blk w bk 42 (bookV v1 v2)
  r1 : w.ownsRow B 22 1 v1 L.length L
  r2 : w.ownsRow B 22 1 v2 C.length C
  off : Off v1 v2

section
variable {w w' : World} {B bk : Nat} {v1 v2 : Value} {L C : List Value}
theorem VBook.below (h : VBook w B bk v1 v2 L C) {B' : Nat} (hb : Below B' w w') (hB : w.heap.size ≤ B') : VBook w' B bk v1 v2 L C := by
  have key : ∀ v xs, w.ownsRow B 22 1 v xs.length xs → w'.ownsRow B 22 1 v xs.length xs := by
    intro v xs h
    refine ⟨h.1, ?_⟩
    rcases h.2 with hn | ⟨g, cap, cur, hv, hg, hh, r⟩
    · exact Or.inl hn
    · exact Or.inr ⟨g, cap, cur, hv, hg, (hb.block g (Nat.lt_of_lt_of_le (Array.getElem?_eq_some_iff.1 hh).1 hB)).trans hh, r⟩
  exact ⟨h.low, (hb.block bk (Nat.lt_of_lt_of_le h.blk.lt hB)).trans h.blk, key _ _ h.r1, key _ _ h.r2, h.off⟩
end

theorem own_ne_blk {w : World} {B bk : Nat} {e t : TypeId} {v : Value} {n : Nat} {xs : List Value} {cs : Array Value} (h : w.ownsRow B e 1 v n xs) (hb : Blk w bk t cs) (hne : e ≠ t) : v.ownBlock ≠ some bk := by
  intro hv
  rcases h.2 with ⟨rfl, _⟩ | ⟨g, cap, cur, rfl, _, hh, _⟩
  · simp [Value.ownBlock] at hv
  · simp [Value.ownBlock] at hv
    subst hv
    unfold Blk at hb
    rw [hh] at hb
    injection hb with hb
    injection hb with _ h2
    exact hne h2


theorem size_bookV (a b : Value) : (bookV a b).size = 30 := rfl
theorem set4_bookV (a b u : Value) : (bookV a b).setIfInBounds 4 u = bookV u b := rfl
theorem set5_bookV (a b u : Value) : (bookV a b).setIfInBounds 5 u = bookV a u := rfl

/-- A list more among those that are kept. -/
theorem vbook_1 {w w1 : World} {B bk : Nat} {v1 v2 u1 x : Value} {L C : List Value} {o : Obj} (h : VBook w B bk v1 v2 L C) (hB : B ≤ w.heap.size)
    (hown : w1.ownsRow B 22 1 u1 (L.length + 1) (L ++ [x])) (hgr : (w.alloc o).grownBy w1 v1.ownBlock) (hbl : u1.ownBlock = v1.ownBlock ∨ ∀ g, u1.ownBlock = some g → w.heap.size ≤ g) :
    VBook (w1.setCell ⟨bk, 4, none⟩ u1) B bk u1 v2 (L ++ [x]) C ∧ KeepT 3 w (w1.setCell ⟨bk, 4, none⟩ u1) ∧ Below B w (w1.setCell ⟨bk, 4, none⟩ u1) ∧ Blk w1 bk 42 (bookV v1 v2) := by
  have hne := own_ne_blk h.r1 h.blk (by decide)
  have hb0 := h.blk.alloc o
  have hb1 : Blk w1 bk 42 (bookV v1 v2) := hb0.grown hgr (fun e => hne e.symm)
  have hb2 := hb1.set_ 4 u1
  rw [set4_bookV] at hb2
  have hu : u1.ownBlock ≠ some bk := own_ne_blk hown hb1 (by decide)
  have hr2 : w1.ownsRow B 22 1 v2 C.length C := (World.ownsRow.alloc h.r2 o).kept hgr (by
    cases hv : v2.ownBlock with
    | none => exact Or.inl rfl
    | some g => exact Or.inr (fun e => h.off g e.symm hv))
  have hv2 : v2.ownBlock ≠ some bk := own_ne_blk h.r2 h.blk (by decide)
  refine ⟨⟨h.low, hb2, ?_, ownsRow_setCell_other hr2 hv2 u1, ?_⟩, ?_, ?_, hb1⟩
  · rw [List.length_append]
    exact ownsRow_setCell_other hown hu u1
  · intro g hg hv
    rcases hbl with e | e
    · exact h.off g (e ▸ hg) hv
    · have h1 := e g hg
      have h2 := (World.ownsRow.lt h.r2 g hv).2
      omega
  · have k1 : KeepT 3 w w1 := ((KeepT.refl _ w).alloc o).grown hgr (World.ownsRow.alloc h.r1 o) (by decide)
    exact k1.set hb1 (by decide) _ rfl _
  · have b1 : Below B w w1 := (below_alloc (Below.refl B w) hB o).grown hgr (by simp; omega) (fun k hk => (World.ownsRow.lt h.r1 k hk).1)
    exact below_setCell b1 h.low u1
theorem vbook_2 {w w1 : World} {B bk : Nat} {v1 v2 u2 x : Value} {L C : List Value} {o : Obj} (h : VBook w B bk v1 v2 L C) (hB : B ≤ w.heap.size)
    (hown : w1.ownsRow B 22 1 u2 (C.length + 1) (C ++ [x])) (hgr : (w.alloc o).grownBy w1 v2.ownBlock) (hbl : u2.ownBlock = v2.ownBlock ∨ ∀ g, u2.ownBlock = some g → w.heap.size ≤ g) :
    VBook (w1.setCell ⟨bk, 5, none⟩ u2) B bk v1 u2 L (C ++ [x]) ∧ KeepT 3 w (w1.setCell ⟨bk, 5, none⟩ u2) ∧ Below B w (w1.setCell ⟨bk, 5, none⟩ u2) ∧ Blk w1 bk 42 (bookV v1 v2) := by
  have hne := own_ne_blk h.r2 h.blk (by decide)
  have hb0 := h.blk.alloc o
  have hb1 : Blk w1 bk 42 (bookV v1 v2) := hb0.grown hgr (fun e => hne e.symm)
  have hb2 := hb1.set_ 5 u2
  rw [set5_bookV] at hb2
  have hu : u2.ownBlock ≠ some bk := own_ne_blk hown hb1 (by decide)
  have hr1 : w1.ownsRow B 22 1 v1 L.length L := (World.ownsRow.alloc h.r1 o).kept hgr (by
    cases hv : v1.ownBlock with
    | none => exact Or.inl rfl
    | some g => exact Or.inr (fun e => h.off g hv e.symm))
  have hv1 : v1.ownBlock ≠ some bk := own_ne_blk h.r1 h.blk (by decide)
  refine ⟨⟨h.low, hb2, ownsRow_setCell_other hr1 hv1 u2, ?_, ?_⟩, ?_, ?_, hb1⟩
  · rw [List.length_append]
    exact ownsRow_setCell_other hown hu u2
  · intro g hg hv
    rcases hbl with e | e
    · exact h.off g hg (e ▸ hv)
    · have h1 := e g hv
      have h2 := (World.ownsRow.lt h.r1 g hg).2
      omega
  · have k1 : KeepT 3 w w1 := ((KeepT.refl _ w).alloc o).grown hgr (World.ownsRow.alloc h.r2 o) (by decide)
    exact k1.set hb1 (by decide) _ rfl _
  · have b1 : Below B w w1 := (below_alloc (Below.refl B w) hB o).grown hgr (by simp; omega) (fun k hk => (World.ownsRow.lt h.r2 k hk).1)
    exact below_setCell b1 h.low u2

theorem own_some {w : World} {B : Nat} {e : TypeId} {v : Value} {n : Nat} {xs : List Value} (h : w.ownsRow B e 1 v (n + 1) xs) : ∃ g d, v = .slice (some ⟨g, 0, none⟩) (n + 1) d := by
  rcases h.2 with ⟨_, h0⟩ | ⟨g, cap, cur, hv, _⟩
  · omega
  · exact ⟨g, cap, hv⟩
theorem vbook_2c {w w1 : World} {B bk : Nat} {v1 v2 u2 x : Value} {L C : List Value} {o : Obj} (h : VBook w B bk v1 v2 L C) (hB : B ≤ w.heap.size)
    (hown : w1.ownsRow B 22 1 u2 (C.length + 1) (C ++ [x])) (hgr : (w.alloc o).grownBy w1 v2.ownBlock) (hbl : u2.ownBlock = v2.ownBlock ∨ ∀ g, u2.ownBlock = some g → (w.alloc o).heap.size ≤ g) :
    w1.cell? ⟨bk, 5, none⟩ = some v2 ∧ w1.frozen? ⟨bk, 5, none⟩ = false := by
  obtain ⟨_, _, _, hb⟩ := vbook_2 h hB hown hgr (hbl.imp id fun h g hg => by have := h g hg; simp at this; omega)
  have := hb.cell 5
  exact ⟨this, hb.frozen 5⟩

set_option maxRecDepth 100000 in
set_option maxHeartbeats 4000000 in
theorem bvecs_any (B bk : Nat) (v1 v2 : Value) (L C : List Value) (A : Option Addr) (n c : Nat) (zs : List Int) (w : World) (hV : VBook w B bk v1 v2 L C) (hLC : L.length = C.length) (h250 : L.length < 250) (I : ∀ W, KeepT 3 w W → IntsIn W A n zs) (hn : n ≤ 100000) (hB : B ≤ w.heap.size) :
    Calls Tryz.prog 49 #[.pointer (some ⟨bk, 0, none⟩), .slice A n c] w fun e w' => e = .returned (.tuple #[]) ∧ ∃ u1 u2 cp, VBook w' B bk u1 u2 (L ++ [.slice A n c]) (C ++ [cp]) ∧ Nums w' w.heap.size 3 cp zs ∧ KeepT 3 w w' ∧ Below B w w' := by
  obtain ⟨i0, hi, hz0, hz1, hz2⟩ := info_parts sliceinfo
  have HV := Lib.hid hV
  have HI := Lib.hid I
  obtain ⟨a1, m1, d1, rfl⟩ : ∃ a m d, v1 = .slice a m d := by
    rcases hV.r1.2 with ⟨rfl, _⟩ | ⟨g, cap, cur, rfl, _⟩ <;> exact ⟨_, _, _, rfl⟩
  have hm1 : m1 = L.length := by
    rcases hV.r1.2 with ⟨h, h2⟩ | ⟨g, cap, cur, h, _⟩
    · injection h; omega
    · injection h
  subst hm1
  obtain ⟨a2, m2, e2, rfl⟩ : ∃ a m d, v2 = .slice a m d := by
    rcases hV.r2.2 with ⟨rfl, _⟩ | ⟨g, cap, cur, rfl, _⟩ <;> exact ⟨_, _, _, rfl⟩
  have hm2 : m2 = C.length := by
    rcases hV.r2.2 with ⟨h, h2⟩ | ⟨g, cap, cur, h, _⟩
    · injection h; omega
    · injection h
  subst hm2
  have c4 := hV.blk.cell 4
  have c5 := hV.blk.cell 5
  have f4 := hV.blk.frozen 4
  have f5 := hV.blk.frozen 5
  simp [bookV] at c4 c5
  have h250' : (L.length : Int) < 250 := by omega
  have hlow := hV.low
  have hbklt := hV.blk.lt
  have HLC := Lib.hid hLC
  clear hV I hLC
  go_enter Tryz.func49, Tryz.ntmps49
  go_wp2_with (at_builtin; refine wpList_append_keep _ rfl _ _ 28 rfl B 22 i0 (.slice none 0 0) 1 24 Tryz.underlying28 hi hz0 hz1 hz2 rfl (by decide) _ _ _ rfl (World.ownsRow.alloc HV.out.r1 _) ⟨w.heap.size, 0, none⟩ 1 1 [.slice A n c] rfl rfl ?c1 ?c2 ?c3 ?c4 ?c5 ?_)
  case c1 =>
    intro j' u hj'
    match j', hj' with
    | 0, hj' => simp at hj'; subst hj'; simp [Addr.add]
  case c2 => intro u hu; simp at hu; subst hu; rfl
  case c3 => unfold maxLen; omega
  case c4 => omega
  case c5 => simp; omega
  intro u1 w1 hown1 hgr1 hold1 hblk1
  obtain ⟨V1, k1, hb1, hblk⟩ := vbook_1 HV.out hB hown1 hgr1 (hblk1.imp id fun h g hg => by have := h g hg; omega)
  obtain ⟨g1, d2, rfl⟩ : ∃ g d, u1 = .slice (some ⟨g, 0, none⟩) (L.length + 1) d := by
    rcases hown1.2 with ⟨_, h0⟩ | ⟨g, cap, cur, hv, _⟩
    · omega
    · exact ⟨g, cap, hv⟩
  have g4 := hblk.cell 4
  have g4f := hblk.frozen 4
  simp [bookV] at g4
  have HV1 := Lib.hid V1
  have HK1 := Lib.hid k1
  have HB1 := Lib.hid hb1
  clear hown1 hgr1 hold1 hblk1 hblk V1 k1 hb1 c4 c5 f4 f5
  go_wp2_with fail
  generalize w1.setCell ⟨bk, 4, none⟩ (.slice (some ⟨g1, 0, none⟩) (L.length + 1) d2) = w2 at *
  have hC250 : C.length < 250 := by have := HLC.out; omega
  have HC250 := Lib.hid hC250
  have CP : Hid (∀ W, W = w2.drew ∨ W = w2 → Calls Tryz.prog 114 #[.slice A n c] W fun e w' => ∃ a3 n3 c3, e = .returned (.slice a3 n3 c3) ∧ Nums w' w.heap.size 3 (.slice a3 n3 c3) zs ∧ KeepT 3 w w' ∧ Below B w w' ∧ VBook w' B bk (.slice (some ⟨g1, 0, none⟩) (L.length + 1) d2) (.slice a2 C.length e2) (L ++ [.slice A n c]) C ∧ B ≤ w'.heap.size) := by
    intro W hW
    have hKW : KeepT 3 w W := by
      rcases hW with rfl | rfl
      · exact HK1.out.drew
      · exact HK1.out
    have hBW : Below B w W := by
      rcases hW with rfl | rfl
      · exact HB1.out.drew
      · exact HB1.out
    have hVW : VBook W B bk (.slice (some ⟨g1, 0, none⟩) (L.length + 1) d2) (.slice a2 C.length e2) (L ++ [.slice A n c]) C := by
      rcases hW with rfl | rfl
      · exact HV1.out.below (Below.refl w2.heap.size w2).drew (Nat.le_refl _)
      · exact HV1.out
    refine (copyVecs_any A n c zs W (HI.out W hKW) (by omega)).mono ?_
    rintro e w' ⟨v, rfl, hN, hb⟩
    obtain ⟨a3, n3, c3, rfl⟩ : ∃ a n c, v = .slice a n c := by
      rcases hN.2 with ⟨rfl, _⟩ | ⟨g, cap, cur, rfl, _⟩ <;> exact ⟨_, _, _, rfl⟩
    exact ⟨a3, n3, c3, rfl, hN.low hKW.size, hKW.trans (KeepT.of_below hb (Nat.le_refl _)), hBW.trans (hb.mono (Nat.le_trans hB hKW.size)), hVW.below hb (Nat.le_refl _), Nat.le_trans hB (Nat.le_trans hKW.size hb.size)⟩
  have c5 := HV1.out.blk.cell 5
  have f5 := HV1.out.blk.frozen 5
  simp [bookV] at c5
  have h250b : C.length + 1 ≤ maxLen := by unfold maxLen; omega
  have h250c : (C.length + 1) * 24 ≤ 140737488355328 := by omega
  have H3 := Lib.hid h250b
  have H4 := Lib.hid h250c
  clear h250' hC250 h250b h250c g4 g4f
  go_region_law (first
    | (refine step_append_keep rfl (.tmp 24) (.tmp 27) 28 rfl B 22 i0 (.slice none 0 0) 1 24 Tryz.underlying28 hi hz0 hz1 hz2 rfl (by decide) (.slice a2 C.length e2) C.length C rfl (by assumption) ⟨_, 0, none⟩ 1 1 _ rfl rfl (cells_new _ _ [_]) (by intro u hu; simp at hu; subst hu; rfl) H3.out H4.out (by simp; omega) ?_; intro u2 w5 hown5 hgr5 hold5 hbl5; obtain ⟨g5, d5, rfl⟩ := own_some hown5; obtain ⟨c55, f55⟩ := vbook_2c hV3 hS3 hown5 hgr5 hbl5)
    | (go_simp; go_at_call 114; refine (CP.out _ (by first | exact Or.inl rfl | exact Or.inr rfl)).mono ?_; rintro e w3 ⟨a3, n3, c3, rfl, hN3, hK3, hB3, hV3, hS3⟩; have R3 := World.ownsRow.alloc hV3.r2 (.cells #[.slice a3 n3 c3] 22); have c53 : w3.cell? ⟨bk, 5, none⟩ = some (.slice a2 C.length e2) := (by have := hV3.blk.cell 5; simpa [bookV] using this); have c54 : (w3.alloc (.cells #[.slice a3 n3 c3] 22)).cell? ⟨bk, 5, none⟩ = some (.slice a2 C.length e2) := (by have := (hV3.blk.alloc (.cells #[.slice a3 n3 c3] 22)).cell 5; simpa [bookV] using this)))
  all_goals
    obtain ⟨V5, k5, hb5, _⟩ := vbook_2 hV3 hS3 hown5 hgr5 (hbl5.imp id fun h g hg => by have := h g hg; simp at this; omega)
    go_end0
    exact ⟨rfl, _, _, _, V5, hN3.keep k5, hK3.trans k5, hB3.trans hb5⟩
end Go.Proofs.YtalacionlbmcpaaGreatDoor
