/-
  Several texts in one: An append that leaves what was there readable; rows of numbers that are apart. No program is named.
  The book of lists, of any kind: what a call turns (Tn), elements as cells (El), rows of a kind that are apart, rows that grow. No program is named.
  The book of lists: the names that mark texts.
  The book of lists, Ints: marks, copies, are two alike? (Written by wip/gen/gen_bk.py.)
  Walks over package raw, part 6: Sum.
  Walks over package raw, part 4: PutVar.
  Walks over package raw, part 5: Put and Get.
  DERIVED: LAID BY THE SHELF's lay-shelf.mjs AT THE DUMP 'toys/ytgiodfpkkdaflaadoor/ytgiodfpkkdaflaadoor.cut.gsa' (alias 'Tryd'): THE LIBRARY CONTRACTS THAT ARE PROVED ONCE, OVER ANY PROGRAM AND ANY NUMBERING, AS THEOREMS OF THIS PROGRAM: WITHOUT A WALK: 'shelf_lay' reads the table of numbers off the bodies and has the kernel compare each body; then each contract is ONE APPLICATION. EACH COMMAND STANDS UNDER 'shelf_try': one that errs is rolled back and told in the build's print ('SHELF: NOT LAID: <name>: ..'); THE MODULE's LAST ROW OF PRINT COUNTS THEM ('SHELF: n LAID, m NOT LAID'): READ IT: a contract that is not laid is not there to be used.
  The order of bytes; what Compare and Put answer.
  Walks over the document's own answer to chapter 1: Sum, Compare.
  Filters of marked places, as plain values (no program is named).
  The document's own answer to chapter 12, part 4: the places of a key.
  Walks over package raw, part 2: a number in groups of seven bits.
  Walks over package raw, part 3: GetVar, with its deferred closure.
  Digits, over the table of the powers of ten that the laws lay.
  Package bloom, part 2: the iterator over a key's places.
  A region that draws its order, walked in the order of the text, within a class of worlds: one operation at a time. No program is named.
  The document's own answer to chapter 12, part 5: May.
  A region that draws its order, in a round of a range over a function: it is walked as everywhere. No program is named.
  Package bloom, part 3: May.
  A region that draws its order in a round of a range over a function, whose last operation waits for all ahead of it; what a function leaves behind that went through such loops as often as it liked. No program is named.
  The document's own answer to chapter 12, part 3: Size.
  A list of texts, as it can be read in a world. No program is named.
  The document's own answer to chapter 12, part 6: Bloom.
-/
import Derived.Test.YtgiodfpkkdaflaaDoorM1
import Derived.Deep.Onto
import Derived.LoopTactic
import Derived.DeepKeys
import Derived.Test.YtgiodfpkkdaflaaDoorRows
import Derived.Lib.LaidTab
import Derived.Shelf.Lay
import Derived.Shelf.LaySoft
import Derived.Test.YtgiodfpkkdaflaaDoorProg
import Derived.Lib.Strings
import Derived.Lib.Bytealg
import Derived.Defers
import Derived.Recover
import Derived.Sort.Grow
import Derived.Lib.ItoaNum
import Derived.RangeFuncFrom
import Derived.RangeFuncLeaves
import Derived.Shelf.Abstract
import Derived.Shelf.RegionOpen
import Derived.WalkKit
import Derived.OwnWalkIn
import Derived.TacticsInMore
import Derived.LoopNIn
import Derived.LoopIn
import Derived.Deep.QuietTactic
import Derived.BigQuiet
import Derived.RangeFuncCalls
import Derived.RegionTactic
import Derived.RangeFuncBox
import Derived.StillTailTactics
import Derived.Deep.RegionHeld3
import Derived.Deep.CutBlock
import Derived.Deep.CutRange
namespace Go.Proofs.YtgiodfpkkdaflaaDoor
open Go.RowKit

theorem append_keep {P : Program} (w : World) (base : Nat) (t ty e : TypeId) (i : TypeInfo) (z : Value) (size bytes : Nat) (ht : P.underlying t = some (.slice e)) (hi : P.info? e = some i) (hz : i.zero = some z)
    (hsize : i.size = size) (hby : i.bytes = bytes) (v : Value) (n : Nat) (xs : List Value) (hown : w.ownsRow base e size v n xs)
    (a : Addr) (m c : Nat) (news : List Value) (hl : news.length = m * size) (hnews : ∀ j u, news[j]? = some u → w.cell? (a.add j) = some u) (h1 : ∀ u ∈ news, u.oneCell' = true)
    (h63 : n + m ≤ maxLen) (hbytes : (n + m) * bytes ≤ 140737488355328) (v' : Value) (w' : World) (hr : (Builtin.append_ #[t, t] ty #[v, .slice (some a) m c]).run P w = .ok v' w') :
    w'.ownsRow base e size v n xs ∧ (v'.ownBlock = v.ownBlock ∨ ∀ g, v'.ownBlock = some g → w.heap.size ≤ g) := by
  subst hsize
  subst hby
  have hsmall : n + m ≤ 9223372036854775807 := by simp only [maxLen] at h63; omega
  rcases hown.2 with ⟨rfl, rfl⟩ | ⟨g, cap, cur, rfl, hbg, hg, hnc, hcm, hcs, htake⟩
  · have hx : xs = [] := List.eq_nil_of_length_eq_zero (by simpa using hown.1)
    subst hx
    refine ⟨World.ownsRow_nil _ _ _ _, ?_⟩
    by_cases hm : m = 0
    · subst hm
      have hr2 : (Builtin.append_ #[t, t] ty #[.slice none 0 0, .slice (some a) 0 c]).run P w = .ok (.slice none 0 0) w := by
        simp [Builtin.append_, run_underlying ht, sizeOf, typeInfo, hi, Builtin.lenOf, Builtin.firstCells, loadCells, loadCellsFrom]
      rw [hr] at hr2
      injection hr2 with e1 e2
      left
      rw [e1]
    · have hr2 := run_append_nil (P := P) w t ty e i z ht hi hz a m c news hl hnews (by omega) (by omega) (by have hb := hbytes; simp only [Nat.zero_add] at hb; omega)
      rw [hr] at hr2
      injection hr2 with e1 e2
      right
      intro g hg
      rw [e1] at hg
      simp [Value.ownBlock] at hg
      omega
  · by_cases hroom : n + m ≤ cap
    · have hfit : n * i.size + news.length ≤ cur.size := by rw [hl, hcs, ← Nat.add_mul]; exact Nat.mul_le_mul_right _ hroom
      have hr2 := run_append_room (P := P) w t ty e i ht hi g n cap cur hg a m c news hl hnews h1 hroom hfit
      rw [hr] at hr2
      injection hr2 with e1 e2
      refine ⟨⟨hown.1, .inr ⟨g, cap, _, rfl, hbg, by rw [e2]; exact setRow_heap w g cur _ e _ hg, hnc, hcm, ?_, ?_⟩⟩, Or.inl (by rw [e1]; rfl)⟩
      · simp only [List.size_toArray, List.length_append, List.length_take, List.length_drop, Array.length_toList]
        omega
      · rw [htake]
        have hlx : xs.length = n * i.size := hown.1
        show List.take (n * i.size) (xs ++ news ++ _) = xs
        rw [List.append_assoc, ← hlx]
        exact List.take_left
    · have holds : ∀ j u, xs[j]? = some u → w.cell? ((⟨g, 0, none⟩ : Addr).add j) = some u := hown.cells (g := g) rfl
      have hr2 := run_append_grow (P := P) w t ty e i z ht hi hz ⟨g, 0, none⟩ n cap xs hown.1 holds a m c news hl hnews (by omega) (by omega) (growslice_fits (by omega) hbytes)
      rw [hr] at hr2
      injection hr2 with e1 e2
      refine ⟨?_, Or.inr fun k hk => ?_⟩
      · rw [e2]
        exact World.ownsRow.alloc (World.ownsRow.drew hown) _
      · rw [e1] at hk
        simp [Value.ownBlock] at hk
        omega

theorem wp_append_keep {P : Program} (w : World) {o : Oper} {a : Act} {K : Act → World → Prop} {Q : Exit → Act → World → Prop} (s x : Operand) (t : TypeId)
    (ho : o.op = .call { callee := .builtin .append, args := #[s, x], argTypes := #[t, t] })
    (base : Nat) (e : TypeId) (i : TypeInfo) (z : Value) (size bytes : Nat) (ht : P.underlying t = some (.slice e)) (hi : P.info? e = some i) (hz : i.zero = some z)
    (hsize : i.size = size) (hby : i.bytes = bytes) (hzs : z.cells.size = size) (hsz : 0 < size)
    (v : Value) (n : Nat) (xs : List Value) (hs : a.eval s = v) (hown : w.ownsRow base e size v n xs)
    (ad : Addr) (m c : Nat) (news : List Value) (hx : a.eval x = .slice (some ad) m c) (hl : news.length = m * size) (hnews : ∀ j u, news[j]? = some u → w.cell? (ad.add j) = some u) (h1 : ∀ u ∈ news, u.oneCell' = true)
    (h63 : n + m ≤ maxLen) (hbytes : (n + m) * bytes ≤ 140737488355328) (hbase : base ≤ w.heap.size)
    (h : ∀ v' w', w'.ownsRow base e size v' (n + m) (xs ++ news) → w.grownBy w' v.ownBlock → w'.ownsRow base e size v n xs → (v'.ownBlock = v.ownBlock ∨ ∀ g, v'.ownBlock = some g → w.heap.size ≤ g) → K (a.put o.dst v') w') : o.wp P a w K Q := by
  obtain ⟨v', w', hr, h2, h3, _⟩ := run_append_own (P := P) w base t o.type e i z size bytes ht hi hz hsize hby hzs hsz v n xs hown ad m c news hl hnews h1 h63 hbytes hbase
  obtain ⟨h4, h5⟩ := append_keep w base t o.type e i z size bytes ht hi hz hsize hby v n xs hown ad m c news hl hnews h1 h63 hbytes v' w' hr
  unfold Oper.wp execOp
  simp only [ho, resolve, invoke, builtin, Sem.run_bind, Sem.run_pure, Result.andThen_ok, List.map_toArray, List.map_cons, List.map_nil, hs, hx, hr]
  exact h v' w' h2 h3 h4 h5

theorem wpList_append_keep {P : Program} (w : World) {ops : Array Oper} {rest : List Oper} {o : Oper} {a : Act} {Q : Exit → Act → World → Prop} (hgd : o.guard = none) (s x : Operand) (t : TypeId)
    (ho : o.op = .call { callee := .builtin .append, args := #[s, x], argTypes := #[t, t] })
    (base : Nat) (e : TypeId) (i : TypeInfo) (z : Value) (size bytes : Nat) (ht : P.underlying t = some (.slice e)) (hi : P.info? e = some i) (hz : i.zero = some z)
    (hsize : i.size = size) (hby : i.bytes = bytes) (hzs : z.cells.size = size) (hsz : 0 < size)
    (v : Value) (n : Nat) (xs : List Value) (hs : a.eval s = v) (hown : w.ownsRow base e size v n xs)
    (ad : Addr) (m c : Nat) (news : List Value) (hx : a.eval x = .slice (some ad) m c) (hl : news.length = m * size) (hnews : ∀ j u, news[j]? = some u → w.cell? (ad.add j) = some u) (h1 : ∀ u ∈ news, u.oneCell' = true)
    (h63 : n + m ≤ maxLen) (hbytes : (n + m) * bytes ≤ 140737488355328) (hbase : base ≤ w.heap.size)
    (h : ∀ v' w', w'.ownsRow base e size v' (n + m) (xs ++ news) → w.grownBy w' v.ownBlock → w'.ownsRow base e size v n xs → (v'.ownBlock = v.ownBlock ∨ ∀ g, v'.ownBlock = some g → w.heap.size ≤ g) → wpList P ops Q rest (a.put o.dst v') w') :
    wpList P ops Q (o :: rest) a w := by
  refine wpList_plain hgd fun K hK => ?_
  exact wp_append_keep w s x t ho base e i z size bytes ht hi hz hsize hby hzs hsz v n xs hs hown ad m c news hx hl hnews h1 h63 hbytes hbase fun v' w' a1 a2 a3 a4 => hK _ _ (h v' w' a1 a2 a3 a4)

theorem step_append_keep {P : Program} {w : World} {ops : Array Oper} {o : Oper} {a : Act} {K : Act → World → Prop} {Q : Exit → Act → World → Prop} {E : Prop} (hgd : o.guard = none) (s x : Operand) (t : TypeId)
    (ho : o.op = .call { callee := .builtin .append, args := #[s, x], argTypes := #[t, t] })
    (base : Nat) (e : TypeId) (i : TypeInfo) (z : Value) (size bytes : Nat) (ht : P.underlying t = some (.slice e)) (hi : P.info? e = some i) (hz : i.zero = some z)
    (hsize : i.size = size) (hby : i.bytes = bytes) (hzs : z.cells.size = size) (hsz : 0 < size)
    (v : Value) (n : Nat) (xs : List Value) (hs : a.eval s = v) (hown : w.ownsRow base e size v n xs)
    (ad : Addr) (m c : Nat) (news : List Value) (hx : a.eval x = .slice (some ad) m c) (hl : news.length = m * size) (hnews : ∀ j u, news[j]? = some u → w.cell? (ad.add j) = some u) (h1 : ∀ u ∈ news, u.oneCell' = true)
    (h63 : n + m ≤ maxLen) (hbytes : (n + m) * bytes ≤ 140737488355328) (hbase : base ≤ w.heap.size)
    (h : ∀ v' w', w'.ownsRow base e size v' (n + m) (xs ++ news) → w.grownBy w' v.ownBlock → w'.ownsRow base e size v n xs → (v'.ownBlock = v.ownBlock ∨ ∀ g, v'.ownBlock = some g → w.heap.size ≤ g) → K (a.put o.dst v') w') :
    if Region.wanted o (yielded ops a.tmps) = true then Oper.wp P o a w K Q else E := by
  rw [if_pos (by simp [Region.wanted, hgd])]
  exact wp_append_keep w s x t ho base e i z size bytes ht hi hz hsize hby hzs hsz v n xs hs hown ad m c news hx hl hnews h1 h63 hbytes hbase h

/-- Nothing put behind nothing. -/
theorem wpList_append_nothing {P : Program} (w : World) {ops : Array Oper} {rest : List Oper} {o : Oper} {a : Act} {Q : Exit → Act → World → Prop} (hgd : o.guard = none) (s x : Operand) (t e : TypeId) (i : TypeInfo)
    (ho : o.op = .call { callee := .builtin .append, args := #[s, x], argTypes := #[t, t] }) (ht : P.underlying t = some (.slice e)) (hi : P.info? e = some i)
    (hs : a.eval s = .slice none 0 0) (A : Option Addr) (c : Nat) (hx : a.eval x = .slice A 0 c)
    (h : wpList P ops Q rest (a.put o.dst (.slice none 0 0)) w) : wpList P ops Q (o :: rest) a w := by
  refine wpList_plain hgd fun _ hK => ?_
  have hr : (Builtin.append_ #[t, t] o.type #[.slice none 0 0, .slice A 0 c]).run P w = .ok (.slice none 0 0) w := by
    cases A <;> simp [Builtin.append_, run_underlying ht, sizeOf, typeInfo, hi, Builtin.lenOf, Builtin.firstCells, loadCells, loadCellsFrom]
  unfold Oper.wp execOp
  simp only [ho, resolve, invoke, builtin, Sem.run_bind, Sem.run_pure, Result.andThen_ok, List.map_toArray, List.map_cons, List.map_nil, hs, hx, hr]
  exact hK _ _ h

/-! ### Rows of numbers of the call's own, each in a block of its own -/
abbrev Row := Value × List Int
/-- v's block is none of w's. -/
def Off (v u : Value) : Prop := ∀ g, v.ownBlock = some g → u.ownBlock ≠ some g
theorem Off.symm {v u : Value} (h : Off v u) : Off u v := fun g hg hv => h g hv hg

structure Rows (w : World) (B : Nat) (e : TypeId) (rs : List Row) : Prop where
  each : ∀ r ∈ rs, Nums w B e r.1 r.2
  apart : rs.Pairwise fun r s => Off r.1 s.1

section
variable {w w' : World} {B : Nat} {e : TypeId} {rs : List Row}
theorem Rows.below (h : Rows w B e rs) {B' : Nat} (hb : Below B' w w') (hB : w.heap.size ≤ B') : Rows w' B e rs := ⟨fun r hr => (h.each r hr).below hb hB, h.apart⟩
theorem Nums.lt_ {v : Value} {zs : List Int} (h : Nums w B e v zs) {g : Nat} (hg : v.ownBlock = some g) : B ≤ g ∧ g < w.heap.size := World.ownsRow.lt h g hg
/-- A row that a call made behind them. -/
theorem Rows.add (h : Rows w B e rs) (hb : Below w.heap.size w w') {v : Value} {zs : List Int} (hN : Nums w' w.heap.size e v zs) (hB : B ≤ w.heap.size) : Rows w' B e ((v, zs) :: rs) :=
  ⟨fun r hr => by
    rcases List.mem_cons.1 hr with rfl | hr
    · exact hN.low hB
    · exact (h.each r hr).below hb (Nat.le_refl _),
   List.pairwise_cons.2 ⟨fun r hr g hg hv => by
    have h1 := (hN.lt_ hg).1
    have h2 := ((h.each r hr).lt_ hv).2
    omega, h.apart⟩⟩
end
end Go.Proofs.YtgiodfpkkdaflaaDoor

namespace Go.Proofs.YtgiodfpkkdaflaaDoor
open Go.RowKit

/-- What has turned: from block B on, and only such as T says; new blocks are free. -/
structure Tn (B : Nat) (T : Obj → Bool) (w w' : World) : Prop where
  os : w'.os = w.os
  tape : w'.tape = w.tape
  output : w'.output = w.output
  size : w.heap.size ≤ w'.heap.size
  block : ∀ k o, w.heap[k]? = some o → (k < B ∨ T o = false) → w'.heap[k]? = some o
/-- Blocks of type e. -/
def cellsT (e : TypeId) : Obj → Bool
  | .cells _ t _ => t == e
  | _ => false
theorem cellsT_ne {e t : TypeId} (h : t ≠ e) (cs : Array Value) (fr : Nat × Nat) : cellsT e (.cells cs t fr) = false := beq_eq_false_iff_ne.2 h
section
variable {B : Nat} {T : Obj → Bool} {w w' w'' : World}
theorem Tn.refl (B : Nat) (T : Obj → Bool) (w : World) : Tn B T w w := ⟨rfl, rfl, rfl, Nat.le_refl _, fun _ _ h _ => h⟩
theorem Tn.trans (h : Tn B T w w') (g : Tn B T w' w'') : Tn B T w w'' := ⟨g.os.trans h.os, g.tape.trans h.tape, g.output.trans h.output, Nat.le_trans h.size g.size, fun k o hk ho => g.block k o (h.block k o hk ho) ho⟩
theorem Tn.of_below (h : Below w.heap.size w w') : Tn B T w w' := ⟨h.os, h.tape, h.output, h.size, fun k _o hk _ => (h.block k (Array.getElem?_eq_some_iff.1 hk).1).trans hk⟩
theorem Tn.of_grown (h : w.grownBy w' none) : Tn B T w w' := ⟨h.os, h.tape, h.output, h.size, fun k o hk _ => (h.block k (Array.getElem?_eq_some_iff.1 hk).1 (by simp)).trans hk⟩
theorem Tn.alloc (h : Tn B T w w') (o : Obj) : Tn B T w (w'.alloc o) := h.trans (Tn.of_grown (World.grownBy_alloc w' o none))
theorem Tn.drew (h : Tn B T w w') : Tn B T w w'.drew := ⟨h.os, h.tape, h.output, h.size, h.block⟩
theorem Tn.drewN (h : Tn B T w w') (n : Nat) : Tn B T w (w'.drewN n) := ⟨h.os, h.tape, h.output, h.size, h.block⟩
theorem Tn.row {row : Option Nat} (h : Tn B T w w') (g : w'.grownBy w'' row) (hr : ∀ k, row = some k → w.heap.size ≤ k ∨ (B ≤ k ∧ ∃ o, w'.heap[k]? = some o ∧ T o = true)) : Tn B T w w'' := by
  refine ⟨g.os.trans h.os, g.tape.trans h.tape, g.output.trans h.output, Nat.le_trans h.size g.size, fun k o hk ho => ?_⟩
  have h1 := h.block k o hk ho
  by_cases e : some k = row
  · exfalso
    have hlt := (Array.getElem?_eq_some_iff.1 hk).1
    rcases hr k e.symm with h2 | ⟨h2, o', h3, h4⟩
    · omega
    · rw [h1] at h3
      cases h3
      rcases ho with ho | ho
      · omega
      · rw [h4] at ho; cases ho
  · exact (g.block k (Array.getElem?_eq_some_iff.1 h1).1 e).trans h1
theorem Tn.setCell (h : Tn B T w w') {p : Addr} (hp : w.heap.size ≤ p.block ∨ (B ≤ p.block ∧ ∃ o, w'.heap[p.block]? = some o ∧ T o = true)) (u : Value) : Tn B T w (w'.setCell p u) :=
  h.row (row := some p.block) (only_setCell ⟨rfl, rfl, rfl, Nat.le_refl _, fun _ _ _ => rfl⟩ (Or.inl rfl) u) (fun k hk => by cases hk; exact hp)
theorem Tn.below (h : Tn B T w w') (hB : B ≤ w.heap.size) : Below B w w' :=
  ⟨h.os, h.tape, h.output, h.size, fun k hk => by
    have hlt : k < w.heap.size := by omega
    rw [h.block k _ (Array.getElem?_eq_getElem hlt) (Or.inl hk), Array.getElem?_eq_getElem hlt]⟩
theorem Tn.blk (h : Tn B T w w') {g : Nat} {t : TypeId} {cs : Array Value} (hb : Blk w g t cs) (hT : T (.cells cs t (0, 0)) = false) : Blk w' g t cs := h.block g _ hb (Or.inr hT)
theorem Tn.own (h : Tn B T w w') {b : Nat} {e : TypeId} {sz : Nat} {v : Value} {n : Nat} {xs : List Value} (hown : w.ownsRow b e sz v n xs) (hT : ∀ cs fr, T (.cells cs e fr) = false) : w'.ownsRow b e sz v n xs := by
  obtain ⟨h1, h2⟩ := hown
  refine ⟨h1, ?_⟩
  rcases h2 with h2 | ⟨g, cap, cur, e1, e2, e3, e4⟩
  · exact Or.inl h2
  · exact Or.inr ⟨g, cap, cur, e1, e2, h.block g _ e3 (Or.inr (hT _ _)), e4⟩
theorem Tn.mono {T' : Obj → Bool} (h : Tn B T w w') (hT : ∀ o, T' o = false → T o = false) : Tn B T' w w' := ⟨h.os, h.tape, h.output, h.size, fun k o hk ho => h.block k o hk (ho.imp id (hT o))⟩
/-- A row of the kind grew. -/
theorem Tn.grow {e : TypeId} {sz n : Nat} {v : Value} {xs : List Value} (h : Tn B (cellsT e) w w') (hown : w'.ownsRow B e sz v n xs) (g : w'.grownBy w'' v.ownBlock) : Tn B (cellsT e) w w'' :=
  h.row g (fun k hk => by
    rcases hown.2 with ⟨rfl, _⟩ | ⟨g, cap, cur, rfl, hb, hh, _⟩
    · cases hk
    · cases hk
      exact Or.inr ⟨hb, _, hh, beq_self_eq_true e⟩)
end

/-- Elements of a kind: their cells, and their marks. -/
structure El (α : Type) where
  cl : α → List Value
  sz : Nat
  pos : 0 < sz
  len : ∀ x, (cl x).length = sz
  one : ∀ x, ∀ u ∈ cl x, u.oneCell' = true
  mark : Nat → Nat → α
section
variable {α : Type} (E : El α)
def El.row (L : List α) : List Value := L.flatMap E.cl
theorem El.row_length (L : List α) : (E.row L).length = L.length * E.sz := by
  induction L with
  | nil => simp [El.row]
  | cons x L ih => simp only [El.row, List.flatMap_cons, List.length_append, List.length_cons] at *; rw [E.len, ih, Nat.add_mul, Nat.one_mul, Nat.add_comm]
theorem El.row_append (L M : List α) : E.row (L ++ M) = E.row L ++ E.row M := by simp [El.row]
theorem El.row_one (x : α) : E.row [x] = E.cl x := by simp [El.row]
theorem El.row_oneCell (L : List α) : ∀ u ∈ E.row L, u.oneCell' = true := by
  intro u hu
  obtain ⟨m, _, hm⟩ := List.mem_flatMap.1 hu
  exact E.one m u hm
theorem El.row_drop (L : List α) : ∀ i, E.row (L.drop i) = (E.row L).drop (i * E.sz) := by
  induction L with
  | nil => intro i; simp [El.row]
  | cons x L ih =>
    intro i
    cases i with
    | zero => simp
    | succ i =>
      rw [List.drop_succ_cons, ih i]
      simp only [El.row, List.flatMap_cons]
      rw [show (i + 1) * E.sz = (E.cl x).length + i * E.sz by rw [E.len, Nat.add_mul, Nat.one_mul, Nat.add_comm], List.drop_append, show List.drop ((E.cl x).length + i * E.sz) (E.cl x) = [] from List.drop_eq_nil_of_le (by omega), List.nil_append, Nat.add_sub_cancel_left]
theorem El.row_at (L : List α) (i j : Nat) (x : α) (h : L[i]? = some x) (hj : j < E.sz) : (E.row L)[i * E.sz + j]? = (E.cl x)[j]? := by
  have hd := E.row_drop L i
  have hi := (List.getElem?_eq_some_iff.1 h).1
  rw [List.drop_eq_getElem_cons hi, (List.getElem?_eq_some_iff.1 h).2] at hd
  have e : E.row (x :: L.drop (i + 1)) = E.cl x ++ E.row (L.drop (i + 1)) := rfl
  rw [e] at hd
  have := congrArg (fun l : List Value => l[j]?) hd
  simp only [List.getElem?_drop] at this
  rw [List.getElem?_append_left (by rw [E.len]; exact hj)] at this
  exact this.symm
/-- The marks of list i, from a place on. -/
def El.marks (i start n : Nat) : List α := (List.range n).map fun k => E.mark i (start + k)
theorem El.marks_length (i start n : Nat) : (E.marks i start n).length = n := by simp [El.marks]
theorem El.marks_succ (i start n : Nat) : E.marks i start (n + 1) = E.marks i start n ++ [E.mark i (start + n)] := by
  unfold El.marks
  rw [List.range_succ, List.map_append]
  rfl
theorem El.marks_append (i start n m : Nat) : E.marks i start n ++ E.marks i (start + n) m = E.marks i start (n + m) := by
  induction m with
  | zero => simp [El.marks]
  | succ m ih => rw [El.marks_succ, ← List.append_assoc, ih, ← Nat.add_assoc, El.marks_succ, Nat.add_assoc]
theorem El.marks_at (i n j : Nat) (hj : j < n) : (E.marks i 0 n)[j]? = some (E.mark i j) := by
  unfold El.marks
  rw [List.getElem?_map, List.getElem?_range hj]
  simp
end

/-- A row of the call's own, of a kind. -/
def Own {α : Type} (E : El α) (w : World) (B : Nat) (e : TypeId) (v : Value) (L : List α) : Prop := w.ownsRow B e E.sz v L.length (E.row L)
section
variable {α : Type} {E : El α} {w w' : World} {B : Nat} {e : TypeId} {v : Value} {L : List α}
theorem Own.tn (h : Own E w B e v L) {B' : Nat} {T : Obj → Bool} (g : Tn B' T w w') (hT : ∀ cs fr, T (.cells cs e fr) = false) : Own E w' B e v L := g.own h hT
theorem Own.below (h : Own E w B e v L) (g : Below w.heap.size w w') : Own E w' B e v L := (Tn.of_below (B := 0) (T := fun _ => false) g).own h (fun _ _ => rfl)
theorem Own.low (h : Own E w B e v L) {B' : Nat} (hB : B' ≤ B) : Own E w B' e v L := World.ownsRow.mono h hB
theorem Own.lt (h : Own E w B e v L) {g : Nat} (hg : v.ownBlock = some g) : B ≤ g ∧ g < w.heap.size := World.ownsRow.lt h g hg
theorem Own.slice (h : Own E w B e v L) : ∃ a c, v = .slice a L.length c := by
  rcases h.2 with ⟨rfl, h0⟩ | ⟨g, cap, cur, rfl, _⟩
  · exact ⟨none, 0, by rw [h0]⟩
  · exact ⟨_, _, rfl⟩
theorem Own.some_ (h : Own E w B e v L) (hn : 0 < L.length) : ∃ g c cur, v = .slice (some ⟨g, 0, none⟩) L.length c ∧ B ≤ g ∧ w.heap[g]? = some (.cells cur e (0, 0)) := by
  rcases h.2 with ⟨_, h0⟩ | ⟨g, cap, cur, hv, hb, hh, _⟩
  · omega
  · exact ⟨g, cap, cur, hv, hb, hh⟩
theorem Own.cells {g n c : Nat} (h : Own E w B e (.slice (some ⟨g, 0, none⟩) n c) L) {i j : Nat} {x : α} {u : Value} (hx : L[i]? = some x) (hj : j < E.sz) (hu : (E.cl x)[j]? = some u) : w.cell? ⟨g, i * E.sz + j, none⟩ = some u := by
  have := World.ownsRow.cells h (g := g) rfl (i * E.sz + j) u (by rw [E.row_at L i j x hx hj]; exact hu)
  rwa [Addr.add_lit, Nat.zero_add] at this
end

/-- m rows of a kind, apart. -/
structure Rwk {α : Type} (E : El α) (w : World) (B : Nat) (e : TypeId) (m : Nat) (a : Nat → Value) (F : Nat → List α) : Prop where
  each : ∀ i, i < m → Own E w B e (a i) (F i)
  apart : ∀ i j, i < m → j < m → i ≠ j → Off (a i) (a j)
theorem Rwk.tn {α : Type} {E : El α} {w w' : World} {B : Nat} {e : TypeId} {m : Nat} {a : Nat → Value} {F : Nat → List α} (h : Rwk E w B e m a F) {B' : Nat} {T : Obj → Bool} (g : Tn B' T w w') (hT : ∀ cs fr, T (.cells cs e fr) = false) : Rwk E w' B e m a F := ⟨fun i hi => (h.each i hi).tn g hT, h.apart⟩
theorem Rwk.below {α : Type} {E : El α} {w w' : World} {B : Nat} {e : TypeId} {m : Nat} {a : Nat → Value} {F : Nat → List α} (h : Rwk E w B e m a F) (g : Below w.heap.size w w') : Rwk E w' B e m a F := ⟨fun i hi => (h.each i hi).below g, h.apart⟩

/-- f, but x at k. -/
def upk {α : Type} (f : Nat → α) (k : Nat) (x : α) : Nat → α := fun i => if i = k then x else f i
theorem upk_at {α : Type} (f : Nat → α) (k : Nat) (x : α) : upk f k x k = x := if_pos rfl
theorem upk_ne {α : Type} (f : Nat → α) {k i : Nat} (x : α) (h : i ≠ k) : upk f k x i = f i := if_neg h
theorem upk_upk {α : Type} (f : Nat → α) (k : Nat) (x y : α) : upk (upk f k x) k y = upk f k y := by
  funext i; unfold upk; split <;> rfl
theorem upk_self {α : Type} (f : Nat → α) (k : Nat) (x : α) (h : f k = x) : upk f k x = f := by
  funext i; unfold upk; split
  · next e => rw [e, h]
  · rfl
theorem range_upk (b : Nat → Value) (k : Nat) (x : Value) : (List.range k).map b ++ [x] = (List.range (k + 1)).map (upk b k x) := by
  rw [List.range_succ, List.map_append, List.map_singleton, upk_at]
  congr 1
  refine List.map_congr_left fun i hi => ?_
  rw [upk_ne]
  have := List.mem_range.1 hi
  omega

theorem own_shrk {w : World} {B g n n' c sz : Nat} {e : TypeId} {xs ys : List Value} (h : w.ownsRow B e sz (.slice (some ⟨g, 0, none⟩) (n + n') c) (n + n') (xs ++ ys)) (hx : xs.length = n * sz) : w.ownsRow B e sz (.slice (some ⟨g, 0, none⟩) n c) n xs := by
  rcases h.2 with ⟨h', _⟩ | ⟨g', cap, cur, h', hb, hh, hnc, hcm, hcs, htake⟩
  · simp at h'
  · simp only [Value.slice.injEq, Option.some.injEq, Addr.mk.injEq, and_true, true_and] at h'
    obtain ⟨rfl, rfl⟩ := h'
    refine ⟨hx, .inr ⟨g, c, cur, rfl, hb, hh, by omega, hcm, hcs, ?_⟩⟩
    rw [← hx]
    have := congrArg (List.take xs.length) htake
    rw [List.take_take, Nat.min_eq_left (by rw [hx]; exact Nat.mul_le_mul_right _ (by omega))] at this
    rw [this, List.take_left]
theorem own_capk {w : World} {B B' g n n' c sz : Nat} {e : TypeId} {v : Value} {xs ys : List Value} (hs : 0 < sz) (h1 : w.ownsRow B e sz (.slice (some ⟨g, 0, none⟩) n c) n xs) (h2 : w.ownsRow B' e sz v n' ys) (hb : v.ownBlock = some g) : v = .slice (some ⟨g, 0, none⟩) n' c := by
  rcases h1.2 with ⟨h', _⟩ | ⟨g', cap, cur, h', _, hh, _, _, hcs, _⟩
  · simp at h'
  · simp only [Value.slice.injEq, Option.some.injEq, Addr.mk.injEq, and_true, true_and] at h'
    obtain ⟨rfl, rfl⟩ := h'
    rcases h2.2 with ⟨rfl, _⟩ | ⟨g2, cap2, cur2, rfl, _, hh2, _, _, hcs2, _⟩
    · simp [Value.ownBlock] at hb
    · simp [Value.ownBlock] at hb
      subst hb
      rw [hh] at hh2
      injection hh2 with hh2
      injection hh2 with h3
      subst h3
      rw [show cap2 = c from Nat.eq_of_mul_eq_mul_right hs (by omega)]
theorem offk_none {v u : Value} (h : Off v u) : u.ownBlock = none ∨ u.ownBlock ≠ v.ownBlock := by
  cases hu : u.ownBlock with
  | none => exact Or.inl rfl
  | some g => exact Or.inr fun e => h g e.symm hu

/-- m rows and what has grown out of them: apart, but that a row may lie at the head of what has grown out of it. -/
structure Famk {α : Type} (E : El α) (w : World) (B : Nat) (e : TypeId) (m : Nat) (a b : Nat → Value) (F H : Nat → List α) : Prop where
  ra : ∀ i, i < m → Own E w B e (a i) (F i)
  rb : ∀ i, i < m → Own E w B e (b i) (H i)
  oaa : ∀ i j, i < m → j < m → i ≠ j → Off (a i) (a j)
  oab : ∀ i j, i < m → j < m → i ≠ j → Off (a i) (b j)
  obb : ∀ i j, i < m → j < m → i ≠ j → Off (b i) (b j)
  tie : ∀ i, i < m → Off (a i) (b i) ∨ ∃ g c ys, a i = .slice (some ⟨g, 0, none⟩) (F i).length c ∧ b i = .slice (some ⟨g, 0, none⟩) (H i).length c ∧ H i = F i ++ ys
section
variable {α : Type} {E : El α} {w w' : World} {B : Nat} {e : TypeId} {m : Nat} {a b : Nat → Value} {F H : Nat → List α}
theorem Famk.start (h : Rwk E w B e m a F) : Famk E w B e m a a F F :=
  ⟨h.each, h.each, h.apart, h.apart, h.apart, fun i hi => by
    rcases (h.each i hi).2 with ⟨e, _⟩ | ⟨g, cap, cur, e, _⟩
    · exact Or.inl fun g hg => by rw [e] at hg; simp [Value.ownBlock] at hg
    · exact Or.inr ⟨g, cap, [], e, e, by simp⟩⟩
theorem Famk.tn (h : Famk E w B e m a b F H) {B' : Nat} {T : Obj → Bool} (g : Tn B' T w w') (hT : ∀ cs fr, T (.cells cs e fr) = false) : Famk E w' B e m a b F H := ⟨fun i hi => (h.ra i hi).tn g hT, fun i hi => (h.rb i hi).tn g hT, h.oaa, h.oab, h.obb, h.tie⟩
theorem Famk.below (h : Famk E w B e m a b F H) (g : Below w.heap.size w w') : Famk E w' B e m a b F H := h.tn (Tn.of_below (B := 0) (T := fun _ => false) g) (fun _ _ => rfl)
theorem Famk.append (h : Famk E w B e m a b F H) {k : Nat} (hk : k < m) {v' : Value} {zs : List α} {p : Nat} (hp : zs.length = p)
    (hown : w'.ownsRow B e E.sz v' ((H k).length + p) (E.row (H k) ++ E.row zs)) (hgr : w.grownBy w' (b k).ownBlock)
    (hold : Own E w' B e (b k) (H k)) (hblk : v'.ownBlock = (b k).ownBlock ∨ ∀ g, v'.ownBlock = some g → w.heap.size ≤ g) :
    Famk E w' B e m a (upk b k v') F (upk H k (H k ++ zs)) := by
  have kept : ∀ u xs, Own E w B e u xs → Off (b k) u → Own E w' B e u xs := fun u xs hu ho => World.ownsRow.kept hu hgr (offk_none ho)
  have offv : ∀ u xs, Own E w B e u xs → Off u (b k) → Off u v' := by
    intro u xs hu ho g hg hv
    rcases hblk with e | e
    · exact ho g hg (e ▸ hv)
    · have h1 := e g hv
      have h2 := (hu.lt hg).2
      omega
  refine ⟨fun i hi => ?_, fun i hi => ?_, h.oaa, fun i j hi hj hij => ?_, fun i j hi hj hij => ?_, fun i hi => ?_⟩
  · by_cases hik : i = k
    · subst hik
      rcases h.tie i hi with ho | ⟨g, c, ys, ea, eb, eh⟩
      · exact kept _ _ (h.ra i hi) ho.symm
      · unfold Own at hold ⊢
        rw [eb, eh, List.length_append, E.row_append] at hold
        rw [ea]
        exact own_shrk hold (E.row_length _)
    · exact kept _ _ (h.ra i hi) (h.oab i k hi hk hik).symm
  · by_cases hik : i = k
    · subst hik
      rw [upk_at, upk_at]
      unfold Own
      rw [List.length_append, E.row_append, hp]
      exact hown
    · rw [upk_ne _ _ hik, upk_ne _ _ hik]
      exact kept _ _ (h.rb i hi) (h.obb i k hi hk hik).symm
  · by_cases hjk : j = k
    · subst hjk
      rw [upk_at]
      exact offv _ _ (h.ra i hi) (h.oab i j hi hj hij)
    · rw [upk_ne _ _ hjk]
      exact h.oab i j hi hj hij
  · by_cases hjk : j = k
    · subst hjk
      rw [upk_at, upk_ne _ _ hij]
      exact offv _ _ (h.rb i hi) (h.obb i j hi hj hij)
    · rw [upk_ne _ _ hjk]
      by_cases hik : i = k
      · subst hik
        rw [upk_at]
        exact (offv _ _ (h.rb j hj) (h.obb j i hj hi (Ne.symm hij))).symm
      · rw [upk_ne _ _ hik]
        exact h.obb i j hi hj hij
  · by_cases hik : i = k
    · subst hik
      rw [upk_at, upk_at]
      rcases h.tie i hi with ho | ⟨g, c, ys, ea, eb, eh⟩
      · exact Or.inl (offv _ _ (h.ra i hi) ho)
      · rcases hblk with e | e
        · refine Or.inr ⟨g, c, ys ++ zs, ea, ?_, by rw [eh, List.append_assoc]⟩
          unfold Own at hold
          rw [eb] at hold e
          rw [List.length_append, hp]
          exact own_capk E.pos hold hown e
        · refine Or.inl fun g' hg' hv => ?_
          have h1 := e g' hv
          have h2 := ((h.ra i hi).lt hg').2
          omega
    · rw [upk_ne _ _ hik, upk_ne _ _ hik]
      exact h.tie i hi
theorem Famk.marked {k N p : Nat} {l l' : Value} (h : Famk E w B e m a (upk b k l) F (upk H k (E.marks k 0 N))) (hk : k < m)
    (hown : w'.ownsRow B e E.sz l' (N + p) (E.row (E.marks k 0 N) ++ E.row (E.marks k N p))) (hgr : w.grownBy w' l.ownBlock)
    (hold : w'.ownsRow B e E.sz l N (E.row (E.marks k 0 N))) (hblk : l'.ownBlock = l.ownBlock ∨ ∀ g, l'.ownBlock = some g → w.heap.size ≤ g) :
    Famk E w' B e m a (upk b k l') F (upk H k (E.marks k 0 (N + p))) := by
  have := Famk.append h hk (v' := l') (zs := E.marks k N p) (p := p) (E.marks_length _ _ _) (by rw [upk_at, E.marks_length]; exact hown) (by rw [upk_at]; exact hgr) (by unfold Own; rw [upk_at, upk_at, E.marks_length]; exact hold) (by rw [upk_at]; exact hblk)
  rw [upk_upk, upk_upk, upk_at] at this
  have e := E.marks_append k 0 N p
  rw [Nat.zero_add] at e
  rw [e] at this
  exact this
end

/-- 'append(r, l...)' of elements of a kind, be l none. -/
theorem app_own {P : Program} {α : Type} (E : El α) (te e : TypeId) (z : Value) (bytes : Nat) (ht : P.underlying te = some (.slice e)) (hinfo : (P.info? e).map (fun i => (i.zero, i.size, i.bytes)) = some (some z, E.sz, bytes)) (hzs : z.cells.size = E.sz)
    (w : World) (base : Nat) (v : Value) (L M : List α) (hown : Own E w base e v L) (A : Option Addr) (c : Nat) (hA : A = none → M = []) (hM : ∀ a, A = some a → ∀ j u, (E.row M)[j]? = some u → w.cell? (a.add j) = some u)
    (h63 : L.length + M.length ≤ maxLen) (hbytes : (L.length + M.length) * bytes ≤ 140737488355328) (hbase : base ≤ w.heap.size) (m : Nat) (hm : m = M.length) :
    ∃ v' w', (∀ ty, (Builtin.append_ #[te, te] ty #[v, .slice A m c]).run P w = .ok v' w') ∧ Own E w' base e v' (L ++ M) ∧ w.grownBy w' v.ownBlock ∧ Own E w' base e v L ∧ (v'.ownBlock = v.ownBlock ∨ ∀ g, v'.ownBlock = some g → w.heap.size ≤ g) := by
  obtain ⟨i0, hi, hz, hsize, hby⟩ := info_parts hinfo
  subst hm
  cases A with
  | some a =>
    obtain ⟨v', w', hr, h2, h3, _⟩ := run_append_own (P := P) w base te 0 e i0 z E.sz bytes ht hi hz hsize hby hzs E.pos v L.length (E.row L) hown a M.length c (E.row M) (E.row_length M) (hM a rfl) (E.row_oneCell M) h63 hbytes hbase
    obtain ⟨h4, h5⟩ := append_keep w base te 0 e i0 z E.sz bytes ht hi hz hsize hby v L.length (E.row L) hown a M.length c (E.row M) (E.row_length M) (hM a rfl) (E.row_oneCell M) h63 hbytes v' w' hr
    refine ⟨v', w', fun ty => by rw [← hr]; rfl, ?_, h3, h4, h5⟩
    unfold Own
    rw [List.length_append, E.row_append]
    exact h2
  | none =>
    obtain rfl := hA rfl
    have hr : ∀ ty, (Builtin.append_ #[te, te] ty #[v, .slice none 0 c]).run P w = .ok v w := fun ty => by
      rcases hown.2 with ⟨rfl, _⟩ | ⟨g, cap, cur, rfl, _, _, hle, _⟩
      · simp [Builtin.append_, run_underlying ht, sizeOf, typeInfo, hi, Builtin.lenOf, Builtin.firstCells]
      · simp [Builtin.append_, run_underlying ht, sizeOf, typeInfo, hi, Builtin.lenOf, Builtin.firstCells, loadCells, storeCells, hle]
    exact ⟨v, w, hr, by rw [List.append_nil]; exact hown, ⟨rfl, rfl, rfl, Nat.le_refl _, fun _ _ _ => rfl⟩, hown, Or.inl rfl⟩
/-- An append whose run is known: in a region that draws nothing, and in one that draws. -/
theorem wpList_append_k {P : Program} (w w' : World) {ops : Array Oper} {rest : List Oper} {o : Oper} {a : Act} {Q : Exit → Act → World → Prop} (hgd : o.guard = none) (s x : Operand) (t : TypeId)
    (ho : o.op = .call { callee := .builtin .append, args := #[s, x], argTypes := #[t, t] }) (vs vx v : Value) (hs : a.eval s = vs) (hx : a.eval x = vx) (hrun : ∀ ty, (Builtin.append_ #[t, t] ty #[vs, vx]).run P w = .ok v w')
    (h : wpList P ops Q rest (a.put o.dst v) w') : wpList P ops Q (o :: rest) a w := by
  refine wpList_plain hgd fun _ hK => ?_
  unfold Oper.wp execOp
  simp only [ho, resolve, invoke, builtin, Sem.run_bind, Sem.run_pure, Result.andThen_ok, List.map_toArray, List.map_cons, List.map_nil, hs, hx, hrun]
  exact hK _ _ h
theorem step_append_k {P : Program} {ops : Array Oper} {o : Oper} {a : Act} {w w' : World} {K : Act → World → Prop} {Q : Exit → Act → World → Prop} {E : Prop}
    (hg : o.guard = none) (s x : Operand) (t : TypeId) (hop : o.op = Op.call { callee := Callee.builtin Builtin.append, args := #[s, x], argTypes := #[t, t] })
    (vs vx v : Value) (hs : a.eval s = vs) (hx : a.eval x = vx) (hrun : (Builtin.append_ #[t, t] o.type #[vs, vx]).run P w = .ok v w') (hK : K (a.put o.dst v) w') :
    if Region.wanted o (yielded ops a.tmps) = true then Oper.wp P o a w K Q else E := by
  have hw : Region.wanted o (yielded ops a.tmps) = true := by simp [Region.wanted, hg]
  rw [if_pos hw]
  unfold Oper.wp
  simp [execOp, hop, resolve, invoke, builtin, hs, hx, hrun, Result.andThen]
  exact hK
/-- All that is in a block of its own can be read. -/
theorem own_reads {α : Type} {E : El α} {w : World} {B : Nat} {e : TypeId} {A : Option Addr} {n c : Nat} {L : List α} (h : Own E w B e (.slice A n c) L) : n = L.length ∧ (A = none → L = []) ∧ ∀ a, A = some a → ∀ j u, (E.row L)[j]? = some u → w.cell? (a.add j) = some u := by
  have hc := fun g hg => World.ownsRow.cells h (g := g) hg
  rcases h.2 with ⟨h1, h0⟩ | ⟨g, cap, cur, hv, _⟩
  · injection h1 with e1 e2 e3
    subst e1 e2
    exact ⟨h0.symm, fun _ => List.eq_nil_of_length_eq_zero h0, fun a ha => by cases ha⟩
  · injection hv with e1 e2 e3
    subst e1
    exact ⟨e2, (fun h => by cases h), fun a ha => by cases ha; exact hc g rfl⟩
/-- Grown in a row that is new: grown in none. -/
theorem grow_k {a b c : World} {base : Nat} {e : TypeId} {sz n : Nat} {v : Value} {xs : List Value} (h : a.grownBy b none) (hown : b.ownsRow base e sz v n xs) (hb : a.heap.size ≤ base) (g : b.grownBy c v.ownBlock) : a.grownBy c none :=
  ⟨g.os.trans h.os, g.tape.trans h.tape, g.output.trans h.output, Nat.le_trans h.size g.size, fun k hk _ => (g.block k (Nat.lt_of_lt_of_le hk h.size) (fun e => by have := (hown.lt k e.symm).1; omega)).trans (h.block k hk (by simp))⟩
theorem gnone {a b c : World} (h : a.grownBy b none) (g : b.grownBy c none) : a.grownBy c none :=
  ⟨g.os.trans h.os, g.tape.trans h.tape, g.output.trans h.output, Nat.le_trans h.size g.size, fun k hk _ => (g.block k (Nat.lt_of_lt_of_le hk h.size) (by simp)).trans (h.block k hk (by simp))⟩
theorem grefl (w : World) (row : Option Nat) : w.grownBy w row := ⟨rfl, rfl, rfl, Nat.le_refl _, fun _ _ _ => rfl⟩
theorem below_g {w w' : World} (h : w.grownBy w' none) : Below w.heap.size w w' := ⟨h.os, h.tape, h.output, h.size, fun k hk => h.block k hk (by simp)⟩
theorem g_below {w w' : World} (h : Below w.heap.size w w') : w.grownBy w' none := ⟨h.os, h.tape, h.output, h.size, fun k hk _ => h.block k hk⟩
end Go.Proofs.YtgiodfpkkdaflaaDoor

namespace Go.Proofs.YtgiodfpkkdaflaaDoor
open Go.RowKit

def bname (i k : Nat) : ByteArray := ⟨#[109, UInt8.ofNat (65 + i % 26), UInt8.ofNat (65 + i / 26 % 26), UInt8.ofNat (48 + k % 10), UInt8.ofNat (48 + k / 10 % 10), UInt8.ofNat (48 + k / 100 % 10)]⟩

end Go.Proofs.YtgiodfpkkdaflaaDoor

namespace Go.Proofs.YtgiodfpkkdaflaaDoor
open Go.RowKit

def elInts : El (Int) := ⟨fun x => [.int .i64 x], 1, by decide, fun _ => rfl, fun x u hu => by simp at hu; subst hu; rfl, fun i k => -1000000 * (i : Int) - (k : Int) - 7⟩
def okInts (_x : Int) : Prop := True
theorem okmInts (i start n : Nat) : ∀ x ∈ elInts.marks i start n, okInts x := by
  intro x hx
  obtain ⟨k, _, rfl⟩ := List.mem_map.1 hx
  exact trivial
theorem infoInts : (Tryd.prog.info? 3).map (fun i => (i.zero, i.size, i.bytes)) = some (some (.int .i64 0), elInts.sz, 8) := by kernel_rfl
theorem underInts : Tryd.prog.underlying 45 = some (.slice 3) := by kernel_rfl
end Go.Proofs.YtgiodfpkkdaflaaDoor

namespace Go.Proofs.YtgiodfpkkdaflaaDoor
open Go.RowKit

/-- What four of a sum's eight steps make of four bits. -/
def halvesL : List Int := [0, 274646895, 549293790, 820201905, 1098587580, 1361435347, 1640403810, 1905808397, 2197175160, 2460548119, 2722870694, 2987750089, 3280807620, 3553878443, 3811616794, 4084100981]

def halfN (i : Nat) : Nat := (halvesL.getD i 0).toNat
theorem halfN_lt : ∀ i < 16, halvesL.getD i 0 = (halfN i : Int) ∧ halfN i < 4294967296 := by decide

/-- Four bits of a sum. -/
def nib (b : Nat) : Nat := (b / 16) ^^^ halfN (b % 16)
theorem nib_lt (b : Nat) (hb : b < 4294967296) : nib b < 4294967296 := by
  have h1 := (halfN_lt (b % 16) (by omega)).2
  exact Nat.xor_lt_two_pow (n := 32) (by omega) (by omega)

/-- A sum goes on by a byte. -/
def sumStep (a : Nat) (c : UInt8) : Nat := nib (nib (a ^^^ c.toNat))
theorem sumStep_lt (a : Nat) (c : UInt8) (ha : a < 4294967296) : sumStep a c < 4294967296 :=
  nib_lt _ (nib_lt _ (Nat.xor_lt_two_pow (n := 32) ha (by have := UInt8.toNat_lt c; omega)))

def sumL (l : List UInt8) : Nat := l.foldl sumStep 4294967295
theorem foldl_sum_lt (l : List UInt8) (a : Nat) (ha : a < 4294967296) : l.foldl sumStep a < 4294967296 := by
  induction l generalizing a with
  | nil => exact ha
  | cons c r ih => exact ih _ (sumStep_lt a c ha)
theorem sumL_lt (l : List UInt8) : sumL l < 4294967296 := foldl_sum_lt l _ (by decide)

theorem sum_snoc (s : ByteArray) (k : Nat) (h : k < s.size) : sumL (s.data.toList.take (k + 1)) = sumStep (sumL (s.data.toList.take k)) s[k] := by
  unfold sumL
  rw [List.take_succ_eq_append_getElem (by simpa using h), List.foldl_append]
  rfl

theorem nib_walk (b : Nat) (hb : b < 4294967296) : bits .and .u32 (b : Int) 15 = ((b % 16 : Nat) : Int) ∧ bits .xor .u32 ((b : Int) / 16) (halvesL.getD (b % 16) 0) = (nib b : Int) := by
  have h1 := halfN_lt (b % 16) (by omega)
  constructor
  · have := u32_and_nat b 15 hb (by decide)
    rw [show b &&& 15 = b % 16 from Nat.and_two_pow_sub_one_eq_mod b 4] at this
    exact this
  · rw [h1.1, show (b : Int) / 16 = ((b / 16 : Nat) : Int) from by omega, u32_xor_nat _ _ (by omega) h1.2]
    rfl

/-- The check sum of some bytes. -/
def crc (l : List UInt8) : Nat := 4294967295 - sumL l

set_option maxRecDepth 100000 in
set_option maxHeartbeats 1000000 in
theorem sum_any (s : ByteArray) (w : World) (hs : s.size ≤ 9223372036854775807) (hT : Lib.TabIs Tryd.prog w "bedrock/raw.halves" .u32 halvesL) :
    Calls Tryd.prog 37 #[.string s] w fun e w' => e = .returned (.int .i64 (crc s.data.toList : Int)) ∧ w = w' := by
  have HT := Lib.hid hT
  clear hT
  go_enter Tryd.func37, Tryd.ntmps37
  go_wp2
  go_loop [3, 7] (fun x i => ∃ k a : Nat, k ≤ s.size ∧ i = .int .i64 (k : Int) ∧ x = .int .u32 (a : Int) ∧ a < 4294967296 ∧ Hid (a = sumL (s.data.toList.take k))) (fun _ i => s.size - (intOf i).toNat)
  case atStart => exact ⟨0, 4294967295, by omega, rfl, rfl, by omega, rfl⟩
  case round =>
    obtain ⟨k, a, hk, rfl, rfl, ha, Ha⟩ := hrel
    by_cases hl : k < s.size
    · have hb8 := UInt8.toNat_lt s[k]
      obtain ⟨b, hb⟩ : ∃ b, b = a ^^^ (s[k]'hl).toNat := ⟨_, rfl⟩
      have hblt : b < 4294967296 := by rw [hb]; exact Nat.xor_lt_two_pow (n := 32) ha (by omega)
      have x1 : bits .xor .u32 (a : Int) ((s[k]'hl).toNat : Int) = (b : Int) := by
        rw [u32_xor_nat _ _ ha (by omega), hb]
      have Hb := Lib.hid hb
      clear hb
      obtain ⟨i, hi⟩ : ∃ i, i = b % 16 := ⟨_, rfl⟩
      have hi16 : i < 16 := by omega
      obtain ⟨x2, x3⟩ := nib_walk b hblt
      rw [← hi] at x2 x3
      have c1 := HT.out.cell (g := 1) (by kernel_rfl) i (by simp [halvesL]; omega)
      obtain ⟨d, hd⟩ : ∃ d, d = nib b := ⟨_, rfl⟩
      have hdlt : d < 4294967296 := by rw [hd]; exact nib_lt b hblt
      rw [← hd] at x3
      have Hd := Lib.hid hd
      have Hi := Lib.hid hi
      clear hd hi
      obtain ⟨j, hj⟩ : ∃ j, j = d % 16 := ⟨_, rfl⟩
      have hj16 : j < 16 := by omega
      obtain ⟨y2, y3⟩ := nib_walk d hdlt
      rw [← hj] at y2 y3
      have c2 := HT.out.cell (g := 1) (by kernel_rfl) j (by simp [halvesL]; omega)
      clear hj
      obtain ⟨z1, hz1⟩ : ∃ z, z = halvesL.getD i 0 := ⟨_, rfl⟩
      obtain ⟨z2, hz2⟩ : ∃ z, z = halvesL.getD j 0 := ⟨_, rfl⟩
      rw [← hz1] at x3 c1
      rw [← hz2] at y3 c2
      clear hz1 hz2
      have hs1 := Lib.hid (sum_snoc s k hl)
      go_wp2
      go_round
      case rel => exact ⟨k + 1, nib d, by omega, by go_num, rfl, nib_lt d hdlt, by show nib d = _; rw [hs1.out, ← Ha.out]; show nib d = nib (nib _); rw [Hd.out, Hb.out]⟩
      case measure => simp [intOf]; omega
    · obtain rfl : k = s.size := by omega
      have x1 := u32_not_nat a ha
      have hr : Hid ((4294967295 - a : Nat) = crc s.data.toList) := by
        have := Ha.out
        rw [List.take_of_length_le (by simp)] at this
        show 4294967295 - a = 4294967295 - sumL _
        rw [this]
      obtain ⟨r, hrr⟩ : ∃ r, r = 4294967295 - a := ⟨_, rfl⟩
      have hr2 : r ≤ 4294967295 := by omega
      rw [← hrr] at x1
      have Hr : Hid (r = crc s.data.toList) := hrr.trans hr
      clear hrr
      have hw : wrap64 (r : Int) = (r : Int) := IntWalk.wrap64_in _ (by omega)
      go_wp2
      go_ret
      exact ⟨by rw [← Hr.out]; rfl, rfl⟩
end Go.Proofs.YtgiodfpkkdaflaaDoor

namespace Go.Proofs.YtgiodfpkkdaflaaDoor
open Go.RowKit

theorem u8info : (Tryd.prog.info? 5).map (fun i => (i.zero, i.size, i.bytes)) = some (some (.int .u8 0), 1, 1) := by kernel_rfl

/-- A number in groups of seven bits. -/
def pv (v : Nat) : List UInt8 := if v < 128 then [UInt8.ofNat v] else UInt8.ofNat (v % 128 + 128) :: pv (v / 128)
  termination_by v
  decreasing_by omega

theorem or_128 : ∀ c : Nat, c < 256 → bits .or .u8 (c : Int) 128 = ((c % 128 + 128 : Nat) : Int) := by decide +kernel

theorem u8_of (n : Nat) (h : n < 256) : (n : Int) = ((UInt8.ofNat n).toNat : Int) := by simp; omega

theorem pv_more (v : Nat) (h : 128 ≤ v) : pv v = UInt8.ofNat (v % 128 + 128) :: pv (v / 128) := by rw [pv, if_neg (by omega)]
theorem pv_last (v : Nat) (h : v < 128) : pv v = [UInt8.ofNat v] := by rw [pv, if_pos h]

end Go.Proofs.YtgiodfpkkdaflaaDoor

namespace Go.Proofs.YtgiodfpkkdaflaaDoor
open Go.RowKit

/-- A number as n bytes, the highest first. -/
def be (v n : Nat) : List UInt8 := (List.range n).map fun i => UInt8.ofNat (v / 2 ^ (8 * (n - 1 - i)) % 256)

theorem be_length (v n : Nat) : (be v n).length = n := by simp [be]
theorem be_get (v n k : Nat) (h : k < n) : (be v n)[k]? = some (UInt8.ofNat (v / 2 ^ (8 * (n - 1 - k)) % 256)) := by unfold be; rw [List.getElem?_map, List.getElem?_range h]; rfl
theorem be_step (v n k : Nat) (h : k < n) : (((be v n).take k ++ List.replicate (n - k) (0 : UInt8)).map b8).set k (.int .u8 ((v : Int) / 2 ^ (8 * (n - 1 - k)) % 256)) =
    ((be v n).take (k + 1) ++ List.replicate (n - (k + 1)) (0 : UInt8)).map b8 := by
  obtain ⟨c, hc⟩ : ∃ c, c = UInt8.ofNat (v / 2 ^ (8 * (n - 1 - k)) % 256) := ⟨_, rfl⟩
  have hb : Value.int .u8 ((v : Int) / 2 ^ (8 * (n - 1 - k)) % 256) = b8 c := by
    have e : (v : Int) / 2 ^ (8 * (n - 1 - k)) % 256 = ((v / 2 ^ (8 * (n - 1 - k)) % 256 : Nat) : Int) := by rw [Int.natCast_emod, Int.natCast_ediv, Int.natCast_pow]; rfl
    rw [e, u8_of _ (by omega), ← hc]
    rfl
  have hg := be_get v n k h
  rw [← hc] at hg
  have hl := be_length v n
  have hlt : (List.take k (be v n)).length = k := by simp; omega
  rw [hb, ← List.map_set, List.set_append_right _ _ (by omega), hlt, Nat.sub_self, show n - k = (n - (k + 1)) + 1 from by omega, List.replicate_succ, List.set_cons_zero]
  rw [List.take_add_one, hg]
  simp

end Go.Proofs.YtgiodfpkkdaflaaDoor

namespace Go.Proofs
open Go.Shelf
shelf_tried
end Go.Proofs

namespace Go.Proofs.YtgiodfpkkdaflaaDoor
open Go.RowKit

/-! ### The order of bytes -/
theorem cmp_range (a b : List UInt8) : -1 ≤ Lib.compareBytes a b ∧ Lib.compareBytes a b ≤ 1 := by
  fun_induction Lib.compareBytes a b <;> first | omega | assumption
theorem cmp_swap (a b : List UInt8) : Lib.compareBytes b a = -Lib.compareBytes a b := by
  fun_induction Lib.compareBytes a b with
  | case1 => rfl
  | case2 => rfl
  | case3 => rfl
  | case4 x l y r h => rw [Lib.compareBytes, if_neg (by simp only [UInt8.lt_iff_toNat_lt] at *; omega), if_pos h]; rfl
  | case5 x l y r h h' => rw [Lib.compareBytes, if_pos h']
  | case6 x l y r h h' ih => rw [Lib.compareBytes, if_neg h', if_neg h, ih]
theorem cmp_eq (a b : List UInt8) : Lib.compareBytes a b = 0 ↔ a = b := by
  fun_induction Lib.compareBytes a b with
  | case1 => simp
  | case2 => simp
  | case3 => simp
  | case4 x l y r h => exact ⟨fun e => absurd e (by decide), fun e => by injection e with e1 _; subst e1; simp only [UInt8.lt_iff_toNat_lt] at h; omega⟩
  | case5 x l y r h h' => exact ⟨fun e => absurd e (by decide), fun e => by injection e with e1 _; subst e1; simp only [UInt8.lt_iff_toNat_lt] at h'; omega⟩
  | case6 x l y r h h' ih =>
    have e : x = y := by
      apply UInt8.toNat_inj.1
      simp only [UInt8.lt_iff_toNat_lt] at *
      omega
    rw [ih]; simp [e]
theorem cmp_trans (a b c : List UInt8) : Lib.compareBytes a b ≤ 0 → Lib.compareBytes b c ≤ 0 → Lib.compareBytes a c ≤ 0 ∧ (Lib.compareBytes a b < 0 → Lib.compareBytes a c < 0) := by
  fun_induction Lib.compareBytes a b generalizing c with
  | case1 => intro _ h; exact ⟨h, fun h => absurd h (by decide)⟩
  | case2 y bs =>
    intro _ h
    cases c with
    | nil => simp [Lib.compareBytes] at h
    | cons z cs => simp [Lib.compareBytes]
  | case3 => intro h; exact absurd h (by decide)
  | case4 x l y r h =>
    intro _ h2
    cases c with
    | nil => simp [Lib.compareBytes] at h2
    | cons z cs =>
      have hxz : x < z := by
        rw [Lib.compareBytes] at h2
        simp only [UInt8.lt_iff_toNat_lt] at *
        split at h2
        · omega
        · split at h2
          · exact absurd h2 (by decide)
          · omega
      rw [Lib.compareBytes, if_pos hxz]
      decide
  | case5 x l y r h h' => intro h; exact absurd h (by decide)
  | case6 x l y r h h' ih =>
    have e : x = y := by
      apply UInt8.toNat_inj.1
      simp only [UInt8.lt_iff_toNat_lt] at *
      omega
    subst e
    intro h1 h2
    cases c with
    | nil => simp [Lib.compareBytes] at h2
    | cons z cs =>
      rw [Lib.compareBytes] at h2 ⊢
      split
      · exact ⟨by decide, fun _ => by decide⟩
      · rename_i h3
        rw [if_neg h3] at h2
        split
        · rename_i h4; rw [if_pos h4] at h2; exact absurd h2 (by decide)
        · rename_i h4; rw [if_neg h4] at h2; exact ih cs h1 h2

theorem be_succ (v n : Nat) : be v (n + 1) = UInt8.ofNat (v / 2 ^ (8 * n) % 256) :: be v n := by
  unfold be
  rw [List.range_succ_eq_map, List.map_cons, List.map_map]
  congr 1
  apply List.map_congr_left
  intro i _
  simp only [Function.comp]
  rw [show n + 1 - 1 - i.succ = n - 1 - i from by omega]
theorem be_mod (v n : Nat) : be v n = be (v % 2 ^ (8 * n)) n := by
  unfold be
  apply List.map_congr_left
  intro i hi
  have hi : i < n := List.mem_range.1 hi
  have e : 2 ^ (8 * n) = 2 ^ (8 * (n - 1 - i)) * (256 * 2 ^ (8 * i)) := by
    rw [show (256 : Nat) = 2 ^ 8 from rfl, ← Nat.pow_add, ← Nat.pow_add]
    congr 1
    omega
  have e2 : v % 2 ^ (8 * n) / 2 ^ (8 * (n - 1 - i)) = v / 2 ^ (8 * (n - 1 - i)) % (256 * 2 ^ (8 * i)) := by rw [e, Nat.mod_mul_right_div_self]
  rw [e2, Nat.mod_mul_right_mod]
theorem be_cmp (n : Nat) : ∀ v u : Nat, v < 2 ^ (8 * n) → u < 2 ^ (8 * n) → Lib.compareBytes (be v n) (be u n) = if v < u then -1 else if v = u then 0 else 1 := by
  induction n with
  | zero =>
    intro v u hv hu
    have hv : v < 1 := hv
    have hu : u < 1 := hu
    obtain rfl : v = 0 := by omega
    obtain rfl : u = 0 := by omega
    rfl
  | succ n ih =>
    intro v u hv hu
    have hp : 2 ^ (8 * (n + 1)) = 256 * 2 ^ (8 * n) := by rw [Nat.mul_add, Nat.pow_add, Nat.mul_comm]
    have hv1 : v / 2 ^ (8 * n) < 256 := by rw [Nat.div_lt_iff_lt_mul (Nat.two_pow_pos _)]; omega
    have hu1 : u / 2 ^ (8 * n) < 256 := by rw [Nat.div_lt_iff_lt_mul (Nat.two_pow_pos _)]; omega
    have hm := ih (v % 2 ^ (8 * n)) (u % 2 ^ (8 * n)) (Nat.mod_lt _ (Nat.two_pow_pos _)) (Nat.mod_lt _ (Nat.two_pow_pos _))
    rw [← be_mod, ← be_mod] at hm
    rw [be_succ, be_succ, Lib.compareBytes, hm]
    have hvd := Nat.div_add_mod v (2 ^ (8 * n))
    have hud := Nat.div_add_mod u (2 ^ (8 * n))
    have hvl := Nat.mod_lt v (Nat.two_pow_pos (8 * n))
    have hul := Nat.mod_lt u (Nat.two_pow_pos (8 * n))
    generalize v / 2 ^ (8 * n) = A at *
    generalize u / 2 ^ (8 * n) = B at *
    generalize v % 2 ^ (8 * n) = C at *
    generalize u % 2 ^ (8 * n) = D at *
    generalize 2 ^ (8 * n) = M at *
    have hA : (UInt8.ofNat (A % 256)).toNat = A := by rw [UInt8.toNat_ofNat']; omega
    have hB : (UInt8.ofNat (B % 256)).toNat = B := by rw [UInt8.toNat_ofNat']; omega
    simp only [UInt8.lt_iff_toNat_lt, hA, hB]
    rcases Nat.lt_trichotomy A B with h | h | h
    · have h2 : M * A + M ≤ M * B := by rw [← Nat.mul_succ]; exact Nat.mul_le_mul_left _ h
      rw [if_pos h, if_pos (by omega)]
    · subst h
      rw [if_neg (by omega), if_neg (by omega)]
      by_cases h1 : C < D
      · rw [if_pos h1, if_pos (by omega)]
      · by_cases h2 : C = D
        · rw [if_neg h1, if_pos h2, if_neg (by omega), if_pos (by omega)]
        · rw [if_neg h1, if_neg h2, if_neg (by omega), if_neg (by omega)]
    · have h2 : M * B + M ≤ M * A := by rw [← Nat.mul_succ]; exact Nat.mul_le_mul_left _ h
      rw [if_neg (by omega), if_pos h, if_neg (by omega), if_neg (by omega)]

/-- What Put answers. -/
def PutIs (v n : Int) (s : ByteArray) (er : Int) : Prop :=
  (er = 0 ∧ 1 ≤ n ∧ n ≤ 7 ∧ 0 ≤ v ∧ v < 2 ^ (8 * n.toNat) ∧ s = ⟨(be v.toNat n.toNat).toArray⟩) ∨ (er = 1 ∧ s = ByteArray.empty ∧ (n < 1 ∨ 7 < n ∨ v < 0 ∨ 2 ^ (8 * n.toNat) ≤ v))

theorem put_cmp {v u n : Int} {s t : ByteArray} (hs : PutIs v n s 0) (ht : PutIs u n t 0) :
    (v < u ∧ Lib.compareBytes s.data.toList t.data.toList = -1) ∨ (v = u ∧ Lib.compareBytes s.data.toList t.data.toList = 0) ∨ (u < v ∧ Lib.compareBytes s.data.toList t.data.toList = 1) := by
  rcases hs with ⟨_, h1, h2, h3, h4, rfl⟩ | ⟨h, _⟩
  · rcases ht with ⟨_, _, _, g3, g4, rfl⟩ | ⟨h, _⟩
    · obtain ⟨v, rfl⟩ := Int.eq_ofNat_of_zero_le h3
      obtain ⟨u, rfl⟩ := Int.eq_ofNat_of_zero_le g3
      have a4 : v < 2 ^ (8 * n.toNat) := by exact_mod_cast h4
      have b4 : u < 2 ^ (8 * n.toNat) := by exact_mod_cast g4
      have := be_cmp n.toNat v u a4 b4
      simp only [Int.toNat_natCast]
      rw [this]
      rcases Nat.lt_trichotomy v u with h | h | h
      · exact .inl ⟨by omega, by rw [if_pos h]⟩
      · exact .inr (.inl ⟨by omega, by rw [if_neg (by omega), if_pos h]⟩)
      · exact .inr (.inr ⟨by omega, by rw [if_neg (by omega), if_neg (by omega)]⟩)
    · exact absurd h (by decide)
  · exact absurd h (by decide)

end Go.Proofs.YtgiodfpkkdaflaaDoor

namespace Go.Proofs.YtgiodfpkkdaflaaDoor
open Go.RowKit

theorem i64_xor_nat (a b : Nat) (ha : a < 9223372036854775808) (hb : b < 9223372036854775808) : bits .xor .i64 (a : Int) (b : Int) = ((a ^^^ b : Nat) : Int) := by
  have hx : a ^^^ b < 2 ^ 63 := Nat.xor_lt_two_pow (by omega) (by omega)
  show IntKind.i64.wrap ((BitVec.ofInt 64 (a : Int) ^^^ BitVec.ofInt 64 (b : Int)).toNat : Int) = _
  rw [BitVec.toNat_xor, ofInt_i64 a ha, ofInt_i64 b hb, IntKind.wrap_i64]
  omega

/-- One of a sum's eight steps. -/
def bit1 (x : Nat) : Nat := if x % 2 = 1 then (x / 2) ^^^ 2197175160 else x / 2
def bitN : Nat → Nat → Nat
  | 0, x => x
  | n + 1, x => bit1 (bitN n x)

theorem half_xor (a b : Nat) : (a ^^^ b) / 2 = a / 2 ^^^ b / 2 := by
  have e : ∀ x : Nat, x / 2 = x >>> 1 := fun x => (Nat.shiftRight_eq_div_pow x 1).symm
  rw [e, e, e, Nat.shiftRight_xor_distrib]
theorem par_xor (a b : Nat) : (a ^^^ b) % 2 = (a % 2 ^^^ b % 2) := Nat.xor_mod_two_pow (n := 1)

theorem bit1_xor (a b : Nat) : bit1 (a ^^^ b) = bit1 a ^^^ bit1 b := by
  unfold bit1
  rw [half_xor, par_xor]
  rcases Nat.mod_two_eq_zero_or_one a with h | h <;> rcases Nat.mod_two_eq_zero_or_one b with k | k <;> simp only [h, k]
  · rfl
  · show (a / 2 ^^^ b / 2) ^^^ 2197175160 = a / 2 ^^^ (b / 2 ^^^ 2197175160)
    rw [Nat.xor_assoc]
  · show (a / 2 ^^^ b / 2) ^^^ 2197175160 = (a / 2 ^^^ 2197175160) ^^^ b / 2
    rw [Nat.xor_assoc, Nat.xor_assoc, Nat.xor_comm (b / 2)]
  · show a / 2 ^^^ b / 2 = (a / 2 ^^^ 2197175160) ^^^ (b / 2 ^^^ 2197175160)
    rw [Nat.xor_assoc, Nat.xor_comm 2197175160, Nat.xor_assoc, Nat.xor_self, Nat.xor_zero]
theorem bit1_even (y : Nat) : bit1 (2 * y) = y := by
  unfold bit1
  rw [if_neg (by omega)]
  omega
theorem bitN_xor (n : Nat) : ∀ a b, bitN n (a ^^^ b) = bitN n a ^^^ bitN n b := by
  induction n with
  | zero => intro a b; rfl
  | succ n ih => intro a b; show bit1 _ = bit1 _ ^^^ bit1 _; rw [ih, bit1_xor]
theorem split_xor (x : Nat) : (16 * (x / 16)) ^^^ (x % 16) = x := by
  have h1 : ((16 * (x / 16)) ^^^ (x % 16)) / 16 = x / 16 := by
    have e : ∀ x : Nat, x / 16 = x >>> 4 := fun x => (Nat.shiftRight_eq_div_pow x 4).symm
    rw [e (_ ^^^ _), Nat.shiftRight_xor_distrib, ← e, ← e, show 16 * (x / 16) / 16 = x / 16 from by omega, show x % 16 / 16 = 0 from by omega, Nat.xor_zero]
  have h2 : ((16 * (x / 16)) ^^^ (x % 16)) % 16 = x % 16 := by
    have := Nat.xor_mod_two_pow (a := 16 * (x / 16)) (b := x % 16) (n := 4)
    rw [show (2 : Nat) ^ 4 = 16 from rfl] at this
    rw [this, show 16 * (x / 16) % 16 = 0 from by omega, Nat.zero_xor]
    omega
  omega
theorem bits_low : ∀ r < 16, bitN 4 r = halfN r := by decide
theorem bits_nib (x : Nat) : bitN 4 x = nib x := by
  have h := bitN_xor 4 (16 * (x / 16)) (x % 16)
  rw [split_xor] at h
  have h2 : bitN 4 (16 * (x / 16)) = x / 16 := by
    show bit1 (bit1 (bit1 (bit1 (16 * (x / 16))))) = _
    rw [show 16 * (x / 16) = 2 * (2 * (2 * (2 * (x / 16)))) from by omega, bit1_even, bit1_even, bit1_even, bit1_even]
  rw [h, h2, bits_low _ (by omega)]
  rfl
theorem bits_step (a : Nat) (c : UInt8) : bitN 8 (a ^^^ c.toNat) = sumStep a c := by
  unfold sumStep
  rw [← bits_nib, ← bits_nib]
  rfl
theorem bit1_lt (x : Nat) (h : x < 4294967296) : bit1 x < 4294967296 := by
  unfold bit1
  split
  · exact Nat.xor_lt_two_pow (n := 32) (by omega) (by decide)
  · omega

set_option maxRecDepth 100000 in
set_option maxHeartbeats 2000000 in
theorem rsum_any (s : ByteArray) (w : World) (hs : s.size ≤ 9223372036854775807) :
    Calls Tryd.prog 38 #[.string s] w fun e w' => e = .returned (.int .i64 (crc s.data.toList : Int)) ∧ w = w' := by
  go_enter Tryd.func38, Tryd.ntmps38
  go_wp2
  go_loop [3, 4] (fun x i => ∃ k a : Nat, k ≤ s.size ∧ i = .int .i64 (k : Int) ∧ x = .int .i64 (a : Int) ∧ a < 4294967296 ∧ Hid (a = sumL (s.data.toList.take k))) (fun _ i => s.size - (intOf i).toNat)
  case atStart => exact ⟨0, 4294967295, by omega, rfl, rfl, by omega, rfl⟩
  case round =>
    obtain ⟨k, a, hk, rfl, rfl, ha, Ha⟩ := hrel
    by_cases hl : k < s.size
    · have hb8 := UInt8.toNat_lt s[k]
      obtain ⟨b, hb⟩ : ∃ b, b = a ^^^ (s[k]'hl).toNat := ⟨_, rfl⟩
      have hblt : b < 4294967296 := by rw [hb]; exact Nat.xor_lt_two_pow (n := 32) ha (by omega)
      have x1 : bits .xor .i64 (a : Int) ((s[k]'hl).toNat : Int) = (b : Int) := by
        rw [i64_xor_nat _ _ (by omega) (by omega), hb]
      have hst := sum_snoc s k hl
      rw [← Ha.out, ← bits_step, ← hb] at hst
      have Hst := Lib.hid hst
      clear hb hst
      go_wp2
      go_loop [3, 5] (fun x i => ∃ j y : Nat, j ≤ 8 ∧ i = .int .i64 (j : Int) ∧ x = .int .i64 (y : Int) ∧ y < 4294967296 ∧ Hid (y = bitN j b)) (fun _ i => 8 - (intOf i).toNat)
      case atStart => exact ⟨0, b, by omega, rfl, rfl, hblt, rfl⟩
      case round =>
        obtain ⟨j, y, hj, rfl, rfl, hy, Hy⟩ := hrel
        by_cases hj8 : j < 8
        · have hnx : bit1 y = bitN (j + 1) b := by rw [Hy.out]; rfl
          have hnl := bit1_lt y hy
          by_cases hodd : y % 2 = 1
          · obtain ⟨z, hz⟩ : ∃ z, z = (y / 2) ^^^ 2197175160 := ⟨_, rfl⟩
            have hzx : bits .xor .i64 ((y : Int) / 2) 2197175160 = (z : Int) := by
              have := i64_xor_nat (y / 2) 2197175160 (by omega) (by decide)
              rw [← hz] at this
              exact this
            have hz1 : bit1 y = z := by unfold bit1; rw [if_pos hodd, hz]
            rw [hz1] at hnx hnl
            have Hnx := Lib.hid hnx
            have hodd' : (y : Int) % 2 = 1 := by omega
            clear hz hz1 hnx hodd
            go_wp2
            go_round
            case rel => exact ⟨j + 1, z, by omega, by go_num, rfl, hnl, Hnx⟩
            case measure => simp [intOf]; omega
          · have hz1 : bit1 y = y / 2 := by unfold bit1; rw [if_neg hodd]
            rw [hz1] at hnx hnl
            have Hnx := Lib.hid hnx
            have hodd' : (y : Int) % 2 = 0 := by omega
            clear hz1 hnx hodd
            go_wp2
            go_round
            case rel => exact ⟨j + 1, y / 2, by omega, by go_num, by go_num, hnl, Hnx⟩
            case measure => simp [intOf]; omega
        · obtain rfl : j = 8 := by omega
          go_wp2
          go_round
          case rel => exact ⟨k + 1, y, by omega, by go_num, rfl, hy, by show y = _; rw [Hst.out]; exact Hy.out⟩
          case measure => simp [intOf]; omega
    · obtain rfl : k = s.size := by omega
      obtain ⟨r, hr⟩ : ∃ r, r = 4294967295 - a := ⟨_, rfl⟩
      have x1 : bits .xor .i64 (a : Int) 4294967295 = (r : Int) := by
        have h1 := u32_not_nat a ha
        have h2 := u32_xor_nat 4294967295 a (by decide) ha
        rw [show (IntKind.u32.max : Int) = ((4294967295 : Nat) : Int) from by decide] at h1
        rw [h2] at h1
        have h3 := i64_xor_nat a 4294967295 (by omega) (by decide)
        rw [Nat.xor_comm] at h3
        rw [h1, ← hr] at h3
        exact h3
      have Hr : Hid (r = crc s.data.toList) := by
        have := Ha.out
        rw [List.take_of_length_le (by simp)] at this
        rw [hr, this]
        rfl
      clear hr
      go_wp2
      go_ret
      exact ⟨by rw [← Hr.out]; rfl, rfl⟩

theorem cmp_cons (a b : UInt8) (r t : List UInt8) : Lib.compareBytes (a :: r) (b :: t) = if a.toNat < b.toNat then -1 else if b.toNat < a.toNat then 1 else Lib.compareBytes r t := by
  rw [Lib.compareBytes]
  simp only [UInt8.lt_iff_toNat_lt]

end Go.Proofs.YtgiodfpkkdaflaaDoor

namespace Go.Proofs.YtgiodfpkkdaflaaDoor
open Go.RowKit

/-- A place is marked; is it? -/
def markL (L : List Nat) (p : Nat) : List Nat := L.set (p / 8) (L.getD (p / 8) 0 ||| 2 ^ (p % 8))
def hasB (L : List Nat) (p : Nat) : Bool := (L.getD (p / 8) 0).testBit (p % 8)
/-- A sum turned about; a key's places. -/
def turnH (h : Nat) : Nat := (h * 32768 + h / 131072) % 4294967296
def placesP (h d n : Nat) : Nat → List Nat
  | 0 => []
  | k + 1 => h % (8 * n) :: placesP ((h + d) % 4294967296) d n k
def placesH (h n k : Nat) : List Nat := placesP h (turnH h) n k
/-- Keys (by their sums) are marked. -/
def fillL (L : List Nat) (n k : Nat) (hs : List Nat) : List Nat := hs.foldl (fun L h => (placesH h n k).foldl markL L) L
def filterL (hs : List Nat) (n k : Nat) : List Nat := fillL (List.replicate n 0) n k hs
def mayL (L : List Nat) (h n k : Nat) : Bool := (placesH h n k).all (hasB L)

theorem markL_length (L : List Nat) (p : Nat) : (markL L p).length = L.length := by unfold markL; rw [List.length_set]
theorem pow_bit (a b : Nat) : (2 ^ a).testBit b = decide (a = b) := Nat.testBit_two_pow
theorem hasB_mark (L : List Nat) (p q : Nat) (h : q / 8 < L.length) : hasB (markL L p) q = (decide (p = q) || hasB L q) := by
  unfold hasB markL
  rw [List.getD_eq_getElem?_getD, List.getElem?_set]
  by_cases h1 : p / 8 = q / 8
  · rw [if_pos h1, if_pos (by omega)]
    show Nat.testBit (_ ||| _) _ = _
    rw [Nat.testBit_or, pow_bit, h1, Bool.or_comm]
    congr 1
    rw [decide_eq_decide]
    omega
  · rw [if_neg h1, ← List.getD_eq_getElem?_getD, decide_eq_false (by intro h2; exact h1 (by rw [h2])), Bool.false_or]
theorem marks_length (l : List Nat) : ∀ L : List Nat, (l.foldl markL L).length = L.length := by
  induction l with
  | nil => intro L; rfl
  | cons p r ih => intro L; rw [List.foldl_cons, ih, markL_length]
theorem hasB_marks (l : List Nat) (q : Nat) : ∀ L : List Nat, q / 8 < L.length → hasB (l.foldl markL L) q = (decide (q ∈ l) || hasB L q) := by
  induction l with
  | nil => intro L _; simp
  | cons p r ih =>
    intro L h
    rw [List.foldl_cons, ih _ (by rw [markL_length]; exact h), hasB_mark _ _ _ h, ← Bool.or_assoc]
    congr 1
    rw [Bool.eq_iff_iff]
    simp only [Bool.or_eq_true, decide_eq_true_eq, List.mem_cons]
    constructor
    · rintro (h | h)
      · exact Or.inr h
      · exact Or.inl h.symm
    · rintro (h | h)
      · exact Or.inr h.symm
      · exact Or.inl h
theorem fillL_length (n k : Nat) (hs : List Nat) : ∀ L : List Nat, (fillL L n k hs).length = L.length := by
  unfold fillL
  induction hs with
  | nil => intro L; rfl
  | cons h r ih => intro L; rw [List.foldl_cons, ih, marks_length]
theorem hasB_fill (n k : Nat) (q : Nat) (hs : List Nat) : ∀ L : List Nat, q / 8 < L.length → hasB (fillL L n k hs) q = (hs.any (fun h => decide (q ∈ placesH h n k)) || hasB L q) := by
  unfold fillL
  induction hs with
  | nil => intro L _; simp
  | cons h r ih =>
    intro L hq
    rw [List.foldl_cons, ih _ (by rw [marks_length]; exact hq), hasB_marks _ _ _ hq, List.any_cons, ← Bool.or_assoc]
    congr 1
    rw [Bool.or_comm]
theorem hasB_none (n q : Nat) : hasB (List.replicate n 0) q = false := by
  unfold hasB
  rw [List.getD_eq_getElem?_getD, List.getElem?_replicate]
  split <;> simp
theorem placesP_lt (d n : Nat) (hn : 0 < n) : ∀ (k h : Nat), ∀ p ∈ placesP h d n k, p < 8 * n := by
  intro k
  induction k with
  | zero => intro h p hp; cases hp
  | succ k ih =>
    intro h p hp
    rw [placesP, List.mem_cons] at hp
    rcases hp with rfl | hp
    · exact Nat.mod_lt _ (by omega)
    · exact ih _ p hp
theorem placesP_length (d n : Nat) : ∀ (k h : Nat), (placesP h d n k).length = k := by
  intro k
  induction k with
  | zero => intro h; rfl
  | succ k ih => intro h; rw [placesP, List.length_cons, ih]
theorem filterL_length (hs : List Nat) (n k : Nat) : (filterL hs n k).length = n := by
  unfold filterL
  rw [fillL_length, List.length_replicate]
theorem hasB_filter (hs : List Nat) (n k q : Nat) (hq : q < 8 * n) : hasB (filterL hs n k) q = hs.any (fun h => decide (q ∈ placesH h n k)) := by
  unfold filterL
  rw [hasB_fill _ _ _ _ _ (by rw [List.length_replicate]; omega), hasB_none, Bool.or_false]
/-- Of each key that was built in it is true. -/
theorem may_member (hs : List Nat) (n k h : Nat) (hn : 0 < n) (hh : h ∈ hs) : mayL (filterL hs n k) h n k = true := by
  unfold mayL
  rw [List.all_eq_true]
  intro p hp
  rw [hasB_filter _ _ _ _ (placesP_lt _ _ hn _ _ p hp), List.any_eq_true]
  exact ⟨h, hh, decide_eq_true hp⟩
/-- Of no key: a filter that nothing was built in. -/
theorem may_none (n k h : Nat) (hn : 0 < n) (hk : 0 < k) : mayL (filterL [] n k) h n k = false := by
  obtain ⟨j, rfl⟩ : ∃ j, k = j + 1 := ⟨k - 1, by omega⟩
  unfold mayL placesH
  rw [placesP, List.all_cons, hasB_filter _ _ _ _ (Nat.mod_lt _ (by omega))]
  rfl
theorem set_lt (m : Nat) (L : List Nat) (i v : Nat) (hL : ∀ x ∈ L, x < m) (hv : v < m) : ∀ x ∈ L.set i v, x < m := by
  intro x hx
  rcases List.mem_or_eq_of_mem_set hx with h | h
  · exact hL x h
  · rw [h]; exact hv
theorem getD_lt (m : Nat) (L : List Nat) (i : Nat) (hm : 0 < m) (hL : ∀ x ∈ L, x < m) : L.getD i 0 < m := by
  rw [List.getD_eq_getElem?_getD]
  cases h : L[i]? with
  | none => exact hm
  | some x => exact hL x (List.mem_of_getElem? h)
/-- Each byte is one. -/
theorem markL_byte (L : List Nat) (p : Nat) (hL : ∀ x ∈ L, x < 256) : ∀ x ∈ markL L p, x < 256 := by
  refine set_lt 256 L _ _ hL (Nat.or_lt_two_pow (n := 8) (getD_lt 256 L _ (by decide) hL) ?_)
  exact Nat.pow_lt_pow_right (by decide) (Nat.mod_lt _ (by decide))
theorem marks_byte (l : List Nat) : ∀ L : List Nat, (∀ x ∈ L, x < 256) → ∀ x ∈ l.foldl markL L, x < 256 := by
  induction l with
  | nil => intro L h; exact h
  | cons p r ih => intro L h; rw [List.foldl_cons]; exact ih _ (markL_byte L p h)
theorem fillL_byte (n k : Nat) (hs : List Nat) : ∀ L : List Nat, (∀ x ∈ L, x < 256) → ∀ x ∈ fillL L n k hs, x < 256 := by
  unfold fillL
  induction hs with
  | nil => intro L h; exact h
  | cons h r ih => intro L hL; rw [List.foldl_cons]; exact ih _ (marks_byte _ _ hL)
theorem filterL_byte (hs : List Nat) (n k : Nat) : ∀ x ∈ filterL hs n k, x < 256 := by
  refine fillL_byte n k hs _ fun x hx => ?_
  rw [List.mem_replicate] at hx
  omega
/-- What a filter of fewer keys marks one of more marks, too. -/
theorem filter_sub (h : Nat) (hs : List Nat) (n k i : Nat) (hi : i < n) :
    (filterL hs n k).getD i 0 &&& (255 - (filterL (h :: hs) n k).getD i 0) = 0 := by
  have b1 := getD_lt 256 _ i (by decide) (filterL_byte hs n k)
  have b2 := getD_lt 256 _ i (by decide) (filterL_byte (h :: hs) n k)
  have key : ∀ j, j < 8 → ((filterL hs n k).getD i 0).testBit j = true → ((filterL (h :: hs) n k).getD i 0).testBit j = true := by
    intro j hj ht
    have e1 : (8 * i + j) / 8 = i := by omega
    have e2 : (8 * i + j) % 8 = j := by omega
    have h1 := hasB_filter hs n k (8 * i + j) (by omega)
    have h2 := hasB_filter (h :: hs) n k (8 * i + j) (by omega)
    unfold hasB at h1 h2
    rw [e1, e2] at h1 h2
    rw [h2, List.any_cons, ← h1, ht, Bool.or_true]
  generalize (filterL hs n k).getD i 0 = a at *
  generalize (filterL (h :: hs) n k).getD i 0 = b at *
  refine Nat.eq_of_testBit_eq fun j => ?_
  rw [Nat.testBit_and, Nat.zero_testBit, show 255 - b = 2 ^ 8 - (b + 1) from by omega, Nat.testBit_two_pow_sub_succ (by omega)]
  by_cases hj : j < 8
  · have := key j hj
    cases ha : a.testBit j
    · simp
    · rw [this ha]; simp
  · simp [hj]
end Go.Proofs.YtgiodfpkkdaflaaDoor

namespace Go.Proofs.YtgiodfpkkdaflaaDoor
open Go.RowKit

/-- An int more behind a row of the call's own. -/
theorem app_int {W : World} {B n c : Nat} {A : Option Addr} {l : List Int} (x : Int) (hn : n ≤ 1000000) (hl : n = l.length) (h : Own elInts W B 3 (.slice A n c) l) (hB : B ≤ W.heap.size) :
    ∃ A' c' w', (∀ ty, (Builtin.append_ #[45, 45] ty #[.slice A n c, .slice (some ⟨W.heap.size, 0, none⟩) 1 1]).run Tryd.prog (W.alloc (.cells #[.int .i64 x] 3)) = .ok (.slice A' (n + 1) c') w') ∧
      Own elInts w' B 3 (.slice A' (n + 1) c') (l ++ [x]) ∧ Below B W w' := by
  obtain ⟨v', w', hr, hown, hgr, _, _⟩ := app_own (P := Tryd.prog) elInts 45 3 (.int .i64 0) 8 underInts infoInts rfl (W.alloc (.cells #[.int .i64 x] 3)) B (.slice A n c) l [x] (World.ownsRow.alloc h _) (some ⟨W.heap.size, 0, none⟩) 1 (fun h => by cases h) (fun a ha j' u hu => by
    cases ha
    rw [El.row_one] at hu
    exact cells_new W 3 [.int .i64 x] j' u hu) (by unfold maxLen; simp; omega) (by simp; omega) (by simp; omega) 1 rfl
  obtain ⟨A', c', rfl⟩ := Own.slice hown
  have e : (l ++ [x]).length = n + 1 := by rw [List.length_append, hl]; rfl
  rw [e] at hr hown
  exact ⟨A', c', w', hr, hown, ((Below.refl B W).alloc hB _).grown hgr (by simp; omega) (fun k hk => ((World.ownsRow.alloc h _ : (W.alloc (.cells #[.int .i64 x] 3)).ownsRow B 3 _ _ _ _).lt k hk).1)⟩

theorem placesP_snoc (d n : Nat) : ∀ (k h : Nat), h < 4294967296 → placesP h d n (k + 1) = placesP h d n k ++ [((h + k * d) % 4294967296) % (8 * n)]
  | 0, h, h1 => by simp [placesP, Nat.mod_eq_of_lt h1]
  | k + 1, h, h1 => by
    rw [placesP, placesP_snoc d n k _ (Nat.mod_lt _ (by decide)), placesP, List.cons_append]
    congr 3
    rw [Nat.mod_add_mod, Nat.add_mul]
    congr 2
    omega

set_option maxRecDepth 100000 in
set_option maxHeartbeats 1000000 in
theorem rplaces_any (key : ByteArray) (n k : Nat) (w : World) (hs : key.size ≤ 9223372036854775807) (hn0 : 0 < n) (hn : n ≤ 1000000) (hk : k ≤ 1000) :
    Calls Tryd.prog 26 #[.string key, .int .i64 (n : Int), .int .i64 (k : Int)] w fun e w' =>
      ∃ A c, e = .returned (.slice A k c) ∧ Own elInts w' w.heap.size 3 (.slice A k c) ((placesH (crc key.data.toList) n k).map Int.ofNat) ∧ Below w.heap.size w w' := by
  unfold placesH
  have CS := Lib.hid (rsum_any key w hs)
  have hlt : crc key.data.toList < 4294967296 := by unfold crc; omega
  obtain ⟨h, hh⟩ : ∃ h, crc key.data.toList = h := ⟨_, rfl⟩
  rw [hh] at CS hlt ⊢
  clear hh hs
  obtain ⟨d, hde⟩ : ∃ d, turnH h = d := ⟨_, rfl⟩
  have hdl : d < 4294967296 := by rw [← hde]; unfold turnH; omega
  have hd : ((h : Int) * 32768 + (h : Int) / 131072) % 4294967296 = (d : Int) := by rw [← hde]; unfold turnH; omega
  rw [hde]
  clear hde
  go_enter Tryd.func26, Tryd.ntmps26
  go_wp2_with fail
  refine CS.out.mono ?_
  rintro e w1 ⟨rfl, rfl⟩
  go_wp2_with fail
  rw [hd]
  clear hd CS
  have m1 : IntKind.i64.wrap (8 * (n : Int)) = 8 * (n : Int) := by rw [IntKind.wrap_i64]; omega
  have m2 : ¬ (8 * (n : Int)) = 0 := by omega
  have m3 : ¬ n = 0 := by omega
  have m4 : (0 : Int) ≤ 8 * (n : Int) := by omega
  go_loopw [7, 9, 10] (fun s7 s9 s10 wr => ∃ (i hc : Nat) (A : Option Addr) (c : Nat), i ≤ k ∧ hc < 4294967296 ∧ s7 = .int .i64 (hc : Int) ∧ s9 = .slice A i c ∧ s10 = .int .i64 (i : Int) ∧ Hid (hc = (h + i * d) % 4294967296) ∧ Hid (Own elInts wr w.heap.size 3 (.slice A i c) ((placesP h d n i).map Int.ofNat)) ∧ Hid (Below w.heap.size w wr)) (fun _ _ s10 _ => k - (intOf s10).toNat)
  case atStart => exact ⟨0, h, none, 0, by omega, hlt, rfl, rfl, rfl, Lib.hid (by omega), Lib.hid (World.ownsRow_nil _ _ _ _), Lib.hid (Below.refl _ _)⟩
  case round =>
    obtain ⟨i, hc, A, c, hi, hcl, rfl, rfl, rfl, HC, HO, HB⟩ := hrel
    by_cases hik : i < k
    · as_aux_lemma =>
      have i1 : (i : Int) < (k : Int) := by omega
      have x1 : (hc : Int).tmod (8 * (n : Int)) = ((hc % (8 * n) : Nat) : Int) := by rw [Int.tmod_eq_emod_of_nonneg (by omega)]; push_cast; rfl
      obtain ⟨wo, hwo⟩ : ∃ wo, wo = wr := ⟨_, rfl⟩
      obtain ⟨A2, c2, w2, hr2, ho2, hb2⟩ := app_int (W := wo) (B := w.heap.size) (n := i) (c := c) (A := A) (l := (placesP h d n i).map Int.ofNat) ((hc % (8 * n) : Nat) : Int) (by omega) (by rw [List.length_map, placesP_length]) (by rw [hwo]; exact HO.out) (by rw [hwo]; exact HB.out.size)
      subst hwo
      have hps : (placesP h d n i).map Int.ofNat ++ [((hc % (8 * n) : Nat) : Int)] = (placesP h d n (i + 1)).map Int.ofNat := by
        rw [placesP_snoc _ _ _ _ hlt, List.map_append, HC.out]; rfl
      rw [hps] at ho2
      have HR2 := fun ty => Lib.hid (hr2 ty)
      have HO2 := Lib.hid ho2
      have HB2 := Lib.hid (HB.out.trans hb2)
      have HC2 : Hid ((hc + d) % 4294967296 = (h + (i + 1) * d) % 4294967296) := Lib.hid (by rw [HC.out, Nat.mod_add_mod, Nat.add_mul]; congr 1; omega)
      clear hr2 ho2 hb2 hps HO HB
      obtain ⟨v, hv⟩ : ∃ v : Nat, hc % (8 * n) = v := ⟨_, rfl⟩
      rw [hv] at x1 HR2
      clear hv
      go_wp2_with (at_builtin; refine wpList_append_k _ w2 rfl (.tmp 24) (.tmp 29) 45 rfl _ _ (.slice A2 (i + 1) c2) rfl rfl (fun ty => (HR2 ty).out) ?_)
      go_roundw
      case rel => exact ⟨i + 1, (hc + d) % 4294967296, A2, c2, by omega, Nat.mod_lt _ (by decide), congrArg (Value.int .i64) (by omega), rfl, by go_num, HC2, HO2, HB2⟩
      case measure => simp [intOf]; omega
    · as_aux_lemma =>
      obtain rfl : i = k := by omega
      go_wp2_with fail
      go_ret
      exact ⟨A, c, rfl, HO.out, HB.out⟩
end Go.Proofs.YtgiodfpkkdaflaaDoor

namespace Go.Proofs.YtgiodfpkkdaflaaDoor
open Go.RowKit

inductive GV where
  | ok (v n : Nat)
  | err (e : Int)

/-- What GetVar makes of bytes: i groups are taken, v is what they say. -/
def gv : List UInt8 → Nat → Nat → GV
  | [], i, _ => if i < 9 then .err 3 else .err 4
  | c :: r, i, v => if 9 ≤ i then .err 4 else if 128 ≤ c.toNat then gv r (i + 1) (v + c.toNat % 128 * 2 ^ (7 * i)) else if c.toNat = 0 ∧ 0 < i then .err 4 else .ok (v + c.toNat % 128 * 2 ^ (7 * i)) (i + 1)

theorem gv_long (l : List UInt8) (i v : Nat) (h : 9 ≤ i) : gv l i v = .err 4 := by
  cases l with
  | nil => rw [gv, if_neg (by omega)]
  | cons c r => rw [gv, if_pos h]

theorem gv_short (l : List UInt8) (i v : Nat) (h : i < 9) (hl : l = []) : gv l i v = .err 3 := by
  subst hl; rw [gv, if_pos h]

theorem gv_more (s : ByteArray) (k a : Nat) (hl : k < s.size) (hk : k < 9) (h : 128 ≤ s[k].toNat) :
    gv (s.data.toList.drop k) k a = gv (s.data.toList.drop (k + 1)) (k + 1) (a + s[k].toNat % 128 * 2 ^ (7 * k)) := by
  rw [List.drop_eq_getElem_cons (by simpa using hl), gv, if_neg (by omega), if_pos (by exact h)]; rfl
theorem gv_zero (s : ByteArray) (k a : Nat) (hl : k < s.size) (hk : k < 9) (h : s[k].toNat = 0) (h0 : 0 < k) :
    gv (s.data.toList.drop k) k a = .err 4 := by
  have e : (s.data.toList[k]'(by simpa using hl)).toNat = 0 := h
  rw [List.drop_eq_getElem_cons (by simpa using hl), gv, if_neg (by omega), if_neg (by omega), if_pos ⟨e, h0⟩]
theorem gv_last (s : ByteArray) (k a : Nat) (hl : k < s.size) (hk : k < 9) (h : s[k].toNat < 128) (h0 : ¬ (s[k].toNat = 0 ∧ 0 < k)) :
    gv (s.data.toList.drop k) k a = .ok (a + s[k].toNat % 128 * 2 ^ (7 * k)) (k + 1) := by
  have h' : (s.data.toList[k]'(by simpa using hl)).toNat < 128 := h
  have h0' : ¬ ((s.data.toList[k]'(by simpa using hl)).toNat = 0 ∧ 0 < k) := h0
  rw [List.drop_eq_getElem_cons (by simpa using hl), gv, if_neg (by omega), if_neg (by omega), if_neg h0']; rfl

end Go.Proofs.YtgiodfpkkdaflaaDoor

namespace Go.Proofs.YtgiodfpkkdaflaaDoor
open Go.RowKit

end Go.Proofs.YtgiodfpkkdaflaaDoor

namespace Go.Proofs.YtgiodfpkkdaflaaDoor
open Go.RowKit

theorem lt_of_cell {w : World} {g i : Nat} {v : Value} (h : w.cell? ⟨g, i, none⟩ = some v) : g < w.heap.size := by
  rcases Nat.lt_or_ge g w.heap.size with hlt | hge
  · exact hlt
  · simp [World.cell?, Array.getElem?_eq_none hge] at h

theorem below_grow {B : Nat} {a w : World} (h : Below B a w) (hB : B ≤ w.heap.size) (os : Array Obj) : Below B a (Sort.grow w os) :=
  ⟨h.os, h.tape, h.output, by have := h.size; simp [Sort.grow]; omega, fun i hi => by
    rw [← h.block i hi]
    simp [Sort.grow, Array.getElem?_append, show i < w.heap.size from by omega]⟩

end Go.Proofs.YtgiodfpkkdaflaaDoor

namespace Go.Proofs.YtgiodfpkkdaflaaDoor
open Go.RowKit Go.Shelf

/-- The table that package bloom reads. -/
structure LaidM (w : World) : Prop where
  halves : Lib.TabIs Tryd.prog w "bedrock/raw.halves" .u32 halvesL
theorem glob_halvesM : Tryd.prog.globalNamed "bedrock/raw.halves" = some 1 := by kernel_rfl
theorem LaidM.on {w w' : World} (h : LaidM w) (hb : Below w.heap.size w w') : LaidM w' :=
  ⟨var?_below hb glob_halvesM (lt_of_cell (h.halves.cell glob_halvesM 0 (by decide))) h.halves⟩
theorem LaidM.at_ {B : Nat} {w w' : World} (h : LaidM w) (hb : Below B w w') (hB : w.heap.size ≤ B) : LaidM w' := h.on (hb.mono hB)

theorem u32_or_nat (a b : Nat) (ha : a < 4294967296) (hb : b < 4294967296) : bits .or .u32 (a : Int) (b : Int) = ((a ||| b : Nat) : Int) := by
  have hx : a ||| b < 2 ^ 32 := Nat.or_lt_two_pow (by omega) (by omega)
  show IntKind.u32.wrap ((BitVec.ofInt 32 (a : Int) ||| BitVec.ofInt 32 (b : Int)).toNat : Int) = _
  rw [BitVec.toNat_or, ofInt_u32 a ha, ofInt_u32 b hb, IntKind.wrap_u32]
  omega
/-- A sum turned about. -/
theorem turn_or (h : Nat) (hh : h < 4294967296) : h * 32768 % 4294967296 ||| h / 131072 = turnH h := by
  unfold turnH
  have e1 : h * 32768 % 4294967296 = 2 ^ 15 * (h % 131072) := by omega
  have hb : h / 131072 < 2 ^ 15 := by omega
  rw [e1, ← Nat.two_pow_add_eq_or_of_lt hb]
  omega

/-- The bits of a filter of n bytes. -/
abbrev Elt (n : Nat) := { p : Nat // p < 8 * n }
def eltP (n : Nat) (hn : 0 < n) (v : Nat) : Elt n := ⟨v % (8 * n), Nat.mod_lt _ (by omega)⟩
/-- A key's places, the first k. -/
def eltsP (n : Nat) (hn : 0 < n) (h d k : Nat) : List (Elt n) := (List.range k).map fun i => eltP n hn ((h + i * d) % 4294967296)
theorem eltsP_succ (n : Nat) (hn : 0 < n) (h d k : Nat) : eltsP n hn h d (k + 1) = eltsP n hn h d k ++ [eltP n hn ((h + k * d) % 4294967296)] := by
  unfold eltsP
  rw [List.range_succ, List.map_append]
  rfl
theorem eltsP_len (n : Nat) (hn : 0 < n) (h d k : Nat) : (eltsP n hn h d k).length = k := by unfold eltsP; rw [List.length_map, List.length_range]
theorem eltsP_val (n : Nat) (hn : 0 < n) (h d : Nat) (hh : h < 4294967296) : ∀ k, (eltsP n hn h d k).map Subtype.val = placesP h d n k
  | 0 => rfl
  | k + 1 => by rw [eltsP_succ, List.map_append, eltsP_val n hn h d hh k, placesP_snoc _ _ _ _ hh]; rfl
theorem eltsP_take (n : Nat) (hn : 0 < n) (h d : Nat) {j k : Nat} (hj : j ≤ k) : eltsP n hn h d j <+: eltsP n hn h d k := by
  obtain ⟨m, rfl⟩ : ∃ m, k = j + m := ⟨k - j, by omega⟩
  unfold eltsP
  rw [List.range_add, List.map_append]
  exact List.prefix_append _ _

set_option maxRecDepth 100000 in
set_option maxHeartbeats 2000000 in
theorem bplaces_any (key : ByteArray) (n k : Nat) (w : World) :
    Calls Tryd.prog 25 #[.string key, .int .i64 (n : Int), .int .i64 (k : Int)] w fun e w' => e = .returned (.func (.func 36) #[] #[.pointer (some ⟨w.heap.size, 0, none⟩), .pointer (some ⟨w.heap.size + 2, 0, none⟩), .pointer (some ⟨w.heap.size + 1, 0, none⟩)]) ∧
      w' = ((w.alloc (.cells #[.string key] 9)).alloc (.cells #[.int .i64 (n : Int)] 3)).alloc (.cells #[.int .i64 (k : Int)] 3) := by
  have hmf : ∀ (fn : Fn) (first cap : Array Value) (w : World), (Instr.makeFunc fn first cap).run Tryd.prog w = .ok (.func fn first cap) w := fun _ _ _ _ => rfl
  go_enter Tryd.func25, Tryd.ntmps25
  go_wp2_with fail
  go_ret
  exact ⟨rfl, rfl⟩

/-- A cell that a round keeps. -/
def KpC (b : Nat) (W W' : World) : Prop := ∀ v, W.cell? ⟨b, 0, none⟩ = some v → W'.cell? ⟨b, 0, none⟩ = some v
theorem KpC.refl (b : Nat) (W : World) : KpC b W W := fun _ h => h
theorem kpC_t {b : Nat} {A B C : World} (h : KpC b A B) (k : KpC b B C) : KpC b A C := fun v hv => k v (h v hv)
theorem kpC_b {b : Nat} (W : World) (l : Nat) (o o' : Obj) (h : W.heap[l]? = some o) (ho : o.isCells = false) : KpC b W (W.putObj l o') :=
  fun _ hv => cell_kept hv (grownBy_putObj' W l o') (fun r e => by cases e; exact ⟨o, h, ho⟩)
set_option maxRecDepth 100000 in
set_option maxHeartbeats 4000000 in
theorem places1_in {m : Nat} (key : ByteArray) (hs : key.size ≤ 9223372036854775807) (n k h d : Nat) (hn0 : 0 < n) (hn : n ≤ 100000000000) (hk : k ≤ 1000) (hh : crc key.data.toList = h) (hd : turnH h = d) (hm : 1 ≤ m) (l b0 b1 b2 : Nat) (J Jx : List (Elt n) → World → Prop)
    (hY : ∀ pre x W, J pre W → pre.length < k → YieldAt Fence.wide (m - 1) Tryd.prog l #[.int .i64 (x.1 : Int)] W fun e W' =>
      (e = .returned (.bool true) ∧ J (pre ++ [x]) W' ∧ KpC b2 W W') ∨ (e = .returned (.bool false) ∧ Jx (pre ++ [x]) W'))
    (W : World) (hT : LaidM W) (c0 : W.cell? ⟨b0, 0, none⟩ = some (.string key)) (c1 : W.cell? ⟨b1, 0, none⟩ = some (.int .i64 (k : Int))) (c2 : W.cell? ⟨b2, 0, none⟩ = some (.int .i64 (n : Int))) (h0 : J [] W) :
    CallsIn Fence.wide m Tryd.prog 36 #[.func (.yield l) #[] #[], .pointer (some ⟨b0, 0, none⟩), .pointer (some ⟨b1, 0, none⟩), .pointer (some ⟨b2, 0, none⟩)] W fun e W' => (∃ v, e = .returned v) ∧
      ((∃ ys, ys = eltsP n hn0 h d k ∧ J ys W') ∨ (∃ pre, pre <+: eltsP n hn0 h d k ∧ Jx pre W')) := by
  have CS := Lib.hid (sum_any key W hs hT.halves)
  rw [hh] at CS
  have hlt : h < 4294967296 := by rw [← hh]; unfold crc; omega
  have hdl : d < 4294967296 := by rw [← hd]; unfold turnH; omega
  have hor : bits .or .u32 ((h : Int) * 32768 % 4294967296) ((h : Int) / 131072) = (d : Int) := by
    rw [show (h : Int) * 32768 % 4294967296 = ((h * 32768 % 4294967296 : Nat) : Int) from by omega, show (h : Int) / 131072 = ((h / 131072 : Nat) : Int) from by omega, u32_or_nat _ _ (by omega) (by omega), turn_or h hlt, hd]
  clear hh hd hs hT
  have HY := Lib.hid hY
  have H0 := Lib.hid h0
  have m1 : IntKind.i64.wrap (8 * (n : Int)) = 8 * (n : Int) := by rw [IntKind.wrap_i64]; omega
  have m2 : ¬ (8 * (n : Int)) = 0 := by omega
  have m3 : ¬ n = 0 := by omega
  have m4 : (0 : Int) ≤ 8 * (n : Int) := by omega
  clear hY h0
  refine callsIn_of_wp Tryd.func36 rfl trivial ?_ rfl
  simp only [Tryd.ntmps36, List.size_toArray, List.length_cons, List.length_nil, Nat.reduceAdd, Nat.reduceSub, Array.replicate_succ, Array.replicate_zero, List.push_toArray, List.append_toArray, List.nil_append, List.cons_append]
  gi_wp2_with (refine ⟨trivial, ?_⟩; gi_at_call 37; refine (callsIn_wide.2 CS.out).mono ?_; rintro e w1 ⟨rfl, rfl⟩)
  clear c0 c1 hor CS
  gi_loopw [5, 16] (fun s5 s16 wr => ∃ i hc : Nat, i ≤ k ∧ hc < 4294967296 ∧ s5 = .int .u32 (hc : Int) ∧ s16 = .int .i64 (i : Int) ∧ Hid (hc = (h + i * d) % 4294967296) ∧ Hid (J (eltsP n hn0 h d i) wr) ∧ wr.cell? ⟨b2, 0, none⟩ = some (.int .i64 (n : Int))) (fun _ s16 _ => k - (intOf s16).toNat)
  case atStart => exact ⟨0, h, by omega, hlt, rfl, rfl, Lib.hid (by omega), H0, c2⟩
  case round =>
    obtain ⟨i, hc, hi, hcl, rfl, rfl, HC, HJ, q2⟩ := hrel
    clear H0 c2
    by_cases hik : i < k
    · have i1 : (i : Int) < (k : Int) := by omega
      obtain ⟨fn, tmps, assign, body, hy, hR⟩ := HY.out _ (eltP n hn0 hc) wr HJ.out (by rw [eltsP_len]; exact hik)
      have hsn : eltsP n hn0 h d i ++ [eltP n hn0 hc] = eltsP n hn0 h d (i + 1) := by rw [eltsP_succ, HC.out]
      rw [hsn] at hR
      have hlen : eltsP n hn0 h d (i + 1) <+: eltsP n hn0 h d k := eltsP_take n hn0 h d hik
      have x1 : (hc : Int).tmod (8 * (n : Int)) = ((hc % (8 * n) : Nat) : Int) := by rw [Int.tmod_eq_emod_of_nonneg (by omega)]; push_cast; rfl
      have x2 : (hc : Int) % (8 * (n : Int)) = ((hc % (8 * n) : Nat) : Int) := by push_cast; rfl
      have hv : (eltP n hn0 hc).1 = hc % (8 * n) := rfl
      rw [hv] at hy
      obtain ⟨v, hve⟩ : ∃ v : Nat, hc % (8 * n) = v := ⟨_, rfl⟩
      rw [hve] at hy x1 x2
      have HC2 : Hid ((hc + d) % 4294967296 = (h + (i + 1) * d) % 4294967296) := Lib.hid (by rw [HC.out, Nat.mod_add_mod, Nat.add_mul]; congr 1; omega)
      clear hsn hv hve HJ HC
      gi_wp2
      refine hR.mono ?_
      rintro e W3 (⟨rfl, hJ3, hk3⟩ | ⟨rfl, hJx3⟩)
      · have q3 : W3.cell? ⟨b2, 0, none⟩ = some (.int .i64 (n : Int)) := hk3 _ q2
        have HJ3 := Lib.hid hJ3
        clear hJ3 hk3 hR hy q2
        gi_wp2
        go_roundw
        case rel => exact ⟨i + 1, (hc + d) % 4294967296, by omega, Nat.mod_lt _ (by decide), congrArg (Value.int .u32) (by omega), by go_num, HC2, HJ3, q3⟩
        case measure => simp [intOf]; omega
      · gi_wp2
        refine bodyPost_ret (results_none rfl _ _ _) rfl ?_
        exact ⟨⟨_, rfl⟩, .inr ⟨_, hlen, hJx3⟩⟩
    · obtain rfl : i = k := by omega
      gi_wp2
      all_goals (try (refine ⟨fun _ h => (by cases h), ?_⟩; gi_wp2))
      go_end0
      exact ⟨⟨_, rfl⟩, .inl ⟨_, rfl, HJ.out⟩⟩
/-- The iterator's contract. -/
theorem places_stops {m : Nat} (key : ByteArray) (hs : key.size ≤ 9223372036854775807) (n k : Nat) (hn0 : 0 < n) (hn : n ≤ 100000000000) (hk : k ≤ 1000) (hm : 1 ≤ m) (w w0 : World) (hT : LaidM w)
    (hB : Below w.heap.size w w0) (b0 b1 b2 : Nat) (h0 : b0 < w0.heap.size) (h1 : b1 < w0.heap.size) (h2 : b2 < w0.heap.size)
    (c0 : w0.cell? ⟨b0, 0, none⟩ = some (.string key)) (c1 : w0.cell? ⟨b1, 0, none⟩ = some (.int .i64 (k : Int))) (c2 : w0.cell? ⟨b2, 0, none⟩ = some (.int .i64 (n : Int))) :
    SeqStopsK Fence.wide m Tryd.prog 36 #[.pointer (some ⟨b0, 0, none⟩), .pointer (some ⟨b1, 0, none⟩), .pointer (some ⟨b2, 0, none⟩)] (fun x : Elt n => #[.int .i64 (x.1 : Int)]) (KpC b2)
      (fun ys => ys = eltsP n hn0 (crc key.data.toList) (turnH (crc key.data.toList)) k) (fun pre => pre <+: eltsP n hn0 (crc key.data.toList) (turnH (crc key.data.toList)) k) k w0 :=
  fun l J Jx W hW _ _ hY hJ0 => places1_in key hs n k _ _ hn0 hn hk rfl rfl hm l b0 b1 b2 J Jx hY W ((hT.on hB).on hW) ((hW.cell (p := ⟨b0, 0, none⟩) h0).trans c0) ((hW.cell (p := ⟨b1, 0, none⟩) h1).trans c1) ((hW.cell (p := ⟨b2, 0, none⟩) h2).trans c2) hJ0
end Go.Proofs.YtgiodfpkkdaflaaDoor

namespace Go.Proofs.YtgiodfpkkdaflaaDoor
section
variable {P : Program} {ops : Array Oper} {C : World → Prop} {Q : Act → Prop} {a : Act} {o : Oper} {rest : List Oper}
theorem wpQuiet_skip (hw : Region.wanted o (yielded ops a.tmps) = false) (h : wpQuiet P ops C Q rest (a.put o.dst undef)) : wpQuiet P ops C Q (o :: rest) a := by
  unfold wpQuiet
  rw [hw]
  exact h
theorem wpQuiet_take (hw : Region.wanted o (yielded ops a.tmps) = true) (v : Value) (hy : ∀ w, C w → o.quietAt P a C w v) (h : wpQuiet P ops C Q rest (a.put o.dst v)) : wpQuiet P ops C Q (o :: rest) a := by
  unfold wpQuiet
  rw [if_pos hw]
  exact ⟨v, hy, h⟩
theorem wp_region_class {id : Nat} {Q : Exit → Act → World → Prop} {a : Act} {w : World} {l : List Oper} (C : World → Prop) (hm : P.follows .mixedOrders = true) (hB : Region.lexB .any l.toArray = true) (hC : C w.drew)
    (h : wpQuiet P l.toArray C (fun a' => ∀ w', C w' → Q .normal a' w') l a) : (Code.region id l.toArray true).wp P Q a w :=
  wp_region_quiet (C := C) hm hB hC (by simpa using h)
end
open Go.RowKit
/-! ### A call within a class of worlds: all that come out of one world -/
theorem cls_call {P : Program} {f : FuncId} {args : Array Value} {W0 W : World} {R : Ending} (hW : Below W0.heap.size W0 W) (h : Calls P f args W fun e w' => e = R ∧ Below W.heap.size W w') :
    Calls P f args W fun e w' => e = R ∧ Below W0.heap.size W0 w' := h.mono fun _ _ ⟨he, hb⟩ => ⟨he, hW.trans (hb.mono hW.size)⟩
theorem below_of_eq {w w' : World} (h : w' = w) : Below w.heap.size w w' := by rw [h]; exact Below.refl _ _
theorem below_of_eq' {w w' : World} (h : w = w') : Below w.heap.size w w' := by rw [h]; exact Below.refl _ _
end Go.Proofs.YtgiodfpkkdaflaaDoor

namespace Go.Proofs.YtgiodfpkkdaflaaDoor
open Go.RowKit

/-- Is a byte's bit 0? -/
theorem bit_and : ∀ j : Nat, j < 8 → ∀ c : Nat, c < 256 → (bits .and .u8 (c : Int) ((2 : Int) ^ j % 256) == 0) = !c.testBit j := by decide +kernel
/-- May, of what came in. -/
def mayT (f : ByteArray) (h : Nat) : Bool :=
  if f.size < 2 then true
  else if (f.data.toList.getD (f.size - 1) 0).toNat < 1 ∨ 30 < (f.data.toList.getD (f.size - 1) 0).toNat then true
  else mayL (f.data.toList.map UInt8.toNat) h (f.size - 1) (f.data.toList.getD (f.size - 1) 0).toNat
theorem may_snoc (L : List Nat) (h d n k : Nat) (hh : h < 4294967296) : (placesP h d n (k + 1)).all (hasB L) = ((placesP h d n k).all (hasB L) && hasB L (((h + k * d) % 4294967296) % (8 * n))) := by
  rw [placesP_snoc _ _ _ _ hh, List.all_append, List.all_cons, List.all_nil, Bool.and_true]
theorem placesP_get (d n : Nat) : ∀ (k h i : Nat), h < 4294967296 → i < k → (placesP h d n k)[i]? = some (((h + i * d) % 4294967296) % (8 * n))
  | 0, h, i, h1, hi => by omega
  | k + 1, h, 0, h1, hi => by
    rw [placesP, List.getElem?_cons_zero, Nat.zero_mul, Nat.add_zero, Nat.mod_eq_of_lt h1]
  | k + 1, h, i + 1, h1, hi => by
    rw [placesP, List.getElem?_cons_succ, placesP_get d n k _ i (Nat.mod_lt _ (by decide)) (by omega), Nat.mod_add_mod, Nat.add_mul, Nat.one_mul, show h + d + i * d = h + (i * d + d) from by omega]
theorem getD_byte (f : ByteArray) (i : Nat) (h : i < f.size) : f.data.toList.getD i 0 = f[i] := by
  rw [List.getD_eq_getElem?_getD, List.getElem?_eq_getElem (by simpa using h)]
  rfl
set_option maxRecDepth 100000 in
set_option maxHeartbeats 4000000 in
theorem rmay_any (f key : ByteArray) (w : World) (hs : key.size ≤ 9223372036854775807) (hf : f.size ≤ 1000000) :
    Calls Tryd.prog 18 #[.string f, .string key] w fun e w' => e = .returned (.bool (mayT f (crc key.data.toList))) ∧ Below w.heap.size w w' := by
  obtain ⟨r, hr⟩ : ∃ r, mayT f (crc key.data.toList) = r := ⟨_, rfl⟩
  rw [hr]
  unfold mayT at hr
  by_cases h2 : f.size < 2
  · rw [if_pos h2] at hr
    subst hr
    have g1 : wrap64 ((f.size : Int) - 1) = (f.size : Int) - 1 := by unfold wrap64; omega
    have g2 : IntKind.i64.wrap ((f.size : Int) - 1) = (f.size : Int) - 1 := by rw [IntKind.wrap_i64]; omega
    have g3 : (f.size : Int) - 1 < 1 := by omega
    have g4 : decide ((f.size : Int) - 1 < 1) = true := decide_eq_true g3
    clear hs hf h2
    go_enter Tryd.func18, Tryd.ntmps18
    go_wp2_with fail
    go_ret
    exact ⟨rfl, Below.refl _ _⟩
  · rw [if_neg h2] at hr
    obtain ⟨n, hn⟩ : ∃ n, f.size = n + 1 := ⟨f.size - 1, by omega⟩
    have hnl : n < f.size := by omega
    rw [show f.size - 1 = n from by omega, getD_byte f n hnl] at hr
    obtain ⟨u, hu⟩ : ∃ u : UInt8, f[n] = u := ⟨_, rfl⟩
    have hu8 := UInt8.toNat_lt u
    rw [hu] at hr
    have g1 : wrap64 ((f.size : Int) - 1) = (n : Int) := by unfold wrap64; omega
    have g2 : IntKind.i64.wrap ((f.size : Int) - 1) = (n : Int) := by rw [IntKind.wrap_i64]; omega
    have g3 : ¬ (n : Int) < 1 := by omega
    have g4 : decide ((n : Int) < 1) = false := decide_eq_false g3
    have g5 : (n : Int) < (f.size : Int) := by omega
    have g6 : (0 : Int) ≤ (n : Int) := by omega
    have HN := Lib.hid hn
    have hsz : n + 1 ≤ 1000000 := by omega
    clear hn
    by_cases hb : u.toNat < 1 ∨ 30 < u.toNat
    · rw [if_pos hb] at hr
      subst hr
      rcases hb with hb | hb
      · have b1 : (u.toNat : Int) < 1 := by omega
        have b2 : decide ((u.toNat : Int) < 1) = true := decide_eq_true b1
        clear hs hf h2 hb hsz HN
        go_enter Tryd.func18, Tryd.ntmps18
        go_wp2_with fail
        go_ret
        exact ⟨rfl, Below.refl _ _⟩
      · have b1 : (30 : Int) < (u.toNat : Int) := by omega
        have b2 : decide ((30 : Int) < (u.toNat : Int)) = true := decide_eq_true b1
        have b3 : ¬ (u.toNat : Int) < 1 := by omega
        have b4 : decide ((u.toNat : Int) < 1) = false := decide_eq_false b3
        clear hs hf h2 hb hsz HN
        go_enter Tryd.func18, Tryd.ntmps18
        go_wp2_with fail
        go_ret
        exact ⟨rfl, Below.refl _ _⟩
    · rw [if_neg hb] at hr
      obtain ⟨k, hk⟩ : ∃ k, u.toNat = k := ⟨_, rfl⟩
      rw [hk] at hr hb
      have b1 : ¬ (k : Int) < 1 := by omega
      have b2 : decide ((k : Int) < 1) = false := decide_eq_false b1
      have b3 : ¬ (30 : Int) < (k : Int) := by omega
      have b4 : decide ((30 : Int) < (k : Int)) = false := decide_eq_false b3
      have CP := Lib.hid (rplaces_any key n k w hs (by omega) (by omega) (by omega))
      have hlt : crc key.data.toList < 4294967296 := by unfold crc; omega
      obtain ⟨h, hh⟩ : ∃ h, crc key.data.toList = h := ⟨_, rfl⟩
      rw [hh] at CP hlt hr
      clear hs hf h2 hb hh
      go_enter Tryd.func18, Tryd.ntmps18
      go_wp2_with fail
      refine CP.out.mono ?_
      rintro e w1 ⟨A, c, rfl, ho, hb1⟩
      have HO := Lib.hid ho
      have HB := Lib.hid hb1
      clear ho hb1 CP
      have n0 : 0 < n := by omega
      go_wp2_with fail
      go_loopw [7] (fun s7 wr => ∃ i : Nat, i ≤ k ∧ s7 = .int .i64 (i : Int) ∧ Hid ((placesP h (turnH h) n i).all (hasB (f.data.toList.map UInt8.toNat)) = true) ∧ Hid (Below w1.heap.size w1 wr)) (fun s7 _ => k - (intOf s7).toNat)
      case atStart => exact ⟨0, by omega, rfl, Lib.hid rfl, Lib.hid (Below.refl _ _)⟩
      case round =>
        obtain ⟨i, hi, rfl, HA, HW⟩ := hrel
        by_cases hik : i < k
        · as_aux_lemma =>
          have hil : i < (placesH h n k).length := by unfold placesH; rw [placesP_length]; exact hik
          obtain ⟨p, hp⟩ : ∃ p, (placesH h n k)[i]? = some p := ⟨_, List.getElem?_eq_getElem hil⟩
          have hpl : p < 8 * n := placesP_lt _ _ n0 _ _ p (List.mem_of_getElem? hp)
          have hpm : ((placesH h n k).map Int.ofNat)[i]? = some (Int.ofNat p) := by rw [List.getElem?_map, hp]; rfl
          have HO' := Lib.hid (HO.out.below HW.out)
          obtain ⟨g, c', cur, hv, hg, hh⟩ := Own.some_ HO'.out (by rw [List.length_map]; omega)
          injection hv with e1 e2 e3
          subst e1
          have y0 : wr.cell? ⟨g, i, none⟩ = some (.int .i64 (p : Int)) := by
            have h9 := Own.cells (j := 0) HO'.out hpm (by decide) rfl
            rwa [show i * elInts.sz + 0 = i from by show i * 1 + 0 = _; omega] at h9
          have i1 : (i : Int) < (k : Int) := by omega
          obtain ⟨q, hq⟩ : ∃ q, p / 8 = q := ⟨_, rfl⟩
          obtain ⟨j, hj⟩ : ∃ j, p % 8 = j := ⟨_, rfl⟩
          have z1 : (p : Int) / 8 = (q : Int) := by omega
          have z2 : (p : Int) % 8 = (j : Int) := by omega
          have z3 : (q : Int) < (f.size : Int) := by have := HN.out; omega
          have z4 : (0 : Int) ≤ (q : Int) := by omega
          have hqf : q < f.size := by have := HN.out; omega
          obtain ⟨b, hb⟩ : ∃ b : UInt8, f[q] = b := ⟨_, rfl⟩
          have hba := bit_and j (by omega) b.toNat (UInt8.toNat_lt b)
          have hbp : hasB (f.data.toList.map UInt8.toNat) p = b.toNat.testBit j := by
            unfold hasB
            rw [hq, hj, List.getD_eq_getElem?_getD, List.getElem?_map, List.getElem?_eq_getElem (by simpa using hqf), ← hb]
            rfl
          have hmem := List.mem_of_getElem? hp
          have hsn := may_snoc (f.data.toList.map UInt8.toNat) h (turnH h) n i hlt
          have hpv : ((h + i * turnH h) % 4294967296) % (8 * n) = p := by
            have e9 := placesP_get (turnH h) n k h i hlt hik
            unfold placesH at hp
            rw [e9] at hp
            exact Option.some.inj hp
          rw [hpv, HA.out, hbp, Bool.true_and] at hsn
          clear hh hg hpm hil e2 e3 hp hpv
          cases ht : b.toNat.testBit j
          · rw [ht] at hba hbp
            have hrf : r = false := by
              rw [← hr]
              unfold mayL
              rw [List.all_eq_false]
              exact ⟨p, hmem, by rw [hbp]; decide⟩
            subst hrf
            simp only [Bool.not_false] at hba
            clear ht hsn hbp hmem
            go_wp2_with fail
            go_quiet (fail)
            go_wp2_with fail
            go_ret
            exact ⟨rfl, HB.out.trans ((below_drewN HW.out _).mono HB.out.size)⟩
          · rw [ht] at hba hsn
            simp only [Bool.not_true] at hba
            have Hsn := Lib.hid hsn
            clear ht hsn hbp hmem
            go_wp2_with fail
            go_quiet (fail)
            go_wp2_with fail
            go_roundw
            case rel => exact ⟨i + 1, by omega, by go_num, Hsn, Lib.hid (below_drewN HW.out _)⟩
            case measure => simp [intOf]; omega
        · as_aux_lemma =>
          obtain rfl : i = k := by omega
          have hrt : r = true := by rw [← hr]; exact HA.out
          subst hrt
          go_wp2_with fail
          go_ret
          exact ⟨rfl, HB.out.trans (HW.out.mono HB.out.size)⟩
end Go.Proofs.YtgiodfpkkdaflaaDoor

namespace Go.Proofs.YtgiodfpkkdaflaaDoor

theorem rowsIn_round {l n : Nat} {P : Program} {row : String} {args : Array Value} {w : World} {R : Value → World → Prop} (h : _root_.Go.Rows P row args w R) : _root_.Go.RowsIn (Fence.wide.inRound l) n P row args w R :=
  fun c cs _ => let ⟨v, w', r, s⟩ := h c cs; ⟨v, w', r, stepsIn_wide.2 s⟩
theorem callsIn_round {l n : Nat} {P : Program} {f : FuncId} {args : Array Value} {w : World} {R : Ending → World → Prop} (h : Calls P f args w R) : CallsIn (Fence.wide.inRound l) n P f args w R := CallsIn.inRound l (callsIn_wide.2 h)
/-- An operation that is no defer statement. -/
theorem wp_round {l n : Nat} {P : Program} {o : Oper} {a : Act} {w : World} {K : Act → World → Prop} {Q : Exit → Act → World → Prop} (hd : ∀ c, o.op ≠ .defer c) (h : o.wp P a w K Q) : o.wpIn (Fence.wide.inRound l) n P a w K Q := by
  unfold Oper.wpIn
  refine ⟨fun _ _ => trivial, ?_⟩
  rw [Oper.semAt_plain _ _ _ hd]
  unfold Oper.wp at h
  generalize (execOp a.eval o).run P w = r at *
  cases r with
  | ok x w' =>
    cases x <;> simp only [Oper.upon, Oper.uponIn] at h ⊢ <;>
      first
        | exact h
        | exact ⟨fun e => (by cases e), callsIn_round h⟩
        | exact ⟨fun e => (by cases e), rowsIn_round h⟩
  | halt x w' => cases x <;> simp only [Oper.upon, Oper.uponIn] at h ⊢ <;> exact h
/-- Each operation is no defer statement, and has no guard. -/
def plainB (ops : Array Oper) : Bool := ops.toList.all fun o => (match o.op with | .defer _ => false | _ => true) && o.guard.isNone
theorem plainB_at {ops : Array Oper} (h : plainB ops = true) {i : Nat} {o : Oper} (ho : ops[i]? = some o) : (∀ c, o.op ≠ .defer c) ∧ o.guard = none := by
  unfold plainB at h
  rw [List.all_eq_true] at h
  have h1 := h o (Array.mem_toList_iff.2 (Array.mem_of_getElem? ho))
  rw [Bool.and_eq_true] at h1
  refine ⟨fun c hc => ?_, Option.isNone_iff_eq_none.1 h1.2⟩
  rw [hc] at h1
  exact absurd h1.1 (by simp)
/-- The orders of a region. -/
theorem wpAny_round {l n : Nat} {P : Program} {md : Region.Mode} {ops : Array Oper} {Q : Exit → Act → World → Prop} (hB : plainB ops = true) (hQ : ¬ LetsOut Q) :
    ∀ (fuel : Nat) (listed : Array Bool) (a : Act) (w : World), wpAny P md ops Q fuel listed a w → wpAnyIn (Fence.wide.inRound l) n P md ops Q fuel listed a w
  | 0, _, _, _, h => h
  | fuel + 1, listed, a, w, h => by
    refine ⟨h.1, fun i hi => ?_⟩
    have h1 := h.2 i hi
    unfold wpOp at h1
    unfold wpOpIn
    cases ho : ops[i]? with
    | none =>
      rw [ho] at h1
      exact wpAny_round hB hQ fuel _ _ _ h1
    | some o =>
      rw [ho] at h1
      have hw : Region.wanted o (yielded ops a.tmps) = true := by simp [Region.wanted, (plainB_at hB ho).2]
      simp only [hw, if_true] at h1 ⊢
      rcases h1 with h1 | ⟨_, h1⟩
      · exact wp_round (plainB_at hB ho).1 (Oper.wp_mono (fun a' w' h' => wpAny_round hB hQ fuel _ a' w' h') h1)
      · exact absurd h1 hQ
end Go.Proofs.YtgiodfpkkdaflaaDoor

namespace Go.Proofs.YtgiodfpkkdaflaaDoor
open Go.RowKit Go.Shelf

theorem blkM_row {W : World} {g B : Nat} {t : TypeId} {cs : Array Value} {row : Option Nat} (h : Blk W g t cs) (hr : ∀ r, row = some r → B ≤ r ∧ ∃ o : Obj, W.heap[r]? = some o ∧ o.isCells = false) : some g ≠ row := by
  intro e
  obtain ⟨_, o, h1, h2⟩ := hr g e.symm
  unfold Blk at h
  rw [h] at h1
  cases h1
  cases h2

/-- Is a byte's bit 0? -/
theorem bit_shr : ∀ j : Nat, j < 8 → ∀ c : Nat, c < 256 → (bits .and .u8 ((c : Int) / 2 ^ j) 1 == 0) = !c.testBit j := by decide +kernel
set_option maxRecDepth 100000 in
set_option maxHeartbeats 4000000 in
theorem bmay_any (f key : ByteArray) (w : World) (hT : LaidM w) (hs : key.size ≤ 9223372036854775807) (hf : f.size ≤ 100000000000) :
    Calls Tryd.prog 17 #[.string f, .string key] w fun e w' => e = .returned (.bool (mayT f (crc key.data.toList))) ∧ Below w.heap.size w w' := by
  obtain ⟨r, hr⟩ : ∃ r, mayT f (crc key.data.toList) = r := ⟨_, rfl⟩
  rw [hr]
  unfold mayT at hr
  have CP := fun (n k : Nat) W => Lib.hid (bplaces_any key n k W)
  refine (callsIn_wide (n := 5)).1 ?_
  by_cases h2 : f.size < 2
  · rw [if_pos h2] at hr
    subst hr
    have g1 : wrap64 ((f.size : Int) - 1) = (f.size : Int) - 1 := by unfold wrap64; omega
    have g2 : IntKind.i64.wrap ((f.size : Int) - 1) = (f.size : Int) - 1 := by rw [IntKind.wrap_i64]; omega
    have g3 : (f.size : Int) - 1 < 1 := by omega
    have g4 : decide ((f.size : Int) - 1 < 1) = true := decide_eq_true g3
    clear hs hf h2 CP hT
    refine callsIn_of_wp_marks Tryd.func17 rfl trivial ?_ rfl
    simp only [Tryd.ntmps17, List.size_toArray, List.length_cons, List.length_nil, Nat.reduceAdd, Nat.reduceSub, Array.replicate_succ, Array.replicate_zero, List.push_toArray, List.append_toArray, List.nil_append, List.cons_append]
    gi_wp2
    refine ⟨.bool true, ?_, rfl, (((Below.refl _ w).alloc (Nat.le_refl _) _).alloc (by simp) _)⟩
    simp [results, Tryd.f17, go_sem]
  · rw [if_neg h2] at hr
    obtain ⟨n, hn⟩ : ∃ n, f.size = n + 1 := ⟨f.size - 1, by omega⟩
    have hnl : n < f.size := by omega
    rw [show f.size - 1 = n from by omega, getD_byte f n hnl] at hr
    obtain ⟨u, hu⟩ : ∃ u : UInt8, f[n] = u := ⟨_, rfl⟩
    have hu8 := UInt8.toNat_lt u
    rw [hu] at hr
    have g1 : wrap64 ((f.size : Int) - 1) = (n : Int) := by unfold wrap64; omega
    have g2 : IntKind.i64.wrap ((f.size : Int) - 1) = (n : Int) := by rw [IntKind.wrap_i64]; omega
    have g3 : ¬ (n : Int) < 1 := by omega
    have g4 : decide ((n : Int) < 1) = false := decide_eq_false g3
    have g5 : (n : Int) < (f.size : Int) := by omega
    have g6 : (0 : Int) ≤ (n : Int) := by omega
    have HN := Lib.hid hn
    have hsz : n + 1 ≤ 100000000000 := by omega
    clear hn
    by_cases hb : u.toNat < 1 ∨ 30 < u.toNat
    · rw [if_pos hb] at hr
      subst hr
      rcases hb with hb | hb
      · have b1 : (u.toNat : Int) < 1 := by omega
        have b2 : decide ((u.toNat : Int) < 1) = true := decide_eq_true b1
        clear hs hf h2 hb hsz HN CP hT
        refine callsIn_of_wp_marks Tryd.func17 rfl trivial ?_ rfl
        simp only [Tryd.ntmps17, List.size_toArray, List.length_cons, List.length_nil, Nat.reduceAdd, Nat.reduceSub, Array.replicate_succ, Array.replicate_zero, List.push_toArray, List.append_toArray, List.nil_append, List.cons_append]
        gi_wp2
        refine ⟨.bool true, ?_, rfl, (((Below.refl _ w).alloc (Nat.le_refl _) _).alloc (by simp) _)⟩
        simp [results, Tryd.f17, go_sem]
      · have b1 : (30 : Int) < (u.toNat : Int) := by omega
        have b2 : decide ((30 : Int) < (u.toNat : Int)) = true := decide_eq_true b1
        have b3 : ¬ (u.toNat : Int) < 1 := by omega
        have b4 : decide ((u.toNat : Int) < 1) = false := decide_eq_false b3
        clear hs hf h2 hb hsz HN CP hT
        refine callsIn_of_wp_marks Tryd.func17 rfl trivial ?_ rfl
        simp only [Tryd.ntmps17, List.size_toArray, List.length_cons, List.length_nil, Nat.reduceAdd, Nat.reduceSub, Array.replicate_succ, Array.replicate_zero, List.push_toArray, List.append_toArray, List.nil_append, List.cons_append]
        gi_wp2
        refine ⟨.bool true, ?_, rfl, (((Below.refl _ w).alloc (Nat.le_refl _) _).alloc (by simp) _)⟩
        simp [results, Tryd.f17, go_sem]
    · rw [if_neg hb] at hr
      obtain ⟨k, hk⟩ : ∃ k, u.toNat = k := ⟨_, rfl⟩
      rw [hk] at hr hb
      have b1 : ¬ (k : Int) < 1 := by omega
      have b2 : decide ((k : Int) < 1) = false := decide_eq_false b1
      have b3 : ¬ (30 : Int) < (k : Int) := by omega
      have b4 : decide ((30 : Int) < (k : Int)) = false := decide_eq_false b3
      have n0 : 0 < n := by omega
      have CP := CP n k
      have HT := Lib.hid hT
      have Hs := Lib.hid hs
      have Hr := Lib.hid hr
      have Hk : Hid (k ≤ 30) := Lib.hid (by omega)
      have Hsz := Lib.hid hsz
      clear hs hf h2 hb hT hr hsz
      refine callsIn_of_wp_marks Tryd.func17 rfl trivial ?_ rfl
      simp only [Tryd.ntmps17, List.size_toArray, List.length_cons, List.length_nil, Nat.reduceAdd, Nat.reduceSub, Array.replicate_succ, Array.replicate_zero, List.push_toArray, List.append_toArray, List.nil_append, List.cons_append]
      gi_wp2_with (refine ⟨trivial, ?_⟩; gi_at_call 25; refine (callsIn_wide.2 (CP _).out).mono ?_; rintro e w' ⟨rfl, rfl⟩)
      have D0 : Blk (((((w.alloc (.cells #[.string f] 9)).alloc (.cells #[.bool false] 4)).alloc (.cells #[.string key] 9)).alloc (.cells #[.int .i64 (n : Int)] 3)).alloc (.cells #[.int .i64 (k : Int)] 3)) w.heap.size 9 #[.string f] := ((((Blk.new _ _ _).alloc _).alloc _).alloc _).alloc _
      have D1 : Blk (((((w.alloc (.cells #[.string f] 9)).alloc (.cells #[.bool false] 4)).alloc (.cells #[.string key] 9)).alloc (.cells #[.int .i64 (n : Int)] 3)).alloc (.cells #[.int .i64 (k : Int)] 3)) (w.heap.size + 1) 4 #[.bool false] := (((Blk.new' (by simp) _ _).alloc _).alloc _).alloc _
      have D2 : Blk (((((w.alloc (.cells #[.string f] 9)).alloc (.cells #[.bool false] 4)).alloc (.cells #[.string key] 9)).alloc (.cells #[.int .i64 (n : Int)] 3)).alloc (.cells #[.int .i64 (k : Int)] 3)) (w.heap.size + 1 + 1) 9 #[.string key] := ((Blk.new' (by simp) _ _).alloc _).alloc _
      have D3 : Blk (((((w.alloc (.cells #[.string f] 9)).alloc (.cells #[.bool false] 4)).alloc (.cells #[.string key] 9)).alloc (.cells #[.int .i64 (n : Int)] 3)).alloc (.cells #[.int .i64 (k : Int)] 3)) (w.heap.size + 1 + 1 + 1) 3 #[.int .i64 (n : Int)] := (Blk.new' (by simp) _ _).alloc _
      have D4 : Blk (((((w.alloc (.cells #[.string f] 9)).alloc (.cells #[.bool false] 4)).alloc (.cells #[.string key] 9)).alloc (.cells #[.int .i64 (n : Int)] 3)).alloc (.cells #[.int .i64 (k : Int)] 3)) (w.heap.size + 1 + 1 + 2) 3 #[.int .i64 (k : Int)] := Blk.new' (by simp) _ _
      have g4 : w.grownBy (((((w.alloc (.cells #[.string f] 9)).alloc (.cells #[.bool false] 4)).alloc (.cells #[.string key] 9)).alloc (.cells #[.int .i64 (n : Int)] 3)).alloc (.cells #[.int .i64 (k : Int)] 3)) none := gnone (gnone (gnone (gnone (World.grownBy_alloc _ _ _) (World.grownBy_alloc _ _ _)) (World.grownBy_alloc _ _ _)) (World.grownBy_alloc _ _ _)) (World.grownBy_alloc _ _ _)
      have hs4 : (((((w.alloc (.cells #[.string f] 9)).alloc (.cells #[.bool false] 4)).alloc (.cells #[.string key] 9)).alloc (.cells #[.int .i64 (n : Int)] 3)).alloc (.cells #[.int .i64 (k : Int)] 3)).heap.size = w.heap.size + 5 := by simp
      generalize (((((w.alloc (.cells #[.string f] 9)).alloc (.cells #[.bool false] 4)).alloc (.cells #[.string key] 9)).alloc (.cells #[.int .i64 (n : Int)] 3)).alloc (.cells #[.int .i64 (k : Int)] 3)) = w4 at *
      have hb4 := below_g g4
      have hS := places_stops (m := 4) key Hs.out n k n0 (by have := Hsz.out; omega) (by have := Hk.out; omega) (by decide) w w4 HT.out hb4 (w.heap.size + 1 + 1) (w.heap.size + 1 + 1 + 2) (w.heap.size + 1 + 1 + 1) (by omega) (by omega) (by omega) (D2.cell 0) (D4.cell 0) (D3.cell 0)
      have hlt : crc key.data.toList < 4294967296 := by unfold crc; omega
      have hval := eltsP_val n n0 (crc key.data.toList) (turnH (crc key.data.toList)) hlt k
      have HV := Lib.hid hval
      clear hval hlt D2 D3 D4 CP
      refine wpIn_rangeFunc_ownF (α := Elt n) rfl (by decide) (gf := 36) (lb := #[.pointer (some ⟨w.heap.size + 1 + 1, 0, none⟩), .pointer (some ⟨w.heap.size + 1 + 1 + 2, 0, none⟩), .pointer (some ⟨w.heap.size + 1 + 1 + 1, 0, none⟩)]) rfl trivial (enters_of Tryd.func36 (by kernel_rfl) rfl)
        hS kpC_t (fun W l o o' _ h ho _ => kpC_b W l o o' h ho) (Below.refl _ _) (fun _ => rfl)
        (fun pre W => (∀ x ∈ pre, hasB (f.data.toList.map UInt8.toNat) x.1 = true) ∧ Blk W w.heap.size 9 #[.string f] ∧ Blk W (w.heap.size + 1) 4 #[.bool false] ∧ Below w.heap.size w W)
        (fun c pre W => c = .ret ∧ (∃ x ∈ pre, hasB (f.data.toList.map UInt8.toNat) x.1 = false) ∧ Blk W (w.heap.size + 1) 4 #[.bool false] ∧ Below w.heap.size w W)
        (fun pre A C row hs hg hr => ⟨hs.1, hs.2.1.grown hg (blkM_row hs.2.1 hr), hs.2.2.1.grown hg (blkM_row hs.2.2.1 hr), hs.2.2.2.grown hg hs.2.2.2.size (fun k hk => by have := (hr k hk).1; omega)⟩)
        (fun c pre A C row hs hg hr => ⟨hs.1, hs.2.1, hs.2.2.1.grown hg (blkM_row hs.2.2.1 hr), hs.2.2.2.grown hg hs.2.2.2.size (fun k hk => by have := (hr k hk).1; omega)⟩)
        ⟨fun x hx => (by cases hx), D0, D1, hb4⟩
        (fun x => { tmps := #[.string f, .string key, .pointer (some ⟨w.heap.size, 0, none⟩), undef, .pointer (some ⟨w.heap.size + 1, 0, none⟩), .int .i64 (n : Int), .int .i64 (k : Int), .int .i64 (x.1 : Int), .string f, .int .i64 (f.size : Int), .int .i64 (n : Int), .int .i64 (n : Int), .bool false, .string f, .int .i64 (n : Int), .int .u8 (k : Int), .int .i64 (k : Int), .int .i64 (k : Int), .bool false, .bool false, .int .i64 (k : Int), .bool false, .bool false, .string key, .int .i64 (n : Int), .int .i64 (k : Int),
          .func (.func 36) #[] #[.pointer (some ⟨w.heap.size + 1 + 1, 0, none⟩), .pointer (some ⟨w.heap.size + 1 + 1 + 2, 0, none⟩), .pointer (some ⟨w.heap.size + 1 + 1 + 1, 0, none⟩)], .int .i64 (x.1 : Int), undef, undef, undef, undef, undef, undef, undef, undef, undef], defers := [] }) ?assign ?body ?done ?stop
      case assign =>
        intro l x W K hK
        have hsem := @Oper.semAt_some
        gi_wp2
        exact hK
      case body =>
        rintro l pre x W ⟨ha, h1, h3, h4⟩ hlt
        have hsem := @Oper.semAt_some
        have y0 := h1.cell 0
        have y1 := h3.cell 0
        have y2 := h3.frozen 0
        obtain ⟨p, hp⟩ := x
        obtain ⟨q, hq⟩ : ∃ q, p / 8 = q := ⟨_, rfl⟩
        obtain ⟨j, hj⟩ : ∃ j, p % 8 = j := ⟨_, rfl⟩
        have z1 : (p : Int) / 8 = (q : Int) := by omega
        have z2 : (p : Int) % 8 = (j : Int) := by omega
        have hqf : q < f.size := by have := HN.out; omega
        obtain ⟨b, hb⟩ : ∃ b : UInt8, f[q] = b := ⟨_, rfl⟩
        obtain ⟨Q, hQ⟩ : ∃ Q : Int, wrap64 (q : Int) = Q := ⟨_, rfl⟩
        have hQq : Q = (q : Int) := by have := Hsz.out; have := HN.out; rw [← hQ]; unfold wrap64; omega
        have z3 : Q < (f.size : Int) := by omega
        have z4 : (0 : Int) ≤ Q := by omega
        have hQl : Q.toNat < f.size := by omega
        have hbQ : f[Q.toNat] = b := by
          have e : Q.toNat = q := by omega
          rw [← hb]
          congr 1
        have hba := bit_shr j (by omega) b.toNat (UInt8.toNat_lt b)
        have hbp : hasB (f.data.toList.map UInt8.toNat) p = b.toNat.testBit j := by
          unfold hasB
          rw [hq, hj, List.getD_eq_getElem?_getD, List.getElem?_map, List.getElem?_eq_getElem (by simpa using hqf), ← hb]
          rfl
        dsimp only
        cases ht : b.toNat.testBit j
        · rw [ht] at hba hbp
          simp only [Bool.not_false] at hba
          clear ht hb hQq hq hqf
          gi_wp2
          exact ⟨KeepsOthers.setCell _ _ _, rfl, ⟨_, List.mem_append_right _ (List.mem_singleton_self _), hbp⟩, h3.set_ 0 _, h4.setCell (p := ⟨w.heap.size + 1, 0, none⟩) (by simp) _⟩
        · rw [ht] at hba hbp
          simp only [Bool.not_true] at hba
          clear ht hb hQq hq hqf
          gi_wp2
          exact ⟨KeepsOthers.refl _, KpC.refl _ _, fun x hx => (List.mem_append.1 hx).elim (ha x) (fun e => by rw [List.mem_singleton] at e; subst e; exact hbp), h1, h3, h4⟩
      case done =>
        rintro D xs W hD rfl ⟨ha, h1, h3, h4⟩ hK
        have y1 := h3.cell 0
        have y2 := h3.frozen 0
        have hrt : r = true := by
          rw [← Hr.out]
          unfold mayL placesH
          rw [← HV.out, List.all_map]
          rw [List.all_eq_true]
          exact fun x hx => ha x hx
        subst hrt
        gi_wp2
        have hK' := (KeepsOthers.setCell W ⟨w.heap.size + 1, 0, none⟩ (.bool true)).same D _ hK rfl
        have h5 := h3.set_ 0 (.bool true)
        refine ⟨by simp, .inl ⟨_, _, rfl, run_takeDeferred hK', ?_⟩⟩
        have hc5 := (h5.grown (grownBy_putObj' _ D (.deferred none)) (fun e => by cases e; unfold Blk at h5; rw [hK'] at h5; cases h5)).cell 0
        refine ⟨.bool true, ?_, rfl, (h4.setCell (p := ⟨w.heap.size + 1, 0, none⟩) (by simp) _).trans (belowK_b (w := w) (Nat.le_refl _) _ D _ _ (by omega) hK' rfl rfl)⟩
        simp [results, Tryd.f17, go_sem, hc5]
      case stop =>
        rintro D c xs W hD hpre ⟨rfl, ⟨x, hx, hb⟩, h3, h4⟩ hK
        have hrf : r = false := by
          rw [← Hr.out]
          unfold mayL placesH
          rw [← HV.out, List.all_map]
          rw [List.all_eq_false]
          exact ⟨x, hpre.subset hx, by show ¬ hasB _ x.1 = true; rw [hb]; decide⟩
        subst hrf
        gi_wp2
        refine ⟨by simp, .inl ⟨_, _, rfl, run_takeDeferred hK, ?_⟩⟩
        have hc5 := (h3.grown (grownBy_putObj' W D (.deferred none)) (fun e => by cases e; unfold Blk at h3; rw [hK] at h3; cases h3)).cell 0
        refine ⟨.bool false, ?_, rfl, h4.trans (belowK_b (w := w) (Nat.le_refl _) W D _ _ (by omega) hK rfl rfl)⟩
        simp [results, Tryd.f17, go_sem, hc5]
end Go.Proofs.YtgiodfpkkdaflaaDoor

namespace Go.Proofs.YtgiodfpkkdaflaaDoor
open Go.RowKit

theorem wpIn_round_still_tail {r nn : Nat} {P : Program} {id : Nat} {Q : Exit → Act → World → Prop} {a : Act} {w : World} {l : List Oper} (n : Nat) (hm : P.follows .mixedOrders = true) (hp : plainB l.toArray = true) (hQ : ¬ LetsOut Q) (hB : Region.lexTailB .any l.toArray n = true)
    (h : wpStill P l.toArray { w with drawn := w.drawn + 1 } (fun a' => wpList P l.toArray Q (l.drop n) a' { w with drawn := w.drawn + 1 }) (l.take n) a) : (Code.region id l.toArray true).wpIn (Fence.wide.inRound r) nn P Q a w := by
  simp only [Region.lexTailB, Bool.and_eq_true, decide_eq_true_eq] at hB
  obtain ⟨⟨⟨⟨hsel, hn⟩, hs⟩, hc⟩, hlex⟩ := hB
  have hn' : n < l.length := by simpa using hn
  have htl : (l.take n).length = n := by simp; omega
  have hdl : (l.drop n).length = l.toArray.size - n := by simp
  have inv0 : HeadInv .any l.toArray n (Array.replicate l.toArray.size false) :=
    ⟨by simp, fun j oj _ hl => (by rw [getD_replicate_false] at hl; cases hl), fun t _ ht => getD_in (by simpa using ht) (getD_replicate_false _ _)⟩
  have H := wpAnyL_lex (md := .any) (g := l.toArray.size - n) hsel hs hc hn (l.take n) 0 _ a (fun j hj => by
    have hj' : j < n := by rw [htl] at hj; exact hj
    simp [hj']) (by simpa using htl) inv0 (by rw [htl]; exact hlex) h
  refine wpIn_region_any hm (wpAny_round hp hQ _ _ _ _ ?_)
  have := wpAny_of_head (Q' := Q) (g := l.toArray.size - n) (fun listed a' hL => by
    have := wpAny_of_seq (md := .any) (Q' := Q) (l.drop n) n listed a' { w with drawn := w.drawn + 1 } (fun j => by simp [List.getElem?_drop]) (by rw [hdl]; exact hL.1) hL.2
    rwa [hdl] at this) _ _ _ H
  rw [htl, show n + (l.toArray.size - n) = l.toArray.size by omega] at this
  exact this

/-- The mark that a range over a function leaves. -/
def markD (D : Nat) : Deferred := { target := .collected D, args := #[] }
theorem leaves_marks {F : Fence} {n : Nat} {P : Program} {fn : Func} {tmps : Array Value} {R : Ending → World → Prop} (B : Nat) (w : World) (hend : ∀ W, Below B w W → LeavesInM F n P fn tmps R [] .returning W) :
    ∀ (ds : List Nat) (W : World), ds.Nodup → (∀ D ∈ ds, B ≤ D ∧ W.heap[D]? = some (.deferred (some []))) → Below B w W → LeavesInM F n P fn tmps R (ds.map markD) .returning W
  | [], W, _, _, hb => hend W hb
  | D :: ds, W, hn, hd, hb => by
    obtain ⟨h1, h2⟩ := hd D (List.mem_cons_self ..)
    obtain ⟨n1, n2⟩ := List.nodup_cons.1 hn
    refine ⟨by simp, .inl ⟨D, _, rfl, run_takeDeferred h2, ?_⟩⟩
    have hg := grownBy_putObj' W D (.deferred none)
    refine leaves_marks B w hend ds _ n2 (fun E hE => ?_) (hb.grown hg (Nat.le_trans h1 (Nat.le_of_lt (Array.getElem?_eq_some_iff.1 h2).1)) (fun k hk => by cases hk; exact h1))
    obtain ⟨h3, h4⟩ := hd E (List.mem_cons_of_mem _ hE)
    refine ⟨h3, ?_⟩
    rw [← h4]
    exact hg.block E (Array.getElem?_eq_some_iff.1 h4).1 (fun e => n1 (by cases e; exact hE))
theorem wpListIn_make_full {F : Fence} {n : Nat} {P : Program} (w : World) {ops : Array Oper} {rest : List Oper} {o : Oper} {a : Act} {Q : Exit → Act → World → Prop}
    (hg : o.guard = none) (l c : Operand) (t : TypeId) (hop : o.op = Op.makeSlice t l c)
    (base : Nat) (e : TypeId) (i : TypeInfo) (z : Value) (size : Nat) (h1 : P.underlying t = some (.slice e)) (h2 : P.info? e = some i) (h3 : i.zero = some z) (h4 : i.size = size)
    (kl kc : IntKind) (L C : Int) (m : Nat) (hl : a.eval l = .int kl L) (hc : a.eval c = .int kc C) (hL : L = (m : Int)) (hC : C = (m : Int)) (b2 : i.bytes * m ≤ 281474976710656) (b3 : m ≤ maxLen) (b4 : base ≤ w.heap.size)
    (hK : ∀ w', w'.ownsRow base e size (.slice (some ⟨w.heap.size, 0, none⟩) m m) m (madeCells z.cells (m * size)).toList → w.grownBy w' none → wpListIn F n P ops Q rest (a.put o.dst (.slice (some ⟨w.heap.size, 0, none⟩) m m)) w') :
    wpListIn F n P ops Q (o :: rest) a w := by
  refine wpListIn_plain hg fun K hK' => ?_
  obtain ⟨w', hrun, r1, r2⟩ := run_make_full (P := P) w base t e i z size h1 h2 h3 h4 kl kc m b2 b3 b4
  subst hL
  subst hC
  unfold Oper.wpIn
  refine ⟨?_, ?_⟩
  · simp [Oper.about, hop]
  · rw [Oper.semAt_plain F _ _ (by rw [hop]; intro c hc'; cases hc')]
    simp [execOp, hop, hl, hc, hrun, Result.andThen]
    exact hK' _ _ (hK w' r1 r2)
end Go.Proofs.YtgiodfpkkdaflaaDoor

namespace Go.Proofs.YtgiodfpkkdaflaaDoor
open Go.RowKit Ieee

theorem size_floor {v : Nat} (h1 : isN v = false) (h2 : ¬ nkey v ≤ 4634204016564240384) (h3 : ¬ (4692750811720056832 : Int) ≤ nkey v) (h64 : v < 18446744073709551616) :
    v < 4823355200913801216 ∧ floorN v 64 524288 = magOf v / 2 ^ 1074 ∧ bitsK v = ceilR v := by
  have hs : isNeg v = false ∧ rung v < 4823355200913801216 := by
    unfold nkey at h2 h3
    cases hn : isNeg v <;> rw [hn] at h2 h3 <;> simp at h2 h3 <;> first | exact ⟨rfl, by omega⟩ | omega
  obtain ⟨hs1, hs2⟩ := hs
  have hxr : rung v = v := by
    rcases word_parts v h64 with ⟨e1, _⟩ | ⟨_, e2⟩
    · rw [hs1] at e1; cases e1
    · exact e2.1.symm
  have e1 : fltR 64 = 4634204016564240384 := by decide +kernel
  have e2 : fltR 524288 = 4692750811720056832 := by decide +kernel
  refine ⟨by omega, ?_, ?_⟩
  · unfold floorN
    rw [h1, e1, e2]
    simp only [Bool.false_eq_true, if_false]
    rw [if_neg (show ¬ nkey v ≤ ((4634204016564240384 : Nat) : Int) by omega), if_neg (show ¬ ((4692750811720056832 : Nat) : Int) ≤ nkey v by omega), hxr]
  · unfold bitsK
    rw [h1]
    simp only [Bool.false_eq_true, if_false]
    rw [if_neg h2, if_neg h3, hxr]
def SizeP (w : World) (r : Nat) (e : Ending) (w' : World) : Prop := e = .returned (.int .i64 (r : Nat)) ∧ Below w.heap.size w w'
set_option maxRecDepth 100000 in
set_option maxHeartbeats 4000000 in
/-- n as it came, m as it counts. -/
theorem rsize_at (n : Int) (m : Nat) (x : Nat) (w : World) (hm : (n < 0 ∧ m = 0) ∨ (0 ≤ n ∧ n = m)) (hm63 : m ≤ 9223372036854775807) :
    Calls Tryd.prog 16 #[.int .i64 n, .float .f64 x] w fun e w' => SizeP w (sizeN n x) e w' := by
  have hb : bitsN n x = bitsN (m : Int) x := by
    rcases hm with ⟨h1, rfl⟩ | ⟨_, rfl⟩
    · rw [bitsN_low (Or.inr (Or.inl (by omega))), bitsN_low (Or.inr (Or.inl (by omega)))]
    · rfl
  have hsz : sizeN n x = (bitsN (m : Int) x + 7) / 8 := by unfold sizeN; rw [hb]
  rw [hsz]
  have f0 := floatOfInt_nat m (by omega)
  have f0' : (n < 0 → floatOfInt .f64 0 = fltR m) := fun h => by rcases hm with ⟨_, rfl⟩ | ⟨h', _⟩ <;> first | rfl | omega
  rcases mul_cases (m : Int) x (by omega) with ⟨hnone, h64⟩ | ⟨v, hv, hvn, hv64, hbk⟩
  · rw [Int.toNat_natCast] at hnone
    rw [h64]
    have hq := run_mul_nan _ _ hnone
    have hz := fun W => (tapeMul_is W (fltR m) x)
    have hne := fun W => neq_self (tapeMul W (fltR m) x)
    have hne2 : ∀ W : World, (FloatKind.f64.format.order (tapeMul W (fltR m) x) (tapeMul W (fltR m) x) != some .eq) = true := fun W => by rw [hne W, (hz W).1]
    clear hnone hz hne hb hsz h64
    rcases hm with ⟨h1, rfl⟩ | ⟨h1, rfl⟩
    · have f0'' := f0' h1
      clear f0'
      go_enter Tryd.func16, Tryd.ntmps16
      go_wp2_with fail
      go_ret
      exact ⟨rfl, (Below.refl _ _).drew⟩
    · have h2 : ¬ (m : Int) < 0 := by omega
      clear f0'
      go_enter Tryd.func16, Tryd.ntmps16
      go_wp2_with fail
      go_ret
      exact ⟨rfl, (Below.refl _ _).drew⟩
  · rw [Int.toNat_natCast] at hv
    have hq := fun W : World => run_float_arith (P := Tryd.prog) W .mul 23 .f64 _ _ _ hv
    have hne : (FloatKind.f64.format.order v v != some .eq) = false := by rw [neq_self v, hvn]
    have g1 := gtr_eq v 4634204016564240384
    have g2 := geq_eq v 4692750811720056832
    rw [hvn, show isN 4634204016564240384 = false from by decide, show nkey 4634204016564240384 = 4634204016564240384 from by decide] at g1
    rw [hvn, show isN 4692750811720056832 = false from by decide, show nkey 4692750811720056832 = 4692750811720056832 from by decide] at g2
    simp only [Bool.not_false, Bool.true_and] at g1 g2
    rw [hbk]
    by_cases b2 : (4692750811720056832 : Int) ≤ nkey v
    · rw [decide_eq_true b2] at g2
      have e : bitsK v = 524288 := by unfold bitsK; rw [hvn]; simp only [Bool.false_eq_true, if_false]; rw [if_neg (by omega), if_pos b2]
      rw [e]
      clear hv hbk hb hsz b2 hvn hv64 e
      rcases hm with ⟨h1, rfl⟩ | ⟨h1, rfl⟩
      · have f0'' := f0' h1
        clear f0'
        go_enter Tryd.func16, Tryd.ntmps16
        go_wp2_with fail
        go_ret
        exact ⟨rfl, Below.refl _ _⟩
      · have h2 : ¬ (m : Int) < 0 := by omega
        clear f0'
        go_enter Tryd.func16, Tryd.ntmps16
        go_wp2_with fail
        go_ret
        exact ⟨rfl, Below.refl _ _⟩
    · rw [decide_eq_false b2] at g2
      by_cases b1 : nkey v ≤ 4634204016564240384
      · rw [decide_eq_false (by omega)] at g1
        have e : bitsK v = 64 := by unfold bitsK; rw [hvn]; simp only [Bool.false_eq_true, if_false]; rw [if_pos b1]
        rw [e]
        clear hv hbk hb hsz b2 b1 hvn hv64 e
        rcases hm with ⟨h1, rfl⟩ | ⟨h1, rfl⟩
        · have f0'' := f0' h1
          clear f0'
          go_enter Tryd.func16, Tryd.ntmps16
          go_wp2_with fail
          go_ret
          exact ⟨rfl, Below.refl _ _⟩
        · have h2 : ¬ (m : Int) < 0 := by omega
          clear f0'
          go_enter Tryd.func16, Tryd.ntmps16
          go_wp2_with fail
          go_ret
          exact ⟨rfl, Below.refl _ _⟩
      · rw [decide_eq_true (by omega)] at g1
        obtain ⟨c1, c2, c3⟩ := size_floor hvn b1 b2 hv64
        have CF := qfloor_any v 64 524288 hv64 (by decide) (by decide) w
        rw [c2] at CF
        have CF := Lib.hid CF
        have hfl := floor_lt v c1
        have hq48 := (int_far v c1).2
        rw [c3, ceil_floor v]
        have f3 := floatOfInt_nat (magOf v / 2 ^ 1074) (by omega)
        obtain ⟨q, hqq⟩ : ∃ q, magOf v / 2 ^ 1074 = q := ⟨_, rfl⟩
        obtain ⟨t, ht⟩ : ∃ t, decide (q * 2 ^ 1074 < magOf v) = t := ⟨_, rfl⟩
        rw [hqq] at CF hfl hq48 f3 ⊢
        rw [ht] at hfl
        have hif : (if q * 2 ^ 1074 < magOf v then q + 1 else q) = if t = true then q + 1 else q := by rw [← ht]; simp only [decide_eq_true_eq]
        rw [hif]
        clear hv hbk hb hsz b2 b1 hvn hv64 c1 c2 c3 hqq ht hif
        have s1 : wrap64 ((q : Int) + 1) = (q : Int) + 1 := by unfold wrap64; omega
        have s2 : IntKind.i64.wrap ((q : Int) + 1) = (q : Int) + 1 := by rw [IntKind.wrap_i64]; omega
        have s3 : IntKind.i64.wrap ((q : Int) + 7) = (q : Int) + 7 := by rw [IntKind.wrap_i64]; omega
        have s4 : IntKind.i64.wrap ((q : Int) + 1 + 7) = (q : Int) + 1 + 7 := by rw [IntKind.wrap_i64]; omega
        have s5 : ((q : Int) + 7).tdiv 8 = (((q + 7) / 8 : Nat) : Int) := by rw [Int.tdiv_eq_ediv_of_nonneg (by omega)]; omega
        have s6 : ((q : Int) + 1 + 7).tdiv 8 = (((q + 1 + 7) / 8 : Nat) : Int) := by rw [Int.tdiv_eq_ediv_of_nonneg (by omega)]; omega
        cases t
        all_goals
          rcases hm with ⟨h1, rfl⟩ | ⟨h1, rfl⟩
          · have f0'' := f0' h1
            clear f0'
            go_enter Tryd.func16, Tryd.ntmps16
            go_wp2_with fail
            refine CF.out.mono ?_
            rintro e w' ⟨rfl, rfl⟩
            go_wp2_with fail
            go_ret
            exact ⟨rfl, Below.refl _ _⟩
          · have h2 : ¬ (m : Int) < 0 := by omega
            clear f0'
            go_enter Tryd.func16, Tryd.ntmps16
            go_wp2_with fail
            refine CF.out.mono ?_
            rintro e w' ⟨rfl, rfl⟩
            go_wp2_with fail
            go_ret
            exact ⟨rfl, Below.refl _ _⟩
theorem rsize_any (n : Int) (x : Nat) (w : World) (h : n ≤ 9223372036854775807) :
    Calls Tryd.prog 16 #[.int .i64 n, .float .f64 x] w fun e w' => SizeP w (sizeN n x) e w' := by
  by_cases h0 : n < 0
  · exact rsize_at n 0 x w (Or.inl ⟨h0, rfl⟩) (by omega)
  · exact rsize_at n n.toNat x w (Or.inr ⟨by omega, by omega⟩) (by omega)
end Go.Proofs.YtgiodfpkkdaflaaDoor

namespace Go.Proofs.YtgiodfpkkdaflaaDoor
open Go.RowKit

/-- Texts that can be read. -/
structure TextsAt (w : World) (A : Option Addr) (n : Nat) (L : List ByteArray) : Prop where
  len : n = L.length
  at_ : ∀ (i : Nat) (s : ByteArray), L[i]? = some s → ∃ g off, A = some ⟨g, off, none⟩ ∧ g < w.heap.size ∧ w.cell? ⟨g, off + i, none⟩ = some (.string s)
theorem TextsAt.below {w w' : World} {A : Option Addr} {n : Nat} {L : List ByteArray} (h : TextsAt w A n L) (hb : Below w.heap.size w w') : TextsAt w' A n L :=
  ⟨h.len, fun i s hs => by
    obtain ⟨g, off, e, hg, h1⟩ := h.at_ i s hs
    exact ⟨g, off, e, Nat.lt_of_lt_of_le hg hb.size, (hb.cell (p := ⟨g, off + i, none⟩) hg).trans h1⟩⟩
end Go.Proofs.YtgiodfpkkdaflaaDoor

namespace Go.Proofs.YtgiodfpkkdaflaaDoor
open Go.RowKit

/-- A byte of a filter in a cell. -/
def cU (v : Nat) : Value := .int .u8 (v : Int)
theorem bit_or : ∀ j : Nat, j < 8 → ∀ c : Nat, c < 256 → bits .or .u8 (c : Int) ((2 : Int) ^ j % 256) = ((c ||| 2 ^ j : Nat) : Int) := by decide +kernel
/-- A filter as a text. -/
def filterT (hs : List Nat) (n k : Nat) : ByteArray := ⟨((filterL hs n k ++ [k]).map UInt8.ofNat).toArray⟩
/-- What Bloom answers. -/
def bloomT (keys : List ByteArray) (x : Nat) : ByteArray := filterT (keys.map fun s => crc s.data.toList) (sizeN (keys.length : Int) x) (probesN x)
theorem madeU (n : Nat) : (madeCells #[Value.int IntKind.u8 0] n).toList = (List.replicate n 0).map cU := (toList_madeCells_one _ _).trans (by simp [cU])

theorem own_setB {w : World} {B p i n : Nat} {e : TypeId} {v : Value} {xs : List Value} {sz : Nat} (h : w.ownsRow B e sz v n xs) (hp : v.ownBlock = none ∨ v.ownBlock ≠ some p) (u : Value) : (w.setCell ⟨p, i, none⟩ u).ownsRow B e sz v n xs :=
  World.ownsRow.kept (row := some p) h (only_setCell (World.grownBy.refl _ _) (Or.inl rfl) u) hp
/-- What a call leaves of a row that lay ahead of it. -/
theorem own_upB {w w' : World} {B n sz : Nat} {e : TypeId} {v : Value} {xs : List Value} (h : w.ownsRow B e sz v n xs) (hb : Below w.heap.size w w') : w'.ownsRow B e sz v n xs :=
  (Tn.of_below (B := 0) (T := fun _ => false) hb).own h (fun _ _ => rfl)
/-- A filter as it lies. -/
def FilAt (w : World) (B g z : Nat) (M : List Nat) : Prop := w.ownsRow B 5 1 (.slice (some ⟨g, 0, none⟩) z z) z (M.map cU)
theorem set_map (M : List Nat) (q y : Nat) : (M.map cU).set q (cU y) = (M.set q y).map cU := (List.map_set).symm
theorem fill_snoc (M : List Nat) (n k h : Nat) (hs : List Nat) : fillL M n k (hs ++ [h]) = (placesH h n k).foldl markL (fillL M n k hs) := by
  unfold fillL
  rw [List.foldl_append]
  rfl
set_option maxRecDepth 100000 in
set_option maxHeartbeats 4000000 in
theorem rbloom_any (A : Option Addr) (n c x : Nat) (L : List ByteArray) (w : World) (hL : TextsAt w A n L) (hn : n ≤ 1000000) (hok : ∀ s ∈ L, s.size ≤ 9223372036854775807) :
    Calls Tryd.prog 11 #[.slice A n c, .float .f64 x] w fun e w' => e = .returned (.string (bloomT L x)) ∧ Below w.heap.size w w' := by
  obtain ⟨i0, hi0, hz0, hz1, hz2⟩ := info_parts u8info
  have HL := Lib.hid hL
  have Hok := Lib.hid hok
  have Hlen := Lib.hid hL.len
  have CS := Lib.hid (rsize_any (n : Int) x w (by omega))
  have CP := fun W => Lib.hid (rprobes_any x W)
  obtain ⟨z, hz⟩ : ∃ z, sizeN (n : Int) x = z := ⟨_, rfl⟩
  obtain ⟨k, hk⟩ : ∃ k, probesN x = k := ⟨_, rfl⟩
  have z1 := sizeN_ge (n : Int) x
  have z2 := sizeN_le (n : Int) x
  have k1 := probesN_ge x
  have k2 := probesN_le x
  obtain ⟨R, hR⟩ : ∃ R, bloomT L x = R := ⟨_, rfl⟩
  rw [hR]
  unfold bloomT at hR
  rw [← hL.len, hz, hk] at hR
  rw [hz] at CS z1 z2
  rw [hk] at k1 k2
  have CP : ∀ W, Hid (Calls Tryd.prog 14 #[.float .f64 x] W fun e w' => e = .returned (.int .i64 (k : Int)) ∧ W = w') := fun W => by rw [← hk]; exact CP W
  have HR := Lib.hid hR
  clear hz hk hL hok hR
  go_enter Tryd.func11, Tryd.ntmps11
  go_wp2_with fail
  refine CS.out.mono ?_
  rintro e w1 ⟨rfl, hb0⟩
  have HB0 := Lib.hid hb0
  have hw0 : w.heap.size ≤ w1.heap.size := hb0.size
  clear hb0 CS
  go_wp2_with (at_make; refine wpList_make_full _ rfl (.tmp 12) (.tmp 12) 41 rfl w.heap.size 5 i0 (.int .u8 0) 1 Tryd.underlying41 hi0 hz0 hz1 .i64 .i64 _ _ z rfl rfl rfl rfl ?b2 ?b3 ?b4 ?_)
  case b2 => rw [hz2]; omega
  case b3 => unfold maxLen; omega
  case b4 => exact hw0
  intro w2 hown hgr
  have hb1 : Below w.heap.size w w2 := HB0.out.grown hgr hw0 (by simp)
  have hlt := (World.ownsRow.lt hown w1.heap.size rfl).2
  rw [madeU] at hown
  generalize w1.heap.size = g at *
  have Hown := Lib.hid hown
  have HB1 := Lib.hid hb1
  clear hown hgr hb1 HB0 hw0 hlt
  go_wp2_with fail
  go_loopw [6] (fun x6 wr => ∃ i : Nat, i ≤ n ∧ x6 = .int .i64 (i : Int) ∧ Hid (FilAt wr w.heap.size g z (fillL (List.replicate z 0) z k ((L.map fun s => crc s.data.toList).take i))) ∧ Hid (Below w.heap.size w wr)) (fun x6 _ => n - (intOf x6).toNat)
  case atStart => exact ⟨0, by omega, rfl, Lib.hid (by rw [List.take_zero]; exact Hown.out), HB1⟩
  case round =>
    obtain ⟨i, hi, rfl, HF, HB⟩ := hrel
    clear Hown HB1
    by_cases hin : i < n
    · as_aux_lemma =>
      have hiL : i < L.length := by rw [← Hlen.out]; exact hin
      obtain ⟨s, hs⟩ : ∃ s, L[i]? = some s := ⟨_, List.getElem?_eq_getElem hiL⟩
      obtain ⟨g0, off, hA, hg0, y0⟩ := (HL.out.below HB.out).at_ i s hs
      subst hA
      have hso := Hok.out s (List.mem_of_getElem? hs)
      have CPL := fun W => Lib.hid (rplaces_any s z k W hso (by omega) (by omega) (by omega))
      have i1 : (i : Int) < (n : Int) := by omega
      have i2 : (0 : Int) ≤ (i : Int) := by omega
      go_upto_region 5 with fail
      go_region_held3 (fun W => W.cell? ⟨g0, off + i, none⟩ = some (.string s))
        (first | exact y0 | exact (S7.cell (p := ⟨g0, off + i, none⟩) hg0).trans y0 | assumption)
        (first
          | (go_at_call 14; refine (CP _).out.mono ?_; rintro e w5 ⟨rfl, rfl⟩)
          | (go_at_call 26; refine (CPL _).out.mono ?_; rintro e w6 ⟨A2, c2, rfl, S6, S7⟩))
      rename_i hHeld
      have hglt := (World.ownsRow.lt HF.out g rfl).2
      have HP := Lib.hid S6
      have HF6 : Hid (FilAt w6 w.heap.size g z (fillL (List.replicate z 0) z k ((L.map fun s => crc s.data.toList).take i))) := Lib.hid (own_upB (w := wr.drew) HF.out S7)
      have HB6 := Lib.hid (HB.out.drew.trans (S7.mono (show w.heap.size ≤ wr.heap.size from HB.out.size)))
      have hsn : fillL (List.replicate z 0) z k ((L.map fun s => crc s.data.toList).take (i + 1)) = (placesH (crc s.data.toList) z k).foldl markL (fillL (List.replicate z 0) z k ((L.map fun s => crc s.data.toList).take i)) := by
        rw [← fill_snoc, List.take_add_one, List.getElem?_map, hs]
        rfl
      have Hsn := Lib.hid hsn
      have hMl : (fillL (List.replicate z 0) z k ((L.map fun s => crc s.data.toList).take i)).length = z := by rw [fillL_length, List.length_replicate]
      have hMb : ∀ x ∈ fillL (List.replicate z 0) z k ((L.map fun s => crc s.data.toList).take i), x < 256 := fillL_byte _ _ _ _ (fun x hx => by rw [List.mem_replicate] at hx; omega)
      generalize fillL (List.replicate z 0) z k ((L.map fun s => crc s.data.toList).take i) = M0 at *
      generalize hlo : wr.drew.heap.size = lo at *
      have hglo : g < lo := by rw [← hlo]; exact hglt
      obtain ⟨h, hh⟩ : ∃ h, crc s.data.toList = h := ⟨_, rfl⟩
      have hh32 : h < 4294967296 := by rw [← hh]; unfold crc; omega
      rw [hh] at HP Hsn
      have hglow := Lib.hid (World.ownsRow.lt HF.out g rfl).1
      have HMl := Lib.hid hMl
      have HMb := Lib.hid hMb
      clear S6 S7 hHeld hsn hMl hMb HF HB CPL CP y0 hg0 hso hs hglt hlo hh
      go_wp2_with fail
      go_loopw [8] (fun x8 wi => ∃ m : Nat, m ≤ k ∧ x8 = .int .i64 (m : Int) ∧ Hid (FilAt wi w.heap.size g z (((placesH h z k).take m).foldl markL M0)) ∧ Hid (Own elInts wi lo 3 (.slice A2 k c2) ((placesH h z k).map Int.ofNat)) ∧ Hid (Below w.heap.size w wi)) (fun x8 _ => k - (intOf x8).toNat)
      case atStart => exact ⟨0, by omega, rfl, by rw [List.take_zero]; exact HF6, HP, HB6⟩
      case round =>
        obtain ⟨m, hm, rfl, HFm, HPm, HBm⟩ := hrel
        clear HF6 HP HB6
        by_cases hmk : m < k
        · as_aux_lemma =>
          have hml : m < (placesH h z k).length := by unfold placesH; rw [placesP_length]; exact hmk
          obtain ⟨p, hp⟩ : ∃ p, (placesH h z k)[m]? = some p := ⟨_, List.getElem?_eq_getElem hml⟩
          have hpl : p < 8 * z := placesP_lt _ _ (by omega) _ _ p (List.mem_of_getElem? hp)
          have hpm : ((placesH h z k).map Int.ofNat)[m]? = some (Int.ofNat p) := by rw [List.getElem?_map, hp]; rfl
          obtain ⟨g1, c', cur, hv, hg, hh⟩ := Own.some_ HPm.out (by rw [List.length_map]; omega)
          injection hv with e1 e2 e3
          subst e1
          have hgne : g1 ≠ g := by omega
          have y0 : wr.cell? ⟨g1, m, none⟩ = some (.int .i64 (p : Int)) := by
            have h9 := Own.cells (j := 0) HPm.out hpm (by decide) rfl
            rwa [show m * elInts.sz + 0 = m from by show m * 1 + 0 = _; omega] at h9
          have i3 : (m : Int) < (k : Int) := by omega
          obtain ⟨q, hq⟩ : ∃ q, p / 8 = q := ⟨_, rfl⟩
          obtain ⟨j, hj⟩ : ∃ j, p % 8 = j := ⟨_, rfl⟩
          have z3 : (p : Int) / 8 = (q : Int) := by omega
          have z4 : (p : Int) % 8 = (j : Int) := by omega
          have z5 : (q : Int) < (z : Int) := by omega
          have z6 : (0 : Int) ≤ (q : Int) := by omega
          have z7 : (p : Int).tmod 8 = (j : Int) := by rw [Int.tmod_eq_emod_of_nonneg (by omega)]; exact z4
          have z8 : (0 : Int) ≤ (j : Int) := by omega
          have z9 : ¬ (j : Int) < 0 := by omega
          have wq : IntKind.i64.wrap (q : Int) = (q : Int) := by rw [IntKind.wrap_i64]; omega
          have wj : IntKind.i64.wrap (j : Int) = (j : Int) := by rw [IntKind.wrap_i64]; omega
          have hsn : ((placesH h z k).take (m + 1)).foldl markL M0 = markL (((placesH h z k).take m).foldl markL M0) p := by
            rw [List.take_add_one, hp, List.foldl_append]
            rfl
          have hlM : (((placesH h z k).take m).foldl markL M0).length = z := by rw [marks_length]; exact HMl.out
          have hbM := marks_byte ((placesH h z k).take m) M0 HMb.out
          generalize ((placesH h z k).take m).foldl markL M0 = M at *
          have hqM : q < M.length := by rw [hlM]; omega
          have hby := getD_lt 256 M q (by decide) hbM
          obtain ⟨y, hy⟩ : ∃ y, M.getD q 0 = y := ⟨_, rfl⟩
          rw [hy] at hby
          have hMq : (M.map cU)[q]? = some (cU y) := by
            rw [List.getElem?_map, List.getElem?_eq_getElem hqM]
            rw [List.getD_eq_getElem?_getD, List.getElem?_eq_getElem hqM] at hy
            rw [← hy]; rfl
          have y1 := World.ownsRow.cellAt HFm.out q (by omega)
          rw [hMq] at y1
          have y2 := World.ownsRow.frozenAt HFm.out q
          have hor := bit_or j (by omega) y hby
          have hmk2 : M.set q (y ||| 2 ^ j) = markL M p := by unfold markL; rw [hq, hj, hy]
          have Hsn2 := Lib.hid (hsn.trans hmk2.symm)
          unfold cU at y1
          clear hh hg hpm hml e2 e3 hp hsn hlM hbM hqM hy hMq hmk2
          go_wp2_with fail
          go_still_tail 22, (by kernel_rfl)
          go_wp2_with fail
          go_roundw
          case rel =>
            have hst := (World.ownsRow.stored HFm.out q (.int .u8 ((y ||| 2 ^ j : Nat) : Int))).1
            refine ⟨m + 1, by omega, by go_num, Lib.hid ?_, Lib.hid (own_setB HPm.out (Or.inr fun e => hgne (Option.some.inj e)) _), Lib.hid (below_setCell HBm.out hglow.out _).drew⟩
            rw [Hsn2.out]
            show World.ownsRow _ _ _ _ _ _ ((M.set q (y ||| 2 ^ j)).map cU)
            rw [← set_map]
            exact hst
          case measure => simp [intOf]; omega
        · as_aux_lemma =>
          obtain rfl : m = k := by omega
          go_wp2_with fail
          go_roundw
          case rel => exact ⟨i + 1, by omega, by go_num, Lib.hid (by rw [Hsn.out]; have h1 := HFm.out; rwa [List.take_of_length_le (by unfold placesH; rw [placesP_length]; omega)] at h1), HBm⟩
          case measure => simp [intOf]; omega
    · as_aux_lemma =>
      obtain rfl : i = n := by omega
      have hall : (L.map fun s => crc s.data.toList).take i = L.map fun s => crc s.data.toList := List.take_of_length_le (by rw [List.length_map]; exact Nat.le_of_eq Hlen.out.symm)
      have hF := HF.out
      rw [hall] at hF
      have hMl : (fillL (List.replicate z 0) z k (L.map fun s => crc s.data.toList)).length = z := by rw [fillL_length, List.length_replicate]
      have hMb : ∀ x ∈ fillL (List.replicate z 0) z k (L.map fun s => crc s.data.toList), x < 256 := fillL_byte _ _ _ _ (fun x hx => by rw [List.mem_replicate] at hx; omega)
      have hRR := HR.out
      unfold filterT filterL at hRR
      generalize fillL (List.replicate z 0) z k (L.map fun s => crc s.data.toList) = M at *
      have hby : Byt wr w.heap.size 5 (.slice (some ⟨g, 0, none⟩) z z) (M.map UInt8.ofNat) := by
        unfold Byt
        rw [List.length_map, hMl, List.map_map]
        unfold FilAt at hF
        rwa [show M.map (b8 ∘ UInt8.ofNat) = M.map cU from List.map_congr_left fun x hx => by
          show Value.int .u8 ((UInt8.ofNat x).toNat : Int) = Value.int .u8 (x : Int)
          rw [UInt8.toNat_ofNat', Nat.mod_eq_of_lt (hMb x hx)]]
      have hglt := (World.ownsRow.lt hF g rfl).2
      have k256 : (k : Int) % 256 = (k : Int) := by omega
      have hlM : (M.map UInt8.ofNat).length = z := by rw [List.length_map, hMl]
      have Hby := Lib.hid (Byt.alloc hby (.cells #[.int .u8 (k : Int)] 5))
      have HlM := Lib.hid hlM
      have HRR := Lib.hid hRR
      clear hall hF hMl hMb hRR hby HF HR
      go_wp2_with fail
      refine (CP _).out.mono ?_
      rintro e w6 ⟨rfl, rfl⟩
      go_wp2_with (at_builtin; refine wpList_append_byte _ rfl (.tmp 57) (.tmp 61) 41 rfl Tryd.underlying41 u8info rfl Hby.out ⟨wr.heap.size, 0, none⟩ 1 rfl (k : Int) (cell_new _ _ _) (UInt8.ofNat k) (by rw [UInt8.toNat_ofNat', Nat.mod_eq_of_lt (by omega)]) (by rw [HlM.out]; omega) (Nat.le_trans HB.out.size (by simp)) ?_)
      intro v' w' hby2 hgr
      have hcv := hby2.string (src := 41) (dst := 9) Tryd.underlying41 Tryd.underlying5 Tryd.underlying9
      rw [show (M.map UInt8.ofNat ++ [UInt8.ofNat k]) = (M ++ [k]).map UInt8.ofNat from by rw [List.map_append]; rfl, HRR.out] at hcv
      have hb9 : Below w.heap.size w w' := Byt.grown Hby.out (below_alloc HB.out (Nat.le_refl _) _) (Nat.le_trans HB.out.size (by simp)) hgr
      clear hby2 hgr
      go_wp2_with fail
      go_ret
      exact ⟨rfl, hb9⟩
end Go.Proofs.YtgiodfpkkdaflaaDoor
