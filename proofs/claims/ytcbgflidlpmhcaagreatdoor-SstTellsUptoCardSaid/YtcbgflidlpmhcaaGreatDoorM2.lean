/-
  Several texts in one: An append that leaves what was there readable; rows of numbers that are apart. No program is named.
  The book of lists, of any kind: what a call turns (Tn), elements as cells (El), rows of a kind that are apart, rows that grow. No program is named.
  The book of lists: the names that mark texts.
  The book of lists, Ints: marks, copies, are two alike? (Written by wip/gen/gen_bk.py.)
  Walks over package raw, part 6: Sum.
  Walks over package raw, part 4: PutVar.
  Walks over package raw, part 5: Put and Get.
  DERIVED: THE SHELF's CONTRACTS AT THIS DUMP, IN PLAIN WORDS (tools/lay-plain.mjs out of 'TryzShelf.lean', which tools/lay-shelf.mjs wrote): THE SAME DECLARATIONS UNDER THE SAME NAMES: 'import', 'namespace', 'open', 'def', 'theorem' AND NOTHING ELSE: no command of the shelf's: FOR A HAND-IN. Each laying: the table of numbers ('.._ren') and one theorem, a field a fact of the dump's own or the kernel's comparison; each contract: ONE APPLICATION.
  The order of bytes; what Compare and Put answer.
  Walks over the document's own answer to chapter 1: Sum, Compare.
  Filters of marked places, as plain values (no program is named).
  The document's own answer to chapter 12, part 4: the places of a key.
  Walks over package raw, part 2: a number in groups of seven bits.
  Walks over package raw, part 3: GetVar, with its deferred closure.
  Digits, over the table of the powers of ten that the laws lay.
-/
import Derived.Test.YtcbgflidlpmhcaaGreatDoorM1
import Derived.Deep.Onto
import Derived.LoopTactic
import Derived.DeepKeys
import Derived.Test.YtcbgflidlpmhcaaGreatDoorRows
import Derived.Lib.LaidTab
import Derived.Shelf.Strings.Builder1
import Derived.Shelf.Small.Strs
import Derived.Shelf.Strings.BuilderF
import Derived.Shelf.Strings.BuilderK
import Derived.Shelf.Strings.Search1
import Derived.Shelf.Strings.Search2
import Derived.Shelf.Strings.Search3
import Derived.Shelf.LaysM
import Derived.Shelf.Strings.Shaped
import Derived.Shelf.Strings.BuilderCap
import Derived.Shelf.Slices.CompactS
import Derived.Shelf.Slices.Cells
import Derived.Test.YtcbgflidlpmhcaaGreatDoorProg
import Derived.Lib.Strings
import Derived.Lib.Bytealg
import Derived.Defers
import Derived.Recover
import Derived.Sort.Grow
import Derived.Lib.ItoaNum
namespace Go.Proofs.YtcbgflidlpmhcaaGreatDoor
open Go.RowKit

theorem append_keep {P : Program} (w : World) (base : Nat) (t ty e : TypeId) (i : TypeInfo) (z : Value) (size bytes : Nat) (ht : P.underlying t = some (.slice e)) (hi : P.info? e = some i) (hz : i.zero = some z)
    (hsize : i.size = size) (hby : i.bytes = bytes) (v : Value) (n : Nat) (xs : List Value) (hown : w.ownsRow base e size v n xs)
    (a : Addr) (m c : Nat) (news : List Value) (hl : news.length = m * size) (hnews : ∀ j u, news[j]? = some u → w.cell? (a.add j) = some u) (h1 : ∀ u ∈ news, u.oneCell' = true)
    (h63 : n + m ≤ maxLen) (hbytes : (n + m) * bytes ≤ 140737488355328) (v' : Value) (w' : World) (hr : (Builtin.append_ #[t, t] ty #[v, .slice (some a) m c]).run P w = .ok v' w') :
    w'.ownsRow base e size v n xs ∧ (v'.ownBlock = v.ownBlock ∨ ∀ g, v'.ownBlock = some g → w.heap.size ≤ g) := by
  subst hsize
  subst hby
  have hsmall : n + m ≤ 9223372036854775807 := by simp only [maxLen] at h63; omega
  rcases hown.2 with ⟨rfl, rfl⟩ | ⟨g, cap, cur, rfl, hbg, hg, hnc, hcm, hcs, htake⟩
  · have hx : xs = [] := List.eq_nil_of_length_eq_zero (by simpa using hown.1)
    subst hx
    refine ⟨World.ownsRow_nil _ _ _ _, ?_⟩
    by_cases hm : m = 0
    · subst hm
      have hr2 : (Builtin.append_ #[t, t] ty #[.slice none 0 0, .slice (some a) 0 c]).run P w = .ok (.slice none 0 0) w := by
        simp [Builtin.append_, run_underlying ht, sizeOf, typeInfo, hi, Builtin.lenOf, Builtin.firstCells, loadCells, loadCellsFrom]
      rw [hr] at hr2
      injection hr2 with e1 e2
      left
      rw [e1]
    · have hr2 := run_append_nil (P := P) w t ty e i z ht hi hz a m c news hl hnews (by omega) (by omega) (by have hb := hbytes; simp only [Nat.zero_add] at hb; omega)
      rw [hr] at hr2
      injection hr2 with e1 e2
      right
      intro g hg
      rw [e1] at hg
      simp [Value.ownBlock] at hg
      omega
  · by_cases hroom : n + m ≤ cap
    · have hfit : n * i.size + news.length ≤ cur.size := by rw [hl, hcs, ← Nat.add_mul]; exact Nat.mul_le_mul_right _ hroom
      have hr2 := run_append_room (P := P) w t ty e i ht hi g n cap cur hg a m c news hl hnews h1 hroom hfit
      rw [hr] at hr2
      injection hr2 with e1 e2
      refine ⟨⟨hown.1, .inr ⟨g, cap, _, rfl, hbg, by rw [e2]; exact setRow_heap w g cur _ e _ hg, hnc, hcm, ?_, ?_⟩⟩, Or.inl (by rw [e1]; rfl)⟩
      · simp only [List.size_toArray, List.length_append, List.length_take, List.length_drop, Array.length_toList]
        omega
      · rw [htake]
        have hlx : xs.length = n * i.size := hown.1
        show List.take (n * i.size) (xs ++ news ++ _) = xs
        rw [List.append_assoc, ← hlx]
        exact List.take_left
    · have holds : ∀ j u, xs[j]? = some u → w.cell? ((⟨g, 0, none⟩ : Addr).add j) = some u := hown.cells (g := g) rfl
      have hr2 := run_append_grow (P := P) w t ty e i z ht hi hz ⟨g, 0, none⟩ n cap xs hown.1 holds a m c news hl hnews (by omega) (by omega) (growslice_fits (by omega) hbytes)
      rw [hr] at hr2
      injection hr2 with e1 e2
      refine ⟨?_, Or.inr fun k hk => ?_⟩
      · rw [e2]
        exact World.ownsRow.alloc (World.ownsRow.drew hown) _
      · rw [e1] at hk
        simp [Value.ownBlock] at hk
        omega

theorem wp_append_keep {P : Program} (w : World) {o : Oper} {a : Act} {K : Act → World → Prop} {Q : Exit → Act → World → Prop} (s x : Operand) (t : TypeId)
    (ho : o.op = .call { callee := .builtin .append, args := #[s, x], argTypes := #[t, t] })
    (base : Nat) (e : TypeId) (i : TypeInfo) (z : Value) (size bytes : Nat) (ht : P.underlying t = some (.slice e)) (hi : P.info? e = some i) (hz : i.zero = some z)
    (hsize : i.size = size) (hby : i.bytes = bytes) (hzs : z.cells.size = size) (hsz : 0 < size)
    (v : Value) (n : Nat) (xs : List Value) (hs : a.eval s = v) (hown : w.ownsRow base e size v n xs)
    (ad : Addr) (m c : Nat) (news : List Value) (hx : a.eval x = .slice (some ad) m c) (hl : news.length = m * size) (hnews : ∀ j u, news[j]? = some u → w.cell? (ad.add j) = some u) (h1 : ∀ u ∈ news, u.oneCell' = true)
    (h63 : n + m ≤ maxLen) (hbytes : (n + m) * bytes ≤ 140737488355328) (hbase : base ≤ w.heap.size)
    (h : ∀ v' w', w'.ownsRow base e size v' (n + m) (xs ++ news) → w.grownBy w' v.ownBlock → w'.ownsRow base e size v n xs → (v'.ownBlock = v.ownBlock ∨ ∀ g, v'.ownBlock = some g → w.heap.size ≤ g) → K (a.put o.dst v') w') : o.wp P a w K Q := by
  obtain ⟨v', w', hr, h2, h3, _⟩ := run_append_own (P := P) w base t o.type e i z size bytes ht hi hz hsize hby hzs hsz v n xs hown ad m c news hl hnews h1 h63 hbytes hbase
  obtain ⟨h4, h5⟩ := append_keep w base t o.type e i z size bytes ht hi hz hsize hby v n xs hown ad m c news hl hnews h1 h63 hbytes v' w' hr
  unfold Oper.wp execOp
  simp only [ho, resolve, invoke, builtin, Sem.run_bind, Sem.run_pure, Result.andThen_ok, List.map_toArray, List.map_cons, List.map_nil, hs, hx, hr]
  exact h v' w' h2 h3 h4 h5

theorem wpList_append_keep {P : Program} (w : World) {ops : Array Oper} {rest : List Oper} {o : Oper} {a : Act} {Q : Exit → Act → World → Prop} (hgd : o.guard = none) (s x : Operand) (t : TypeId)
    (ho : o.op = .call { callee := .builtin .append, args := #[s, x], argTypes := #[t, t] })
    (base : Nat) (e : TypeId) (i : TypeInfo) (z : Value) (size bytes : Nat) (ht : P.underlying t = some (.slice e)) (hi : P.info? e = some i) (hz : i.zero = some z)
    (hsize : i.size = size) (hby : i.bytes = bytes) (hzs : z.cells.size = size) (hsz : 0 < size)
    (v : Value) (n : Nat) (xs : List Value) (hs : a.eval s = v) (hown : w.ownsRow base e size v n xs)
    (ad : Addr) (m c : Nat) (news : List Value) (hx : a.eval x = .slice (some ad) m c) (hl : news.length = m * size) (hnews : ∀ j u, news[j]? = some u → w.cell? (ad.add j) = some u) (h1 : ∀ u ∈ news, u.oneCell' = true)
    (h63 : n + m ≤ maxLen) (hbytes : (n + m) * bytes ≤ 140737488355328) (hbase : base ≤ w.heap.size)
    (h : ∀ v' w', w'.ownsRow base e size v' (n + m) (xs ++ news) → w.grownBy w' v.ownBlock → w'.ownsRow base e size v n xs → (v'.ownBlock = v.ownBlock ∨ ∀ g, v'.ownBlock = some g → w.heap.size ≤ g) → wpList P ops Q rest (a.put o.dst v') w') :
    wpList P ops Q (o :: rest) a w := by
  refine wpList_plain hgd fun K hK => ?_
  exact wp_append_keep w s x t ho base e i z size bytes ht hi hz hsize hby hzs hsz v n xs hs hown ad m c news hx hl hnews h1 h63 hbytes hbase fun v' w' a1 a2 a3 a4 => hK _ _ (h v' w' a1 a2 a3 a4)

theorem step_append_keep {P : Program} {w : World} {ops : Array Oper} {o : Oper} {a : Act} {K : Act → World → Prop} {Q : Exit → Act → World → Prop} {E : Prop} (hgd : o.guard = none) (s x : Operand) (t : TypeId)
    (ho : o.op = .call { callee := .builtin .append, args := #[s, x], argTypes := #[t, t] })
    (base : Nat) (e : TypeId) (i : TypeInfo) (z : Value) (size bytes : Nat) (ht : P.underlying t = some (.slice e)) (hi : P.info? e = some i) (hz : i.zero = some z)
    (hsize : i.size = size) (hby : i.bytes = bytes) (hzs : z.cells.size = size) (hsz : 0 < size)
    (v : Value) (n : Nat) (xs : List Value) (hs : a.eval s = v) (hown : w.ownsRow base e size v n xs)
    (ad : Addr) (m c : Nat) (news : List Value) (hx : a.eval x = .slice (some ad) m c) (hl : news.length = m * size) (hnews : ∀ j u, news[j]? = some u → w.cell? (ad.add j) = some u) (h1 : ∀ u ∈ news, u.oneCell' = true)
    (h63 : n + m ≤ maxLen) (hbytes : (n + m) * bytes ≤ 140737488355328) (hbase : base ≤ w.heap.size)
    (h : ∀ v' w', w'.ownsRow base e size v' (n + m) (xs ++ news) → w.grownBy w' v.ownBlock → w'.ownsRow base e size v n xs → (v'.ownBlock = v.ownBlock ∨ ∀ g, v'.ownBlock = some g → w.heap.size ≤ g) → K (a.put o.dst v') w') :
    if Region.wanted o (yielded ops a.tmps) = true then Oper.wp P o a w K Q else E := by
  rw [if_pos (by simp [Region.wanted, hgd])]
  exact wp_append_keep w s x t ho base e i z size bytes ht hi hz hsize hby hzs hsz v n xs hs hown ad m c news hx hl hnews h1 h63 hbytes hbase h

/-- Nothing put behind nothing. -/
theorem wpList_append_nothing {P : Program} (w : World) {ops : Array Oper} {rest : List Oper} {o : Oper} {a : Act} {Q : Exit → Act → World → Prop} (hgd : o.guard = none) (s x : Operand) (t e : TypeId) (i : TypeInfo)
    (ho : o.op = .call { callee := .builtin .append, args := #[s, x], argTypes := #[t, t] }) (ht : P.underlying t = some (.slice e)) (hi : P.info? e = some i)
    (hs : a.eval s = .slice none 0 0) (A : Option Addr) (c : Nat) (hx : a.eval x = .slice A 0 c)
    (h : wpList P ops Q rest (a.put o.dst (.slice none 0 0)) w) : wpList P ops Q (o :: rest) a w := by
  refine wpList_plain hgd fun _ hK => ?_
  have hr : (Builtin.append_ #[t, t] o.type #[.slice none 0 0, .slice A 0 c]).run P w = .ok (.slice none 0 0) w := by
    cases A <;> simp [Builtin.append_, run_underlying ht, sizeOf, typeInfo, hi, Builtin.lenOf, Builtin.firstCells, loadCells, loadCellsFrom]
  unfold Oper.wp execOp
  simp only [ho, resolve, invoke, builtin, Sem.run_bind, Sem.run_pure, Result.andThen_ok, List.map_toArray, List.map_cons, List.map_nil, hs, hx, hr]
  exact hK _ _ h

/-! ### Rows of numbers of the call's own, each in a block of its own -/
abbrev Row := Value × List Int
/-- v's block is none of w's. -/
def Off (v u : Value) : Prop := ∀ g, v.ownBlock = some g → u.ownBlock ≠ some g
theorem Off.symm {v u : Value} (h : Off v u) : Off u v := fun g hg hv => h g hv hg

structure Rows (w : World) (B : Nat) (e : TypeId) (rs : List Row) : Prop where
  each : ∀ r ∈ rs, Nums w B e r.1 r.2
  apart : rs.Pairwise fun r s => Off r.1 s.1

section
variable {w w' : World} {B : Nat} {e : TypeId} {rs : List Row}
theorem Rows.below (h : Rows w B e rs) {B' : Nat} (hb : Below B' w w') (hB : w.heap.size ≤ B') : Rows w' B e rs := ⟨fun r hr => (h.each r hr).below hb hB, h.apart⟩
theorem Nums.lt_ {v : Value} {zs : List Int} (h : Nums w B e v zs) {g : Nat} (hg : v.ownBlock = some g) : B ≤ g ∧ g < w.heap.size := World.ownsRow.lt h g hg
/-- A row that a call made behind them. -/
theorem Rows.add (h : Rows w B e rs) (hb : Below w.heap.size w w') {v : Value} {zs : List Int} (hN : Nums w' w.heap.size e v zs) (hB : B ≤ w.heap.size) : Rows w' B e ((v, zs) :: rs) :=
  ⟨fun r hr => by
    rcases List.mem_cons.1 hr with rfl | hr
    · exact hN.low hB
    · exact (h.each r hr).below hb (Nat.le_refl _),
   List.pairwise_cons.2 ⟨fun r hr g hg hv => by
    have h1 := (hN.lt_ hg).1
    have h2 := ((h.each r hr).lt_ hv).2
    omega, h.apart⟩⟩
end
end Go.Proofs.YtcbgflidlpmhcaaGreatDoor

namespace Go.Proofs.YtcbgflidlpmhcaaGreatDoor
open Go.RowKit

/-- What has turned: from block B on, and only such as T says; new blocks are free. -/
structure Tn (B : Nat) (T : Obj → Bool) (w w' : World) : Prop where
  os : w'.os = w.os
  tape : w'.tape = w.tape
  output : w'.output = w.output
  size : w.heap.size ≤ w'.heap.size
  block : ∀ k o, w.heap[k]? = some o → (k < B ∨ T o = false) → w'.heap[k]? = some o
/-- Blocks of type e. -/
def cellsT (e : TypeId) : Obj → Bool
  | .cells _ t _ => t == e
  | _ => false
theorem cellsT_ne {e t : TypeId} (h : t ≠ e) (cs : Array Value) (fr : Nat × Nat) : cellsT e (.cells cs t fr) = false := beq_eq_false_iff_ne.2 h
section
variable {B : Nat} {T : Obj → Bool} {w w' w'' : World}
theorem Tn.refl (B : Nat) (T : Obj → Bool) (w : World) : Tn B T w w := ⟨rfl, rfl, rfl, Nat.le_refl _, fun _ _ h _ => h⟩
theorem Tn.trans (h : Tn B T w w') (g : Tn B T w' w'') : Tn B T w w'' := ⟨g.os.trans h.os, g.tape.trans h.tape, g.output.trans h.output, Nat.le_trans h.size g.size, fun k o hk ho => g.block k o (h.block k o hk ho) ho⟩
theorem Tn.of_below (h : Below w.heap.size w w') : Tn B T w w' := ⟨h.os, h.tape, h.output, h.size, fun k _o hk _ => (h.block k (Array.getElem?_eq_some_iff.1 hk).1).trans hk⟩
theorem Tn.of_grown (h : w.grownBy w' none) : Tn B T w w' := ⟨h.os, h.tape, h.output, h.size, fun k o hk _ => (h.block k (Array.getElem?_eq_some_iff.1 hk).1 (by simp)).trans hk⟩
theorem Tn.alloc (h : Tn B T w w') (o : Obj) : Tn B T w (w'.alloc o) := h.trans (Tn.of_grown (World.grownBy_alloc w' o none))
theorem Tn.drew (h : Tn B T w w') : Tn B T w w'.drew := ⟨h.os, h.tape, h.output, h.size, h.block⟩
theorem Tn.drewN (h : Tn B T w w') (n : Nat) : Tn B T w (w'.drewN n) := ⟨h.os, h.tape, h.output, h.size, h.block⟩
theorem Tn.row {row : Option Nat} (h : Tn B T w w') (g : w'.grownBy w'' row) (hr : ∀ k, row = some k → w.heap.size ≤ k ∨ (B ≤ k ∧ ∃ o, w'.heap[k]? = some o ∧ T o = true)) : Tn B T w w'' := by
  refine ⟨g.os.trans h.os, g.tape.trans h.tape, g.output.trans h.output, Nat.le_trans h.size g.size, fun k o hk ho => ?_⟩
  have h1 := h.block k o hk ho
  by_cases e : some k = row
  · exfalso
    have hlt := (Array.getElem?_eq_some_iff.1 hk).1
    rcases hr k e.symm with h2 | ⟨h2, o', h3, h4⟩
    · omega
    · rw [h1] at h3
      cases h3
      rcases ho with ho | ho
      · omega
      · rw [h4] at ho; cases ho
  · exact (g.block k (Array.getElem?_eq_some_iff.1 h1).1 e).trans h1
theorem Tn.setCell (h : Tn B T w w') {p : Addr} (hp : w.heap.size ≤ p.block ∨ (B ≤ p.block ∧ ∃ o, w'.heap[p.block]? = some o ∧ T o = true)) (u : Value) : Tn B T w (w'.setCell p u) :=
  h.row (row := some p.block) (only_setCell ⟨rfl, rfl, rfl, Nat.le_refl _, fun _ _ _ => rfl⟩ (Or.inl rfl) u) (fun k hk => by cases hk; exact hp)
theorem Tn.below (h : Tn B T w w') (hB : B ≤ w.heap.size) : Below B w w' :=
  ⟨h.os, h.tape, h.output, h.size, fun k hk => by
    have hlt : k < w.heap.size := by omega
    rw [h.block k _ (Array.getElem?_eq_getElem hlt) (Or.inl hk), Array.getElem?_eq_getElem hlt]⟩
theorem Tn.blk (h : Tn B T w w') {g : Nat} {t : TypeId} {cs : Array Value} (hb : Blk w g t cs) (hT : T (.cells cs t (0, 0)) = false) : Blk w' g t cs := h.block g _ hb (Or.inr hT)
theorem Tn.own (h : Tn B T w w') {b : Nat} {e : TypeId} {sz : Nat} {v : Value} {n : Nat} {xs : List Value} (hown : w.ownsRow b e sz v n xs) (hT : ∀ cs fr, T (.cells cs e fr) = false) : w'.ownsRow b e sz v n xs := by
  obtain ⟨h1, h2⟩ := hown
  refine ⟨h1, ?_⟩
  rcases h2 with h2 | ⟨g, cap, cur, e1, e2, e3, e4⟩
  · exact Or.inl h2
  · exact Or.inr ⟨g, cap, cur, e1, e2, h.block g _ e3 (Or.inr (hT _ _)), e4⟩
theorem Tn.mono {T' : Obj → Bool} (h : Tn B T w w') (hT : ∀ o, T' o = false → T o = false) : Tn B T' w w' := ⟨h.os, h.tape, h.output, h.size, fun k o hk ho => h.block k o hk (ho.imp id (hT o))⟩
/-- A row of the kind grew. -/
theorem Tn.grow {e : TypeId} {sz n : Nat} {v : Value} {xs : List Value} (h : Tn B (cellsT e) w w') (hown : w'.ownsRow B e sz v n xs) (g : w'.grownBy w'' v.ownBlock) : Tn B (cellsT e) w w'' :=
  h.row g (fun k hk => by
    rcases hown.2 with ⟨rfl, _⟩ | ⟨g, cap, cur, rfl, hb, hh, _⟩
    · cases hk
    · cases hk
      exact Or.inr ⟨hb, _, hh, beq_self_eq_true e⟩)
end

/-- Elements of a kind: their cells, and their marks. -/
structure El (α : Type) where
  cl : α → List Value
  sz : Nat
  pos : 0 < sz
  len : ∀ x, (cl x).length = sz
  one : ∀ x, ∀ u ∈ cl x, u.oneCell' = true
  mark : Nat → Nat → α
section
variable {α : Type} (E : El α)
def El.row (L : List α) : List Value := L.flatMap E.cl
theorem El.row_length (L : List α) : (E.row L).length = L.length * E.sz := by
  induction L with
  | nil => simp [El.row]
  | cons x L ih => simp only [El.row, List.flatMap_cons, List.length_append, List.length_cons] at *; rw [E.len, ih, Nat.add_mul, Nat.one_mul, Nat.add_comm]
theorem El.row_append (L M : List α) : E.row (L ++ M) = E.row L ++ E.row M := by simp [El.row]
theorem El.row_one (x : α) : E.row [x] = E.cl x := by simp [El.row]
theorem El.row_oneCell (L : List α) : ∀ u ∈ E.row L, u.oneCell' = true := by
  intro u hu
  obtain ⟨m, _, hm⟩ := List.mem_flatMap.1 hu
  exact E.one m u hm
theorem El.row_drop (L : List α) : ∀ i, E.row (L.drop i) = (E.row L).drop (i * E.sz) := by
  induction L with
  | nil => intro i; simp [El.row]
  | cons x L ih =>
    intro i
    cases i with
    | zero => simp
    | succ i =>
      rw [List.drop_succ_cons, ih i]
      simp only [El.row, List.flatMap_cons]
      rw [show (i + 1) * E.sz = (E.cl x).length + i * E.sz by rw [E.len, Nat.add_mul, Nat.one_mul, Nat.add_comm], List.drop_append, show List.drop ((E.cl x).length + i * E.sz) (E.cl x) = [] from List.drop_eq_nil_of_le (by omega), List.nil_append, Nat.add_sub_cancel_left]
theorem El.row_at (L : List α) (i j : Nat) (x : α) (h : L[i]? = some x) (hj : j < E.sz) : (E.row L)[i * E.sz + j]? = (E.cl x)[j]? := by
  have hd := E.row_drop L i
  have hi := (List.getElem?_eq_some_iff.1 h).1
  rw [List.drop_eq_getElem_cons hi, (List.getElem?_eq_some_iff.1 h).2] at hd
  have e : E.row (x :: L.drop (i + 1)) = E.cl x ++ E.row (L.drop (i + 1)) := rfl
  rw [e] at hd
  have := congrArg (fun l : List Value => l[j]?) hd
  simp only [List.getElem?_drop] at this
  rw [List.getElem?_append_left (by rw [E.len]; exact hj)] at this
  exact this.symm
/-- The marks of list i, from a place on. -/
def El.marks (i start n : Nat) : List α := (List.range n).map fun k => E.mark i (start + k)
theorem El.marks_length (i start n : Nat) : (E.marks i start n).length = n := by simp [El.marks]
theorem El.marks_succ (i start n : Nat) : E.marks i start (n + 1) = E.marks i start n ++ [E.mark i (start + n)] := by
  unfold El.marks
  rw [List.range_succ, List.map_append]
  rfl
theorem El.marks_append (i start n m : Nat) : E.marks i start n ++ E.marks i (start + n) m = E.marks i start (n + m) := by
  induction m with
  | zero => simp [El.marks]
  | succ m ih => rw [El.marks_succ, ← List.append_assoc, ih, ← Nat.add_assoc, El.marks_succ, Nat.add_assoc]
theorem El.marks_at (i n j : Nat) (hj : j < n) : (E.marks i 0 n)[j]? = some (E.mark i j) := by
  unfold El.marks
  rw [List.getElem?_map, List.getElem?_range hj]
  simp
end

/-- A row of the call's own, of a kind. -/
def Own {α : Type} (E : El α) (w : World) (B : Nat) (e : TypeId) (v : Value) (L : List α) : Prop := w.ownsRow B e E.sz v L.length (E.row L)
section
variable {α : Type} {E : El α} {w w' : World} {B : Nat} {e : TypeId} {v : Value} {L : List α}
theorem Own.tn (h : Own E w B e v L) {B' : Nat} {T : Obj → Bool} (g : Tn B' T w w') (hT : ∀ cs fr, T (.cells cs e fr) = false) : Own E w' B e v L := g.own h hT
theorem Own.below (h : Own E w B e v L) (g : Below w.heap.size w w') : Own E w' B e v L := (Tn.of_below (B := 0) (T := fun _ => false) g).own h (fun _ _ => rfl)
theorem Own.low (h : Own E w B e v L) {B' : Nat} (hB : B' ≤ B) : Own E w B' e v L := World.ownsRow.mono h hB
theorem Own.lt (h : Own E w B e v L) {g : Nat} (hg : v.ownBlock = some g) : B ≤ g ∧ g < w.heap.size := World.ownsRow.lt h g hg
theorem Own.slice (h : Own E w B e v L) : ∃ a c, v = .slice a L.length c := by
  rcases h.2 with ⟨rfl, h0⟩ | ⟨g, cap, cur, rfl, _⟩
  · exact ⟨none, 0, by rw [h0]⟩
  · exact ⟨_, _, rfl⟩
theorem Own.some_ (h : Own E w B e v L) (hn : 0 < L.length) : ∃ g c cur, v = .slice (some ⟨g, 0, none⟩) L.length c ∧ B ≤ g ∧ w.heap[g]? = some (.cells cur e (0, 0)) := by
  rcases h.2 with ⟨_, h0⟩ | ⟨g, cap, cur, hv, hb, hh, _⟩
  · omega
  · exact ⟨g, cap, cur, hv, hb, hh⟩
theorem Own.cells {g n c : Nat} (h : Own E w B e (.slice (some ⟨g, 0, none⟩) n c) L) {i j : Nat} {x : α} {u : Value} (hx : L[i]? = some x) (hj : j < E.sz) (hu : (E.cl x)[j]? = some u) : w.cell? ⟨g, i * E.sz + j, none⟩ = some u := by
  have := World.ownsRow.cells h (g := g) rfl (i * E.sz + j) u (by rw [E.row_at L i j x hx hj]; exact hu)
  rwa [Addr.add_lit, Nat.zero_add] at this
end

/-- m rows of a kind, apart. -/
structure Rwk {α : Type} (E : El α) (w : World) (B : Nat) (e : TypeId) (m : Nat) (a : Nat → Value) (F : Nat → List α) : Prop where
  each : ∀ i, i < m → Own E w B e (a i) (F i)
  apart : ∀ i j, i < m → j < m → i ≠ j → Off (a i) (a j)
theorem Rwk.tn {α : Type} {E : El α} {w w' : World} {B : Nat} {e : TypeId} {m : Nat} {a : Nat → Value} {F : Nat → List α} (h : Rwk E w B e m a F) {B' : Nat} {T : Obj → Bool} (g : Tn B' T w w') (hT : ∀ cs fr, T (.cells cs e fr) = false) : Rwk E w' B e m a F := ⟨fun i hi => (h.each i hi).tn g hT, h.apart⟩
theorem Rwk.below {α : Type} {E : El α} {w w' : World} {B : Nat} {e : TypeId} {m : Nat} {a : Nat → Value} {F : Nat → List α} (h : Rwk E w B e m a F) (g : Below w.heap.size w w') : Rwk E w' B e m a F := ⟨fun i hi => (h.each i hi).below g, h.apart⟩

/-- f, but x at k. -/
def upk {α : Type} (f : Nat → α) (k : Nat) (x : α) : Nat → α := fun i => if i = k then x else f i
theorem upk_at {α : Type} (f : Nat → α) (k : Nat) (x : α) : upk f k x k = x := if_pos rfl
theorem upk_ne {α : Type} (f : Nat → α) {k i : Nat} (x : α) (h : i ≠ k) : upk f k x i = f i := if_neg h
theorem upk_upk {α : Type} (f : Nat → α) (k : Nat) (x y : α) : upk (upk f k x) k y = upk f k y := by
  funext i; unfold upk; split <;> rfl
theorem upk_self {α : Type} (f : Nat → α) (k : Nat) (x : α) (h : f k = x) : upk f k x = f := by
  funext i; unfold upk; split
  · next e => rw [e, h]
  · rfl
theorem range_upk (b : Nat → Value) (k : Nat) (x : Value) : (List.range k).map b ++ [x] = (List.range (k + 1)).map (upk b k x) := by
  rw [List.range_succ, List.map_append, List.map_singleton, upk_at]
  congr 1
  refine List.map_congr_left fun i hi => ?_
  rw [upk_ne]
  have := List.mem_range.1 hi
  omega

theorem own_shrk {w : World} {B g n n' c sz : Nat} {e : TypeId} {xs ys : List Value} (h : w.ownsRow B e sz (.slice (some ⟨g, 0, none⟩) (n + n') c) (n + n') (xs ++ ys)) (hx : xs.length = n * sz) : w.ownsRow B e sz (.slice (some ⟨g, 0, none⟩) n c) n xs := by
  rcases h.2 with ⟨h', _⟩ | ⟨g', cap, cur, h', hb, hh, hnc, hcm, hcs, htake⟩
  · simp at h'
  · simp only [Value.slice.injEq, Option.some.injEq, Addr.mk.injEq, and_true, true_and] at h'
    obtain ⟨rfl, rfl⟩ := h'
    refine ⟨hx, .inr ⟨g, c, cur, rfl, hb, hh, by omega, hcm, hcs, ?_⟩⟩
    rw [← hx]
    have := congrArg (List.take xs.length) htake
    rw [List.take_take, Nat.min_eq_left (by rw [hx]; exact Nat.mul_le_mul_right _ (by omega))] at this
    rw [this, List.take_left]
theorem own_capk {w : World} {B B' g n n' c sz : Nat} {e : TypeId} {v : Value} {xs ys : List Value} (hs : 0 < sz) (h1 : w.ownsRow B e sz (.slice (some ⟨g, 0, none⟩) n c) n xs) (h2 : w.ownsRow B' e sz v n' ys) (hb : v.ownBlock = some g) : v = .slice (some ⟨g, 0, none⟩) n' c := by
  rcases h1.2 with ⟨h', _⟩ | ⟨g', cap, cur, h', _, hh, _, _, hcs, _⟩
  · simp at h'
  · simp only [Value.slice.injEq, Option.some.injEq, Addr.mk.injEq, and_true, true_and] at h'
    obtain ⟨rfl, rfl⟩ := h'
    rcases h2.2 with ⟨rfl, _⟩ | ⟨g2, cap2, cur2, rfl, _, hh2, _, _, hcs2, _⟩
    · simp [Value.ownBlock] at hb
    · simp [Value.ownBlock] at hb
      subst hb
      rw [hh] at hh2
      injection hh2 with hh2
      injection hh2 with h3
      subst h3
      rw [show cap2 = c from Nat.eq_of_mul_eq_mul_right hs (by omega)]
theorem offk_none {v u : Value} (h : Off v u) : u.ownBlock = none ∨ u.ownBlock ≠ v.ownBlock := by
  cases hu : u.ownBlock with
  | none => exact Or.inl rfl
  | some g => exact Or.inr fun e => h g e.symm hu

/-- m rows and what has grown out of them: apart, but that a row may lie at the head of what has grown out of it. -/
structure Famk {α : Type} (E : El α) (w : World) (B : Nat) (e : TypeId) (m : Nat) (a b : Nat → Value) (F H : Nat → List α) : Prop where
  ra : ∀ i, i < m → Own E w B e (a i) (F i)
  rb : ∀ i, i < m → Own E w B e (b i) (H i)
  oaa : ∀ i j, i < m → j < m → i ≠ j → Off (a i) (a j)
  oab : ∀ i j, i < m → j < m → i ≠ j → Off (a i) (b j)
  obb : ∀ i j, i < m → j < m → i ≠ j → Off (b i) (b j)
  tie : ∀ i, i < m → Off (a i) (b i) ∨ ∃ g c ys, a i = .slice (some ⟨g, 0, none⟩) (F i).length c ∧ b i = .slice (some ⟨g, 0, none⟩) (H i).length c ∧ H i = F i ++ ys
section
variable {α : Type} {E : El α} {w w' : World} {B : Nat} {e : TypeId} {m : Nat} {a b : Nat → Value} {F H : Nat → List α}
theorem Famk.start (h : Rwk E w B e m a F) : Famk E w B e m a a F F :=
  ⟨h.each, h.each, h.apart, h.apart, h.apart, fun i hi => by
    rcases (h.each i hi).2 with ⟨e, _⟩ | ⟨g, cap, cur, e, _⟩
    · exact Or.inl fun g hg => by rw [e] at hg; simp [Value.ownBlock] at hg
    · exact Or.inr ⟨g, cap, [], e, e, by simp⟩⟩
theorem Famk.tn (h : Famk E w B e m a b F H) {B' : Nat} {T : Obj → Bool} (g : Tn B' T w w') (hT : ∀ cs fr, T (.cells cs e fr) = false) : Famk E w' B e m a b F H := ⟨fun i hi => (h.ra i hi).tn g hT, fun i hi => (h.rb i hi).tn g hT, h.oaa, h.oab, h.obb, h.tie⟩
theorem Famk.below (h : Famk E w B e m a b F H) (g : Below w.heap.size w w') : Famk E w' B e m a b F H := h.tn (Tn.of_below (B := 0) (T := fun _ => false) g) (fun _ _ => rfl)
theorem Famk.append (h : Famk E w B e m a b F H) {k : Nat} (hk : k < m) {v' : Value} {zs : List α} {p : Nat} (hp : zs.length = p)
    (hown : w'.ownsRow B e E.sz v' ((H k).length + p) (E.row (H k) ++ E.row zs)) (hgr : w.grownBy w' (b k).ownBlock)
    (hold : Own E w' B e (b k) (H k)) (hblk : v'.ownBlock = (b k).ownBlock ∨ ∀ g, v'.ownBlock = some g → w.heap.size ≤ g) :
    Famk E w' B e m a (upk b k v') F (upk H k (H k ++ zs)) := by
  have kept : ∀ u xs, Own E w B e u xs → Off (b k) u → Own E w' B e u xs := fun u xs hu ho => World.ownsRow.kept hu hgr (offk_none ho)
  have offv : ∀ u xs, Own E w B e u xs → Off u (b k) → Off u v' := by
    intro u xs hu ho g hg hv
    rcases hblk with e | e
    · exact ho g hg (e ▸ hv)
    · have h1 := e g hv
      have h2 := (hu.lt hg).2
      omega
  refine ⟨fun i hi => ?_, fun i hi => ?_, h.oaa, fun i j hi hj hij => ?_, fun i j hi hj hij => ?_, fun i hi => ?_⟩
  · by_cases hik : i = k
    · subst hik
      rcases h.tie i hi with ho | ⟨g, c, ys, ea, eb, eh⟩
      · exact kept _ _ (h.ra i hi) ho.symm
      · unfold Own at hold ⊢
        rw [eb, eh, List.length_append, E.row_append] at hold
        rw [ea]
        exact own_shrk hold (E.row_length _)
    · exact kept _ _ (h.ra i hi) (h.oab i k hi hk hik).symm
  · by_cases hik : i = k
    · subst hik
      rw [upk_at, upk_at]
      unfold Own
      rw [List.length_append, E.row_append, hp]
      exact hown
    · rw [upk_ne _ _ hik, upk_ne _ _ hik]
      exact kept _ _ (h.rb i hi) (h.obb i k hi hk hik).symm
  · by_cases hjk : j = k
    · subst hjk
      rw [upk_at]
      exact offv _ _ (h.ra i hi) (h.oab i j hi hj hij)
    · rw [upk_ne _ _ hjk]
      exact h.oab i j hi hj hij
  · by_cases hjk : j = k
    · subst hjk
      rw [upk_at, upk_ne _ _ hij]
      exact offv _ _ (h.rb i hi) (h.obb i j hi hj hij)
    · rw [upk_ne _ _ hjk]
      by_cases hik : i = k
      · subst hik
        rw [upk_at]
        exact (offv _ _ (h.rb j hj) (h.obb j i hj hi (Ne.symm hij))).symm
      · rw [upk_ne _ _ hik]
        exact h.obb i j hi hj hij
  · by_cases hik : i = k
    · subst hik
      rw [upk_at, upk_at]
      rcases h.tie i hi with ho | ⟨g, c, ys, ea, eb, eh⟩
      · exact Or.inl (offv _ _ (h.ra i hi) ho)
      · rcases hblk with e | e
        · refine Or.inr ⟨g, c, ys ++ zs, ea, ?_, by rw [eh, List.append_assoc]⟩
          unfold Own at hold
          rw [eb] at hold e
          rw [List.length_append, hp]
          exact own_capk E.pos hold hown e
        · refine Or.inl fun g' hg' hv => ?_
          have h1 := e g' hv
          have h2 := ((h.ra i hi).lt hg').2
          omega
    · rw [upk_ne _ _ hik, upk_ne _ _ hik]
      exact h.tie i hi
theorem Famk.marked {k N p : Nat} {l l' : Value} (h : Famk E w B e m a (upk b k l) F (upk H k (E.marks k 0 N))) (hk : k < m)
    (hown : w'.ownsRow B e E.sz l' (N + p) (E.row (E.marks k 0 N) ++ E.row (E.marks k N p))) (hgr : w.grownBy w' l.ownBlock)
    (hold : w'.ownsRow B e E.sz l N (E.row (E.marks k 0 N))) (hblk : l'.ownBlock = l.ownBlock ∨ ∀ g, l'.ownBlock = some g → w.heap.size ≤ g) :
    Famk E w' B e m a (upk b k l') F (upk H k (E.marks k 0 (N + p))) := by
  have := Famk.append h hk (v' := l') (zs := E.marks k N p) (p := p) (E.marks_length _ _ _) (by rw [upk_at, E.marks_length]; exact hown) (by rw [upk_at]; exact hgr) (by unfold Own; rw [upk_at, upk_at, E.marks_length]; exact hold) (by rw [upk_at]; exact hblk)
  rw [upk_upk, upk_upk, upk_at] at this
  have e := E.marks_append k 0 N p
  rw [Nat.zero_add] at e
  rw [e] at this
  exact this
end

/-- 'append(r, l...)' of elements of a kind, be l none. -/
theorem app_own {P : Program} {α : Type} (E : El α) (te e : TypeId) (z : Value) (bytes : Nat) (ht : P.underlying te = some (.slice e)) (hinfo : (P.info? e).map (fun i => (i.zero, i.size, i.bytes)) = some (some z, E.sz, bytes)) (hzs : z.cells.size = E.sz)
    (w : World) (base : Nat) (v : Value) (L M : List α) (hown : Own E w base e v L) (A : Option Addr) (c : Nat) (hA : A = none → M = []) (hM : ∀ a, A = some a → ∀ j u, (E.row M)[j]? = some u → w.cell? (a.add j) = some u)
    (h63 : L.length + M.length ≤ maxLen) (hbytes : (L.length + M.length) * bytes ≤ 140737488355328) (hbase : base ≤ w.heap.size) (m : Nat) (hm : m = M.length) :
    ∃ v' w', (∀ ty, (Builtin.append_ #[te, te] ty #[v, .slice A m c]).run P w = .ok v' w') ∧ Own E w' base e v' (L ++ M) ∧ w.grownBy w' v.ownBlock ∧ Own E w' base e v L ∧ (v'.ownBlock = v.ownBlock ∨ ∀ g, v'.ownBlock = some g → w.heap.size ≤ g) := by
  obtain ⟨i0, hi, hz, hsize, hby⟩ := info_parts hinfo
  subst hm
  cases A with
  | some a =>
    obtain ⟨v', w', hr, h2, h3, _⟩ := run_append_own (P := P) w base te 0 e i0 z E.sz bytes ht hi hz hsize hby hzs E.pos v L.length (E.row L) hown a M.length c (E.row M) (E.row_length M) (hM a rfl) (E.row_oneCell M) h63 hbytes hbase
    obtain ⟨h4, h5⟩ := append_keep w base te 0 e i0 z E.sz bytes ht hi hz hsize hby v L.length (E.row L) hown a M.length c (E.row M) (E.row_length M) (hM a rfl) (E.row_oneCell M) h63 hbytes v' w' hr
    refine ⟨v', w', fun ty => by rw [← hr]; rfl, ?_, h3, h4, h5⟩
    unfold Own
    rw [List.length_append, E.row_append]
    exact h2
  | none =>
    obtain rfl := hA rfl
    have hr : ∀ ty, (Builtin.append_ #[te, te] ty #[v, .slice none 0 c]).run P w = .ok v w := fun ty => by
      rcases hown.2 with ⟨rfl, _⟩ | ⟨g, cap, cur, rfl, _, _, hle, _⟩
      · simp [Builtin.append_, run_underlying ht, sizeOf, typeInfo, hi, Builtin.lenOf, Builtin.firstCells]
      · simp [Builtin.append_, run_underlying ht, sizeOf, typeInfo, hi, Builtin.lenOf, Builtin.firstCells, loadCells, storeCells, hle]
    exact ⟨v, w, hr, by rw [List.append_nil]; exact hown, ⟨rfl, rfl, rfl, Nat.le_refl _, fun _ _ _ => rfl⟩, hown, Or.inl rfl⟩
/-- An append whose run is known: in a region that draws nothing, and in one that draws. -/
theorem wpList_append_k {P : Program} (w w' : World) {ops : Array Oper} {rest : List Oper} {o : Oper} {a : Act} {Q : Exit → Act → World → Prop} (hgd : o.guard = none) (s x : Operand) (t : TypeId)
    (ho : o.op = .call { callee := .builtin .append, args := #[s, x], argTypes := #[t, t] }) (vs vx v : Value) (hs : a.eval s = vs) (hx : a.eval x = vx) (hrun : ∀ ty, (Builtin.append_ #[t, t] ty #[vs, vx]).run P w = .ok v w')
    (h : wpList P ops Q rest (a.put o.dst v) w') : wpList P ops Q (o :: rest) a w := by
  refine wpList_plain hgd fun _ hK => ?_
  unfold Oper.wp execOp
  simp only [ho, resolve, invoke, builtin, Sem.run_bind, Sem.run_pure, Result.andThen_ok, List.map_toArray, List.map_cons, List.map_nil, hs, hx, hrun]
  exact hK _ _ h
theorem step_append_k {P : Program} {ops : Array Oper} {o : Oper} {a : Act} {w w' : World} {K : Act → World → Prop} {Q : Exit → Act → World → Prop} {E : Prop}
    (hg : o.guard = none) (s x : Operand) (t : TypeId) (hop : o.op = Op.call { callee := Callee.builtin Builtin.append, args := #[s, x], argTypes := #[t, t] })
    (vs vx v : Value) (hs : a.eval s = vs) (hx : a.eval x = vx) (hrun : (Builtin.append_ #[t, t] o.type #[vs, vx]).run P w = .ok v w') (hK : K (a.put o.dst v) w') :
    if Region.wanted o (yielded ops a.tmps) = true then Oper.wp P o a w K Q else E := by
  have hw : Region.wanted o (yielded ops a.tmps) = true := by simp [Region.wanted, hg]
  rw [if_pos hw]
  unfold Oper.wp
  simp [execOp, hop, resolve, invoke, builtin, hs, hx, hrun, Result.andThen]
  exact hK
/-- All that is in a block of its own can be read. -/
theorem own_reads {α : Type} {E : El α} {w : World} {B : Nat} {e : TypeId} {A : Option Addr} {n c : Nat} {L : List α} (h : Own E w B e (.slice A n c) L) : n = L.length ∧ (A = none → L = []) ∧ ∀ a, A = some a → ∀ j u, (E.row L)[j]? = some u → w.cell? (a.add j) = some u := by
  have hc := fun g hg => World.ownsRow.cells h (g := g) hg
  rcases h.2 with ⟨h1, h0⟩ | ⟨g, cap, cur, hv, _⟩
  · injection h1 with e1 e2 e3
    subst e1 e2
    exact ⟨h0.symm, fun _ => List.eq_nil_of_length_eq_zero h0, fun a ha => by cases ha⟩
  · injection hv with e1 e2 e3
    subst e1
    exact ⟨e2, (fun h => by cases h), fun a ha => by cases ha; exact hc g rfl⟩
/-- Grown in a row that is new: grown in none. -/
theorem grow_k {a b c : World} {base : Nat} {e : TypeId} {sz n : Nat} {v : Value} {xs : List Value} (h : a.grownBy b none) (hown : b.ownsRow base e sz v n xs) (hb : a.heap.size ≤ base) (g : b.grownBy c v.ownBlock) : a.grownBy c none :=
  ⟨g.os.trans h.os, g.tape.trans h.tape, g.output.trans h.output, Nat.le_trans h.size g.size, fun k hk _ => (g.block k (Nat.lt_of_lt_of_le hk h.size) (fun e => by have := (hown.lt k e.symm).1; omega)).trans (h.block k hk (by simp))⟩
theorem gnone {a b c : World} (h : a.grownBy b none) (g : b.grownBy c none) : a.grownBy c none :=
  ⟨g.os.trans h.os, g.tape.trans h.tape, g.output.trans h.output, Nat.le_trans h.size g.size, fun k hk _ => (g.block k (Nat.lt_of_lt_of_le hk h.size) (by simp)).trans (h.block k hk (by simp))⟩
theorem grefl (w : World) (row : Option Nat) : w.grownBy w row := ⟨rfl, rfl, rfl, Nat.le_refl _, fun _ _ _ => rfl⟩
theorem below_g {w w' : World} (h : w.grownBy w' none) : Below w.heap.size w w' := ⟨h.os, h.tape, h.output, h.size, fun k hk => h.block k hk (by simp)⟩
theorem g_below {w w' : World} (h : Below w.heap.size w w') : w.grownBy w' none := ⟨h.os, h.tape, h.output, h.size, fun k hk _ => h.block k hk⟩
end Go.Proofs.YtcbgflidlpmhcaaGreatDoor

namespace Go.Proofs.YtcbgflidlpmhcaaGreatDoor
open Go.RowKit

def bname (i k : Nat) : ByteArray := ⟨#[109, UInt8.ofNat (65 + i % 26), UInt8.ofNat (65 + i / 26 % 26), UInt8.ofNat (48 + k % 10), UInt8.ofNat (48 + k / 10 % 10), UInt8.ofNat (48 + k / 100 % 10)]⟩

set_option maxRecDepth 100000 in
set_option maxHeartbeats 1000000 in
theorem bname_any (i k : Nat) (w : World) (hi : i ≤ 1000) (hk : k ≤ 1000000) :
    Calls Tryz.prog 179 #[.int .i64 (i : Int), .int .i64 (k : Int)] w fun e w' => e = .returned (.string (bname i k)) ∧ Below w.heap.size w w' := by
  have hi' : (i : Int) ≤ 1000 := by omega
  have hk' : (k : Int) ≤ 1000000 := by omega
  obtain ⟨z1, hz1, g1⟩ : ∃ z : Nat, 65 + (i : Int) % 26 = (z : Int) ∧ z < 256 ∧ UInt8.ofNat (65 + i % 26) = UInt8.ofNat z := ⟨65 + i % 26, by omega, by omega, rfl⟩
  obtain ⟨z2, hz2, g2⟩ : ∃ z : Nat, 65 + (i : Int) / 26 % 26 = (z : Int) ∧ z < 256 ∧ UInt8.ofNat (65 + i / 26 % 26) = UInt8.ofNat z := ⟨65 + i / 26 % 26, by omega, by omega, rfl⟩
  obtain ⟨z3, hz3, g3⟩ : ∃ z : Nat, 48 + (k : Int) % 10 = (z : Int) ∧ z < 256 ∧ UInt8.ofNat (48 + k % 10) = UInt8.ofNat z := ⟨48 + k % 10, by omega, by omega, rfl⟩
  obtain ⟨z4, hz4, g4⟩ : ∃ z : Nat, 48 + (k : Int) / 10 % 10 = (z : Int) ∧ z < 256 ∧ UInt8.ofNat (48 + k / 10 % 10) = UInt8.ofNat z := ⟨48 + k / 10 % 10, by omega, by omega, rfl⟩
  obtain ⟨z5, hz5, g5⟩ : ∃ z : Nat, 48 + (k : Int) / 100 % 10 = (z : Int) ∧ z < 256 ∧ UInt8.ofNat (48 + k / 100 % 10) = UInt8.ofNat z := ⟨48 + k / 100 % 10, by omega, by omega, rfl⟩
  unfold bname
  rw [g1.2, g2.2, g3.2, g4.2, g5.2]
  replace g1 := g1.1
  replace g2 := g2.1
  replace g3 := g3.1
  replace g4 := g4.1
  replace g5 := g5.1
  have hu : ∀ z : Nat, z < 256 → (z : Int) = ((UInt8.ofNat z).toNat : Int) := fun z hz => by rw [UInt8.toNat_ofNat']; omega
  have hcv : (convert 68 9 (.slice (some ⟨w.heap.size, 0, none⟩) 6 6)).run Tryz.prog (w.alloc (.cells #[.int .u8 109, .int .u8 (z1 : Int), .int .u8 (z2 : Int), .int .u8 (z3 : Int), .int .u8 (z4 : Int), .int .u8 (z5 : Int)] 5)) = .ok (.string ⟨#[109, UInt8.ofNat z1, UInt8.ofNat z2, UInt8.ofNat z3, UInt8.ofNat z4, UInt8.ofNat z5]⟩) (w.alloc (.cells #[.int .u8 109, .int .u8 (z1 : Int), .int .u8 (z2 : Int), .int .u8 (z3 : Int), .int .u8 (z4 : Int), .int .u8 (z5 : Int)] 5)) := by
    refine run_convert_bytes_back _ 68 9 5 ⟨w.heap.size, 0, none⟩ 6 [109, UInt8.ofNat z1, UInt8.ofNat z2, UInt8.ofNat z3, UInt8.ofNat z4, UInt8.ofNat z5] Tryz.underlying68 Tryz.underlying5 Tryz.underlying9 fun j hj => ?_
    refine cells_new w 5 [.int .u8 109, .int .u8 (z1 : Int), .int .u8 (z2 : Int), .int .u8 (z3 : Int), .int .u8 (z4 : Int), .int .u8 (z5 : Int)] j _ ?_
    rw [hu z1 g1, hu z2 g2, hu z3 g3, hu z4 g4, hu z5 g5]
    match j, hj with
    | 0, _ => rfl
    | 1, _ => rfl
    | 2, _ => rfl
    | 3, _ => rfl
    | 4, _ => rfl
    | 5, _ => rfl
  clear hu
  have hb : Below w.heap.size w (w.alloc (.cells #[.int .u8 109, .int .u8 (z1 : Int), .int .u8 (z2 : Int), .int .u8 (z3 : Int), .int .u8 (z4 : Int), .int .u8 (z5 : Int)] 5)) := (Below.refl _ _).alloc (Nat.le_refl _) _
  go_enter Tryz.func179, Tryz.ntmps179
  go_wp2_with fail
  go_ret
  exact ⟨rfl, hb⟩
end Go.Proofs.YtcbgflidlpmhcaaGreatDoor

namespace Go.Proofs.YtcbgflidlpmhcaaGreatDoor
open Go.RowKit

def elInts : El (Int) := ⟨fun x => [.int .i64 x], 1, by decide, fun _ => rfl, fun x u hu => by simp at hu; subst hu; rfl, fun i k => -1000000 * (i : Int) - (k : Int) - 7⟩
def okInts (_x : Int) : Prop := True
theorem okmInts (i start n : Nat) : ∀ x ∈ elInts.marks i start n, okInts x := by
  intro x hx
  obtain ⟨k, _, rfl⟩ := List.mem_map.1 hx
  exact trivial
theorem infoInts : (Tryz.prog.info? 3).map (fun i => (i.zero, i.size, i.bytes)) = some (some (.int .i64 0), elInts.sz, 8) := by kernel_rfl
theorem underInts : Tryz.prog.underlying 82 = some (.slice 3) := by kernel_rfl
set_option maxRecDepth 100000 in
set_option maxHeartbeats 1000000 in
theorem markInts_any (i start n : Nat) (w : World) (hi : i ≤ 1000) (hn : start + n ≤ 1000000) :
    Calls Tryz.prog 153 #[.int .i64 (i : Int), .int .i64 (start : Int), .int .i64 (n : Int)] w fun e w' => ∃ v, e = .returned v ∧ Own elInts w' w.heap.size 3 v (elInts.marks i start n) ∧ w.grownBy w' none := by
  have a1 : (i : Int) ≤ 1000 := by omega
  have a2 : (start : Int) + (n : Int) ≤ 1000000 := by omega
  go_enter Tryz.func153, Tryz.ntmps153
  go_wp2_with fail
  go_loopw [7, 8] (fun o k wr => ∃ j : Nat, j ≤ n ∧ k = .int .i64 ((start : Int) + (j : Int)) ∧ Hid (Own elInts wr w.heap.size 3 o (elInts.marks i start j)) ∧ Hid (w.grownBy wr none)) (fun _ k _ => start + n - (intOf k).toNat)
  case atStart => exact ⟨0, by omega, by simp, World.ownsRow_nil _ _ _ _, grefl _ _⟩
  case round =>
    obtain ⟨j, hj, rfl, HN, HG⟩ := hrel
    by_cases hl : j < n
    · obtain ⟨ao, co, eo⟩ := HN.out.slice
      rw [El.marks_length] at eo
      subst eo
      have hl1 : (start : Int) + (j : Int) < (start : Int) + (n : Int) := by omega
      have hjn : j ≤ 1000000 := by omega
      obtain ⟨w1, hw1⟩ : ∃ w1, w1 = wr := ⟨_, rfl⟩
      have HN1 : Hid (Own elInts w1 w.heap.size 3 (.slice ao j co) (elInts.marks i start j)) := by rw [hw1]; exact HN
      have HG1 : Hid (w.grownBy w1 none) := by rw [hw1]; exact HG
      have Ha : Own elInts (w1.alloc (.cells #[.int .i64 (-1000000 * (i : Int) - ((start : Int) + (j : Int)) - 7)] 3)) w.heap.size 3 (.slice ao j co) (elInts.marks i start j) := World.ownsRow.alloc HN1.out _
      obtain ⟨v', w2, hr, hown, hgr, _, _⟩ := app_own (P := Tryz.prog) elInts 82 3 (.int .i64 0) 8 underInts infoInts rfl (w1.alloc (.cells #[.int .i64 (-1000000 * (i : Int) - ((start : Int) + (j : Int)) - 7)] 3)) w.heap.size (.slice ao j co) (elInts.marks i start j) [elInts.mark i (start + j)] Ha (some ⟨w1.heap.size, 0, none⟩) 1 (fun h => by cases h) (fun a ha j' u hu => by
        cases ha
        rw [El.row_one] at hu
        refine cells_new w1 3 [.int .i64 (-1000000 * (i : Int) - ((start : Int) + (j : Int)) - 7)] j' u ?_
        have e1 : ((start + j : Nat) : Int) = (start : Int) + (j : Int) := by push_cast; rfl
        rw [show elInts.mark i (start + j) = -1000000 * (i : Int) - ((start + j : Nat) : Int) - 7 from rfl, e1] at hu
        exact hu) (by rw [El.marks_length]; unfold maxLen; simp; omega) (by rw [El.marks_length]; simp; omega) (Nat.le_trans HG1.out.size (by simp)) 1 rfl
      rw [← El.marks_succ] at hown
      have HR := fun ty => Lib.hid (hr ty)
      have HN2 := Lib.hid hown
      have HG2 := Lib.hid (grow_k (gnone HG1.out (World.grownBy_alloc w1 (.cells #[.int .i64 (-1000000 * (i : Int) - ((start : Int) + (j : Int)) - 7)] 3) none)) Ha (Nat.le_refl _) hgr)
      clear hr hown hgr Ha HN HG HN1 HG1
      subst hw1
      go_wp2_with (at_builtin; refine wpList_append_k _ w2 rfl (.tmp 17) (.tmp 23) 82 rfl _ _ v' rfl rfl (fun ty => (HR ty).out) ?_)
      go_roundw
      case rel => exact ⟨j + 1, by omega, by go_num, HN2, HG2⟩
      case measure => simp [intOf]; omega
    · obtain rfl : j = n := by omega
      go_wp2_with fail
      go_ret
      exact ⟨_, rfl, HN.out, HG.out⟩

set_option maxRecDepth 100000 in
set_option maxHeartbeats 1000000 in
theorem sameInts_any (A1 A2 : Option Addr) (n1 n2 c1 c2 B1 B2 : Nat) (L : List (Int)) (w : World) (h1 : Own elInts w B1 3 (.slice A1 n1 c1) L) (h2 : Own elInts w B2 3 (.slice A2 n2 c2) L) (hL : L.length ≤ 1000000) (_hok : ∀ x ∈ L, okInts x) :
    Calls Tryz.prog 134 #[.slice A1 n1 c1, .slice A2 n2 c2] w fun e w' => e = .returned (.bool true) ∧ ∃ q, w' = w.drewN q := by
  have r1 := own_reads h1
  have r2 := own_reads h2
  obtain ⟨rfl, _, rd1⟩ := r1
  obtain ⟨rfl, _, rd2⟩ := r2
  have f1 := fun hn => Own.some_ h1 hn
  have f2 := fun hn => Own.some_ h2 hn
  obtain ⟨n, hn⟩ : ∃ n, n = L.length := ⟨_, rfl⟩
  have HL := Lib.hid hn
  rw [← hn] at f1 f2 hL ⊢
  have H1 := Lib.hid h1
  have H2 := Lib.hid h2
  have F1 := Lib.hid f1
  have F2 := Lib.hid f2
  have hL' : (n : Int) ≤ 1000000 := by omega
  clear h1 h2 rd1 rd2 f1 f2 hn
  go_enter Tryz.func134, Tryz.ntmps134
  go_wp2_with fail
  go_loopw [5] (fun i wr => ∃ k q : Nat, k ≤ n ∧ i = .int .i64 (k : Int) ∧ Hid (wr = w.drewN q)) (fun i _ => n - (intOf i).toNat)
  case atStart => exact ⟨0, 0, by omega, rfl, rfl⟩
  case round =>
    obtain ⟨k, q, hk, rfl, Hw⟩ := hrel
    by_cases hl : k < n
    · obtain ⟨g1, d1, cur1, e1, _⟩ := F1.out (by omega)
      obtain ⟨g2, d2, cur2, e2, _⟩ := F2.out (by omega)
      injection e1 with e1 e1b e1c
      injection e2 with e2 e2b e2c
      clear e1b e1c e2b e2c
      subst e1 e2
      have hkL : k < L.length := by rw [← HL.out]; exact hl
      obtain ⟨x, hx⟩ : ∃ x, L[k]? = some x := ⟨_, List.getElem?_eq_getElem hkL⟩
      have y0 : wr.cell? ⟨g1, k, none⟩ = some (.int .i64 x) := by
        rw [Hw.out]
        have h9 := Own.cells (j := 0) H1.out hx (by decide) rfl
        rwa [show k * elInts.sz + 0 = k from by show k * 1 + 0 = _; omega] at h9
      have z0 : wr.cell? ⟨g2, k, none⟩ = some (.int .i64 x) := by
        rw [Hw.out]
        have h9 := Own.cells (j := 0) H2.out hx (by decide) rfl
        rwa [show k * elInts.sz + 0 = k from by show k * 1 + 0 = _; omega] at h9
      have hl1 : (k : Int) < (n : Int) := by omega
      clear hx hkL
      go_wp2_with fail
      go_quiet (fail)
      go_wp2_with fail
      go_roundw
      case rel => exact ⟨k + 1, _, by omega, by go_num, (by rw [Hw.out, World.drewN_drewN]; rfl)⟩
      case measure => simp [intOf]; omega
    · obtain rfl : k = n := by omega
      go_wp2_with fail
      go_ret
      exact ⟨rfl, q, Hw.out⟩
end Go.Proofs.YtcbgflidlpmhcaaGreatDoor

namespace Go.Proofs.YtcbgflidlpmhcaaGreatDoor
open Go.RowKit

/-- What four of a sum's eight steps make of four bits. -/
def halvesL : List Int := [0, 274646895, 549293790, 820201905, 1098587580, 1361435347, 1640403810, 1905808397, 2197175160, 2460548119, 2722870694, 2987750089, 3280807620, 3553878443, 3811616794, 4084100981]

def halfN (i : Nat) : Nat := (halvesL.getD i 0).toNat
theorem halfN_lt : ∀ i < 16, halvesL.getD i 0 = (halfN i : Int) ∧ halfN i < 4294967296 := by decide

/-- Four bits of a sum. -/
def nib (b : Nat) : Nat := (b / 16) ^^^ halfN (b % 16)
theorem nib_lt (b : Nat) (hb : b < 4294967296) : nib b < 4294967296 := by
  have h1 := (halfN_lt (b % 16) (by omega)).2
  exact Nat.xor_lt_two_pow (n := 32) (by omega) (by omega)

/-- A sum goes on by a byte. -/
def sumStep (a : Nat) (c : UInt8) : Nat := nib (nib (a ^^^ c.toNat))
theorem sumStep_lt (a : Nat) (c : UInt8) (ha : a < 4294967296) : sumStep a c < 4294967296 :=
  nib_lt _ (nib_lt _ (Nat.xor_lt_two_pow (n := 32) ha (by have := UInt8.toNat_lt c; omega)))

def sumL (l : List UInt8) : Nat := l.foldl sumStep 4294967295
theorem foldl_sum_lt (l : List UInt8) (a : Nat) (ha : a < 4294967296) : l.foldl sumStep a < 4294967296 := by
  induction l generalizing a with
  | nil => exact ha
  | cons c r ih => exact ih _ (sumStep_lt a c ha)
theorem sumL_lt (l : List UInt8) : sumL l < 4294967296 := foldl_sum_lt l _ (by decide)

theorem sum_snoc (s : ByteArray) (k : Nat) (h : k < s.size) : sumL (s.data.toList.take (k + 1)) = sumStep (sumL (s.data.toList.take k)) s[k] := by
  unfold sumL
  rw [List.take_succ_eq_append_getElem (by simpa using h), List.foldl_append]
  rfl

theorem nib_walk (b : Nat) (hb : b < 4294967296) : bits .and .u32 (b : Int) 15 = ((b % 16 : Nat) : Int) ∧ bits .xor .u32 ((b : Int) / 16) (halvesL.getD (b % 16) 0) = (nib b : Int) := by
  have h1 := halfN_lt (b % 16) (by omega)
  constructor
  · have := u32_and_nat b 15 hb (by decide)
    rw [show b &&& 15 = b % 16 from Nat.and_two_pow_sub_one_eq_mod b 4] at this
    exact this
  · rw [h1.1, show (b : Int) / 16 = ((b / 16 : Nat) : Int) from by omega, u32_xor_nat _ _ (by omega) h1.2]
    rfl

/-- The check sum of some bytes. -/
def crc (l : List UInt8) : Nat := 4294967295 - sumL l

set_option maxRecDepth 100000 in
set_option maxHeartbeats 1000000 in
theorem sum_any (s : ByteArray) (w : World) (hs : s.size ≤ 9223372036854775807) (hT : Lib.TabIs Tryz.prog w "bedrock/raw.halves" .u32 halvesL) :
    Calls Tryz.prog 33 #[.string s] w fun e w' => e = .returned (.int .i64 (crc s.data.toList : Int)) ∧ w = w' := by
  have HT := Lib.hid hT
  clear hT
  go_enter Tryz.func33, Tryz.ntmps33
  go_wp2
  go_loop [3, 7] (fun x i => ∃ k a : Nat, k ≤ s.size ∧ i = .int .i64 (k : Int) ∧ x = .int .u32 (a : Int) ∧ a < 4294967296 ∧ Hid (a = sumL (s.data.toList.take k))) (fun _ i => s.size - (intOf i).toNat)
  case atStart => exact ⟨0, 4294967295, by omega, rfl, rfl, by omega, rfl⟩
  case round =>
    obtain ⟨k, a, hk, rfl, rfl, ha, Ha⟩ := hrel
    by_cases hl : k < s.size
    · have hb8 := UInt8.toNat_lt s[k]
      obtain ⟨b, hb⟩ : ∃ b, b = a ^^^ (s[k]'hl).toNat := ⟨_, rfl⟩
      have hblt : b < 4294967296 := by rw [hb]; exact Nat.xor_lt_two_pow (n := 32) ha (by omega)
      have x1 : bits .xor .u32 (a : Int) ((s[k]'hl).toNat : Int) = (b : Int) := by
        rw [u32_xor_nat _ _ ha (by omega), hb]
      have Hb := Lib.hid hb
      clear hb
      obtain ⟨i, hi⟩ : ∃ i, i = b % 16 := ⟨_, rfl⟩
      have hi16 : i < 16 := by omega
      obtain ⟨x2, x3⟩ := nib_walk b hblt
      rw [← hi] at x2 x3
      have c1 := HT.out.cell (g := 0) (by kernel_rfl) i (by simp [halvesL]; omega)
      obtain ⟨d, hd⟩ : ∃ d, d = nib b := ⟨_, rfl⟩
      have hdlt : d < 4294967296 := by rw [hd]; exact nib_lt b hblt
      rw [← hd] at x3
      have Hd := Lib.hid hd
      have Hi := Lib.hid hi
      clear hd hi
      obtain ⟨j, hj⟩ : ∃ j, j = d % 16 := ⟨_, rfl⟩
      have hj16 : j < 16 := by omega
      obtain ⟨y2, y3⟩ := nib_walk d hdlt
      rw [← hj] at y2 y3
      have c2 := HT.out.cell (g := 0) (by kernel_rfl) j (by simp [halvesL]; omega)
      clear hj
      obtain ⟨z1, hz1⟩ : ∃ z, z = halvesL.getD i 0 := ⟨_, rfl⟩
      obtain ⟨z2, hz2⟩ : ∃ z, z = halvesL.getD j 0 := ⟨_, rfl⟩
      rw [← hz1] at x3 c1
      rw [← hz2] at y3 c2
      clear hz1 hz2
      have hs1 := Lib.hid (sum_snoc s k hl)
      go_wp2
      go_round
      case rel => exact ⟨k + 1, nib d, by omega, by go_num, rfl, nib_lt d hdlt, by show nib d = _; rw [hs1.out, ← Ha.out]; show nib d = nib (nib _); rw [Hd.out, Hb.out]⟩
      case measure => simp [intOf]; omega
    · obtain rfl : k = s.size := by omega
      have x1 := u32_not_nat a ha
      have hr : Hid ((4294967295 - a : Nat) = crc s.data.toList) := by
        have := Ha.out
        rw [List.take_of_length_le (by simp)] at this
        show 4294967295 - a = 4294967295 - sumL _
        rw [this]
      obtain ⟨r, hrr⟩ : ∃ r, r = 4294967295 - a := ⟨_, rfl⟩
      have hr2 : r ≤ 4294967295 := by omega
      rw [← hrr] at x1
      have Hr : Hid (r = crc s.data.toList) := hrr.trans hr
      clear hrr
      have hw : wrap64 (r : Int) = (r : Int) := IntWalk.wrap64_in _ (by omega)
      go_wp2
      go_ret
      exact ⟨by rw [← Hr.out]; rfl, rfl⟩
end Go.Proofs.YtcbgflidlpmhcaaGreatDoor

namespace Go.Proofs.YtcbgflidlpmhcaaGreatDoor
open Go.RowKit

theorem u8info : (Tryz.prog.info? 5).map (fun i => (i.zero, i.size, i.bytes)) = some (some (.int .u8 0), 1, 1) := by kernel_rfl

/-- A number in groups of seven bits. -/
def pv (v : Nat) : List UInt8 := if v < 128 then [UInt8.ofNat v] else UInt8.ofNat (v % 128 + 128) :: pv (v / 128)
  termination_by v
  decreasing_by omega

theorem or_128 : ∀ c : Nat, c < 256 → bits .or .u8 (c : Int) 128 = ((c % 128 + 128 : Nat) : Int) := by decide +kernel

theorem u8_of (n : Nat) (h : n < 256) : (n : Int) = ((UInt8.ofNat n).toNat : Int) := by simp; omega

theorem pv_more (v : Nat) (h : 128 ≤ v) : pv v = UInt8.ofNat (v % 128 + 128) :: pv (v / 128) := by rw [pv, if_neg (by omega)]
theorem pv_last (v : Nat) (h : v < 128) : pv v = [UInt8.ofNat v] := by rw [pv, if_pos h]

set_option maxRecDepth 100000 in
set_option maxHeartbeats 1000000 in
theorem putvar_any (v : Nat) (w : World) (hv : v < 9223372036854775808) :
    Calls Tryz.prog 163 #[.int .i64 (v : Int)] w fun e w' => e = .returned (.string ⟨(pv v).toArray⟩) ∧ Below w.heap.size w w' := by
  go_enter Tryz.func163, Tryz.ntmps163
  go_wp2
  go_loopw [0, 3] (fun x b wr => ∃ (u : Nat) (l : List UInt8), x = .int .i64 (u : Int) ∧ u * 2 ^ (7 * l.length) ≤ v ∧ l.length ≤ 9 ∧ Hid (pv v = l ++ pv u) ∧ Byt wr w.heap.size 5 b l ∧ Below w.heap.size w wr)
    (fun x _ _ => (intOf x).toNat)
  case atStart => exact ⟨v, [], rfl, by simp, by simp, rfl, Byt.nil _ _ _, Below.refl _ _⟩
  case round =>
    obtain ⟨u, l, rfl, hu, hll, Hl, hown, hbe⟩ := hrel
    have hu' : u ≤ v := Nat.le_trans (Nat.le_mul_of_pos_right u (Nat.two_pow_pos _)) hu
    have Hu := Lib.hid hu
    clear hu
    by_cases h : 128 ≤ u
    · obtain ⟨c, hc⟩ : ∃ c, c = UInt8.ofNat (u % 128 + 128) := ⟨_, rfl⟩
      have hcc : bits .or .u8 ((u : Int) % 256) 128 = (c.toNat : Int) := by
        have h1 := or_128 (u % 256) (by omega)
        rw [show ((u % 256 : Nat) : Int) = (u : Int) % 256 from by omega, show u % 256 % 128 = u % 128 from by omega] at h1
        rw [h1, hc, u8_of _ (by omega)]
      have HC := Lib.hid hcc
      have Hc := Lib.hid hc
      clear hc hcc
      go_wp2_with (at_builtin; refine wpList_append_byte _ rfl (.tmp 8) (.tmp 12) 68 rfl Tryz.underlying68 u8info rfl (hown.alloc _) ⟨wr.heap.size, 0, none⟩ 1 rfl _ (cell_new _ _ _) c HC.out ?c3 ?c4 ?_)
      case c3 => omega
      case c4 => have := hbe.size; simp; omega
      intro v' w' hown' hgr
      have hb' := (hown.alloc _).grown (below_alloc hbe (Nat.le_refl _) _) (by have := hbe.size; simp; omega) hgr
      clear hgr
      go_wp2
      go_roundw
      case rel =>
        refine ⟨u / 128, l ++ [c], by go_num, ?_, ?_, ?_, hown', hb'⟩
        · have h1 : u / 128 * 2 ^ (7 * (l ++ [c]).length) ≤ u * 2 ^ (7 * l.length) := by
            rw [List.length_append, List.length_singleton, Nat.mul_add, Nat.pow_add, ← Nat.mul_assoc, Nat.mul_right_comm]
            exact Nat.mul_le_mul_right _ (by omega)
          exact Nat.le_trans h1 Hu.out
        · rw [List.length_append, List.length_singleton]
          have h2 := Hu.out
          have h3 : 2 ^ 7 * 2 ^ (7 * l.length) ≤ v := Nat.le_trans (Nat.mul_le_mul_right _ h) h2
          rw [← Nat.pow_add] at h3
          have h4 : 7 + 7 * l.length < 63 := by
            rcases Nat.lt_or_ge (7 + 7 * l.length) 63 with h5 | h5
            · exact h5
            · have := Nat.pow_le_pow_right (n := 2) (by decide) h5
              omega
          omega
        · show pv v = _
          rw [Hl.out, pv_more u h, Hc.out]
          simp
      case measure => simp [intOf]; omega
    · obtain ⟨c, hc⟩ : ∃ c, c = UInt8.ofNat u := ⟨_, rfl⟩
      have HC : Hid ((u : Int) = (c.toNat : Int)) := by rw [hc]; exact Lib.hid (u8_of u (by omega))
      have Hc := Lib.hid hc
      clear hc
      go_wp2_with (at_builtin; refine wpList_append_byte _ rfl (.tmp 16) (.tmp 19) 68 rfl Tryz.underlying68 u8info rfl (hown.alloc _) ⟨wr.heap.size, 0, none⟩ 1 rfl _ (cell_new _ _ _) c HC.out ?d3 ?d4 ?_)
      case d3 => omega
      case d4 => have := hbe.size; simp; omega
      intro v' w' hown' hgr
      have hb' := (hown.alloc _).grown (below_alloc hbe (Nat.le_refl _) _) (by have := hbe.size; simp; omega) hgr
      have hcv := hown'.string (src := 68) (dst := 9) Tryz.underlying68 Tryz.underlying5 Tryz.underlying9
      clear hgr
      go_wp2
      go_ret
      exact ⟨by rw [Hl.out, pv_last u (by omega), Hc.out]; rfl, hb'⟩
end Go.Proofs.YtcbgflidlpmhcaaGreatDoor

namespace Go.Proofs.YtcbgflidlpmhcaaGreatDoor
open Go.RowKit

/-- A number as n bytes, the highest first. -/
def be (v n : Nat) : List UInt8 := (List.range n).map fun i => UInt8.ofNat (v / 2 ^ (8 * (n - 1 - i)) % 256)

theorem be_length (v n : Nat) : (be v n).length = n := by simp [be]
theorem be_get (v n k : Nat) (h : k < n) : (be v n)[k]? = some (UInt8.ofNat (v / 2 ^ (8 * (n - 1 - k)) % 256)) := by unfold be; rw [List.getElem?_map, List.getElem?_range h]; rfl
theorem be_step (v n k : Nat) (h : k < n) : (((be v n).take k ++ List.replicate (n - k) (0 : UInt8)).map b8).set k (.int .u8 ((v : Int) / 2 ^ (8 * (n - 1 - k)) % 256)) =
    ((be v n).take (k + 1) ++ List.replicate (n - (k + 1)) (0 : UInt8)).map b8 := by
  obtain ⟨c, hc⟩ : ∃ c, c = UInt8.ofNat (v / 2 ^ (8 * (n - 1 - k)) % 256) := ⟨_, rfl⟩
  have hb : Value.int .u8 ((v : Int) / 2 ^ (8 * (n - 1 - k)) % 256) = b8 c := by
    have e : (v : Int) / 2 ^ (8 * (n - 1 - k)) % 256 = ((v / 2 ^ (8 * (n - 1 - k)) % 256 : Nat) : Int) := by rw [Int.natCast_emod, Int.natCast_ediv, Int.natCast_pow]; rfl
    rw [e, u8_of _ (by omega), ← hc]
    rfl
  have hg := be_get v n k h
  rw [← hc] at hg
  have hl := be_length v n
  have hlt : (List.take k (be v n)).length = k := by simp; omega
  rw [hb, ← List.map_set, List.set_append_right _ _ (by omega), hlt, Nat.sub_self, show n - k = (n - (k + 1)) + 1 from by omega, List.replicate_succ, List.set_cons_zero]
  rw [List.take_add_one, hg]
  simp

set_option maxRecDepth 100000 in
set_option maxHeartbeats 1000000 in
theorem put_bad (v n : Int) (w : World) (hv0 : -9223372036854775808 ≤ v) (hv : v < 9223372036854775808) (h : n < 1 ∨ 7 < n ∨ v < 0 ∨ 2 ^ (8 * n.toNat) ≤ v) :
    Calls Tryz.prog 115 #[.int .i64 v, .int .i64 n] w fun e w' => e = .returned (.tuple #[.string ByteArray.empty, .int .i64 1]) ∧ w = w' := by
  by_cases h1 : n < 1
  · go_enter Tryz.func115, Tryz.ntmps115
    go_wp2
    go_ret2
    exact ⟨rfl, rfl⟩
  by_cases h2 : 7 < n
  · go_enter Tryz.func115, Tryz.ntmps115
    go_wp2
    go_ret2
    exact ⟨rfl, rfl⟩
  by_cases h3 : v < 0
  · go_enter Tryz.func115, Tryz.ntmps115
    go_wp2
    go_ret2
    exact ⟨rfl, rfl⟩
  obtain ⟨n, rfl⟩ := Int.eq_ofNat_of_zero_le (show 0 ≤ n by omega)
  obtain ⟨v, rfl⟩ := Int.eq_ofNat_of_zero_le (show 0 ≤ v by omega)
  have hdv : ((v : Int) / 2 ^ (8 * n) != 0) = true := by
    rcases h with h | h | h | h
    · omega
    · omega
    · omega
    · rw [Int.toNat_natCast] at h
      have h' : 2 ^ (8 * n) ≤ v := by exact_mod_cast h
      have h4 : 1 ≤ v / 2 ^ (8 * n) := (Nat.le_div_iff_mul_le (Nat.two_pow_pos _)).2 (by omega)
      have h5 : ((v : Int) / 2 ^ (8 * n)) = ((v / 2 ^ (8 * n) : Nat) : Int) := by push_cast; rfl
      rw [h5, bne_iff_ne]
      omega
  have h1' : (1 : Int) ≤ n := by omega
  have h2' : (n : Int) ≤ 7 := by omega
  have hv' : v ≤ 9223372036854775807 := by omega
  clear h h1 h2 h3 hv hv0
  go_enter Tryz.func115, Tryz.ntmps115
  go_wp2
  go_ret2
  exact ⟨rfl, rfl⟩

set_option maxRecDepth 100000 in
set_option maxHeartbeats 1000000 in
theorem put_ok (v n : Nat) (w : World) (h1 : 1 ≤ n) (h7 : n ≤ 7) (hv : v < 2 ^ (8 * n)) :
    Calls Tryz.prog 115 #[.int .i64 (v : Int), .int .i64 (n : Int)] w fun e w' => e = .returned (.tuple #[.string ⟨(be v n).toArray⟩, .int .i64 0]) ∧ Below w.heap.size w w' := by
  have hdv : ((v : Int) / 2 ^ (8 * n) != 0) = false := by
    have h5 : ((v : Int) / 2 ^ (8 * n)) = ((v / 2 ^ (8 * n) : Nat) : Int) := by push_cast; rfl
    rw [h5, Nat.div_eq_of_lt hv]
    rfl
  have hv' : v < 2 ^ 56 := Nat.lt_of_lt_of_le hv (Nat.pow_le_pow_right (by decide) (by omega))
  have hv2 : v ≤ 9223372036854775807 := by omega
  have Hv := Lib.hid hv
  clear hv hv'
  obtain ⟨i0, hi0, hz0, hz1, hz2⟩ := info_parts u8info
  go_enter Tryz.func115, Tryz.ntmps115
  go_wp2_with (at_make; refine wpList_make_full _ rfl (.tmp 25) (.tmp 25) 68 rfl w.heap.size 5 i0 (.int .u8 0) 1 Tryz.underlying68 hi0 hz0 hz1 .i64 .i64 _ _ n rfl rfl rfl rfl ?b2 ?b3 ?b4 ?_)
  case b2 => rw [hz2]; omega
  case b3 => unfold maxLen; omega
  case b4 => exact Nat.le_refl _
  intro w1 hown hgr
  have hb1 : Below w.heap.size w w1 := (Below.refl _ _).grown hgr (Nat.le_refl _) (by simp)
  have hlt := (World.ownsRow.lt hown w.heap.size rfl).2
  rw [show (madeCells #[Value.int IntKind.u8 0] n).toList = (List.replicate n (0 : UInt8)).map b8 from (toList_madeCells_one _ _).trans (by simp [b8])] at hown
  have Hown := Lib.hid hown
  clear hown hgr
  go_wp2
  go_loopw [29] (fun i wr => ∃ k : Nat, k ≤ n ∧ i = .int .i64 (k : Int) ∧ wr.ownsRow w.heap.size 5 1 (.slice (some ⟨w.heap.size, 0, none⟩) n n) n (((be v n).take k ++ List.replicate (n - k) 0).map b8) ∧ Below w.heap.size w wr)
    (fun i _ => n - (intOf i).toNat)
  case atStart => exact ⟨0, by omega, rfl, by simpa using Hown.out, hb1⟩
  case round =>
    obtain ⟨k, hk, rfl, hown, hbe⟩ := hrel
    by_cases hlt' : k < n
    · have hc := hown.cellAt k (by omega)
      have hf := hown.frozenAt k
      have hln : ((be v n).take k ++ List.replicate (n - k) (0 : UInt8)).length = n := by simp [be]; omega
      obtain ⟨x, hx⟩ : ∃ x, (((be v n).take k ++ List.replicate (n - k) (0 : UInt8)).map b8)[k]? = some x := ⟨_, List.getElem?_eq_getElem (by rw [List.length_map, hln]; omega)⟩
      rw [hx] at hc
      have Hown' := Lib.hid hown
      clear hown hx hln
      go_wp2
      go_roundw
      case rel =>
        have hst := World.ownsRow.stored Hown'.out k (.int .u8 ((v : Int) / 2 ^ (8 * (n - 1 - k)) % 256))
        rw [be_step v n k hlt'] at hst
        exact ⟨k + 1, by omega, by go_num, hst.1, below_setCell hbe (Nat.le_refl _) _⟩
      case measure => simp [intOf]; omega
    · obtain rfl : k = n := by omega
      have hby : Byt wr w.heap.size 5 (.slice (some ⟨w.heap.size, 0, none⟩) k k) (be v k) := by
        unfold Byt
        rw [be_length]
        simpa [List.take_of_length_le (Nat.le_of_eq (be_length v k))] using hown
      have hcv := hby.string (src := 68) (dst := 9) Tryz.underlying68 Tryz.underlying5 Tryz.underlying9
      clear hown hby
      go_wp2
      go_ret2
      exact ⟨rfl, hbe⟩
end Go.Proofs.YtcbgflidlpmhcaaGreatDoor

namespace Go.Proofs
open Go.Shelf
def Tryz.lays170_ren : Go.Shelf.Ren := ⟨fun | 170 => 112 | n => n, fun | 70 => 67 | 3 => 3 | 0 => 0 | 72 => 70 | 37 => 68 | 5 => 5 | n => n, fun | n => n⟩
theorem Tryz.lays170 : Go.Proofs.Lays.n170 Tryz.prog Tryz.lays170_ren := {
  mixed := by kernel_rfl
  f170 := Tryz.func112.trans (congrArg some (by kernel_rfl))
  t0 := Tryz.underlying0
  a0 := Tryz.isAgg0
  z0 := Tryz.sizeOf0
  v0 := Tryz.zeroValue0
  t3 := Tryz.underlying3
  a3 := Tryz.isAgg3
  z3 := Tryz.sizeOf3
  v3 := Tryz.zeroValue3
  t37 := Tryz.underlying68
  a37 := Tryz.isAgg68
  z37 := Tryz.sizeOf68
  v37 := Tryz.zeroValue68
  t70 := Tryz.underlying67
  a70 := Tryz.isAgg67
  z70 := Tryz.sizeOf67
  v70 := Tryz.zeroValue67
  t72 := Tryz.underlying70
  a72 := Tryz.isAgg70
  z72 := Tryz.sizeOf70
  v72 := Tryz.zeroValue70 }
open Go.RowKit in
/-- (*strings.Builder).Len: "Len returns the number of accumulated bytes; b.Len() == len(b.String()).": the world is as it was. (LAID: no walk: one application.) -/
theorem Tryz.Builder_Len (B b : Nat) (bs : List Value) (w : World) (h : Lib.IsBuilder 70 5 B b bs w) :
    Calls Tryz.prog 112 #[.pointer (some ⟨b, 0, none⟩)] w fun e w' => e = .returned (.int .i64 bs.length) ∧ w' = w := Any.Builder_Len Tryz.lays170 B b bs w h
def Tryz.lays169_ren : Go.Shelf.Ren := ⟨fun | 169 => 32 | n => n, fun | 70 => 67 | 9 => 9 | 0 => 0 | 72 => 70 | 37 => 68 | 127 => 124 | 3 => 3 | 5 => 5 | n => n, fun | n => n⟩
theorem Tryz.lays169 : Go.Proofs.Lays.n169 Tryz.prog Tryz.lays169_ren := {
  mixed := by kernel_rfl
  f169 := Tryz.func32.trans (congrArg some (by kernel_rfl))
  t0 := Tryz.underlying0
  a0 := Tryz.isAgg0
  z0 := Tryz.sizeOf0
  v0 := Tryz.zeroValue0
  t3 := Tryz.underlying3
  a3 := Tryz.isAgg3
  z3 := Tryz.sizeOf3
  v3 := Tryz.zeroValue3
  t9 := Tryz.underlying9
  a9 := Tryz.isAgg9
  z9 := Tryz.sizeOf9
  v9 := Tryz.zeroValue9
  t37 := Tryz.underlying68
  a37 := Tryz.isAgg68
  z37 := Tryz.sizeOf68
  v37 := Tryz.zeroValue68
  t70 := Tryz.underlying67
  a70 := Tryz.isAgg67
  z70 := Tryz.sizeOf67
  v70 := Tryz.zeroValue67
  t72 := Tryz.underlying70
  a72 := Tryz.isAgg70
  z72 := Tryz.sizeOf70
  v72 := Tryz.zeroValue70
  t127 := Tryz.underlying124
  a127 := Tryz.isAgg124
  z127 := Tryz.sizeOf124
  v127 := Tryz.zeroValue124 }
theorem Tryz.Builder_Extra_169 : Builder.Extra Tryz.prog Tryz.lays169_ren := {
  sizeBuilder := by kernel_rfl
  liesBuilder := by kernel_rfl
  t5 := Tryz.underlying5
  a5 := Tryz.isAgg5
  z5 := Tryz.sizeOf5
  v5 := Tryz.zeroValue5
  infoByte := by kernel_rfl
  cellsByte := by kernel_rfl
  sizeByte := by kernel_rfl
  neB5 := by decide }
open Go.RowKit in
/-- (*strings.Builder).String: "String returns the accumulated string.": OF A BUILDER THAT HOLDS AT LEAST ONE BYTE. ✋ THE MODEL FREEZES THOSE BYTES IN THE BUFFER (unsafe.String): a later write INTO them ends the model's run without an answer; a later append BEHIND them goes on. The statement's order of evaluation is drawn: one draw. (LAID: no walk: one application.) -/
theorem Tryz.Builder_String (B b : Nat) (l : List UInt8) (w : World) (h : Lib.IsBuilder 70 5 B b (Lib.byteCells l) w) (h0 : l ≠ []) :
    Calls Tryz.prog 32 #[.pointer (some ⟨b, 0, none⟩)] w fun e w' => e = .returned (.string ⟨l.toArray⟩) ∧ Below B w w' := Any.Builder_String Tryz.lays169 Tryz.Builder_Extra_169 B b l w h h0
open Go.RowKit in
/-- (*strings.Builder).String OF A BUILDER THAT HOLDS NO BYTE: the empty string. (Its buffer is nil, or a row of which it has taken nothing yet; where that row has NO capacity the model lays one new block for unsafe.SliceData's 'some address'.) One draw. (LAID: no walk: one application.) -/
theorem Tryz.Builder_String_empty (B b : Nat) (w : World) (h : Lib.IsBuilder 70 5 B b [] w) (hBw : B ≤ w.heap.size) :
    Calls Tryz.prog 32 #[.pointer (some ⟨b, 0, none⟩)] w fun e w' => e = .returned (.string ⟨#[]⟩) ∧ Below B w w' := Any.Builder_String_empty Tryz.lays169 Tryz.Builder_Extra_169 B b w h hBw
open Go.RowKit in
/-- (*strings.Builder).String: "String returns the accumulated string.": WHATEVER THE BUILDER HOLDS. (LAID: no walk: one application.) -/
theorem Tryz.Builder_String_any (B b : Nat) (l : List UInt8) (w : World) (h : Lib.IsBuilder 70 5 B b (Lib.byteCells l) w) (hBw : B ≤ w.heap.size) :
    Calls Tryz.prog 32 #[.pointer (some ⟨b, 0, none⟩)] w fun e w' => e = .returned (.string ⟨l.toArray⟩) ∧ Below B w w' := Any.Builder_String_any Tryz.lays169 Tryz.Builder_Extra_169 B b l w h hBw
def Tryz.lays213_ren : Go.Shelf.Ren := ⟨fun | 213 => 180 | 265 => 191 | n => n, fun | 9 => 9 | 3 => 3 | n => n, fun | n => n⟩
theorem Tryz.lays213 : Go.Proofs.Lays.n213 Tryz.prog Tryz.lays213_ren := {
  mixed := by kernel_rfl
  f213 := Tryz.func180.trans (congrArg some (by kernel_rfl))
  f265 := Tryz.func191.trans (congrArg some (by kernel_rfl))
  t3 := Tryz.underlying3
  a3 := Tryz.isAgg3
  z3 := Tryz.sizeOf3
  v3 := Tryz.zeroValue3
  t9 := Tryz.underlying9
  a9 := Tryz.isAgg9
  z9 := Tryz.sizeOf9
  v9 := Tryz.zeroValue9 }
open Go.RowKit in
/-- internal/bytealg.CompareString (what strings.Compare calls): IT RETURNS 'Lib.compareBytes a b'; the world is as it was. (LAID: no walk: one application.) -/
theorem Tryz.bytealg_CompareString (a b : ByteArray) (w : World) :
    Calls Tryz.prog 180 #[.string a, .string b] w fun e w' => e = .returned (.int .i64 (Lib.compareBytes a.data.toList b.data.toList)) ∧ w' = w := Any.bytealg_CompareString Tryz.lays213 a b w
def Tryz.lays106_ren : Go.Shelf.Ren := ⟨fun | 106 => 162 | 213 => 180 | 265 => 191 | n => n, fun | 9 => 9 | 3 => 3 | n => n, fun | n => n⟩
theorem Tryz.lays106 : Go.Proofs.Lays.n106 Tryz.prog Tryz.lays106_ren := {
  mixed := by kernel_rfl
  f106 := Tryz.func162.trans (congrArg some (by kernel_rfl))
  f213 := Tryz.func180.trans (congrArg some (by kernel_rfl))
  f265 := Tryz.func191.trans (congrArg some (by kernel_rfl))
  t3 := Tryz.underlying3
  a3 := Tryz.isAgg3
  z3 := Tryz.sizeOf3
  v3 := Tryz.zeroValue3
  t9 := Tryz.underlying9
  a9 := Tryz.isAgg9
  z9 := Tryz.sizeOf9
  v9 := Tryz.zeroValue9 }
open Go.RowKit in
/-- strings.Compare: "Compare returns an integer comparing two strings lexicographically. The result will be 0 if a == b, -1 if a < b, and +1 if a > b.": IT RETURNS 'Lib.compareBytes a b'; the world is as it was. (LAID: no walk: one application.) -/
theorem Tryz.strings_Compare (a b : ByteArray) (w : World) :
    Calls Tryz.prog 162 #[.string a, .string b] w fun e w' => e = .returned (.int .i64 (Lib.compareBytes a.data.toList b.data.toList)) ∧ w' = w := Any.strings_Compare Tryz.lays106 a b w
open Go.RowKit in
/-- (*strings.Builder).Len: "Len returns the number of accumulated bytes; b.Len() == len(b.String()).": the world is as it was. (THE FORM '_f': 'Lib.IsBuilderF'.) (LAID: no walk: one application.) -/
theorem Tryz.Builder_Len_f (B b : Nat) (bs : List Value) (w : World) (h : Lib.IsBuilderF 70 5 B b bs w) :
    Calls Tryz.prog 112 #[.pointer (some ⟨b, 0, none⟩)] w fun e w' => e = .returned (.int .i64 bs.length) ∧ w' = w := Any.Builder_Len_f Tryz.lays170 B b bs w h
open Go.RowKit in
/-- (*strings.Builder).String: "String returns the accumulated string.": OF A BUILDER THAT HOLDS AT LEAST ONE BYTE. ✋ THE MODEL FREEZES THOSE BYTES IN THE BUFFER (unsafe.String): a later write INTO them ends the model's run without an answer; a later append BEHIND them goes on. The statement's order of evaluation is drawn: one draw. THE FORM '_f': IT SAYS BESIDES THAT THE BUILDER IS A BUILDER STILL ('Lib.IsBuilderF', the same bytes): SO IT CAN BE WRITTEN ON: 'b.WriteString(b.String()[:k])'. (LAID: no walk: one application.) -/
theorem Tryz.Builder_String_f (B b : Nat) (l : List UInt8) (w : World) (h : Lib.IsBuilderF 70 5 B b (Lib.byteCells l) w) (h0 : l ≠ []) :
    Calls Tryz.prog 32 #[.pointer (some ⟨b, 0, none⟩)] w fun e w' => e = .returned (.string ⟨l.toArray⟩) ∧ (Lib.IsBuilderF 70 5 B b (Lib.byteCells l) w' ∧ Below B w w') := Any.Builder_String_f Tryz.lays169 Tryz.Builder_Extra_169 B b l w h h0
open Go.RowKit in
/-- (*strings.Builder).String OF A BUILDER THAT HOLDS NO BYTE: the empty string; THE FORM '_f': a builder still. (LAID: no walk: one application.) -/
theorem Tryz.Builder_String_empty_f (B b : Nat) (w : World) (h : Lib.IsBuilderF 70 5 B b [] w) (hBw : B ≤ w.heap.size) :
    Calls Tryz.prog 32 #[.pointer (some ⟨b, 0, none⟩)] w fun e w' => e = .returned (.string ⟨#[]⟩) ∧ (Lib.IsBuilderF 70 5 B b [] w' ∧ Below B w w') := Any.Builder_String_empty_f Tryz.lays169 Tryz.Builder_Extra_169 B b w h hBw
open Go.RowKit in
/-- (*strings.Builder).String: "String returns the accumulated string.": WHATEVER THE BUILDER HOLDS; THE FORM '_f': OF A BUILDER THAT MAY HAVE BEEN READ BEFORE; AND IT IS A BUILDER STILL, holding the same bytes: it can be written on. (LAID: no walk: one application.) -/
theorem Tryz.Builder_String_any_f (B b : Nat) (l : List UInt8) (w : World) (h : Lib.IsBuilderF 70 5 B b (Lib.byteCells l) w) (hBw : B ≤ w.heap.size) :
    Calls Tryz.prog 32 #[.pointer (some ⟨b, 0, none⟩)] w fun e w' => e = .returned (.string ⟨l.toArray⟩) ∧ (Lib.IsBuilderF 70 5 B b (Lib.byteCells l) w' ∧ Below B w w') := Any.Builder_String_any_f Tryz.lays169 Tryz.Builder_Extra_169 B b l w h hBw
open Go.RowKit in
/-- (*strings.Builder).String: "String returns the accumulated string.": OF A BUILDER THAT HOLDS AT LEAST ONE BYTE. ✋ THE MODEL FREEZES THOSE BYTES IN THE BUFFER (unsafe.String): a later write INTO them ends the model's run without an answer; a later append BEHIND them goes on. The statement's order of evaluation is drawn: one draw. THE FORM '_k': OVER 'Lib.IsBuilderF' (a builder that 'String()' may have read), AND WITH THE FRAME THAT REACHES ABOVE THE BUILDER: 'Lib.OthersKept': every block that is not b and is no row of uint8's stands as it stood: the iterator of a range among them. (LAID: no walk: one application.) -/
theorem Tryz.Builder_String_k (B b : Nat) (l : List UInt8) (w : World) (h : Lib.IsBuilderF 70 5 B b (Lib.byteCells l) w) (h0 : l ≠ []) :
    Calls Tryz.prog 32 #[.pointer (some ⟨b, 0, none⟩)] w fun e w' => e = .returned (.string ⟨l.toArray⟩) ∧ (Lib.IsBuilderF 70 5 B b (Lib.byteCells l) w' ∧ Below B w w' ∧ Lib.OthersKept 5 (some b) w w') := Any.Builder_String_k Tryz.lays169 Tryz.Builder_Extra_169 B b l w h h0
open Go.RowKit in
/-- (*strings.Builder).String OF A BUILDER THAT HOLDS NO BYTE: the empty string; THE FORM '_k': OVER 'Lib.IsBuilderF' (a builder that 'String()' may have read), AND WITH THE FRAME THAT REACHES ABOVE THE BUILDER: 'Lib.OthersKept': every block that is not b and is no row of uint8's stands as it stood: the iterator of a range among them. (LAID: no walk: one application.) -/
theorem Tryz.Builder_String_empty_k (B b : Nat) (w : World) (h : Lib.IsBuilderF 70 5 B b [] w) (hBw : B ≤ w.heap.size) :
    Calls Tryz.prog 32 #[.pointer (some ⟨b, 0, none⟩)] w fun e w' => e = .returned (.string ⟨#[]⟩) ∧ (Lib.IsBuilderF 70 5 B b [] w' ∧ Below B w w' ∧ Lib.OthersKept 5 (some b) w w') := Any.Builder_String_empty_k Tryz.lays169 Tryz.Builder_Extra_169 B b w h hBw
open Go.RowKit in
/-- (*strings.Builder).String: "String returns the accumulated string.": WHATEVER THE BUILDER HOLDS; THE FORM '_k': OVER 'Lib.IsBuilderF' (a builder that 'String()' may have read), AND WITH THE FRAME THAT REACHES ABOVE THE BUILDER: 'Lib.OthersKept': every block that is not b and is no row of uint8's stands as it stood: the iterator of a range among them. (LAID: no walk: one application.) -/
theorem Tryz.Builder_String_any_k (B b : Nat) (l : List UInt8) (w : World) (h : Lib.IsBuilderF 70 5 B b (Lib.byteCells l) w) (hBw : B ≤ w.heap.size) :
    Calls Tryz.prog 32 #[.pointer (some ⟨b, 0, none⟩)] w fun e w' => e = .returned (.string ⟨l.toArray⟩) ∧ (Lib.IsBuilderF 70 5 B b (Lib.byteCells l) w' ∧ Below B w w' ∧ Lib.OthersKept 5 (some b) w w') := Any.Builder_String_any_k Tryz.lays169 Tryz.Builder_Extra_169 B b l w h hBw
def Tryz.lays217_ren : Go.Shelf.Ren := ⟨fun | 217 => 195 | 266 => 207 | n => n, fun | 9 => 9 | 5 => 5 | 3 => 3 | n => n, fun | n => n⟩
theorem Tryz.lays217 : Go.Proofs.Lays.n217 Tryz.prog Tryz.lays217_ren := {
  mixed := by kernel_rfl
  f217 := Tryz.func195.trans (congrArg some (by kernel_rfl))
  f266 := Tryz.func207.trans (congrArg some (by kernel_rfl))
  t3 := Tryz.underlying3
  a3 := Tryz.isAgg3
  z3 := Tryz.sizeOf3
  v3 := Tryz.zeroValue3
  t5 := Tryz.underlying5
  a5 := Tryz.isAgg5
  z5 := Tryz.sizeOf5
  v5 := Tryz.zeroValue5
  t9 := Tryz.underlying9
  a9 := Tryz.isAgg9
  z9 := Tryz.sizeOf9
  v9 := Tryz.zeroValue9 }
open Go.RowKit Go.Lib in
/-- internal/stringslite.IndexByte (what strings.IndexByte calls): IT RETURNS 'Lib.indexByte s c'; the world is as it was. (LAID: no walk: one application.) -/
theorem Tryz.stringslite_IndexByte (s : ByteArray) (c : Int) (w : World) :
    Calls Tryz.prog 195 #[.string s, .int .u8 c] w fun e w' => e = .returned (.int .i64 (Lib.indexByte s.data.toList c.toNat.toUInt8)) ∧ w' = w := Any.stringslite_IndexByte Tryz.lays217 s c w
def Tryz.lays224_ren : Go.Shelf.Ren := ⟨fun | 224 => 197 | n => n, fun | 3 => 3 | n => n, fun | n => n⟩
theorem Tryz.lays224 : Go.Proofs.Lays.n224 Tryz.prog Tryz.lays224_ren := {
  mixed := by kernel_rfl
  f224 := Tryz.func197.trans (congrArg some (by kernel_rfl))
  t3 := Tryz.underlying3
  a3 := Tryz.isAgg3
  z3 := Tryz.sizeOf3
  v3 := Tryz.zeroValue3 }
open Go.RowKit Go.Lib in
/-- internal/bytealg.Cutover: "Cutover reports the number of failures of IndexByte we should tolerate before switching over to Index. n is the number of bytes processed so far.": on amd64: (n + 16) / 8. (LAID: no walk: one application.) -/
theorem Tryz.bytealg_Cutover (n : Int) (h0 : 0 ≤ n) (h1 : n < 4611686018427387904) (w : World) :
    Calls Tryz.prog 197 #[.int .i64 n] w fun e w' => e = .returned (.int .i64 ((n + 16) / 8)) ∧ w' = w := Any.bytealg_Cutover Tryz.lays224 n h0 h1 w
def Tryz.lays314_ren : Go.Shelf.Ren := ⟨fun | 314 => 208 | n => n, fun | 9 => 9 | 51 => 125 | 3 => 3 | 4 => 4 | 5 => 5 | 46 => 126 | n => n, fun | n => n⟩
theorem Tryz.lays314 : Go.Proofs.Lays.n314 Tryz.prog Tryz.lays314_ren := {
  mixed := by kernel_rfl
  f314 := Tryz.func208.trans (congrArg some (by kernel_rfl))
  t3 := Tryz.underlying3
  a3 := Tryz.isAgg3
  z3 := Tryz.sizeOf3
  v3 := Tryz.zeroValue3
  t4 := Tryz.underlying4
  a4 := Tryz.isAgg4
  z4 := Tryz.sizeOf4
  v4 := Tryz.zeroValue4
  t5 := Tryz.underlying5
  a5 := Tryz.isAgg5
  z5 := Tryz.sizeOf5
  v5 := Tryz.zeroValue5
  t9 := Tryz.underlying9
  a9 := Tryz.isAgg9
  z9 := Tryz.sizeOf9
  v9 := Tryz.zeroValue9
  t46 := Tryz.underlying126
  a46 := Tryz.isAgg126
  z46 := Tryz.sizeOf126
  v46 := Tryz.zeroValue126
  t51 := Tryz.underlying125
  a51 := Tryz.isAgg125
  z51 := Tryz.sizeOf125
  v51 := Tryz.zeroValue125 }
open Go.RowKit Go.Lib in
/-- hashStr: "returns the hash and the appropriate multiplicative factor for use in Rabin-Karp algorithm": THE HASH OF ALL OF sep, AND 16777619 ^ len(sep), both in uint32. (LAID: no walk: one application.) -/
theorem Tryz.bytealg_hashStr (sep : ByteArray) (hs : sep.size < 4294967281) (w : World) :
    Calls Tryz.prog 208 #[.string sep] w fun e w' => e = .returned (.tuple #[.int .u32 (RK.H sep.data.toList % 4294967296), .int .u32 (16777619 ^ sep.size % 4294967296)]) ∧ w' = w := Any.bytealg_hashStr Tryz.lays314 sep hs w
def Tryz.lays267_ren : Go.Shelf.Ren := ⟨fun | 267 => 198 | 314 => 208 | n => n, fun | 9 => 9 | 3 => 3 | 146 => 228 | 51 => 125 | 4 => 4 | 5 => 5 | 46 => 126 | n => n, fun | n => n⟩
theorem Tryz.lays267 : Go.Proofs.Lays.n267 Tryz.prog Tryz.lays267_ren := {
  mixed := by kernel_rfl
  f267 := Tryz.func198.trans (congrArg some (by kernel_rfl))
  f314 := Tryz.func208.trans (congrArg some (by kernel_rfl))
  t3 := Tryz.underlying3
  a3 := Tryz.isAgg3
  z3 := Tryz.sizeOf3
  v3 := Tryz.zeroValue3
  t4 := Tryz.underlying4
  a4 := Tryz.isAgg4
  z4 := Tryz.sizeOf4
  v4 := Tryz.zeroValue4
  t5 := Tryz.underlying5
  a5 := Tryz.isAgg5
  z5 := Tryz.sizeOf5
  v5 := Tryz.zeroValue5
  t9 := Tryz.underlying9
  a9 := Tryz.isAgg9
  z9 := Tryz.sizeOf9
  v9 := Tryz.zeroValue9
  t46 := Tryz.underlying126
  a46 := Tryz.isAgg126
  z46 := Tryz.sizeOf126
  v46 := Tryz.zeroValue126
  t51 := Tryz.underlying125
  a51 := Tryz.isAgg125
  z51 := Tryz.sizeOf125
  v51 := Tryz.zeroValue125
  t146 := Tryz.underlying228
  a146 := Tryz.isAgg228
  z146 := Tryz.sizeOf228
  v146 := Tryz.zeroValue228 }
open Go.RowKit Go.Lib in
theorem Tryz.bytealg_IndexRabinKarp (s sep : ByteArray) (h1 : 1 ≤ sep.size) (h2 : sep.size ≤ s.size) (hs : s.size < 4294967281) (w : World) :
    Calls Tryz.prog 198 #[.string s, .string sep] w fun e w' => e = .returned (.int .i64 (Lib.index s.data.toList sep.data.toList)) ∧ w' = w := Any.bytealg_IndexRabinKarp Tryz.lays267 s sep h1 h2 hs w
def Tryz.lays219_ren : Go.Shelf.Ren := ⟨fun | 219 => 185 | 217 => 195 | 225 => 196 | 224 => 197 | 267 => 198 | 266 => 207 | 314 => 208 | n => n, fun | 9 => 9 | 3 => 3 | 4 => 4 | 5 => 5 | 46 => 126 | 146 => 228 | 51 => 125 | n => n, fun | 1 => 2 | n => n⟩
theorem Tryz.lays219 : Go.Proofs.Lays.n219 Tryz.prog Tryz.lays219_ren := {
  mixed := by kernel_rfl
  f217 := Tryz.func195.trans (congrArg some (by kernel_rfl))
  f219 := Tryz.func185.trans (congrArg some (by kernel_rfl))
  f224 := Tryz.func197.trans (congrArg some (by kernel_rfl))
  f225 := Tryz.func196.trans (congrArg some (by kernel_rfl))
  f266 := Tryz.func207.trans (congrArg some (by kernel_rfl))
  f267 := Tryz.func198.trans (congrArg some (by kernel_rfl))
  f314 := Tryz.func208.trans (congrArg some (by kernel_rfl))
  t3 := Tryz.underlying3
  a3 := Tryz.isAgg3
  z3 := Tryz.sizeOf3
  v3 := Tryz.zeroValue3
  t4 := Tryz.underlying4
  a4 := Tryz.isAgg4
  z4 := Tryz.sizeOf4
  v4 := Tryz.zeroValue4
  t5 := Tryz.underlying5
  a5 := Tryz.isAgg5
  z5 := Tryz.sizeOf5
  v5 := Tryz.zeroValue5
  t9 := Tryz.underlying9
  a9 := Tryz.isAgg9
  z9 := Tryz.sizeOf9
  v9 := Tryz.zeroValue9
  t46 := Tryz.underlying126
  a46 := Tryz.isAgg126
  z46 := Tryz.sizeOf126
  v46 := Tryz.zeroValue126
  t51 := Tryz.underlying125
  a51 := Tryz.isAgg125
  z51 := Tryz.sizeOf125
  v51 := Tryz.zeroValue125
  t146 := Tryz.underlying228
  a146 := Tryz.isAgg228
  z146 := Tryz.sizeOf228
  v146 := Tryz.zeroValue228
  g1 := by kernel_rfl }
open Go.RowKit Go.Lib in
/-- internal/stringslite.Index (what strings.Index calls) AT A substr OF ONE BYTE c: IT RETURNS 'Lib.indexByte s c'; the world is as it was. (LAID: no walk: one application.) -/
theorem Tryz.stringslite_Index_one (s : ByteArray) (c : UInt8) (w : World) :
    Calls Tryz.prog 185 #[.string s, .string ⟨#[c]⟩] w fun e w' => e = .returned (.int .i64 (Lib.indexByte s.data.toList c)) ∧ w' = w := Any.stringslite_Index_one Tryz.lays219 s c w
open Go.RowKit Go.Lib in
/-- internal/stringslite.Index (what strings.Index calls) AT A substr OF WHATEVER LENGTH: IT RETURNS 'Lib.index s substr'; the world is as it was. 'm': what internal/bytealg.MaxLen holds: whatever. (LAID: no walk: one application.) -/
theorem Tryz.stringslite_Index (s sub : ByteArray) (m : Int) (w : World) (hs : s.size < 4294967281) (hm : w.cell? ⟨2, 0, none⟩ = some (.int .i64 m)) :
    Calls Tryz.prog 185 #[.string s, .string sub] w fun e w' => e = .returned (.int .i64 (Lib.index s.data.toList sub.data.toList)) ∧ w' = w := Any.stringslite_Index Tryz.lays219 s sub m w hs hm
def Tryz.lays143_ren : Go.Shelf.Ren := ⟨fun | 143 => 169 | 219 => 185 | 217 => 195 | 225 => 196 | 224 => 197 | 267 => 198 | 266 => 207 | 314 => 208 | n => n, fun | 9 => 9 | 3 => 3 | 4 => 4 | 5 => 5 | 46 => 126 | 146 => 228 | 51 => 125 | n => n, fun | 1 => 2 | n => n⟩
theorem Tryz.lays143 : Go.Proofs.Lays.n143 Tryz.prog Tryz.lays143_ren := {
  mixed := by kernel_rfl
  f143 := Tryz.func169.trans (congrArg some (by kernel_rfl))
  f217 := Tryz.func195.trans (congrArg some (by kernel_rfl))
  f219 := Tryz.func185.trans (congrArg some (by kernel_rfl))
  f224 := Tryz.func197.trans (congrArg some (by kernel_rfl))
  f225 := Tryz.func196.trans (congrArg some (by kernel_rfl))
  f266 := Tryz.func207.trans (congrArg some (by kernel_rfl))
  f267 := Tryz.func198.trans (congrArg some (by kernel_rfl))
  f314 := Tryz.func208.trans (congrArg some (by kernel_rfl))
  t3 := Tryz.underlying3
  a3 := Tryz.isAgg3
  z3 := Tryz.sizeOf3
  v3 := Tryz.zeroValue3
  t4 := Tryz.underlying4
  a4 := Tryz.isAgg4
  z4 := Tryz.sizeOf4
  v4 := Tryz.zeroValue4
  t5 := Tryz.underlying5
  a5 := Tryz.isAgg5
  z5 := Tryz.sizeOf5
  v5 := Tryz.zeroValue5
  t9 := Tryz.underlying9
  a9 := Tryz.isAgg9
  z9 := Tryz.sizeOf9
  v9 := Tryz.zeroValue9
  t46 := Tryz.underlying126
  a46 := Tryz.isAgg126
  z46 := Tryz.sizeOf126
  v46 := Tryz.zeroValue126
  t51 := Tryz.underlying125
  a51 := Tryz.isAgg125
  z51 := Tryz.sizeOf125
  v51 := Tryz.zeroValue125
  t146 := Tryz.underlying228
  a146 := Tryz.isAgg228
  z146 := Tryz.sizeOf228
  v146 := Tryz.zeroValue228
  g1 := by kernel_rfl }
open Go.RowKit Go.Lib in
/-- strings.Index: "Index returns the index of the first instance of substr in s, or -1 if substr is not present in s.": AT A substr OF ONE BYTE c: IT RETURNS 'Lib.indexByte s c'; the world is as it was. (LAID: no walk: one application.) -/
theorem Tryz.strings_Index_one (s : ByteArray) (c : UInt8) (w : World) :
    Calls Tryz.prog 169 #[.string s, .string ⟨#[c]⟩] w fun e w' => e = .returned (.int .i64 (Lib.indexByte s.data.toList c)) ∧ w' = w := Any.strings_Index_one Tryz.lays143 s c w
open Go.RowKit Go.Lib in
/-- strings.Index: "Index returns the index of the first instance of substr in s, or -1 if substr is not present in s.": IT RETURNS 'Lib.index s substr'; the world is as it was. (LAID: no walk: one application.) -/
theorem Tryz.strings_Index (s sub : ByteArray) (m : Int) (w : World) (hs : s.size < 4294967281) (hm : w.cell? ⟨2, 0, none⟩ = some (.int .i64 m)) :
    Calls Tryz.prog 169 #[.string s, .string sub] w fun e w' => e = .returned (.int .i64 (Lib.index s.data.toList sub.data.toList)) ∧ w' = w := Any.strings_Index Tryz.lays143 s sub m w hs hm
def Tryz.laysM219_ren : Go.Shelf.Ren := ⟨fun | 219 => 185 | 217 => 195 | 225 => 196 | 224 => 197 | 267 => 198 | 266 => 207 | 314 => 208 | n => n, fun | 9 => 9 | 3 => 3 | 4 => 4 | 5 => 5 | 46 => 126 | 146 => 228 | 51 => 125 | n => n, fun | 1 => 2 | n => n⟩
theorem Tryz.laysM219 : Go.Proofs.LaysM.n219 Tryz.prog Tryz.laysM219_ren := {
  mixed := by kernel_rfl
  f217 := Tryz.func195.trans (congrArg some (by kernel_rfl))
  f219 := Tryz.func185.trans (congrArg some (by kernel_rfl))
  f224 := Tryz.func197.trans (congrArg some (by kernel_rfl))
  f225 := Tryz.func196.trans (congrArg some (by kernel_rfl))
  f266 := Tryz.func207.trans (congrArg some (by kernel_rfl))
  f267 := Tryz.func198.trans (congrArg some (by kernel_rfl))
  f314 := Tryz.func208.trans (congrArg some (by kernel_rfl))
  t3 := Tryz.underlying3
  a3 := Tryz.isAgg3
  z3 := Tryz.sizeOf3
  v3 := Tryz.zeroValue3
  t4 := Tryz.underlying4
  a4 := Tryz.isAgg4
  z4 := Tryz.sizeOf4
  v4 := Tryz.zeroValue4
  t5 := Tryz.underlying5
  a5 := Tryz.isAgg5
  z5 := Tryz.sizeOf5
  v5 := Tryz.zeroValue5
  t9 := Tryz.underlying9
  a9 := Tryz.isAgg9
  z9 := Tryz.sizeOf9
  v9 := Tryz.zeroValue9
  t46 := Tryz.underlying126
  a46 := Tryz.isAgg126
  z46 := Tryz.sizeOf126
  v46 := Tryz.zeroValue126
  t51 := Tryz.underlying125
  a51 := Tryz.isAgg125
  z51 := Tryz.sizeOf125
  v51 := Tryz.zeroValue125
  t146 := Tryz.underlying228
  a146 := Tryz.isAgg228
  z146 := Tryz.sizeOf228
  v146 := Tryz.zeroValue228
  g1 := by kernel_rfl
  i3 := by kernel_rfl
  i4 := by kernel_rfl
  i5 := by kernel_rfl
  i9 := by kernel_rfl
  i46 := by kernel_rfl
  i51 := by kernel_rfl
  i146 := by kernel_rfl
  m1 := by kernel_rfl
  s1_3 := fun w h => Go.Proofs.cell_of_shapedOpen_int (zero := #[.int .i64 0]) (t := 3) h (of_decide_eq_true (by kernel_rfl)) (by kernel_rfl) rfl (by kernel_rfl) (by kernel_rfl) Tryz.underlying3 }
open Go.RowKit Go.Lib in
theorem Tryz.stringslite_Index_shaped (s sub : ByteArray) (w : World) (h : w.ShapedOpen Tryz.prog) (hs : s.size < 4294967281) :
    Calls Tryz.prog 185 #[.string s, .string sub] w fun e w' => e = .returned (.int .i64 (Lib.index s.data.toList sub.data.toList)) ∧ w' = w := Any.stringslite_Index_shaped Tryz.laysM219 s sub w h hs
def Tryz.laysM143_ren : Go.Shelf.Ren := ⟨fun | 143 => 169 | 219 => 185 | 217 => 195 | 225 => 196 | 224 => 197 | 267 => 198 | 266 => 207 | 314 => 208 | n => n, fun | 9 => 9 | 3 => 3 | 4 => 4 | 5 => 5 | 46 => 126 | 146 => 228 | 51 => 125 | n => n, fun | 1 => 2 | n => n⟩
theorem Tryz.laysM143 : Go.Proofs.LaysM.n143 Tryz.prog Tryz.laysM143_ren := {
  mixed := by kernel_rfl
  f143 := Tryz.func169.trans (congrArg some (by kernel_rfl))
  f217 := Tryz.func195.trans (congrArg some (by kernel_rfl))
  f219 := Tryz.func185.trans (congrArg some (by kernel_rfl))
  f224 := Tryz.func197.trans (congrArg some (by kernel_rfl))
  f225 := Tryz.func196.trans (congrArg some (by kernel_rfl))
  f266 := Tryz.func207.trans (congrArg some (by kernel_rfl))
  f267 := Tryz.func198.trans (congrArg some (by kernel_rfl))
  f314 := Tryz.func208.trans (congrArg some (by kernel_rfl))
  t3 := Tryz.underlying3
  a3 := Tryz.isAgg3
  z3 := Tryz.sizeOf3
  v3 := Tryz.zeroValue3
  t4 := Tryz.underlying4
  a4 := Tryz.isAgg4
  z4 := Tryz.sizeOf4
  v4 := Tryz.zeroValue4
  t5 := Tryz.underlying5
  a5 := Tryz.isAgg5
  z5 := Tryz.sizeOf5
  v5 := Tryz.zeroValue5
  t9 := Tryz.underlying9
  a9 := Tryz.isAgg9
  z9 := Tryz.sizeOf9
  v9 := Tryz.zeroValue9
  t46 := Tryz.underlying126
  a46 := Tryz.isAgg126
  z46 := Tryz.sizeOf126
  v46 := Tryz.zeroValue126
  t51 := Tryz.underlying125
  a51 := Tryz.isAgg125
  z51 := Tryz.sizeOf125
  v51 := Tryz.zeroValue125
  t146 := Tryz.underlying228
  a146 := Tryz.isAgg228
  z146 := Tryz.sizeOf228
  v146 := Tryz.zeroValue228
  g1 := by kernel_rfl
  i3 := by kernel_rfl
  i4 := by kernel_rfl
  i5 := by kernel_rfl
  i9 := by kernel_rfl
  i46 := by kernel_rfl
  i51 := by kernel_rfl
  i146 := by kernel_rfl
  m1 := by kernel_rfl
  s1_3 := fun w h => Go.Proofs.cell_of_shapedOpen_int (zero := #[.int .i64 0]) (t := 3) h (of_decide_eq_true (by kernel_rfl)) (by kernel_rfl) rfl (by kernel_rfl) (by kernel_rfl) Tryz.underlying3 }
open Go.RowKit Go.Lib in
theorem Tryz.strings_Index_shaped (s sub : ByteArray) (w : World) (h : w.ShapedOpen Tryz.prog) (hs : s.size < 4294967281) :
    Calls Tryz.prog 169 #[.string s, .string sub] w fun e w' => e = .returned (.int .i64 (Lib.index s.data.toList sub.data.toList)) ∧ w' = w := Any.strings_Index_shaped Tryz.laysM143 s sub w h hs
def Tryz.lays194_ren : Go.Shelf.Ren := ⟨fun | 194 => 120 | n => n, fun | 31 => 39 | 9 => 9 | 3 => 3 | 4 => 4 | 0 => 0 | n => n, fun | n => n⟩
theorem Tryz.lays194 : Go.Proofs.Lays.n194 Tryz.prog Tryz.lays194_ren := {
  mixed := by kernel_rfl
  f194 := Tryz.func120.trans (congrArg some (by kernel_rfl))
  t0 := Tryz.underlying0
  a0 := Tryz.isAgg0
  z0 := Tryz.sizeOf0
  v0 := Tryz.zeroValue0
  t3 := Tryz.underlying3
  a3 := Tryz.isAgg3
  z3 := Tryz.sizeOf3
  v3 := Tryz.zeroValue3
  t4 := Tryz.underlying4
  a4 := Tryz.isAgg4
  z4 := Tryz.sizeOf4
  v4 := Tryz.zeroValue4
  t9 := Tryz.underlying9
  a9 := Tryz.isAgg9
  z9 := Tryz.sizeOf9
  v9 := Tryz.zeroValue9
  t31 := Tryz.underlying39
  a31 := Tryz.isAgg39
  z31 := Tryz.sizeOf39
  v31 := Tryz.zeroValue39 }
open Go.RowKit Go.Lib Go.Sort in
/-- slices.Compact at []string, over an array: the library's two loops are walked. (LAID: no walk: one application.) -/
theorem Tryz.slices_Compact_string_arr (blk off cap : Nat) (d : Array (List UInt8)) (w : World) (hH : Holds encStr w blk off d) (hsz : d.size ≤ 9223372036854775807) (hcap : d.size ≤ cap) :
    Calls Tryz.prog 120 #[.slice (some ⟨blk, off, none⟩) d.size cap] w fun e w' => e = .returned (.slice (some ⟨blk, off, none⟩) (compactUpTo d d.size).length cap) ∧ ∃ q, w' = putRow encStr (Sort.ahead w q) blk off (compactUpTo d d.size ++ List.replicate (d.size - (compactUpTo d d.size).length) []).toArray := Any.slices_Compact_string_arr Tryz.lays194 blk off cap d w hH hsz hcap
open Go.RowKit Go.Lib Go.Sort in
/-- slices.Compact at []string: "Compact replaces consecutive runs of equal elements with a single copy. This is like the uniq command found on Unix. Compact modifies the contents of the slice s and returns the modified slice, which may have a smaller length. Compact zeroes the elements between the new length and the original length. The result preserves the nilness of s.": IT RETURNS THE SLICE CUT TO 'Lib.compact zs'; ITS CELLS HOLD 'Lib.compact zs', THEN ZERO VALUES up to the old length; all else is as it was, but for the count of draws. IN THE WORDS OF slices.Sort's CONTRACT ('Holds', 'putRow'): so the everyday 'slices.Sort(xs); xs = slices.Compact(xs)' goes from the one contract to the other. It asks 'zs.length ≤ cap' (every slice's: the reslicing 's[:k]' looks at it). Length 0, nil: '.._empty'. (LAID: no walk: one application.) -/
theorem Tryz.slices_Compact_string (blk off cap : Nat) (zs : List (List UInt8)) (w : World) (hH : Holds encStr w blk off zs.toArray) (hsz : zs.length ≤ 9223372036854775807) (hcap : zs.length ≤ cap) :
    Calls Tryz.prog 120 #[.slice (some ⟨blk, off, none⟩) zs.length cap] w fun e w' => e = .returned (.slice (some ⟨blk, off, none⟩) (Lib.compact zs).length cap) ∧ ∃ q, w' = putRow encStr (Sort.ahead w q) blk off (Lib.compact zs ++ List.replicate (zs.length - (Lib.compact zs).length) []).toArray := Any.slices_Compact_string Tryz.lays194 blk off cap zs w hH hsz hcap
open Go.RowKit Go.Lib Go.Sort in
/-- The same at a slice of length 0, a nil one too: it comes back as it is. (LAID: no walk: one application.) -/
theorem Tryz.slices_Compact_string_empty (a : Option Addr) (cap : Nat) (w : World) :
    Calls Tryz.prog 120 #[.slice a 0 cap] w fun e w' => e = .returned (.slice a 0 cap) ∧ w' = w := Any.slices_Compact_string_empty Tryz.lays194 a cap w
open Go.RowKit Go.Lib Go.Sort in
/-- slices.Compact at []string, of an argument. (LAID: no walk: one application.) -/
theorem Tryz.slices_Compact_string_cells (b off n c : Nat) (Sx : Nat → ByteArray) (w : World) (hbig : n ≤ 9223372036854775807) (hcap : n ≤ c) (hc : ∀ i, i < n → w.cell? ⟨b, off + i, none⟩ = some (.string (Sx i))) (hf : ∀ j, j < n → w.frozen? ⟨b, off + j, none⟩ = false) :
    Calls Tryz.prog 120 #[.slice (some ⟨b, off, none⟩) n c] w fun e w' => e = .returned (.slice (some ⟨b, off, none⟩) (Lib.compact (Lib.strsOf Sx n)).length c) ∧ ∃ q, w' = (w.drewN q).setCells b off ((Lib.compact (Lib.strsOf Sx n) ++ List.replicate (n - (Lib.compact (Lib.strsOf Sx n)).length) []).map encStr) := Any.slices_Compact_string_cells Tryz.lays194 b off n c Sx w hbig hcap hc hf
end Go.Proofs

namespace Go.Proofs.YtcbgflidlpmhcaaGreatDoor
open Go.RowKit

set_option maxHeartbeats 400000 in
theorem compare_any (a b : ByteArray) (w : World) :
    Calls Tryz.prog 109 #[.string a, .string b] w fun e w' => e = .returned (.int .i64 (Lib.compareBytes a.data.toList b.data.toList)) ∧ w = w' := by
  go_enter Tryz.func109, Tryz.ntmps109
  go_wp2_with fail
  refine (Tryz.strings_Compare a b w).mono ?_
  rintro e w' ⟨rfl, rfl⟩
  go_wp2
  go_ret
  exact ⟨rfl, rfl⟩


/-! ### The order of bytes -/
theorem cmp_range (a b : List UInt8) : -1 ≤ Lib.compareBytes a b ∧ Lib.compareBytes a b ≤ 1 := by
  fun_induction Lib.compareBytes a b <;> first | omega | assumption
theorem cmp_swap (a b : List UInt8) : Lib.compareBytes b a = -Lib.compareBytes a b := by
  fun_induction Lib.compareBytes a b with
  | case1 => rfl
  | case2 => rfl
  | case3 => rfl
  | case4 x l y r h => rw [Lib.compareBytes, if_neg (by simp only [UInt8.lt_iff_toNat_lt] at *; omega), if_pos h]; rfl
  | case5 x l y r h h' => rw [Lib.compareBytes, if_pos h']
  | case6 x l y r h h' ih => rw [Lib.compareBytes, if_neg h', if_neg h, ih]
theorem cmp_eq (a b : List UInt8) : Lib.compareBytes a b = 0 ↔ a = b := by
  fun_induction Lib.compareBytes a b with
  | case1 => simp
  | case2 => simp
  | case3 => simp
  | case4 x l y r h => exact ⟨fun e => absurd e (by decide), fun e => by injection e with e1 _; subst e1; simp only [UInt8.lt_iff_toNat_lt] at h; omega⟩
  | case5 x l y r h h' => exact ⟨fun e => absurd e (by decide), fun e => by injection e with e1 _; subst e1; simp only [UInt8.lt_iff_toNat_lt] at h'; omega⟩
  | case6 x l y r h h' ih =>
    have e : x = y := by
      apply UInt8.toNat_inj.1
      simp only [UInt8.lt_iff_toNat_lt] at *
      omega
    rw [ih]; simp [e]
theorem cmp_trans (a b c : List UInt8) : Lib.compareBytes a b ≤ 0 → Lib.compareBytes b c ≤ 0 → Lib.compareBytes a c ≤ 0 ∧ (Lib.compareBytes a b < 0 → Lib.compareBytes a c < 0) := by
  fun_induction Lib.compareBytes a b generalizing c with
  | case1 => intro _ h; exact ⟨h, fun h => absurd h (by decide)⟩
  | case2 y bs =>
    intro _ h
    cases c with
    | nil => simp [Lib.compareBytes] at h
    | cons z cs => simp [Lib.compareBytes]
  | case3 => intro h; exact absurd h (by decide)
  | case4 x l y r h =>
    intro _ h2
    cases c with
    | nil => simp [Lib.compareBytes] at h2
    | cons z cs =>
      have hxz : x < z := by
        rw [Lib.compareBytes] at h2
        simp only [UInt8.lt_iff_toNat_lt] at *
        split at h2
        · omega
        · split at h2
          · exact absurd h2 (by decide)
          · omega
      rw [Lib.compareBytes, if_pos hxz]
      decide
  | case5 x l y r h h' => intro h; exact absurd h (by decide)
  | case6 x l y r h h' ih =>
    have e : x = y := by
      apply UInt8.toNat_inj.1
      simp only [UInt8.lt_iff_toNat_lt] at *
      omega
    subst e
    intro h1 h2
    cases c with
    | nil => simp [Lib.compareBytes] at h2
    | cons z cs =>
      rw [Lib.compareBytes] at h2 ⊢
      split
      · exact ⟨by decide, fun _ => by decide⟩
      · rename_i h3
        rw [if_neg h3] at h2
        split
        · rename_i h4; rw [if_pos h4] at h2; exact absurd h2 (by decide)
        · rename_i h4; rw [if_neg h4] at h2; exact ih cs h1 h2

theorem be_succ (v n : Nat) : be v (n + 1) = UInt8.ofNat (v / 2 ^ (8 * n) % 256) :: be v n := by
  unfold be
  rw [List.range_succ_eq_map, List.map_cons, List.map_map]
  congr 1
  apply List.map_congr_left
  intro i _
  simp only [Function.comp]
  rw [show n + 1 - 1 - i.succ = n - 1 - i from by omega]
theorem be_mod (v n : Nat) : be v n = be (v % 2 ^ (8 * n)) n := by
  unfold be
  apply List.map_congr_left
  intro i hi
  have hi : i < n := List.mem_range.1 hi
  have e : 2 ^ (8 * n) = 2 ^ (8 * (n - 1 - i)) * (256 * 2 ^ (8 * i)) := by
    rw [show (256 : Nat) = 2 ^ 8 from rfl, ← Nat.pow_add, ← Nat.pow_add]
    congr 1
    omega
  have e2 : v % 2 ^ (8 * n) / 2 ^ (8 * (n - 1 - i)) = v / 2 ^ (8 * (n - 1 - i)) % (256 * 2 ^ (8 * i)) := by rw [e, Nat.mod_mul_right_div_self]
  rw [e2, Nat.mod_mul_right_mod]
theorem be_cmp (n : Nat) : ∀ v u : Nat, v < 2 ^ (8 * n) → u < 2 ^ (8 * n) → Lib.compareBytes (be v n) (be u n) = if v < u then -1 else if v = u then 0 else 1 := by
  induction n with
  | zero =>
    intro v u hv hu
    have hv : v < 1 := hv
    have hu : u < 1 := hu
    obtain rfl : v = 0 := by omega
    obtain rfl : u = 0 := by omega
    rfl
  | succ n ih =>
    intro v u hv hu
    have hp : 2 ^ (8 * (n + 1)) = 256 * 2 ^ (8 * n) := by rw [Nat.mul_add, Nat.pow_add, Nat.mul_comm]
    have hv1 : v / 2 ^ (8 * n) < 256 := by rw [Nat.div_lt_iff_lt_mul (Nat.two_pow_pos _)]; omega
    have hu1 : u / 2 ^ (8 * n) < 256 := by rw [Nat.div_lt_iff_lt_mul (Nat.two_pow_pos _)]; omega
    have hm := ih (v % 2 ^ (8 * n)) (u % 2 ^ (8 * n)) (Nat.mod_lt _ (Nat.two_pow_pos _)) (Nat.mod_lt _ (Nat.two_pow_pos _))
    rw [← be_mod, ← be_mod] at hm
    rw [be_succ, be_succ, Lib.compareBytes, hm]
    have hvd := Nat.div_add_mod v (2 ^ (8 * n))
    have hud := Nat.div_add_mod u (2 ^ (8 * n))
    have hvl := Nat.mod_lt v (Nat.two_pow_pos (8 * n))
    have hul := Nat.mod_lt u (Nat.two_pow_pos (8 * n))
    generalize v / 2 ^ (8 * n) = A at *
    generalize u / 2 ^ (8 * n) = B at *
    generalize v % 2 ^ (8 * n) = C at *
    generalize u % 2 ^ (8 * n) = D at *
    generalize 2 ^ (8 * n) = M at *
    have hA : (UInt8.ofNat (A % 256)).toNat = A := by rw [UInt8.toNat_ofNat']; omega
    have hB : (UInt8.ofNat (B % 256)).toNat = B := by rw [UInt8.toNat_ofNat']; omega
    simp only [UInt8.lt_iff_toNat_lt, hA, hB]
    rcases Nat.lt_trichotomy A B with h | h | h
    · have h2 : M * A + M ≤ M * B := by rw [← Nat.mul_succ]; exact Nat.mul_le_mul_left _ h
      rw [if_pos h, if_pos (by omega)]
    · subst h
      rw [if_neg (by omega), if_neg (by omega)]
      by_cases h1 : C < D
      · rw [if_pos h1, if_pos (by omega)]
      · by_cases h2 : C = D
        · rw [if_neg h1, if_pos h2, if_neg (by omega), if_pos (by omega)]
        · rw [if_neg h1, if_neg h2, if_neg (by omega), if_neg (by omega)]
    · have h2 : M * B + M ≤ M * A := by rw [← Nat.mul_succ]; exact Nat.mul_le_mul_left _ h
      rw [if_neg (by omega), if_pos h, if_neg (by omega), if_neg (by omega)]

/-- What Put answers. -/
def PutIs (v n : Int) (s : ByteArray) (er : Int) : Prop :=
  (er = 0 ∧ 1 ≤ n ∧ n ≤ 7 ∧ 0 ≤ v ∧ v < 2 ^ (8 * n.toNat) ∧ s = ⟨(be v.toNat n.toNat).toArray⟩) ∨ (er = 1 ∧ s = ByteArray.empty ∧ (n < 1 ∨ 7 < n ∨ v < 0 ∨ 2 ^ (8 * n.toNat) ≤ v))

theorem put_cmp {v u n : Int} {s t : ByteArray} (hs : PutIs v n s 0) (ht : PutIs u n t 0) :
    (v < u ∧ Lib.compareBytes s.data.toList t.data.toList = -1) ∨ (v = u ∧ Lib.compareBytes s.data.toList t.data.toList = 0) ∨ (u < v ∧ Lib.compareBytes s.data.toList t.data.toList = 1) := by
  rcases hs with ⟨_, h1, h2, h3, h4, rfl⟩ | ⟨h, _⟩
  · rcases ht with ⟨_, _, _, g3, g4, rfl⟩ | ⟨h, _⟩
    · obtain ⟨v, rfl⟩ := Int.eq_ofNat_of_zero_le h3
      obtain ⟨u, rfl⟩ := Int.eq_ofNat_of_zero_le g3
      have a4 : v < 2 ^ (8 * n.toNat) := by exact_mod_cast h4
      have b4 : u < 2 ^ (8 * n.toNat) := by exact_mod_cast g4
      have := be_cmp n.toNat v u a4 b4
      simp only [Int.toNat_natCast]
      rw [this]
      rcases Nat.lt_trichotomy v u with h | h | h
      · exact .inl ⟨by omega, by rw [if_pos h]⟩
      · exact .inr (.inl ⟨by omega, by rw [if_neg (by omega), if_pos h]⟩)
      · exact .inr (.inr ⟨by omega, by rw [if_neg (by omega), if_neg (by omega)]⟩)
    · exact absurd h (by decide)
  · exact absurd h (by decide)

theorem put_any (v n : Int) (w : World) (hv0 : -9223372036854775808 ≤ v) (hv : v < 9223372036854775808) :
    Calls Tryz.prog 115 #[.int .i64 v, .int .i64 n] w fun e w' => ∃ (s : ByteArray) (er : Int), e = .returned (.tuple #[.string s, .int .i64 er]) ∧ Hid (PutIs v n s er) ∧ Below w.heap.size w w' := by
  by_cases h : n < 1 ∨ 7 < n ∨ v < 0 ∨ 2 ^ (8 * n.toNat) ≤ v
  · refine (put_bad v n w hv0 hv h).mono ?_
    rintro e w' ⟨rfl, rfl⟩
    exact ⟨_, _, rfl, Or.inr ⟨rfl, rfl, h⟩, Below.refl _ _⟩
  · obtain ⟨m, rfl⟩ := Int.eq_ofNat_of_zero_le (show 0 ≤ n by omega)
    obtain ⟨u, rfl⟩ := Int.eq_ofNat_of_zero_le (show 0 ≤ v by omega)
    rw [Int.toNat_natCast] at h
    have h8 : (u : Int) < 2 ^ (8 * m) := by omega
    have h9 : u < 2 ^ (8 * m) := by exact_mod_cast h8
    refine (put_ok u m w (by omega) (by omega) h9).mono ?_
    rintro e w' ⟨rfl, hb⟩
    exact ⟨_, _, rfl, Or.inl ⟨rfl, by omega, by omega, by omega, h8, rfl⟩, hb⟩

end Go.Proofs.YtcbgflidlpmhcaaGreatDoor

namespace Go.Proofs.YtcbgflidlpmhcaaGreatDoor
open Go.RowKit

theorem i64_xor_nat (a b : Nat) (ha : a < 9223372036854775808) (hb : b < 9223372036854775808) : bits .xor .i64 (a : Int) (b : Int) = ((a ^^^ b : Nat) : Int) := by
  have hx : a ^^^ b < 2 ^ 63 := Nat.xor_lt_two_pow (by omega) (by omega)
  show IntKind.i64.wrap ((BitVec.ofInt 64 (a : Int) ^^^ BitVec.ofInt 64 (b : Int)).toNat : Int) = _
  rw [BitVec.toNat_xor, ofInt_i64 a ha, ofInt_i64 b hb, IntKind.wrap_i64]
  omega

/-- One of a sum's eight steps. -/
def bit1 (x : Nat) : Nat := if x % 2 = 1 then (x / 2) ^^^ 2197175160 else x / 2
def bitN : Nat → Nat → Nat
  | 0, x => x
  | n + 1, x => bit1 (bitN n x)

theorem half_xor (a b : Nat) : (a ^^^ b) / 2 = a / 2 ^^^ b / 2 := by
  have e : ∀ x : Nat, x / 2 = x >>> 1 := fun x => (Nat.shiftRight_eq_div_pow x 1).symm
  rw [e, e, e, Nat.shiftRight_xor_distrib]
theorem par_xor (a b : Nat) : (a ^^^ b) % 2 = (a % 2 ^^^ b % 2) := Nat.xor_mod_two_pow (n := 1)

theorem bit1_xor (a b : Nat) : bit1 (a ^^^ b) = bit1 a ^^^ bit1 b := by
  unfold bit1
  rw [half_xor, par_xor]
  rcases Nat.mod_two_eq_zero_or_one a with h | h <;> rcases Nat.mod_two_eq_zero_or_one b with k | k <;> simp only [h, k]
  · rfl
  · show (a / 2 ^^^ b / 2) ^^^ 2197175160 = a / 2 ^^^ (b / 2 ^^^ 2197175160)
    rw [Nat.xor_assoc]
  · show (a / 2 ^^^ b / 2) ^^^ 2197175160 = (a / 2 ^^^ 2197175160) ^^^ b / 2
    rw [Nat.xor_assoc, Nat.xor_assoc, Nat.xor_comm (b / 2)]
  · show a / 2 ^^^ b / 2 = (a / 2 ^^^ 2197175160) ^^^ (b / 2 ^^^ 2197175160)
    rw [Nat.xor_assoc, Nat.xor_comm 2197175160, Nat.xor_assoc, Nat.xor_self, Nat.xor_zero]
theorem bit1_even (y : Nat) : bit1 (2 * y) = y := by
  unfold bit1
  rw [if_neg (by omega)]
  omega
theorem bitN_xor (n : Nat) : ∀ a b, bitN n (a ^^^ b) = bitN n a ^^^ bitN n b := by
  induction n with
  | zero => intro a b; rfl
  | succ n ih => intro a b; show bit1 _ = bit1 _ ^^^ bit1 _; rw [ih, bit1_xor]
theorem split_xor (x : Nat) : (16 * (x / 16)) ^^^ (x % 16) = x := by
  have h1 : ((16 * (x / 16)) ^^^ (x % 16)) / 16 = x / 16 := by
    have e : ∀ x : Nat, x / 16 = x >>> 4 := fun x => (Nat.shiftRight_eq_div_pow x 4).symm
    rw [e (_ ^^^ _), Nat.shiftRight_xor_distrib, ← e, ← e, show 16 * (x / 16) / 16 = x / 16 from by omega, show x % 16 / 16 = 0 from by omega, Nat.xor_zero]
  have h2 : ((16 * (x / 16)) ^^^ (x % 16)) % 16 = x % 16 := by
    have := Nat.xor_mod_two_pow (a := 16 * (x / 16)) (b := x % 16) (n := 4)
    rw [show (2 : Nat) ^ 4 = 16 from rfl] at this
    rw [this, show 16 * (x / 16) % 16 = 0 from by omega, Nat.zero_xor]
    omega
  omega
theorem bits_low : ∀ r < 16, bitN 4 r = halfN r := by decide
theorem bits_nib (x : Nat) : bitN 4 x = nib x := by
  have h := bitN_xor 4 (16 * (x / 16)) (x % 16)
  rw [split_xor] at h
  have h2 : bitN 4 (16 * (x / 16)) = x / 16 := by
    show bit1 (bit1 (bit1 (bit1 (16 * (x / 16))))) = _
    rw [show 16 * (x / 16) = 2 * (2 * (2 * (2 * (x / 16)))) from by omega, bit1_even, bit1_even, bit1_even, bit1_even]
  rw [h, h2, bits_low _ (by omega)]
  rfl
theorem bits_step (a : Nat) (c : UInt8) : bitN 8 (a ^^^ c.toNat) = sumStep a c := by
  unfold sumStep
  rw [← bits_nib, ← bits_nib]
  rfl
theorem bit1_lt (x : Nat) (h : x < 4294967296) : bit1 x < 4294967296 := by
  unfold bit1
  split
  · exact Nat.xor_lt_two_pow (n := 32) (by omega) (by decide)
  · omega

set_option maxRecDepth 100000 in
set_option maxHeartbeats 2000000 in
theorem rsum_any (s : ByteArray) (w : World) (hs : s.size ≤ 9223372036854775807) :
    Calls Tryz.prog 123 #[.string s] w fun e w' => e = .returned (.int .i64 (crc s.data.toList : Int)) ∧ w = w' := by
  go_enter Tryz.func123, Tryz.ntmps123
  go_wp2
  go_loop [3, 4] (fun x i => ∃ k a : Nat, k ≤ s.size ∧ i = .int .i64 (k : Int) ∧ x = .int .i64 (a : Int) ∧ a < 4294967296 ∧ Hid (a = sumL (s.data.toList.take k))) (fun _ i => s.size - (intOf i).toNat)
  case atStart => exact ⟨0, 4294967295, by omega, rfl, rfl, by omega, rfl⟩
  case round =>
    obtain ⟨k, a, hk, rfl, rfl, ha, Ha⟩ := hrel
    by_cases hl : k < s.size
    · have hb8 := UInt8.toNat_lt s[k]
      obtain ⟨b, hb⟩ : ∃ b, b = a ^^^ (s[k]'hl).toNat := ⟨_, rfl⟩
      have hblt : b < 4294967296 := by rw [hb]; exact Nat.xor_lt_two_pow (n := 32) ha (by omega)
      have x1 : bits .xor .i64 (a : Int) ((s[k]'hl).toNat : Int) = (b : Int) := by
        rw [i64_xor_nat _ _ (by omega) (by omega), hb]
      have hst := sum_snoc s k hl
      rw [← Ha.out, ← bits_step, ← hb] at hst
      have Hst := Lib.hid hst
      clear hb hst
      go_wp2
      go_loop [3, 5] (fun x i => ∃ j y : Nat, j ≤ 8 ∧ i = .int .i64 (j : Int) ∧ x = .int .i64 (y : Int) ∧ y < 4294967296 ∧ Hid (y = bitN j b)) (fun _ i => 8 - (intOf i).toNat)
      case atStart => exact ⟨0, b, by omega, rfl, rfl, hblt, rfl⟩
      case round =>
        obtain ⟨j, y, hj, rfl, rfl, hy, Hy⟩ := hrel
        by_cases hj8 : j < 8
        · have hnx : bit1 y = bitN (j + 1) b := by rw [Hy.out]; rfl
          have hnl := bit1_lt y hy
          by_cases hodd : y % 2 = 1
          · obtain ⟨z, hz⟩ : ∃ z, z = (y / 2) ^^^ 2197175160 := ⟨_, rfl⟩
            have hzx : bits .xor .i64 ((y : Int) / 2) 2197175160 = (z : Int) := by
              have := i64_xor_nat (y / 2) 2197175160 (by omega) (by decide)
              rw [← hz] at this
              exact this
            have hz1 : bit1 y = z := by unfold bit1; rw [if_pos hodd, hz]
            rw [hz1] at hnx hnl
            have Hnx := Lib.hid hnx
            have hodd' : (y : Int) % 2 = 1 := by omega
            clear hz hz1 hnx hodd
            go_wp2
            go_round
            case rel => exact ⟨j + 1, z, by omega, by go_num, rfl, hnl, Hnx⟩
            case measure => simp [intOf]; omega
          · have hz1 : bit1 y = y / 2 := by unfold bit1; rw [if_neg hodd]
            rw [hz1] at hnx hnl
            have Hnx := Lib.hid hnx
            have hodd' : (y : Int) % 2 = 0 := by omega
            clear hz1 hnx hodd
            go_wp2
            go_round
            case rel => exact ⟨j + 1, y / 2, by omega, by go_num, by go_num, hnl, Hnx⟩
            case measure => simp [intOf]; omega
        · obtain rfl : j = 8 := by omega
          go_wp2
          go_round
          case rel => exact ⟨k + 1, y, by omega, by go_num, rfl, hy, by show y = _; rw [Hst.out]; exact Hy.out⟩
          case measure => simp [intOf]; omega
    · obtain rfl : k = s.size := by omega
      obtain ⟨r, hr⟩ : ∃ r, r = 4294967295 - a := ⟨_, rfl⟩
      have x1 : bits .xor .i64 (a : Int) 4294967295 = (r : Int) := by
        have h1 := u32_not_nat a ha
        have h2 := u32_xor_nat 4294967295 a (by decide) ha
        rw [show (IntKind.u32.max : Int) = ((4294967295 : Nat) : Int) from by decide] at h1
        rw [h2] at h1
        have h3 := i64_xor_nat a 4294967295 (by omega) (by decide)
        rw [Nat.xor_comm] at h3
        rw [h1, ← hr] at h3
        exact h3
      have Hr : Hid (r = crc s.data.toList) := by
        have := Ha.out
        rw [List.take_of_length_le (by simp)] at this
        rw [hr, this]
        rfl
      clear hr
      go_wp2
      go_ret
      exact ⟨by rw [← Hr.out]; rfl, rfl⟩

theorem cmp_cons (a b : UInt8) (r t : List UInt8) : Lib.compareBytes (a :: r) (b :: t) = if a.toNat < b.toNat then -1 else if b.toNat < a.toNat then 1 else Lib.compareBytes r t := by
  rw [Lib.compareBytes]
  simp only [UInt8.lt_iff_toNat_lt]

set_option maxRecDepth 100000 in
set_option maxHeartbeats 2000000 in
theorem rcompare_any (a b : ByteArray) (w : World) (ha : a.size ≤ 9223372036854775807) (hb : b.size ≤ 9223372036854775807) :
    Calls Tryz.prog 48 #[.string a, .string b] w fun e w' => e = .returned (.int .i64 (Lib.compareBytes a.data.toList b.data.toList)) ∧ Below w.heap.size w w' := by
  have hla : a.data.toList.length = a.size := rfl
  have hlb : b.data.toList.length = b.size := rfl
  obtain ⟨g, hg⟩ : ∃ g, g = Lib.compareBytes a.data.toList b.data.toList := ⟨_, rfl⟩
  rw [← hg]
  have Hg := Lib.hid hg
  have Hla := Lib.hid hla
  have Hlb := Lib.hid hlb
  clear hg hla hlb
  go_enter Tryz.func48, Tryz.ntmps48
  go_wp2
  go_loopw [5] (fun i wr => ∃ k : Nat, k ≤ a.size ∧ k ≤ b.size ∧ i = .int .i64 (k : Int) ∧ Hid (g = Lib.compareBytes (a.data.toList.drop k) (b.data.toList.drop k)) ∧ Below w.heap.size w wr) (fun i _ => a.size - (intOf i).toNat)
  case atStart => exact ⟨0, by omega, by omega, rfl, Hg, Below.refl _ _⟩
  case round =>
    obtain ⟨k, hka, hkb, rfl, Hk, hbe⟩ := hrel
    by_cases hl : k < a.size
    · by_cases hm : k < b.size
      · have hda : a.data.toList.drop k = a[k] :: a.data.toList.drop (k + 1) := List.drop_eq_getElem_cons (by simpa using hl)
        have hdb : b.data.toList.drop k = b[k] :: b.data.toList.drop (k + 1) := List.drop_eq_getElem_cons (by simpa using hm)
        have hk := Hk.out
        rw [hda, hdb, cmp_cons] at hk
        have hka' : (k : Int) < (a.size : Int) := by omega
        have hkb' : (k : Int) < (b.size : Int) := by omega
        have hk0 : (0 : Int) ≤ (k : Int) := by omega
        clear hda hdb
        by_cases h1 : a[k].toNat < b[k].toNat
        · rw [if_pos h1] at hk
          have Hk2 := Lib.hid hk
          have e1 : decide (a[k].toNat < b[k].toNat) = true := decide_eq_true (by omega)
          clear hk h1
          go_wp2
          go_region
          go_wp2
          go_ret
          exact ⟨by rw [Hk2.out]; rfl, hbe.drew⟩
        · rw [if_neg h1] at hk
          have e1 : decide (a[k].toNat < b[k].toNat) = false := decide_eq_false (by omega)
          by_cases h2 : b[k].toNat < a[k].toNat
          · rw [if_pos h2] at hk
            have Hk2 := Lib.hid hk
            have e2 : decide (b[k].toNat < a[k].toNat) = true := decide_eq_true (by omega)
            clear hk h1 h2
            go_wp2
            go_region
            go_wp2
            go_region
            go_wp2
            go_ret
            exact ⟨by rw [Hk2.out]; rfl, hbe.drew.drew⟩
          · rw [if_neg h2] at hk
            have Hk2 := Lib.hid hk
            have e2 : decide (b[k].toNat < a[k].toNat) = false := decide_eq_false (by omega)
            clear hk h1 h2
            go_wp2
            go_region
            go_wp2
            go_region
            go_wp2
            go_roundw
            case rel => exact ⟨k + 1, by omega, by omega, by go_num, Hk2, hbe.drew.drew⟩
            case measure => simp [intOf]; omega
      · obtain rfl : k = b.size := by omega
        have hgg : g = 1 := by
          rw [Hk.out, List.drop_of_length_le (Nat.le_of_eq Hlb.out), show a.data.toList.drop b.size = a[b.size] :: a.data.toList.drop (b.size + 1) from List.drop_eq_getElem_cons (by simpa using hl)]
          rfl
        have Hgg := Lib.hid hgg
        clear hgg
        go_wp2
        go_ret
        exact ⟨by rw [Hgg.out]; rfl, hbe⟩
    · obtain rfl : k = a.size := by omega
      by_cases hm : a.size < b.size
      · have hgg : g = -1 := by
          rw [Hk.out, List.drop_of_length_le (Nat.le_of_eq Hla.out), show b.data.toList.drop a.size = b[a.size] :: b.data.toList.drop (a.size + 1) from List.drop_eq_getElem_cons (by simpa using hm)]
          rfl
        have Hgg := Lib.hid hgg
        clear hgg
        go_wp2
        go_ret
        exact ⟨by rw [Hgg.out]; rfl, hbe⟩
      · have heq : a.size = b.size := by omega
        have hgg : g = 0 := by
          rw [Hk.out, List.drop_of_length_le (Nat.le_of_eq Hla.out), List.drop_of_length_le (by rw [Hlb.out]; omega)]
          rfl
        have Hgg := Lib.hid hgg
        clear hgg
        have h3 : ¬ (b.size < a.size) := by omega
        go_wp2
        go_ret
        exact ⟨by rw [Hgg.out]; rfl, hbe⟩
end Go.Proofs.YtcbgflidlpmhcaaGreatDoor

namespace Go.Proofs.YtcbgflidlpmhcaaGreatDoor
open Go.RowKit

/-- A place is marked; is it? -/
def markL (L : List Nat) (p : Nat) : List Nat := L.set (p / 8) (L.getD (p / 8) 0 ||| 2 ^ (p % 8))
def hasB (L : List Nat) (p : Nat) : Bool := (L.getD (p / 8) 0).testBit (p % 8)
/-- A sum turned about; a key's places. -/
def turnH (h : Nat) : Nat := (h * 32768 + h / 131072) % 4294967296
def placesP (h d n : Nat) : Nat → List Nat
  | 0 => []
  | k + 1 => h % (8 * n) :: placesP ((h + d) % 4294967296) d n k
def placesH (h n k : Nat) : List Nat := placesP h (turnH h) n k
/-- Keys (by their sums) are marked. -/
def fillL (L : List Nat) (n k : Nat) (hs : List Nat) : List Nat := hs.foldl (fun L h => (placesH h n k).foldl markL L) L
def filterL (hs : List Nat) (n k : Nat) : List Nat := fillL (List.replicate n 0) n k hs
def mayL (L : List Nat) (h n k : Nat) : Bool := (placesH h n k).all (hasB L)

theorem markL_length (L : List Nat) (p : Nat) : (markL L p).length = L.length := by unfold markL; rw [List.length_set]
theorem pow_bit (a b : Nat) : (2 ^ a).testBit b = decide (a = b) := Nat.testBit_two_pow
theorem hasB_mark (L : List Nat) (p q : Nat) (h : q / 8 < L.length) : hasB (markL L p) q = (decide (p = q) || hasB L q) := by
  unfold hasB markL
  rw [List.getD_eq_getElem?_getD, List.getElem?_set]
  by_cases h1 : p / 8 = q / 8
  · rw [if_pos h1, if_pos (by omega)]
    show Nat.testBit (_ ||| _) _ = _
    rw [Nat.testBit_or, pow_bit, h1, Bool.or_comm]
    congr 1
    rw [decide_eq_decide]
    omega
  · rw [if_neg h1, ← List.getD_eq_getElem?_getD, decide_eq_false (by intro h2; exact h1 (by rw [h2])), Bool.false_or]
theorem marks_length (l : List Nat) : ∀ L : List Nat, (l.foldl markL L).length = L.length := by
  induction l with
  | nil => intro L; rfl
  | cons p r ih => intro L; rw [List.foldl_cons, ih, markL_length]
theorem hasB_marks (l : List Nat) (q : Nat) : ∀ L : List Nat, q / 8 < L.length → hasB (l.foldl markL L) q = (decide (q ∈ l) || hasB L q) := by
  induction l with
  | nil => intro L _; simp
  | cons p r ih =>
    intro L h
    rw [List.foldl_cons, ih _ (by rw [markL_length]; exact h), hasB_mark _ _ _ h, ← Bool.or_assoc]
    congr 1
    rw [Bool.eq_iff_iff]
    simp only [Bool.or_eq_true, decide_eq_true_eq, List.mem_cons]
    constructor
    · rintro (h | h)
      · exact Or.inr h
      · exact Or.inl h.symm
    · rintro (h | h)
      · exact Or.inr h.symm
      · exact Or.inl h
theorem fillL_length (n k : Nat) (hs : List Nat) : ∀ L : List Nat, (fillL L n k hs).length = L.length := by
  unfold fillL
  induction hs with
  | nil => intro L; rfl
  | cons h r ih => intro L; rw [List.foldl_cons, ih, marks_length]
theorem hasB_fill (n k : Nat) (q : Nat) (hs : List Nat) : ∀ L : List Nat, q / 8 < L.length → hasB (fillL L n k hs) q = (hs.any (fun h => decide (q ∈ placesH h n k)) || hasB L q) := by
  unfold fillL
  induction hs with
  | nil => intro L _; simp
  | cons h r ih =>
    intro L hq
    rw [List.foldl_cons, ih _ (by rw [marks_length]; exact hq), hasB_marks _ _ _ hq, List.any_cons, ← Bool.or_assoc]
    congr 1
    rw [Bool.or_comm]
theorem hasB_none (n q : Nat) : hasB (List.replicate n 0) q = false := by
  unfold hasB
  rw [List.getD_eq_getElem?_getD, List.getElem?_replicate]
  split <;> simp
theorem placesP_lt (d n : Nat) (hn : 0 < n) : ∀ (k h : Nat), ∀ p ∈ placesP h d n k, p < 8 * n := by
  intro k
  induction k with
  | zero => intro h p hp; cases hp
  | succ k ih =>
    intro h p hp
    rw [placesP, List.mem_cons] at hp
    rcases hp with rfl | hp
    · exact Nat.mod_lt _ (by omega)
    · exact ih _ p hp
theorem placesP_length (d n : Nat) : ∀ (k h : Nat), (placesP h d n k).length = k := by
  intro k
  induction k with
  | zero => intro h; rfl
  | succ k ih => intro h; rw [placesP, List.length_cons, ih]
theorem filterL_length (hs : List Nat) (n k : Nat) : (filterL hs n k).length = n := by
  unfold filterL
  rw [fillL_length, List.length_replicate]
theorem hasB_filter (hs : List Nat) (n k q : Nat) (hq : q < 8 * n) : hasB (filterL hs n k) q = hs.any (fun h => decide (q ∈ placesH h n k)) := by
  unfold filterL
  rw [hasB_fill _ _ _ _ _ (by rw [List.length_replicate]; omega), hasB_none, Bool.or_false]
/-- Of each key that was built in it is true. -/
theorem may_member (hs : List Nat) (n k h : Nat) (hn : 0 < n) (hh : h ∈ hs) : mayL (filterL hs n k) h n k = true := by
  unfold mayL
  rw [List.all_eq_true]
  intro p hp
  rw [hasB_filter _ _ _ _ (placesP_lt _ _ hn _ _ p hp), List.any_eq_true]
  exact ⟨h, hh, decide_eq_true hp⟩
/-- Of no key: a filter that nothing was built in. -/
theorem may_none (n k h : Nat) (hn : 0 < n) (hk : 0 < k) : mayL (filterL [] n k) h n k = false := by
  obtain ⟨j, rfl⟩ : ∃ j, k = j + 1 := ⟨k - 1, by omega⟩
  unfold mayL placesH
  rw [placesP, List.all_cons, hasB_filter _ _ _ _ (Nat.mod_lt _ (by omega))]
  rfl
theorem set_lt (m : Nat) (L : List Nat) (i v : Nat) (hL : ∀ x ∈ L, x < m) (hv : v < m) : ∀ x ∈ L.set i v, x < m := by
  intro x hx
  rcases List.mem_or_eq_of_mem_set hx with h | h
  · exact hL x h
  · rw [h]; exact hv
theorem getD_lt (m : Nat) (L : List Nat) (i : Nat) (hm : 0 < m) (hL : ∀ x ∈ L, x < m) : L.getD i 0 < m := by
  rw [List.getD_eq_getElem?_getD]
  cases h : L[i]? with
  | none => exact hm
  | some x => exact hL x (List.mem_of_getElem? h)
/-- Each byte is one. -/
theorem markL_byte (L : List Nat) (p : Nat) (hL : ∀ x ∈ L, x < 256) : ∀ x ∈ markL L p, x < 256 := by
  refine set_lt 256 L _ _ hL (Nat.or_lt_two_pow (n := 8) (getD_lt 256 L _ (by decide) hL) ?_)
  exact Nat.pow_lt_pow_right (by decide) (Nat.mod_lt _ (by decide))
theorem marks_byte (l : List Nat) : ∀ L : List Nat, (∀ x ∈ L, x < 256) → ∀ x ∈ l.foldl markL L, x < 256 := by
  induction l with
  | nil => intro L h; exact h
  | cons p r ih => intro L h; rw [List.foldl_cons]; exact ih _ (markL_byte L p h)
theorem fillL_byte (n k : Nat) (hs : List Nat) : ∀ L : List Nat, (∀ x ∈ L, x < 256) → ∀ x ∈ fillL L n k hs, x < 256 := by
  unfold fillL
  induction hs with
  | nil => intro L h; exact h
  | cons h r ih => intro L hL; rw [List.foldl_cons]; exact ih _ (marks_byte _ _ hL)
theorem filterL_byte (hs : List Nat) (n k : Nat) : ∀ x ∈ filterL hs n k, x < 256 := by
  refine fillL_byte n k hs _ fun x hx => ?_
  rw [List.mem_replicate] at hx
  omega
/-- What a filter of fewer keys marks one of more marks, too. -/
theorem filter_sub (h : Nat) (hs : List Nat) (n k i : Nat) (hi : i < n) :
    (filterL hs n k).getD i 0 &&& (255 - (filterL (h :: hs) n k).getD i 0) = 0 := by
  have b1 := getD_lt 256 _ i (by decide) (filterL_byte hs n k)
  have b2 := getD_lt 256 _ i (by decide) (filterL_byte (h :: hs) n k)
  have key : ∀ j, j < 8 → ((filterL hs n k).getD i 0).testBit j = true → ((filterL (h :: hs) n k).getD i 0).testBit j = true := by
    intro j hj ht
    have e1 : (8 * i + j) / 8 = i := by omega
    have e2 : (8 * i + j) % 8 = j := by omega
    have h1 := hasB_filter hs n k (8 * i + j) (by omega)
    have h2 := hasB_filter (h :: hs) n k (8 * i + j) (by omega)
    unfold hasB at h1 h2
    rw [e1, e2] at h1 h2
    rw [h2, List.any_cons, ← h1, ht, Bool.or_true]
  generalize (filterL hs n k).getD i 0 = a at *
  generalize (filterL (h :: hs) n k).getD i 0 = b at *
  refine Nat.eq_of_testBit_eq fun j => ?_
  rw [Nat.testBit_and, Nat.zero_testBit, show 255 - b = 2 ^ 8 - (b + 1) from by omega, Nat.testBit_two_pow_sub_succ (by omega)]
  by_cases hj : j < 8
  · have := key j hj
    cases ha : a.testBit j
    · simp
    · rw [this ha]; simp
  · simp [hj]
end Go.Proofs.YtcbgflidlpmhcaaGreatDoor

namespace Go.Proofs.YtcbgflidlpmhcaaGreatDoor
open Go.RowKit

/-- An int more behind a row of the call's own. -/
theorem app_int {W : World} {B n c : Nat} {A : Option Addr} {l : List Int} (x : Int) (hn : n ≤ 1000000) (hl : n = l.length) (h : Own elInts W B 3 (.slice A n c) l) (hB : B ≤ W.heap.size) :
    ∃ A' c' w', (∀ ty, (Builtin.append_ #[82, 82] ty #[.slice A n c, .slice (some ⟨W.heap.size, 0, none⟩) 1 1]).run Tryz.prog (W.alloc (.cells #[.int .i64 x] 3)) = .ok (.slice A' (n + 1) c') w') ∧
      Own elInts w' B 3 (.slice A' (n + 1) c') (l ++ [x]) ∧ Below B W w' := by
  obtain ⟨v', w', hr, hown, hgr, _, _⟩ := app_own (P := Tryz.prog) elInts 82 3 (.int .i64 0) 8 underInts infoInts rfl (W.alloc (.cells #[.int .i64 x] 3)) B (.slice A n c) l [x] (World.ownsRow.alloc h _) (some ⟨W.heap.size, 0, none⟩) 1 (fun h => by cases h) (fun a ha j' u hu => by
    cases ha
    rw [El.row_one] at hu
    exact cells_new W 3 [.int .i64 x] j' u hu) (by unfold maxLen; simp; omega) (by simp; omega) (by simp; omega) 1 rfl
  obtain ⟨A', c', rfl⟩ := Own.slice hown
  have e : (l ++ [x]).length = n + 1 := by rw [List.length_append, hl]; rfl
  rw [e] at hr hown
  exact ⟨A', c', w', hr, hown, ((Below.refl B W).alloc hB _).grown hgr (by simp; omega) (fun k hk => ((World.ownsRow.alloc h _ : (W.alloc (.cells #[.int .i64 x] 3)).ownsRow B 3 _ _ _ _).lt k hk).1)⟩

theorem placesP_snoc (d n : Nat) : ∀ (k h : Nat), h < 4294967296 → placesP h d n (k + 1) = placesP h d n k ++ [((h + k * d) % 4294967296) % (8 * n)]
  | 0, h, h1 => by simp [placesP, Nat.mod_eq_of_lt h1]
  | k + 1, h, h1 => by
    rw [placesP, placesP_snoc d n k _ (Nat.mod_lt _ (by decide)), placesP, List.cons_append]
    congr 3
    rw [Nat.mod_add_mod, Nat.add_mul]
    congr 2
    omega

set_option maxRecDepth 100000 in
set_option maxHeartbeats 1000000 in
theorem rplaces_any (key : ByteArray) (n k : Nat) (w : World) (hs : key.size ≤ 9223372036854775807) (hn0 : 0 < n) (hn : n ≤ 1000000) (hk : k ≤ 1000) :
    Calls Tryz.prog 42 #[.string key, .int .i64 (n : Int), .int .i64 (k : Int)] w fun e w' =>
      ∃ A c, e = .returned (.slice A k c) ∧ Own elInts w' w.heap.size 3 (.slice A k c) ((placesH (crc key.data.toList) n k).map Int.ofNat) ∧ Below w.heap.size w w' := by
  unfold placesH
  have CS := Lib.hid (rsum_any key w hs)
  have hlt : crc key.data.toList < 4294967296 := by unfold crc; omega
  obtain ⟨h, hh⟩ : ∃ h, crc key.data.toList = h := ⟨_, rfl⟩
  rw [hh] at CS hlt ⊢
  clear hh hs
  obtain ⟨d, hde⟩ : ∃ d, turnH h = d := ⟨_, rfl⟩
  have hdl : d < 4294967296 := by rw [← hde]; unfold turnH; omega
  have hd : ((h : Int) * 32768 + (h : Int) / 131072) % 4294967296 = (d : Int) := by rw [← hde]; unfold turnH; omega
  rw [hde]
  clear hde
  go_enter Tryz.func42, Tryz.ntmps42
  go_wp2_with fail
  refine CS.out.mono ?_
  rintro e w1 ⟨rfl, rfl⟩
  go_wp2_with fail
  rw [hd]
  clear hd CS
  have m1 : IntKind.i64.wrap (8 * (n : Int)) = 8 * (n : Int) := by rw [IntKind.wrap_i64]; omega
  have m2 : ¬ (8 * (n : Int)) = 0 := by omega
  have m3 : ¬ n = 0 := by omega
  have m4 : (0 : Int) ≤ 8 * (n : Int) := by omega
  go_loopw [7, 9, 10] (fun s7 s9 s10 wr => ∃ (i hc : Nat) (A : Option Addr) (c : Nat), i ≤ k ∧ hc < 4294967296 ∧ s7 = .int .i64 (hc : Int) ∧ s9 = .slice A i c ∧ s10 = .int .i64 (i : Int) ∧ Hid (hc = (h + i * d) % 4294967296) ∧ Hid (Own elInts wr w.heap.size 3 (.slice A i c) ((placesP h d n i).map Int.ofNat)) ∧ Hid (Below w.heap.size w wr)) (fun _ _ s10 _ => k - (intOf s10).toNat)
  case atStart => exact ⟨0, h, none, 0, by omega, hlt, rfl, rfl, rfl, Lib.hid (by omega), Lib.hid (World.ownsRow_nil _ _ _ _), Lib.hid (Below.refl _ _)⟩
  case round =>
    obtain ⟨i, hc, A, c, hi, hcl, rfl, rfl, rfl, HC, HO, HB⟩ := hrel
    by_cases hik : i < k
    · as_aux_lemma =>
      have i1 : (i : Int) < (k : Int) := by omega
      have x1 : (hc : Int).tmod (8 * (n : Int)) = ((hc % (8 * n) : Nat) : Int) := by rw [Int.tmod_eq_emod_of_nonneg (by omega)]; push_cast; rfl
      obtain ⟨wo, hwo⟩ : ∃ wo, wo = wr := ⟨_, rfl⟩
      obtain ⟨A2, c2, w2, hr2, ho2, hb2⟩ := app_int (W := wo) (B := w.heap.size) (n := i) (c := c) (A := A) (l := (placesP h d n i).map Int.ofNat) ((hc % (8 * n) : Nat) : Int) (by omega) (by rw [List.length_map, placesP_length]) (by rw [hwo]; exact HO.out) (by rw [hwo]; exact HB.out.size)
      subst hwo
      have hps : (placesP h d n i).map Int.ofNat ++ [((hc % (8 * n) : Nat) : Int)] = (placesP h d n (i + 1)).map Int.ofNat := by
        rw [placesP_snoc _ _ _ _ hlt, List.map_append, HC.out]; rfl
      rw [hps] at ho2
      have HR2 := fun ty => Lib.hid (hr2 ty)
      have HO2 := Lib.hid ho2
      have HB2 := Lib.hid (HB.out.trans hb2)
      have HC2 : Hid ((hc + d) % 4294967296 = (h + (i + 1) * d) % 4294967296) := Lib.hid (by rw [HC.out, Nat.mod_add_mod, Nat.add_mul]; congr 1; omega)
      clear hr2 ho2 hb2 hps HO HB
      obtain ⟨v, hv⟩ : ∃ v : Nat, hc % (8 * n) = v := ⟨_, rfl⟩
      rw [hv] at x1 HR2
      clear hv
      go_wp2_with (at_builtin; refine wpList_append_k _ w2 rfl (.tmp 24) (.tmp 29) 82 rfl _ _ (.slice A2 (i + 1) c2) rfl rfl (fun ty => (HR2 ty).out) ?_)
      go_roundw
      case rel => exact ⟨i + 1, (hc + d) % 4294967296, A2, c2, by omega, Nat.mod_lt _ (by decide), congrArg (Value.int .i64) (by omega), rfl, by go_num, HC2, HO2, HB2⟩
      case measure => simp [intOf]; omega
    · as_aux_lemma =>
      obtain rfl : i = k := by omega
      go_wp2_with fail
      go_ret
      exact ⟨A, c, rfl, HO.out, HB.out⟩
end Go.Proofs.YtcbgflidlpmhcaaGreatDoor

namespace Go.Proofs.YtcbgflidlpmhcaaGreatDoor
open Go.RowKit

inductive GV where
  | ok (v n : Nat)
  | err (e : Int)

/-- What GetVar makes of bytes: i groups are taken, v is what they say. -/
def gv : List UInt8 → Nat → Nat → GV
  | [], i, _ => if i < 9 then .err 3 else .err 4
  | c :: r, i, v => if 9 ≤ i then .err 4 else if 128 ≤ c.toNat then gv r (i + 1) (v + c.toNat % 128 * 2 ^ (7 * i)) else if c.toNat = 0 ∧ 0 < i then .err 4 else .ok (v + c.toNat % 128 * 2 ^ (7 * i)) (i + 1)

theorem gv_long (l : List UInt8) (i v : Nat) (h : 9 ≤ i) : gv l i v = .err 4 := by
  cases l with
  | nil => rw [gv, if_neg (by omega)]
  | cons c r => rw [gv, if_pos h]

theorem gv_short (l : List UInt8) (i v : Nat) (h : i < 9) (hl : l = []) : gv l i v = .err 3 := by
  subst hl; rw [gv, if_pos h]

theorem gv_more (s : ByteArray) (k a : Nat) (hl : k < s.size) (hk : k < 9) (h : 128 ≤ s[k].toNat) :
    gv (s.data.toList.drop k) k a = gv (s.data.toList.drop (k + 1)) (k + 1) (a + s[k].toNat % 128 * 2 ^ (7 * k)) := by
  rw [List.drop_eq_getElem_cons (by simpa using hl), gv, if_neg (by omega), if_pos (by exact h)]; rfl
theorem gv_zero (s : ByteArray) (k a : Nat) (hl : k < s.size) (hk : k < 9) (h : s[k].toNat = 0) (h0 : 0 < k) :
    gv (s.data.toList.drop k) k a = .err 4 := by
  have e : (s.data.toList[k]'(by simpa using hl)).toNat = 0 := h
  rw [List.drop_eq_getElem_cons (by simpa using hl), gv, if_neg (by omega), if_neg (by omega), if_pos ⟨e, h0⟩]
theorem gv_last (s : ByteArray) (k a : Nat) (hl : k < s.size) (hk : k < 9) (h : s[k].toNat < 128) (h0 : ¬ (s[k].toNat = 0 ∧ 0 < k)) :
    gv (s.data.toList.drop k) k a = .ok (a + s[k].toNat % 128 * 2 ^ (7 * k)) (k + 1) := by
  have h' : (s.data.toList[k]'(by simpa using hl)).toNat < 128 := h
  have h0' : ¬ ((s.data.toList[k]'(by simpa using hl)).toNat = 0 ∧ 0 < k) := h0
  rw [List.drop_eq_getElem_cons (by simpa using hl), gv, if_neg (by omega), if_neg (by omega), if_neg h0']; rfl

def VarPost (p : Nat) (w : World) : GV → Ending → World → Prop
  | .ok v n, e, w' => e = .returned (.int .i64 (v : Int)) ∧ w'.cell? ⟨p, 1, none⟩ = some (.int .i64 (n : Int)) ∧ w.grownBy w' (some p)
  | .err er, e, w' => e = .panicked [{ v := .iface 27 (.int .i64 er), recovered := false }] ∧ w.grownBy w' (some p)

set_option maxRecDepth 100000 in
set_option maxHeartbeats 1000000 in
theorem variable_any (p : Nat) (s : ByteArray) (w : World) (h0 : w.cell? ⟨p, 0, none⟩ = some (.string s)) (h1 : w.cell? ⟨p, 1, none⟩ = some (.int .i64 (0 : Nat)))
    (hz : w.frozen? ⟨p, 1, none⟩ = false) (hs : s.size ≤ 9223372036854775807) :
    Calls Tryz.prog 218 #[.pointer (some ⟨p, 0, none⟩)] w fun e w' => VarPost p w (gv s.data.toList 0 0) e w' := by
  obtain ⟨g, hg⟩ : ∃ g, g = gv s.data.toList 0 0 := ⟨_, rfl⟩
  rw [← hg]
  have Hg := Lib.hid hg
  clear hg
  go_enter Tryz.func218, Tryz.ntmps218
  go_wp2
  go_loopw [3, 6] (fun v i wr => ∃ k a : Nat, k ≤ 9 ∧ k ≤ s.size ∧ i = .int .i64 (k : Int) ∧ v = .int .i64 (a : Int) ∧ a < 2 ^ (7 * k) ∧ Hid (gv s.data.toList 0 0 = gv (s.data.toList.drop k) k a) ∧
      wr.cell? ⟨p, 0, none⟩ = some (.string s) ∧ wr.cell? ⟨p, 1, none⟩ = some (.int .i64 (k : Int)) ∧ wr.frozen? ⟨p, 1, none⟩ = false ∧ w.grownBy wr (some p))
    (fun _ i _ => 9 - (intOf i).toNat)
  case atStart => exact ⟨0, 0, by omega, by omega, rfl, rfl, by omega, rfl, h0, h1, hz, World.grownBy.refl _ _⟩
  case round =>
    obtain ⟨k, a, hk9, hks, rfl, rfl, ha, Ha, c0, c1, cz, hgr⟩ := hrel
    by_cases hk : k < 9
    · by_cases hl : k < s.size
      · have hb : s[k].toNat < 256 := UInt8.toNat_lt _
        have V := Lib.hid (vstep a k _ ha hk hb)
        go_wp2_with fail
        refine (next_some p k s _ _ c0 c1 cz hl hs).mono ?_
        rintro e w' ⟨rfl, n, rfl⟩
        go_wp2_with fail
        · have h128 : (128 : Int) ≤ ((s[k]'hl).toNat : Int) := by assumption
          have hgg := gv_more s k a hl hk (by omega)
          go_roundw
          case rel => exact ⟨k + 1, _, by omega, by omega, by go_num, by rw [V.out.1], V.out.2, Ha.out.trans hgg, (World.cell?_setCell_other _ _ _ _ (by simp)).trans c0, World.cell?_setCell_same _ _ _ c1, (World.frozen?_setCell _ _ _ _).trans cz, only_drewN (only_setCell hgr (.inl rfl) _) _⟩
          case measure => simp [intOf]; omega
        · have hzz : s[k].toNat = 0 := by assumption
          have h0k : 0 < k := by assumption
          have hgg := (Hg.out.trans Ha.out).trans (gv_zero s k a hl hk hzz h0k)
          refine ⟨rfl, ?_⟩
          rw [hgg]
          exact ⟨rfl, only_drewN (only_setCell hgr (.inl rfl) _) _⟩
        · have h128 : ((s[k]'hl).toNat : Int) < 128 := by assumption
          have hnk : ¬ 0 < k := by assumption
          have hz0 : s[k].toNat = 0 := by assumption
          have hgg := (Hg.out.trans Ha.out).trans (gv_last s k a hl hk (by omega) (fun h => hnk h.2))
          have V1 : bits .or .i64 (a : Int) (wrap64 (wrap64 (bits .andNot .u8 (0 : Int) 128) * 2 ^ (7 * k))) = ((a + s[k].toNat % 128 * 2 ^ (7 * k) : Nat) : Int) := by
            have := V.out.1
            rw [hz0] at this ⊢
            exact this
          go_ret
          rw [hgg]
          exact ⟨by rw [V1]; rfl, World.cell?_setCell_same _ _ _ c1, only_drewN (only_setCell hgr (.inl rfl) _) _⟩
        · have h128 : ((s[k]'hl).toNat : Int) < 128 := by assumption
          have hnk : ¬ s[k].toNat = 0 := by assumption
          have hgg := (Hg.out.trans Ha.out).trans (gv_last s k a hl hk (by omega) (fun h => hnk h.1))
          go_ret
          rw [hgg]
          exact ⟨by rw [V.out.1]; rfl, World.cell?_setCell_same _ _ _ c1, only_drewN (only_setCell hgr (.inl rfl) _) _⟩
      · obtain rfl : k = s.size := by omega
        have hgg := Lib.hid ((Hg.out.trans Ha.out).trans (gv_short _ _ a hk (by simp)))
        go_wp2_with fail
        refine (next_end p s _ _ c0 c1 hs).mono ?_
        rintro e w' ⟨rfl, n, rfl⟩
        refine ⟨rfl, ?_⟩
        rw [hgg.out]
        exact ⟨rfl, only_drewN hgr _⟩
    · have hgg := Lib.hid ((Hg.out.trans Ha.out).trans (gv_long _ _ a (by omega)))
      go_wp2_with fail
      refine ⟨rfl, ?_⟩
      rw [hgg.out]
      exact ⟨rfl, hgr⟩
end Go.Proofs.YtcbgflidlpmhcaaGreatDoor

namespace Go.Proofs.YtcbgflidlpmhcaaGreatDoor
open Go.RowKit

theorem run_assert_errno (n : Int) (w : World) : (Instr.typeAssert (.iface 27 (.int .i64 n)) 20 27 true).run Tryz.prog w = .ok (.tuple #[.int .i64 n, .bool true]) w := by kernel_rfl

set_option maxHeartbeats 400000 in
theorem told_errno (er : Int) (w : World) :
    Calls Tryz.prog 37 #[.iface 27 (.int .i64 er)] w fun e w' => e = .returned (.int .i64 er) ∧ w = w' := by
  have hta := run_assert_errno er
  go_enter Tryz.func37, Tryz.ntmps37
  go_wp2
  go_ret
  exact ⟨rfl, rfl⟩

set_option maxHeartbeats 400000 in
theorem getvar_catch (a b c : Nat) (x y z er : Int) (older : List PanicEntry) (w : World) (ha : w.cell? ⟨a, 0, none⟩ = some (.int .i64 x)) (hb : w.cell? ⟨b, 0, none⟩ = some (.int .i64 y)) (hc : w.cell? ⟨c, 0, none⟩ = some (.int .i64 z))
    (fa : w.frozen? ⟨a, 0, none⟩ = false) (fb : w.frozen? ⟨b, 0, none⟩ = false) (fc : w.frozen? ⟨c, 0, none⟩ = false) (hab : a ≠ b) (hbc : b ≠ c) (hac : a ≠ c) :
    CallsD Tryz.prog 217 #[.pointer (some ⟨a, 0, none⟩), .pointer (some ⟨b, 0, none⟩), .pointer (some ⟨c, 0, none⟩)] (.panicking ({ v := .iface 27 (.int .i64 er), recovered := false } :: older)) w fun e u' w' =>
      e = .returned (.tuple #[]) ∧ u' = .panicking ({ v := .iface 27 (.int .i64 er), recovered := true } :: older) ∧
        w' = ((w.setCell ⟨a, 0, none⟩ (.int .i64 0)).setCell ⟨b, 0, none⟩ (.int .i64 0)).setCell ⟨c, 0, none⟩ (.int .i64 er) := by
  refine callsD_of_wpS Tryz.func217 rfl fun c₀ cs hu => ?_
  apply wpS_seq
  apply wpS_region
  simp [wpOpsS, go_sem, recoverD, hu, Tryz.ntmps217, Exit.thenS]
  refine wpS_of_wp ?_
  simp [Array.replicate]
  go_wp2_with fail
  refine (told_errno _ _).mono ?_
  rintro e w' ⟨rfl, rfl⟩
  go_wp2
  simp [bodyPostS, results, Tryz.results217]

set_option maxHeartbeats 400000 in
theorem getvar_idle (a b c : Value) (w : World) :
    CallsD Tryz.prog 217 #[a, b, c] .returning w fun e u' w' => e = .returned (.tuple #[]) ∧ u' = .returning ∧ w' = w := by
  refine callsD_of_wpS Tryz.func217 rfl fun c₀ cs hu => ?_
  apply wpS_seq
  apply wpS_region
  simp [wpOpsS, go_sem, recoverD, hu, Tryz.ntmps217, Exit.thenS]
  refine wpS_of_wp ?_
  simp [Array.replicate]
  go_wp2
  cases c₀
  simp_all [bodyPostS, results, Tryz.results217]

set_option maxRecDepth 100000 in
set_option maxHeartbeats 1000000 in
theorem getvar_ok (s : ByteArray) (v n : Nat) (w : World) (hs : s.size ≤ 9223372036854775807) (hgv : gv s.data.toList 0 0 = .ok v n) :
    Calls Tryz.prog 216 #[.string s] w fun e w' => e = .returned (.tuple #[.int .i64 (v : Int), .int .i64 (n : Int), .int .i64 0]) ∧ Below w.heap.size w w' := by
  have hmf : ∀ (fn : Fn) (first cap : Array Value) (w : World), (Instr.makeFunc fn first cap).run Tryz.prog w = .ok (.func fn first cap) w := fun _ _ _ _ => rfl
  have Hgv := Lib.hid hgv
  clear hgv
  go_enter_defers Tryz.func216, Tryz.ntmps216
  go_wp2_with fail
  have b0 : Blk ((((w.alloc (.cells #[.int .i64 0] 3)).alloc (.cells #[.int .i64 0] 3)).alloc (.cells #[.int .i64 0] 27)).alloc (.cells #[.string s, .int .i64 0] 237)) w.heap.size 3 #[.int .i64 0] := (((Blk.new _ _ _).alloc _).alloc _).alloc _
  have b1 : Blk ((((w.alloc (.cells #[.int .i64 0] 3)).alloc (.cells #[.int .i64 0] 3)).alloc (.cells #[.int .i64 0] 27)).alloc (.cells #[.string s, .int .i64 0] 237)) (w.heap.size + 1) 3 #[.int .i64 0] := ((Blk.new' (by simp) _ _).alloc _).alloc _
  have b2 : Blk ((((w.alloc (.cells #[.int .i64 0] 3)).alloc (.cells #[.int .i64 0] 3)).alloc (.cells #[.int .i64 0] 27)).alloc (.cells #[.string s, .int .i64 0] 237)) (w.heap.size + 2) 27 #[.int .i64 0] := (Blk.new' (by simp) _ _).alloc _
  have b3 : Blk ((((w.alloc (.cells #[.int .i64 0] 3)).alloc (.cells #[.int .i64 0] 3)).alloc (.cells #[.int .i64 0] 27)).alloc (.cells #[.string s, .int .i64 0] 237)) (w.heap.size + 3) 237 #[.string s, .int .i64 0] := Blk.new' (by simp) _ _
  have hb : Below w.heap.size w ((((w.alloc (.cells #[.int .i64 0] 3)).alloc (.cells #[.int .i64 0] 3)).alloc (.cells #[.int .i64 0] 27)).alloc (.cells #[.string s, .int .i64 0] 237)) := below_alloc (below_alloc (below_alloc (below_alloc (Below.refl _ _) (Nat.le_refl _) _) (Nat.le_refl _) _) (Nat.le_refl _) _) (Nat.le_refl _) _
  generalize ((((w.alloc (.cells #[.int .i64 0] 3)).alloc (.cells #[.int .i64 0] 3)).alloc (.cells #[.int .i64 0] 27)).alloc (.cells #[.string s, .int .i64 0] 237)) = w1 at *
  refine (variable_any (w.heap.size + 3) s _ (b3.cell 0) (b3.cell 1) (b3.frozen 1) hs).mono ?_
  rw [Hgv.out]
  rintro e w2 ⟨rfl, hc, hgr⟩
  have d0 := b0.grown hgr (by simp)
  have d1 := b1.grown hgr (by simp)
  have d2 := b2.grown hgr (by simp)
  have hb2 : Below w.heap.size w w2 := hb.trans (below_of_only hgr hb.size (by omega))
  have c0 := d0.cell 0
  have f0 := d0.frozen 0
  have c1 := d1.cell 0
  have f1 := d1.frozen 0
  have c2 := d2.cell 0
  have f2 := d2.frozen 0
  simp at c0 c1 c2
  have D0 := Lib.hid d0
  have D1 := Lib.hid d1
  have D2 := Lib.hid d2
  clear b0 b1 b2 b3 d0 d1 d2
  go_wp2
  go_region
  go_wp2
  have e0 := ((((D0.out.set_ 0 (.int .i64 (v : Int))).set_ 0 (.int .i64 (v : Int))).far (p := ⟨w.heap.size + 1, 0, none⟩) (by dsimp only; omega) (.int .i64 (n : Int))).far (p := ⟨w.heap.size + 1 + 1, 0, none⟩) (by dsimp only; omega) (.int .i64 0)).cell 0
  have e1 := ((((D1.out.far (p := ⟨w.heap.size, 0, none⟩) (by dsimp only; omega) (.int .i64 (v : Int))).far (p := ⟨w.heap.size, 0, none⟩) (by dsimp only; omega) (.int .i64 (v : Int))).set_ 0 (.int .i64 (n : Int))).far (p := ⟨w.heap.size + 1 + 1, 0, none⟩) (by dsimp only; omega) (.int .i64 0)).cell 0
  have e2 := ((((D2.out.far (p := ⟨w.heap.size, 0, none⟩) (by dsimp only; omega) (.int .i64 (v : Int))).far (p := ⟨w.heap.size, 0, none⟩) (by dsimp only; omega) (.int .i64 (v : Int))).far (p := ⟨w.heap.size + 1, 0, none⟩) (by dsimp only; omega) (.int .i64 (n : Int))).set_ 0 (.int .i64 0)).cell 0
  have hb3 := below_setCell (below_setCell (below_setCell (below_setCell hb2 (p := ⟨w.heap.size, 0, none⟩) (Nat.le_refl _) (.int .i64 (v : Int))) (p := ⟨w.heap.size, 0, none⟩) (Nat.le_refl _) (.int .i64 (v : Int))) (p := ⟨w.heap.size + 1, 0, none⟩) (by dsimp only; omega) (.int .i64 (n : Int))) (p := ⟨w.heap.size + 1 + 1, 0, none⟩) (by dsimp only; omega) (.int .i64 0)
  refine leaves_cons (f := 217) (args := #[.pointer (some ⟨w.heap.size, 0, none⟩), .pointer (some ⟨w.heap.size + 1, 0, none⟩), .pointer (some ⟨w.heap.size + 1 + 1, 0, none⟩)]) (by simp) (by simp [go_sem]) ?_
  refine (getvar_idle _ _ _ _).mono ?_
  rintro e u' w'' ⟨rfl, rfl, rfl⟩
  generalize ((((w2.setCell ⟨w.heap.size, 0, none⟩ (.int .i64 (v : Int))).setCell ⟨w.heap.size, 0, none⟩ (.int .i64 (v : Int))).setCell ⟨w.heap.size + 1, 0, none⟩ (.int .i64 (n : Int))).setCell ⟨w.heap.size + 1 + 1, 0, none⟩ (.int .i64 0)) = w3 at *
  simp at e0 e1 e2
  simp [Leaves, settle, results, Tryz.results216, go_sem, e0, e1, e2]
  exact hb3.drew

set_option maxRecDepth 100000 in
set_option maxHeartbeats 1000000 in
theorem getvar_err (s : ByteArray) (er : Int) (w : World) (hs : s.size ≤ 9223372036854775807) (hgv : gv s.data.toList 0 0 = .err er) :
    Calls Tryz.prog 216 #[.string s] w fun e w' => e = .returned (.tuple #[.int .i64 0, .int .i64 0, .int .i64 er]) ∧ Below w.heap.size w w' := by
  have hmf : ∀ (fn : Fn) (first cap : Array Value) (w : World), (Instr.makeFunc fn first cap).run Tryz.prog w = .ok (.func fn first cap) w := fun _ _ _ _ => rfl
  have Hgv := Lib.hid hgv
  clear hgv
  go_enter_defers Tryz.func216, Tryz.ntmps216
  go_wp2_with fail
  have b0 : Blk ((((w.alloc (.cells #[.int .i64 0] 3)).alloc (.cells #[.int .i64 0] 3)).alloc (.cells #[.int .i64 0] 27)).alloc (.cells #[.string s, .int .i64 0] 237)) w.heap.size 3 #[.int .i64 0] := (((Blk.new _ _ _).alloc _).alloc _).alloc _
  have b1 : Blk ((((w.alloc (.cells #[.int .i64 0] 3)).alloc (.cells #[.int .i64 0] 3)).alloc (.cells #[.int .i64 0] 27)).alloc (.cells #[.string s, .int .i64 0] 237)) (w.heap.size + 1) 3 #[.int .i64 0] := ((Blk.new' (by simp) _ _).alloc _).alloc _
  have b2 : Blk ((((w.alloc (.cells #[.int .i64 0] 3)).alloc (.cells #[.int .i64 0] 3)).alloc (.cells #[.int .i64 0] 27)).alloc (.cells #[.string s, .int .i64 0] 237)) (w.heap.size + 2) 27 #[.int .i64 0] := (Blk.new' (by simp) _ _).alloc _
  have b3 : Blk ((((w.alloc (.cells #[.int .i64 0] 3)).alloc (.cells #[.int .i64 0] 3)).alloc (.cells #[.int .i64 0] 27)).alloc (.cells #[.string s, .int .i64 0] 237)) (w.heap.size + 3) 237 #[.string s, .int .i64 0] := Blk.new' (by simp) _ _
  have hb : Below w.heap.size w ((((w.alloc (.cells #[.int .i64 0] 3)).alloc (.cells #[.int .i64 0] 3)).alloc (.cells #[.int .i64 0] 27)).alloc (.cells #[.string s, .int .i64 0] 237)) := below_alloc (below_alloc (below_alloc (below_alloc (Below.refl _ _) (Nat.le_refl _) _) (Nat.le_refl _) _) (Nat.le_refl _) _) (Nat.le_refl _) _
  generalize ((((w.alloc (.cells #[.int .i64 0] 3)).alloc (.cells #[.int .i64 0] 3)).alloc (.cells #[.int .i64 0] 27)).alloc (.cells #[.string s, .int .i64 0] 237)) = w1 at *
  refine (variable_any (w.heap.size + 3) s _ (b3.cell 0) (b3.cell 1) (b3.frozen 1) hs).mono ?_
  rw [Hgv.out]
  rintro e w2 ⟨rfl, hgr⟩
  have d0 := b0.grown hgr (by simp)
  have d1 := b1.grown hgr (by simp)
  have d2 := b2.grown hgr (by simp)
  have hb2 : Below w.heap.size w w2 := hb.trans (below_of_only hgr hb.size (by omega))
  have c0 := d0.cell 0
  have f0 := d0.frozen 0
  have c1 := d1.cell 0
  have f1 := d1.frozen 0
  have c2 := d2.cell 0
  have f2 := d2.frozen 0
  simp at c0 c1 c2
  have D0 := Lib.hid d0
  have D1 := Lib.hid d1
  have D2 := Lib.hid d2
  clear b0 b1 b2 b3 d0 d1 d2
  go_wp2
  have e0 := (((D0.out.set_ 0 (.int .i64 0)).far (p := ⟨w.heap.size + 1, 0, none⟩) (by dsimp only; omega) (.int .i64 0)).far (p := ⟨w.heap.size + 1 + 1, 0, none⟩) (by dsimp only; omega) (.int .i64 er)).cell 0
  have e1 := (((D1.out.far (p := ⟨w.heap.size, 0, none⟩) (by dsimp only; omega) (.int .i64 0)).set_ 0 (.int .i64 0)).far (p := ⟨w.heap.size + 1 + 1, 0, none⟩) (by dsimp only; omega) (.int .i64 er)).cell 0
  have e2 := (((D2.out.far (p := ⟨w.heap.size, 0, none⟩) (by dsimp only; omega) (.int .i64 0)).far (p := ⟨w.heap.size + 1, 0, none⟩) (by dsimp only; omega) (.int .i64 0)).set_ 0 (.int .i64 er)).cell 0
  have hb3 := below_setCell (below_setCell (below_setCell hb2 (p := ⟨w.heap.size, 0, none⟩) (Nat.le_refl _) (.int .i64 0)) (p := ⟨w.heap.size + 1, 0, none⟩) (by dsimp only; omega) (.int .i64 0)) (p := ⟨w.heap.size + 1 + 1, 0, none⟩) (by dsimp only; omega) (.int .i64 er)
  refine leaves_cons (f := 217) (args := #[.pointer (some ⟨w.heap.size, 0, none⟩), .pointer (some ⟨w.heap.size + 1, 0, none⟩), .pointer (some ⟨w.heap.size + 1 + 1, 0, none⟩)]) (by simp) (by simp [go_sem]) ?_
  refine (getvar_catch w.heap.size (w.heap.size + 1) (w.heap.size + 1 + 1) 0 0 0 er [] _ c0 c1 c2 f0 f1 f2 (by omega) (by omega) (by omega)).mono ?_
  rintro e u' w'' ⟨rfl, rfl, rfl⟩
  generalize (((w2.setCell ⟨w.heap.size, 0, none⟩ (.int .i64 0)).setCell ⟨w.heap.size + 1, 0, none⟩ (.int .i64 0)).setCell ⟨w.heap.size + 1 + 1, 0, none⟩ (.int .i64 er)) = w3 at *
  simp at e0 e1 e2
  simp [Leaves, settle, results, Tryz.results216, go_sem, e0, e1, e2]
  exact hb3

end Go.Proofs.YtcbgflidlpmhcaaGreatDoor

namespace Go.Proofs.YtcbgflidlpmhcaaGreatDoor
open Go.RowKit

theorem lt_of_cell {w : World} {g i : Nat} {v : Value} (h : w.cell? ⟨g, i, none⟩ = some v) : g < w.heap.size := by
  rcases Nat.lt_or_ge g w.heap.size with hlt | hge
  · exact hlt
  · simp [World.cell?, Array.getElem?_eq_none hge] at h

theorem below_grow {B : Nat} {a w : World} (h : Below B a w) (hB : B ≤ w.heap.size) (os : Array Obj) : Below B a (Sort.grow w os) :=
  ⟨h.os, h.tape, h.output, by have := h.size; simp [Sort.grow]; omega, fun i hi => by
    rw [← h.block i hi]
    simp [Sort.grow, Array.getElem?_append, show i < w.heap.size from by omega]⟩

end Go.Proofs.YtcbgflidlpmhcaaGreatDoor
