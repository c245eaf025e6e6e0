/-
  Several texts in one: Plain lemmas on numbers, bits and worlds. No program is named.
  Walks over package raw, part 4: PutVar.
  Walks over package raw, part 5: Put and Get.
  Walks over package raw, part 6: Sum.
  The check sum, without the program: one byte changed changes it.
  Walks over package raw, part 1: the reader's steps.
  Walks over package raw, part 2: a number in groups of seven bits.
  Walks over package raw, part 3: GetVar, with its deferred closure.
  DERIVED: THE SHELF's CONTRACTS AT THIS DUMP, IN PLAIN WORDS (tools/lay-plain.mjs out of 'TryzShelf.lean', which tools/lay-shelf.mjs wrote): THE SAME DECLARATIONS UNDER THE SAME NAMES: 'import', 'namespace', 'open', 'def', 'theorem' AND NOTHING ELSE: no command of the shelf's: FOR A HAND-IN. Each laying: the table of numbers ('.._ren') and one theorem, a field a fact of the dump's own or the kernel's comparison; each contract: ONE APPLICATION.
  Digits, over the table of the powers of ten that the laws lay.
  The walk over the laws' first call (alive), and what the laws ask of the tables.
  RawShort: of a number in few bytes no beginning is taken for it.
  The order of bytes; what Compare and Put answer.
  The order of texts, plain; the document's own Compare.
  Chapter 11, plain: what a block of pairs is, as bytes; which bytes are one. No program is named.
  Chapter 11, plain: bytes of which one is changed; what is sought; how long a block is. No program is named.
  Chapter 11, plain: how bytes are read as pairs, three numbers at a time. No program is named.
  The landed package block: common, fixed, must.
  Walks over package raw: Quote.
  Walks over package raw: what stands in quotes is read.
  Walks over package raw: Get, Number.
-/
import Derived.WalkKit
import Derived.WalkSpells
import Derived.WalkLawsBesides
import Derived.Below
import Derived.Deep.Draws
import Derived.Deep.OwnRows
import Derived.OwnWalk
import Derived.Laws.AppendOwn
import Derived.Laws.BitsAllLaws
import Derived.Laws.BitsLemmas
import Derived.Lib.Hide
import Derived.Test.YtmoffcgbjmeiaaaGreatDoorRows
import Derived.Lib.LaidTab
import Derived.Deep.QuietTactic
import Derived.BigQuiet
import Derived.Defers
import Derived.Recover
import Derived.Shelf.Strings.Builder1
import Derived.Shelf.Small.Strs
import Derived.Shelf.Strings.BuilderF
import Derived.Test.YtmoffcgbjmeiaaaGreatDoorProg
import Derived.Sort.Grow
import Derived.Lib.ItoaNum
import Derived.Lib.Strings
import Derived.OpenShut
import Derived.Lib.Bytealg
import Derived.LoopTactic
import Derived.Deep.RegionLaw
namespace Go.Proofs.YtmoffcgbjmeiaaaGreatDoor
open Go.RowKit

theorem ofInt_i64 (a : Nat) (ha : a < 9223372036854775808) : (BitVec.ofInt 64 (a : Int)).toNat = a := by
  rw [BitVec.ofInt_natCast, BitVec.toNat_ofNat]; exact Nat.mod_eq_of_lt (by omega)
theorem i64_or_nat (a b : Nat) (ha : a < 9223372036854775808) (hb : b < 9223372036854775808) : bits .or .i64 (a : Int) (b : Int) = ((a ||| b : Nat) : Int) := by
  have hx : a ||| b < 2 ^ 63 := Nat.or_lt_two_pow (by omega) (by omega)
  show IntKind.i64.wrap ((BitVec.ofInt 64 (a : Int) ||| BitVec.ofInt 64 (b : Int)).toNat : Int) = _
  rw [BitVec.toNat_or, ofInt_i64 a ha, ofInt_i64 b hb, IntKind.wrap_i64]
  omega

theorem size_mk (l : List UInt8) : (⟨l.toArray⟩ : ByteArray).size = l.length := by simp [ByteArray.size]
theorem ret_int {k : IntKind} {a b : Int} (h : a = b) : Ending.returned (.int k a) = .returned (.int k b) := by rw [h]
theorem only_drewN {a w : World} {row : Option Nat} (h : a.grownBy w row) (n : Nat) : a.grownBy (w.drewN n) row := ⟨h.os, h.tape, h.output, h.size, h.block⟩
theorem only_drew {a w : World} {row : Option Nat} (h : a.grownBy w row) : a.grownBy w.drew row := ⟨h.os, h.tape, h.output, h.size, h.block⟩
theorem only_alloc {a w : World} {row : Option Nat} (h : a.grownBy w row) (o : Obj) : a.grownBy (w.alloc o) row :=
  ⟨h.os, h.tape, h.output, Nat.le_trans h.size (by simp), fun i hi hne => (Below.heap_alloc w o i (Nat.lt_of_lt_of_le hi h.size)).trans (h.block i hi hne)⟩
theorem only_setCell {a w : World} {g : Nat} (h : a.grownBy w (some g)) {p : Addr} (hp : p.block = g ∨ a.heap.size ≤ p.block) (u : Value) : a.grownBy (w.setCell p u) (some g) :=
  ⟨h.os, h.tape, h.output, by simpa [World.setCell] using h.size, fun i hi hne => (Below.heap_setCell w p u i (by
    rintro rfl
    rcases hp with hp | hp
    · exact hne (by rw [hp])
    · omega)).trans (h.block i hi hne)⟩

/-- Block g is just the cells cs, of element type t, none of them frozen. -/
def Blk (w : World) (g : Nat) (t : TypeId) (cs : Array Value) : Prop := w.heap[g]? = some (.cells cs t (0, 0))

section
variable {w w' : World} {g : Nat} {t : TypeId} {cs : Array Value}
theorem Blk.lt (h : Blk w g t cs) : g < w.heap.size := by
  rcases Nat.lt_or_ge g w.heap.size with hlt | hge
  · exact hlt
  · unfold Blk at h; rw [Array.getElem?_eq_none hge] at h; cases h
theorem Blk.cell (h : Blk w g t cs) (i : Nat) : w.cell? ⟨g, i, none⟩ = cs[i]? := cell_of_row w g i cs t (0, 0) h
theorem Blk.frozen (h : Blk w g t cs) (i : Nat) : w.frozen? ⟨g, i, none⟩ = false := by
  unfold Blk at h
  simp [World.frozen?, h]
theorem Blk.new (w : World) (t : TypeId) (cs : Array Value) : Blk (w.alloc (.cells cs t)) w.heap.size t cs := heap_alloc_new w _
theorem Blk.new' {w : World} {g : Nat} (h : w.heap.size = g) (t : TypeId) (cs : Array Value) : Blk (w.alloc (.cells cs t)) g t cs := h ▸ heap_alloc_new w _
theorem Blk.drew (h : Blk w g t cs) : Blk w.drew g t cs := h
theorem Blk.drewN (h : Blk w g t cs) (n : Nat) : Blk (w.drewN n) g t cs := h
theorem Blk.alloc (h : Blk w g t cs) (o : Obj) : Blk (w.alloc o) g t cs := (Below.heap_alloc w o g h.lt).trans h
theorem Blk.set_ (h : Blk w g t cs) (i : Nat) (u : Value) : Blk (w.setCell ⟨g, i, none⟩ u) g t (cs.setIfInBounds i u) := by
  unfold Blk at h ⊢
  simp [World.setCell, Array.getElem?_modify, h]
theorem Blk.far (h : Blk w g t cs) {p : Addr} (hp : g ≠ p.block) (u : Value) : Blk (w.setCell p u) g t cs := (Below.heap_setCell w p u g hp).trans h
theorem Blk.below {B : Nat} (h : Blk w g t cs) (hb : Below B w w') (hg : g < B) : Blk w' g t cs := (hb.block g hg).trans h
theorem Blk.grown {row : Option Nat} (h : Blk w g t cs) (hb : w.grownBy w' row) (hg : some g ≠ row) : Blk w' g t cs := (hb.block g h.lt hg).trans h
theorem Blk.ne_ {g' : Nat} {t' : TypeId} {cs' : Array Value} (h : Blk w g t cs) (h' : Blk w g' t' cs') (hne : t ≠ t') : g ≠ g' := by
  rintro rfl
  unfold Blk at h h'
  rw [h] at h'
  injection h' with h'
  injection h' with _ ht
  exact hne ht
end

theorem obj_set {w : World} {g : Nat} {cs : Array Value} {t : TypeId} {fr : Nat × Nat} (h : w.heap[g]? = some (.cells cs t fr)) (i : Nat) (u : Value) : (w.setCell ⟨g, i, none⟩ u).heap[g]? = some (.cells (cs.setIfInBounds i u) t fr) := by
  simp [World.setCell, Array.getElem?_modify, h]

theorem below_drewN {B : Nat} {a w : World} (h : Below B a w) (n : Nat) : Below B a (w.drewN n) := ⟨h.os, h.tape, h.output, h.size, h.block⟩
theorem below_of_only {a w : World} {B g : Nat} (h : a.grownBy w (some g)) (hB : B ≤ a.heap.size) (hg : B ≤ g) : Below B a w :=
  ⟨h.os, h.tape, h.output, h.size, fun i hi => h.block i (by omega) (fun e => by injection e with e; omega)⟩
theorem below_alloc {B : Nat} {a w : World} (h : Below B a w) (hB : B ≤ a.heap.size) (o : Obj) : Below B a (w.alloc o) := h.alloc (Nat.le_trans hB h.size) o
theorem below_setCell {B : Nat} {a w : World} (h : Below B a w) {p : Addr} (hp : B ≤ p.block) (u : Value) : Below B a (w.setCell p u) :=
  ⟨h.os, h.tape, h.output, by simpa [World.setCell] using h.size, fun i hi => (Below.heap_setCell w p u i (by omega)).trans (h.block i hi)⟩

theorem cell_new (w : World) (t : TypeId) (x : Value) : (w.alloc (.cells #[x] t)).cell? ⟨w.heap.size, 0, none⟩ = some x := (Blk.new w t #[x]).cell 0

/-! ### Rows of bytes that the call itself made -/
def b8 (c : UInt8) : Value := .int .u8 (c.toNat : Int)

/-- v is a slice of the call's own (its block from B on) that holds the bytes l. -/
def Byt (w : World) (B : Nat) (e : TypeId) (v : Value) (l : List UInt8) : Prop := w.ownsRow B e 1 v l.length (l.map b8)

section
variable {P : Program} {w : World} {B : Nat} {e : TypeId} {v : Value} {l : List UInt8}
theorem Byt.nil (w : World) (B : Nat) (e : TypeId) : Byt w B e (.slice none 0 0) [] := World.ownsRow_nil _ _ _ _
theorem Byt.alloc (h : Byt w B e v l) (o : Obj) : Byt (w.alloc o) B e v l := World.ownsRow.alloc h o

theorem Byt.drew (h : Byt w B e v l) : Byt w.drew B e v l := h
theorem Byt.drewN (h : Byt w B e v l) (n : Nat) : Byt (w.drewN n) B e v l := h

/-- 'append(b, c)' of one byte. -/
theorem wpList_append_byte (w : World) {ops : Array Oper} {rest : List Oper} {o : Oper} {a : Act} {Q : Exit → Act → World → Prop} (hgd : o.guard = none) (s x : Operand) (t : TypeId)
    (ho : o.op = .call { callee := .builtin .append, args := #[s, x], argTypes := #[t, t] }) (ht : P.underlying t = some (.slice e)) (hi : (P.info? e).map (fun i => (i.zero, i.size, i.bytes)) = some (some (.int .u8 0), 1, 1))
    (hs : a.eval s = v) (hown : Byt w B e v l) (ad : Addr) (cp : Nat) (hx : a.eval x = .slice (some ad) 1 cp) (z : Int) (hcell : w.cell? ad = some (.int .u8 z)) (c : UInt8) (hc : z = (c.toNat : Int))
    (hl : l.length < 140737488355328) (hB : B ≤ w.heap.size)
    (h : ∀ v' w', Byt w' B e v' (l ++ [c]) → w.grownBy w' v.ownBlock → wpList P ops Q rest (a.put o.dst v') w') : wpList P ops Q (o :: rest) a w := by
  obtain ⟨i0, hi0, hz0, hz1, hz2⟩ := info_parts hi
  refine wpList_append_own w hgd s x t ho B e i0 (.int .u8 0) 1 1 ht hi0 hz0 hz1 hz2 rfl (by decide) v l.length (l.map b8) hs hown ad 1 cp [b8 c] hx rfl ?_ ?_ ?_ ?_ hB ?_
  · intro j u hj
    match j, hj with
    | 0, hj =>
      simp at hj
      subst hj
      subst hc
      exact hcell
  · intro u hu
    simp at hu
    subst hu
    rfl
  · unfold maxLen; omega
  · omega
  · intro v' w' h1 h2 _
    refine h v' w' ?_ h2
    unfold Byt
    simpa using h1

/-- 'append(b, c, d, ..)'. -/
theorem wpList_append_bytes (w : World) {ops : Array Oper} {rest : List Oper} {o : Oper} {a : Act} {Q : Exit → Act → World → Prop} (hgd : o.guard = none) (s x : Operand) (t : TypeId)
    (ho : o.op = .call { callee := .builtin .append, args := #[s, x], argTypes := #[t, t] }) (ht : P.underlying t = some (.slice e)) (hi : (P.info? e).map (fun i => (i.zero, i.size, i.bytes)) = some (some (.int .u8 0), 1, 1))
    (hs : a.eval s = v) (hown : Byt w B e v l) (ad : Addr) (m cp : Nat) (hx : a.eval x = .slice (some ad) m cp) (cs : List UInt8) (hm : cs.length = m) (hcell : ∀ j u, (cs.map b8)[j]? = some u → w.cell? (ad.add j) = some u)
    (hl : l.length + m < 140737488355328) (hB : B ≤ w.heap.size)
    (h : ∀ v' w', Byt w' B e v' (l ++ cs) → w.grownBy w' v.ownBlock → wpList P ops Q rest (a.put o.dst v') w') : wpList P ops Q (o :: rest) a w := by
  obtain ⟨i0, hi0, hz0, hz1, hz2⟩ := info_parts hi
  refine wpList_append_own w hgd s x t ho B e i0 (.int .u8 0) 1 1 ht hi0 hz0 hz1 hz2 rfl (by decide) v l.length (l.map b8) hs hown ad m cp (cs.map b8) hx (by simp [hm]) hcell ?_ ?_ ?_ hB ?_
  · intro u hu
    obtain ⟨c, _, rfl⟩ := List.mem_map.1 hu
    rfl
  · unfold maxLen; omega
  · omega
  · intro v' w' h1 h2 _
    refine h v' w' ?_ h2
    unfold Byt
    rw [List.length_append, List.map_append, hm]
    exact h1
theorem step_append_bytes {ops : Array Oper} {o : Oper} {a : Act} {K : Act → World → Prop} {Q : Exit → Act → World → Prop} {E : Prop} (hgd : o.guard = none) (s x : Operand) (t : TypeId)
    (ho : o.op = .call { callee := .builtin .append, args := #[s, x], argTypes := #[t, t] }) (ht : P.underlying t = some (.slice e)) (hi : (P.info? e).map (fun i => (i.zero, i.size, i.bytes)) = some (some (.int .u8 0), 1, 1))
    (hs : a.eval s = v) (hown : Byt w B e v l) (ad : Addr) (m cp : Nat) (hx : a.eval x = .slice (some ad) m cp) (cs : List UInt8) (hm : cs.length = m) (hcell : ∀ j u, (cs.map b8)[j]? = some u → w.cell? (ad.add j) = some u)
    (hl : l.length + m < 140737488355328) (hB : B ≤ w.heap.size)
    (h : ∀ v' w', Byt w' B e v' (l ++ cs) → w.grownBy w' v.ownBlock → K (a.put o.dst v') w') : if Region.wanted o (yielded ops a.tmps) = true then Oper.wp P o a w K Q else E := by
  have hw : Region.wanted o (yielded ops a.tmps) = true := by simp [Region.wanted, hgd]
  rw [if_pos hw]
  obtain ⟨i0, hi0, hz0, hz1, hz2⟩ := info_parts hi
  refine wp_append_own w s x t ho B e i0 (.int .u8 0) 1 1 ht hi0 hz0 hz1 hz2 rfl (by decide) v l.length (l.map b8) hs hown ad m cp (cs.map b8) hx (by simp [hm]) hcell ?_ ?_ ?_ hB ?_
  · intro u hu
    obtain ⟨c, _, rfl⟩ := List.mem_map.1 hu
    rfl
  · unfold maxLen; omega
  · omega
  · intro v' w' h1 h2 _
    refine h v' w' ?_ h2
    unfold Byt
    rw [List.length_append, List.map_append, hm]
    exact h1
/-- The cells of a block that was just made. -/
theorem cells_new (w : World) (t : TypeId) (xs : List Value) : ∀ j u, xs[j]? = some u → (w.alloc (.cells xs.toArray t)).cell? (({ block := w.heap.size, off := 0, spot := none } : Addr).add j) = some u := by
  intro j u hu
  have e : ({ block := w.heap.size, off := 0, spot := none } : Addr).add j = ⟨w.heap.size, j, none⟩ := by simp [Addr.add]; intro h; exact h.symm
  rw [e, (Blk.new w t xs.toArray).cell j]
  simpa using hu

/-- What a byte more leaves of the memory that was there. -/
theorem Byt.grown {a w' : World} (h : Byt w B e v l) (hb : Below B a w) (hB : B ≤ w.heap.size) (hg : w.grownBy w' v.ownBlock) : Below B a w' := hb.grown hg hB (fun k hk => (World.ownsRow.lt h k hk).1)

/-- 'string(b)'. -/
theorem Byt.string (h : Byt w B e v l) {src dst : TypeId} (hs : P.underlying src = some (.slice e)) (he : P.underlying e = some (.int .u8)) (hd : P.underlying dst = some .string) :
    (convert src dst v).run P w = .ok (.string ⟨l.toArray⟩) w := by
  rcases h.2 with ⟨rfl, hn⟩ | ⟨g, cap, cur, rfl, h2⟩
  · have hl : l = [] := by simpa using hn
    subst hl
    exact run_convert_bytes_nil w src e hs he _ _ dst hd
  · refine run_convert_bytes_back w src dst e ⟨g, 0, none⟩ cap l hs he hd fun j hj => ?_
    have := World.ownsRow.cells (g := g) h rfl j (b8 l[j]) (by simp [hj])
    simpa [b8] using this
end

theorem ofInt_u32 (a : Nat) (ha : a < 4294967296) : (BitVec.ofInt 32 (a : Int)).toNat = a := by
  rw [BitVec.ofInt_natCast, BitVec.toNat_ofNat]; exact Nat.mod_eq_of_lt (by omega)
theorem u32_xor_nat (a b : Nat) (ha : a < 4294967296) (hb : b < 4294967296) : bits .xor .u32 (a : Int) (b : Int) = ((a ^^^ b : Nat) : Int) := by
  have hx : a ^^^ b < 2 ^ 32 := Nat.xor_lt_two_pow (by omega) (by omega)
  show IntKind.u32.wrap ((BitVec.ofInt 32 (a : Int) ^^^ BitVec.ofInt 32 (b : Int)).toNat : Int) = _
  rw [BitVec.toNat_xor, ofInt_u32 a ha, ofInt_u32 b hb, IntKind.wrap_u32]
  omega
theorem u32_and_nat (a b : Nat) (ha : a < 4294967296) (hb : b < 4294967296) : bits .and .u32 (a : Int) (b : Int) = ((a &&& b : Nat) : Int) := by
  have hx : a &&& b < 2 ^ 32 := Nat.and_lt_two_pow _ (by omega)
  show IntKind.u32.wrap ((BitVec.ofInt 32 (a : Int) &&& BitVec.ofInt 32 (b : Int)).toNat : Int) = _
  rw [BitVec.toNat_and, ofInt_u32 a ha, ofInt_u32 b hb, IntKind.wrap_u32]
  omega

theorem u32_not_nat (a : Nat) (ha : a < 4294967296) : bits .xor .u32 IntKind.u32.max (a : Int) = ((4294967295 - a : Nat) : Int) := by
  have hm : IntKind.u32.max = ((4294967295 : Nat) : Int) := by decide
  have e : (4294967295 ^^^ a : Nat) = 4294967295 - a := by
    have h1 : (BitVec.allOnes 32 ^^^ BitVec.ofNat 32 a) = ~~~ BitVec.ofNat 32 a := BitVec.allOnes_xor
    have h2 := congrArg BitVec.toNat h1
    rw [BitVec.toNat_xor, BitVec.toNat_not, BitVec.toNat_ofNat, Nat.mod_eq_of_lt (show a < 2 ^ 32 from by omega), BitVec.toNat_allOnes] at h2
    have h3 : (2 : Nat) ^ 32 - 1 = 4294967295 := by decide
    rw [h3] at h2
    exact h2
  rw [hm, u32_xor_nat _ _ (by decide) ha, e]

/-- Seven bits of a byte. -/
theorem andNot_128 : ∀ c : Nat, c < 256 → bits .andNot .u8 (c : Int) 128 = ((c % 128 : Nat) : Int) := by decide +kernel

/-- One group of seven bits more. -/
theorem vstep (a k c : Nat) (ha : a < 2 ^ (7 * k)) (hk : k < 9) (hc : c < 256) :
    bits .or .i64 (a : Int) (wrap64 (wrap64 (bits .andNot .u8 (c : Int) 128) * 2 ^ (7 * k))) = ((a + c % 128 * 2 ^ (7 * k) : Nat) : Int) ∧ a + c % 128 * 2 ^ (7 * k) < 2 ^ (7 * (k + 1)) := by
  have hm : c % 128 < 128 := Nat.mod_lt _ (by decide)
  have hp : 2 ^ (7 * (k + 1)) = 128 * 2 ^ (7 * k) := by rw [Nat.mul_add, Nat.pow_add]; omega
  have h1 : c % 128 * 2 ^ (7 * k) + 2 ^ (7 * k) ≤ 128 * 2 ^ (7 * k) := by
    have : (c % 128 + 1) * 2 ^ (7 * k) ≤ 128 * 2 ^ (7 * k) := Nat.mul_le_mul_right _ (by omega)
    rwa [Nat.add_mul, Nat.one_mul] at this
  have h2 : 2 ^ (7 * (k + 1)) ≤ 2 ^ 63 := Nat.pow_le_pow_right (by decide) (by omega)
  have h63 : (2 : Nat) ^ 63 = 9223372036854775808 := by decide
  refine ⟨?_, by omega⟩
  rw [andNot_128 c hc]
  have e1 : wrap64 ((c % 128 : Nat) : Int) = ((c % 128 : Nat) : Int) := IntWalk.wrap64_in _ (by omega)
  rw [e1]
  have e2 : (((c % 128 : Nat) : Int) * 2 ^ (7 * k)) = ((c % 128 * 2 ^ (7 * k) : Nat) : Int) := by push_cast; rfl
  rw [e2]
  have e3 : wrap64 ((c % 128 * 2 ^ (7 * k) : Nat) : Int) = ((c % 128 * 2 ^ (7 * k) : Nat) : Int) := IntWalk.wrap64_in _ (by omega)
  rw [e3, i64_or_nat _ _ (by omega) (by omega)]
  congr 1
  rw [Nat.or_comm, Nat.mul_comm, ← Nat.two_pow_add_eq_or_of_lt ha, Nat.add_comm]
end Go.Proofs.YtmoffcgbjmeiaaaGreatDoor

namespace Go.Proofs.YtmoffcgbjmeiaaaGreatDoor
open Go.RowKit

theorem u8info : (Tryz.prog.info? 5).map (fun i => (i.zero, i.size, i.bytes)) = some (some (.int .u8 0), 1, 1) := by kernel_rfl

/-- A number in groups of seven bits. -/
def pv (v : Nat) : List UInt8 := if v < 128 then [UInt8.ofNat v] else UInt8.ofNat (v % 128 + 128) :: pv (v / 128)
  termination_by v
  decreasing_by omega

theorem or_128 : ∀ c : Nat, c < 256 → bits .or .u8 (c : Int) 128 = ((c % 128 + 128 : Nat) : Int) := by decide +kernel

theorem u8_of (n : Nat) (h : n < 256) : (n : Int) = ((UInt8.ofNat n).toNat : Int) := by simp; omega

theorem pv_more (v : Nat) (h : 128 ≤ v) : pv v = UInt8.ofNat (v % 128 + 128) :: pv (v / 128) := by rw [pv, if_neg (by omega)]
theorem pv_last (v : Nat) (h : v < 128) : pv v = [UInt8.ofNat v] := by rw [pv, if_pos h]

set_option maxRecDepth 100000 in
set_option maxHeartbeats 1000000 in
theorem putvar_any (v : Nat) (w : World) (hv : v < 9223372036854775808) :
    Calls Tryz.prog 98 #[.int .i64 (v : Int)] w fun e w' => e = .returned (.string ⟨(pv v).toArray⟩) ∧ Below w.heap.size w w' := by
  go_enter Tryz.func98, Tryz.ntmps98
  go_wp2
  go_loopw [0, 3] (fun x b wr => ∃ (u : Nat) (l : List UInt8), x = .int .i64 (u : Int) ∧ u * 2 ^ (7 * l.length) ≤ v ∧ l.length ≤ 9 ∧ Hid (pv v = l ++ pv u) ∧ Byt wr w.heap.size 5 b l ∧ Below w.heap.size w wr)
    (fun x _ _ => (intOf x).toNat)
  case atStart => exact ⟨v, [], rfl, by simp, by simp, rfl, Byt.nil _ _ _, Below.refl _ _⟩
  case round =>
    obtain ⟨u, l, rfl, hu, hll, Hl, hown, hbe⟩ := hrel
    have hu' : u ≤ v := Nat.le_trans (Nat.le_mul_of_pos_right u (Nat.two_pow_pos _)) hu
    have Hu := Lib.hid hu
    clear hu
    by_cases h : 128 ≤ u
    · obtain ⟨c, hc⟩ : ∃ c, c = UInt8.ofNat (u % 128 + 128) := ⟨_, rfl⟩
      have hcc : bits .or .u8 ((u : Int) % 256) 128 = (c.toNat : Int) := by
        have h1 := or_128 (u % 256) (by omega)
        rw [show ((u % 256 : Nat) : Int) = (u : Int) % 256 from by omega, show u % 256 % 128 = u % 128 from by omega] at h1
        rw [h1, hc, u8_of _ (by omega)]
      have HC := Lib.hid hcc
      have Hc := Lib.hid hc
      clear hc hcc
      go_wp2_with (at_builtin; refine wpList_append_byte _ rfl (.tmp 8) (.tmp 12) 54 rfl Tryz.underlying54 u8info rfl (hown.alloc _) ⟨wr.heap.size, 0, none⟩ 1 rfl _ (cell_new _ _ _) c HC.out ?c3 ?c4 ?_)
      case c3 => omega
      case c4 => have := hbe.size; simp; omega
      intro v' w' hown' hgr
      have hb' := (hown.alloc _).grown (below_alloc hbe (Nat.le_refl _) _) (by have := hbe.size; simp; omega) hgr
      clear hgr
      go_wp2
      go_roundw
      case rel =>
        refine ⟨u / 128, l ++ [c], by go_num, ?_, ?_, ?_, hown', hb'⟩
        · have h1 : u / 128 * 2 ^ (7 * (l ++ [c]).length) ≤ u * 2 ^ (7 * l.length) := by
            rw [List.length_append, List.length_singleton, Nat.mul_add, Nat.pow_add, ← Nat.mul_assoc, Nat.mul_right_comm]
            exact Nat.mul_le_mul_right _ (by omega)
          exact Nat.le_trans h1 Hu.out
        · rw [List.length_append, List.length_singleton]
          have h2 := Hu.out
          have h3 : 2 ^ 7 * 2 ^ (7 * l.length) ≤ v := Nat.le_trans (Nat.mul_le_mul_right _ h) h2
          rw [← Nat.pow_add] at h3
          have h4 : 7 + 7 * l.length < 63 := by
            rcases Nat.lt_or_ge (7 + 7 * l.length) 63 with h5 | h5
            · exact h5
            · have := Nat.pow_le_pow_right (n := 2) (by decide) h5
              omega
          omega
        · show pv v = _
          rw [Hl.out, pv_more u h, Hc.out]
          simp
      case measure => simp [intOf]; omega
    · obtain ⟨c, hc⟩ : ∃ c, c = UInt8.ofNat u := ⟨_, rfl⟩
      have HC : Hid ((u : Int) = (c.toNat : Int)) := by rw [hc]; exact Lib.hid (u8_of u (by omega))
      have Hc := Lib.hid hc
      clear hc
      go_wp2_with (at_builtin; refine wpList_append_byte _ rfl (.tmp 16) (.tmp 19) 54 rfl Tryz.underlying54 u8info rfl (hown.alloc _) ⟨wr.heap.size, 0, none⟩ 1 rfl _ (cell_new _ _ _) c HC.out ?d3 ?d4 ?_)
      case d3 => omega
      case d4 => have := hbe.size; simp; omega
      intro v' w' hown' hgr
      have hb' := (hown.alloc _).grown (below_alloc hbe (Nat.le_refl _) _) (by have := hbe.size; simp; omega) hgr
      have hcv := hown'.string (src := 54) (dst := 9) Tryz.underlying54 Tryz.underlying5 Tryz.underlying9
      clear hgr
      go_wp2
      go_ret
      exact ⟨by rw [Hl.out, pv_last u (by omega), Hc.out]; rfl, hb'⟩
end Go.Proofs.YtmoffcgbjmeiaaaGreatDoor

namespace Go.Proofs.YtmoffcgbjmeiaaaGreatDoor
open Go.RowKit

/-- A number as n bytes, the highest first. -/
def be (v n : Nat) : List UInt8 := (List.range n).map fun i => UInt8.ofNat (v / 2 ^ (8 * (n - 1 - i)) % 256)

theorem be_length (v n : Nat) : (be v n).length = n := by simp [be]
theorem be_get (v n k : Nat) (h : k < n) : (be v n)[k]? = some (UInt8.ofNat (v / 2 ^ (8 * (n - 1 - k)) % 256)) := by unfold be; rw [List.getElem?_map, List.getElem?_range h]; rfl
theorem be_step (v n k : Nat) (h : k < n) : (((be v n).take k ++ List.replicate (n - k) (0 : UInt8)).map b8).set k (.int .u8 ((v : Int) / 2 ^ (8 * (n - 1 - k)) % 256)) =
    ((be v n).take (k + 1) ++ List.replicate (n - (k + 1)) (0 : UInt8)).map b8 := by
  obtain ⟨c, hc⟩ : ∃ c, c = UInt8.ofNat (v / 2 ^ (8 * (n - 1 - k)) % 256) := ⟨_, rfl⟩
  have hb : Value.int .u8 ((v : Int) / 2 ^ (8 * (n - 1 - k)) % 256) = b8 c := by
    have e : (v : Int) / 2 ^ (8 * (n - 1 - k)) % 256 = ((v / 2 ^ (8 * (n - 1 - k)) % 256 : Nat) : Int) := by rw [Int.natCast_emod, Int.natCast_ediv, Int.natCast_pow]; rfl
    rw [e, u8_of _ (by omega), ← hc]
    rfl
  have hg := be_get v n k h
  rw [← hc] at hg
  have hl := be_length v n
  have hlt : (List.take k (be v n)).length = k := by simp; omega
  rw [hb, ← List.map_set, List.set_append_right _ _ (by omega), hlt, Nat.sub_self, show n - k = (n - (k + 1)) + 1 from by omega, List.replicate_succ, List.set_cons_zero]
  rw [List.take_add_one, hg]
  simp

set_option maxRecDepth 100000 in
set_option maxHeartbeats 1000000 in
theorem put_bad (v n : Int) (w : World) (hv0 : -9223372036854775808 ≤ v) (hv : v < 9223372036854775808) (h : n < 1 ∨ 7 < n ∨ v < 0 ∨ 2 ^ (8 * n.toNat) ≤ v) :
    Calls Tryz.prog 100 #[.int .i64 v, .int .i64 n] w fun e w' => e = .returned (.tuple #[.string ByteArray.empty, .int .i64 1]) ∧ w = w' := by
  by_cases h1 : n < 1
  · go_enter Tryz.func100, Tryz.ntmps100
    go_wp2
    go_ret2
    exact ⟨rfl, rfl⟩
  by_cases h2 : 7 < n
  · go_enter Tryz.func100, Tryz.ntmps100
    go_wp2
    go_ret2
    exact ⟨rfl, rfl⟩
  by_cases h3 : v < 0
  · go_enter Tryz.func100, Tryz.ntmps100
    go_wp2
    go_ret2
    exact ⟨rfl, rfl⟩
  obtain ⟨n, rfl⟩ := Int.eq_ofNat_of_zero_le (show 0 ≤ n by omega)
  obtain ⟨v, rfl⟩ := Int.eq_ofNat_of_zero_le (show 0 ≤ v by omega)
  have hdv : ((v : Int) / 2 ^ (8 * n) != 0) = true := by
    rcases h with h | h | h | h
    · omega
    · omega
    · omega
    · rw [Int.toNat_natCast] at h
      have h' : 2 ^ (8 * n) ≤ v := by exact_mod_cast h
      have h4 : 1 ≤ v / 2 ^ (8 * n) := (Nat.le_div_iff_mul_le (Nat.two_pow_pos _)).2 (by omega)
      have h5 : ((v : Int) / 2 ^ (8 * n)) = ((v / 2 ^ (8 * n) : Nat) : Int) := by push_cast; rfl
      rw [h5, bne_iff_ne]
      omega
  have h1' : (1 : Int) ≤ n := by omega
  have h2' : (n : Int) ≤ 7 := by omega
  have hv' : v ≤ 9223372036854775807 := by omega
  clear h h1 h2 h3 hv hv0
  go_enter Tryz.func100, Tryz.ntmps100
  go_wp2
  go_ret2
  exact ⟨rfl, rfl⟩

set_option maxRecDepth 100000 in
set_option maxHeartbeats 1000000 in
theorem put_ok (v n : Nat) (w : World) (h1 : 1 ≤ n) (h7 : n ≤ 7) (hv : v < 2 ^ (8 * n)) :
    Calls Tryz.prog 100 #[.int .i64 (v : Int), .int .i64 (n : Int)] w fun e w' => e = .returned (.tuple #[.string ⟨(be v n).toArray⟩, .int .i64 0]) ∧ Below w.heap.size w w' := by
  have hdv : ((v : Int) / 2 ^ (8 * n) != 0) = false := by
    have h5 : ((v : Int) / 2 ^ (8 * n)) = ((v / 2 ^ (8 * n) : Nat) : Int) := by push_cast; rfl
    rw [h5, Nat.div_eq_of_lt hv]
    rfl
  have hv' : v < 2 ^ 56 := Nat.lt_of_lt_of_le hv (Nat.pow_le_pow_right (by decide) (by omega))
  have hv2 : v ≤ 9223372036854775807 := by omega
  have Hv := Lib.hid hv
  clear hv hv'
  obtain ⟨i0, hi0, hz0, hz1, hz2⟩ := info_parts u8info
  go_enter Tryz.func100, Tryz.ntmps100
  go_wp2_with (at_make; refine wpList_make_full _ rfl (.tmp 25) (.tmp 25) 54 rfl w.heap.size 5 i0 (.int .u8 0) 1 Tryz.underlying54 hi0 hz0 hz1 .i64 .i64 _ _ n rfl rfl rfl rfl ?b2 ?b3 ?b4 ?_)
  case b2 => rw [hz2]; omega
  case b3 => unfold maxLen; omega
  case b4 => exact Nat.le_refl _
  intro w1 hown hgr
  have hb1 : Below w.heap.size w w1 := (Below.refl _ _).grown hgr (Nat.le_refl _) (by simp)
  have hlt := (World.ownsRow.lt hown w.heap.size rfl).2
  rw [show (madeCells #[Value.int IntKind.u8 0] n).toList = (List.replicate n (0 : UInt8)).map b8 from (toList_madeCells_one _ _).trans (by simp [b8])] at hown
  have Hown := Lib.hid hown
  clear hown hgr
  go_wp2
  go_loopw [29] (fun i wr => ∃ k : Nat, k ≤ n ∧ i = .int .i64 (k : Int) ∧ wr.ownsRow w.heap.size 5 1 (.slice (some ⟨w.heap.size, 0, none⟩) n n) n (((be v n).take k ++ List.replicate (n - k) 0).map b8) ∧ Below w.heap.size w wr)
    (fun i _ => n - (intOf i).toNat)
  case atStart => exact ⟨0, by omega, rfl, by simpa using Hown.out, hb1⟩
  case round =>
    obtain ⟨k, hk, rfl, hown, hbe⟩ := hrel
    by_cases hlt' : k < n
    · have hc := hown.cellAt k (by omega)
      have hf := hown.frozenAt k
      have hln : ((be v n).take k ++ List.replicate (n - k) (0 : UInt8)).length = n := by simp [be]; omega
      obtain ⟨x, hx⟩ : ∃ x, (((be v n).take k ++ List.replicate (n - k) (0 : UInt8)).map b8)[k]? = some x := ⟨_, List.getElem?_eq_getElem (by rw [List.length_map, hln]; omega)⟩
      rw [hx] at hc
      have Hown' := Lib.hid hown
      clear hown hx hln
      go_wp2
      go_roundw
      case rel =>
        have hst := World.ownsRow.stored Hown'.out k (.int .u8 ((v : Int) / 2 ^ (8 * (n - 1 - k)) % 256))
        rw [be_step v n k hlt'] at hst
        exact ⟨k + 1, by omega, by go_num, hst.1, below_setCell hbe (Nat.le_refl _) _⟩
      case measure => simp [intOf]; omega
    · obtain rfl : k = n := by omega
      have hby : Byt wr w.heap.size 5 (.slice (some ⟨w.heap.size, 0, none⟩) k k) (be v k) := by
        unfold Byt
        rw [be_length]
        simpa [List.take_of_length_le (Nat.le_of_eq (be_length v k))] using hown
      have hcv := hby.string (src := 54) (dst := 9) Tryz.underlying54 Tryz.underlying5 Tryz.underlying9
      clear hown hby
      go_wp2
      go_ret2
      exact ⟨rfl, hbe⟩
end Go.Proofs.YtmoffcgbjmeiaaaGreatDoor

namespace Go.Proofs.YtmoffcgbjmeiaaaGreatDoor
open Go.RowKit

/-- What four of a sum's eight steps make of four bits. -/
def halvesL : List Int := [0, 274646895, 549293790, 820201905, 1098587580, 1361435347, 1640403810, 1905808397, 2197175160, 2460548119, 2722870694, 2987750089, 3280807620, 3553878443, 3811616794, 4084100981]

def halfN (i : Nat) : Nat := (halvesL.getD i 0).toNat
theorem halfN_lt : ∀ i < 16, halvesL.getD i 0 = (halfN i : Int) ∧ halfN i < 4294967296 := by decide

/-- Four bits of a sum. -/
def nib (b : Nat) : Nat := (b / 16) ^^^ halfN (b % 16)
theorem nib_lt (b : Nat) (hb : b < 4294967296) : nib b < 4294967296 := by
  have h1 := (halfN_lt (b % 16) (by omega)).2
  exact Nat.xor_lt_two_pow (n := 32) (by omega) (by omega)

/-- A sum goes on by a byte. -/
def sumStep (a : Nat) (c : UInt8) : Nat := nib (nib (a ^^^ c.toNat))
theorem sumStep_lt (a : Nat) (c : UInt8) (ha : a < 4294967296) : sumStep a c < 4294967296 :=
  nib_lt _ (nib_lt _ (Nat.xor_lt_two_pow (n := 32) ha (by have := UInt8.toNat_lt c; omega)))

def sumL (l : List UInt8) : Nat := l.foldl sumStep 4294967295
theorem foldl_sum_lt (l : List UInt8) (a : Nat) (ha : a < 4294967296) : l.foldl sumStep a < 4294967296 := by
  induction l generalizing a with
  | nil => exact ha
  | cons c r ih => exact ih _ (sumStep_lt a c ha)
theorem sumL_lt (l : List UInt8) : sumL l < 4294967296 := foldl_sum_lt l _ (by decide)

theorem sum_snoc (s : ByteArray) (k : Nat) (h : k < s.size) : sumL (s.data.toList.take (k + 1)) = sumStep (sumL (s.data.toList.take k)) s[k] := by
  unfold sumL
  rw [List.take_succ_eq_append_getElem (by simpa using h), List.foldl_append]
  rfl

theorem nib_walk (b : Nat) (hb : b < 4294967296) : bits .and .u32 (b : Int) 15 = ((b % 16 : Nat) : Int) ∧ bits .xor .u32 ((b : Int) / 16) (halvesL.getD (b % 16) 0) = (nib b : Int) := by
  have h1 := halfN_lt (b % 16) (by omega)
  constructor
  · have := u32_and_nat b 15 hb (by decide)
    rw [show b &&& 15 = b % 16 from Nat.and_two_pow_sub_one_eq_mod b 4] at this
    exact this
  · rw [h1.1, show (b : Int) / 16 = ((b / 16 : Nat) : Int) from by omega, u32_xor_nat _ _ (by omega) h1.2]
    rfl

/-- The check sum of some bytes. -/
def crc (l : List UInt8) : Nat := 4294967295 - sumL l

set_option maxRecDepth 100000 in
set_option maxHeartbeats 1000000 in
theorem sum_any (s : ByteArray) (w : World) (hs : s.size ≤ 9223372036854775807) (hT : Lib.TabIs Tryz.prog w "bedrock/raw.halves" .u32 halvesL) :
    Calls Tryz.prog 29 #[.string s] w fun e w' => e = .returned (.int .i64 (crc s.data.toList : Int)) ∧ w = w' := by
  have HT := Lib.hid hT
  clear hT
  go_enter Tryz.func29, Tryz.ntmps29
  go_wp2
  go_loop [3, 7] (fun x i => ∃ k a : Nat, k ≤ s.size ∧ i = .int .i64 (k : Int) ∧ x = .int .u32 (a : Int) ∧ a < 4294967296 ∧ Hid (a = sumL (s.data.toList.take k))) (fun _ i => s.size - (intOf i).toNat)
  case atStart => exact ⟨0, 4294967295, by omega, rfl, rfl, by omega, rfl⟩
  case round =>
    obtain ⟨k, a, hk, rfl, rfl, ha, Ha⟩ := hrel
    by_cases hl : k < s.size
    · have hb8 := UInt8.toNat_lt s[k]
      obtain ⟨b, hb⟩ : ∃ b, b = a ^^^ (s[k]'hl).toNat := ⟨_, rfl⟩
      have hblt : b < 4294967296 := by rw [hb]; exact Nat.xor_lt_two_pow (n := 32) ha (by omega)
      have x1 : bits .xor .u32 (a : Int) ((s[k]'hl).toNat : Int) = (b : Int) := by
        rw [u32_xor_nat _ _ ha (by omega), hb]
      have Hb := Lib.hid hb
      clear hb
      obtain ⟨i, hi⟩ : ∃ i, i = b % 16 := ⟨_, rfl⟩
      have hi16 : i < 16 := by omega
      obtain ⟨x2, x3⟩ := nib_walk b hblt
      rw [← hi] at x2 x3
      have c1 := HT.out.cell (g := 0) (by kernel_rfl) i (by simp [halvesL]; omega)
      obtain ⟨d, hd⟩ : ∃ d, d = nib b := ⟨_, rfl⟩
      have hdlt : d < 4294967296 := by rw [hd]; exact nib_lt b hblt
      rw [← hd] at x3
      have Hd := Lib.hid hd
      have Hi := Lib.hid hi
      clear hd hi
      obtain ⟨j, hj⟩ : ∃ j, j = d % 16 := ⟨_, rfl⟩
      have hj16 : j < 16 := by omega
      obtain ⟨y2, y3⟩ := nib_walk d hdlt
      rw [← hj] at y2 y3
      have c2 := HT.out.cell (g := 0) (by kernel_rfl) j (by simp [halvesL]; omega)
      clear hj
      obtain ⟨z1, hz1⟩ : ∃ z, z = halvesL.getD i 0 := ⟨_, rfl⟩
      obtain ⟨z2, hz2⟩ : ∃ z, z = halvesL.getD j 0 := ⟨_, rfl⟩
      rw [← hz1] at x3 c1
      rw [← hz2] at y3 c2
      clear hz1 hz2
      have hs1 := Lib.hid (sum_snoc s k hl)
      go_wp2
      go_round
      case rel => exact ⟨k + 1, nib d, by omega, by go_num, rfl, nib_lt d hdlt, by show nib d = _; rw [hs1.out, ← Ha.out]; show nib d = nib (nib _); rw [Hd.out, Hb.out]⟩
      case measure => simp [intOf]; omega
    · obtain rfl : k = s.size := by omega
      have x1 := u32_not_nat a ha
      have hr : Hid ((4294967295 - a : Nat) = crc s.data.toList) := by
        have := Ha.out
        rw [List.take_of_length_le (by simp)] at this
        show 4294967295 - a = 4294967295 - sumL _
        rw [this]
      obtain ⟨r, hrr⟩ : ∃ r, r = 4294967295 - a := ⟨_, rfl⟩
      have hr2 : r ≤ 4294967295 := by omega
      rw [← hrr] at x1
      have Hr : Hid (r = crc s.data.toList) := hrr.trans hr
      clear hrr
      have hw : wrap64 (r : Int) = (r : Int) := IntWalk.wrap64_in _ (by omega)
      go_wp2
      go_ret
      exact ⟨by rw [← Hr.out]; rfl, rfl⟩
end Go.Proofs.YtmoffcgbjmeiaaaGreatDoor

namespace Go.Proofs.YtmoffcgbjmeiaaaGreatDoor
open Go.RowKit

/-! ### One byte changed changes the sum -/
theorem half_top : ∀ i < 16, halfN i / 268435456 = i := by decide
theorem nib_top (b : Nat) (hb : b < 4294967296) : nib b / 268435456 = b % 16 := by
  have h1 := half_top (b % 16) (by omega)
  have e : ∀ x : Nat, x / 268435456 = x >>> 28 := fun x => (Nat.shiftRight_eq_div_pow x 28).symm
  unfold nib
  rw [e] at h1 ⊢
  rw [Nat.shiftRight_xor_distrib, h1, Nat.shiftRight_eq_div_pow, show b / 16 / 2 ^ 28 = 0 from by omega, Nat.zero_xor]
theorem xor_cancel (a b c : Nat) (h : a ^^^ c = b ^^^ c) : a = b := by
  have := congrArg (· ^^^ c) h
  simp only [Nat.xor_assoc, Nat.xor_self, Nat.xor_zero] at this
  exact this
theorem nib_inj (b c : Nat) (hb : b < 4294967296) (hc : c < 4294967296) (h : nib b = nib c) : b = c := by
  have h1 := nib_top b hb
  have h2 := nib_top c hc
  rw [h, h2] at h1
  unfold nib at h
  rw [h1] at h
  have h3 := xor_cancel _ _ _ h
  omega
theorem xor_byte_lt (a : Nat) (c : UInt8) (ha : a < 4294967296) : a ^^^ c.toNat < 4294967296 := Nat.xor_lt_two_pow (n := 32) ha (by have := UInt8.toNat_lt c; omega)
theorem step_inj (a b : Nat) (c : UInt8) (ha : a < 4294967296) (hb : b < 4294967296) (h : sumStep a c = sumStep b c) : a = b := by
  have h1 := xor_byte_lt a c ha
  have h2 := xor_byte_lt b c hb
  exact xor_cancel _ _ _ (nib_inj _ _ h1 h2 (nib_inj _ _ (nib_lt _ h1) (nib_lt _ h2) h))
theorem step_inj_byte (a : Nat) (c d : UInt8) (ha : a < 4294967296) (h : sumStep a c = sumStep a d) : c = d := by
  have h1 := xor_byte_lt a c ha
  have h2 := xor_byte_lt a d ha
  have h3 := nib_inj _ _ h1 h2 (nib_inj _ _ (nib_lt _ h1) (nib_lt _ h2) h)
  rw [Nat.xor_comm a, Nat.xor_comm a] at h3
  exact UInt8.toNat_inj.1 (xor_cancel _ _ _ h3)
theorem foldl_inj (l : List UInt8) : ∀ a b, a < 4294967296 → b < 4294967296 → l.foldl sumStep a = l.foldl sumStep b → a = b := by
  induction l with
  | nil => intro a b _ _ h; exact h
  | cons c r ih => intro a b ha hb h; exact step_inj a b c ha hb (ih _ _ (sumStep_lt a c ha) (sumStep_lt b c hb) h)

theorem crc_changed (l : List UInt8) (k : Nat) (hk : k < l.length) (d : UInt8) (hd : l[k] ≠ d) : crc l ≠ crc (l.set k d) := by
  intro h
  have h1 := sumL_lt l
  have h2 := sumL_lt (l.set k d)
  have h3 : sumL l = sumL (l.set k d) := by unfold crc at h; omega
  have e1 : l = l.take k ++ l[k] :: l.drop (k + 1) := by rw [List.getElem_cons_drop, List.take_append_drop]
  have e2 : l.set k d = l.take k ++ d :: l.drop (k + 1) := List.set_eq_take_append_cons_drop.trans (by rw [if_pos hk])
  rw [e2] at h3
  conv at h3 => lhs; rw [e1]
  unfold sumL at h3
  rw [List.foldl_append, List.foldl_append, List.foldl_cons, List.foldl_cons] at h3
  have hp := foldl_sum_lt (l.take k) 4294967295 (by decide)
  have h4 := foldl_inj _ _ _ (sumStep_lt _ _ hp) (sumStep_lt _ _ hp) h3
  exact hd (step_inj_byte _ _ _ hp h4)

theorem ofInt_u8 (a : Nat) (ha : a < 256) : (BitVec.ofInt 8 (a : Int)).toNat = a := by
  rw [BitVec.ofInt_natCast, BitVec.toNat_ofNat]; exact Nat.mod_eq_of_lt (by omega)
theorem u8_xor (a : Nat) (ha : a < 256) (b : Nat) (hb : b < 256) : bits .xor .u8 (a : Int) (b : Int) = ((a ^^^ b : Nat) : Int) := by
  have hx : a ^^^ b < 2 ^ 8 := Nat.xor_lt_two_pow (by omega) (by omega)
  show IntKind.u8.wrap ((BitVec.ofInt 8 (a : Int) ^^^ BitVec.ofInt 8 (b : Int)).toNat : Int) = _
  rw [BitVec.toNat_xor, ofInt_u8 a ha, ofInt_u8 b hb, IntKind.wrap_u8]
  omega
end Go.Proofs.YtmoffcgbjmeiaaaGreatDoor

namespace Go.Proofs.YtmoffcgbjmeiaaaGreatDoor
open Go.RowKit

set_option maxHeartbeats 400000 in
theorem next_some (p k : Nat) (s : ByteArray) (er : Int) (w : World) (h0 : w.cell? ⟨p, 0, none⟩ = some (.string s)) (h1 : w.cell? ⟨p, 1, none⟩ = some (.int .i64 k))
    (hz : w.frozen? ⟨p, 1, none⟩ = false) (hk : k < s.size) (hs : s.size ≤ 9223372036854775807) :
    Calls Tryz.prog 155 #[.pointer (some ⟨p, 0, none⟩), .int .i64 er] w fun e w' => e = .returned (.int .u8 (s[k]'hk).toNat) ∧ ∃ n, w' = (w.setCell ⟨p, 1, none⟩ (.int .i64 ((k : Int) + 1))).drewN n := by
  have hne : ((k : Int) == (s.size : Int)) = false := by simp; omega
  have hlt : (k : Int) < (s.size : Int) := by omega
  go_enter Tryz.func155, Tryz.ntmps155
  go_wp2
  go_quiet (fail)
  go_wp2
  go_quiet (fail)
  go_wp2
  go_ret
  exact ⟨rfl, _, rfl⟩

set_option maxHeartbeats 400000 in
theorem next_end (p : Nat) (s : ByteArray) (er : Int) (w : World) (h0 : w.cell? ⟨p, 0, none⟩ = some (.string s)) (h1 : w.cell? ⟨p, 1, none⟩ = some (.int .i64 (s.size : Int)))
    (_hs : s.size ≤ 9223372036854775807) :
    Calls Tryz.prog 155 #[.pointer (some ⟨p, 0, none⟩), .int .i64 er] w fun e w' => e = .panicked [{ v := .iface 42 (.int .i64 er), recovered := false }] ∧ ∃ n, w' = w.drewN n := by
  have hne : ((s.size : Int) == (s.size : Int)) = true := by simp
  go_enter Tryz.func155, Tryz.ntmps155
  go_wp2
  go_quiet (fail)
  go_wp2
  exact ⟨rfl, rfl, _, rfl⟩
end Go.Proofs.YtmoffcgbjmeiaaaGreatDoor

namespace Go.Proofs.YtmoffcgbjmeiaaaGreatDoor
open Go.RowKit

inductive GV where
  | ok (v n : Nat)
  | err (e : Int)

/-- What GetVar makes of bytes: i groups are taken, v is what they say. -/
def gv : List UInt8 → Nat → Nat → GV
  | [], i, _ => if i < 9 then .err 3 else .err 4
  | c :: r, i, v => if 9 ≤ i then .err 4 else if 128 ≤ c.toNat then gv r (i + 1) (v + c.toNat % 128 * 2 ^ (7 * i)) else if c.toNat = 0 ∧ 0 < i then .err 4 else .ok (v + c.toNat % 128 * 2 ^ (7 * i)) (i + 1)

theorem gv_long (l : List UInt8) (i v : Nat) (h : 9 ≤ i) : gv l i v = .err 4 := by
  cases l with
  | nil => rw [gv, if_neg (by omega)]
  | cons c r => rw [gv, if_pos h]

theorem gv_short (l : List UInt8) (i v : Nat) (h : i < 9) (hl : l = []) : gv l i v = .err 3 := by
  subst hl; rw [gv, if_pos h]

theorem gv_more (s : ByteArray) (k a : Nat) (hl : k < s.size) (hk : k < 9) (h : 128 ≤ s[k].toNat) :
    gv (s.data.toList.drop k) k a = gv (s.data.toList.drop (k + 1)) (k + 1) (a + s[k].toNat % 128 * 2 ^ (7 * k)) := by
  rw [List.drop_eq_getElem_cons (by simpa using hl), gv, if_neg (by omega), if_pos (by exact h)]; rfl
theorem gv_zero (s : ByteArray) (k a : Nat) (hl : k < s.size) (hk : k < 9) (h : s[k].toNat = 0) (h0 : 0 < k) :
    gv (s.data.toList.drop k) k a = .err 4 := by
  have e : (s.data.toList[k]'(by simpa using hl)).toNat = 0 := h
  rw [List.drop_eq_getElem_cons (by simpa using hl), gv, if_neg (by omega), if_neg (by omega), if_pos ⟨e, h0⟩]
theorem gv_last (s : ByteArray) (k a : Nat) (hl : k < s.size) (hk : k < 9) (h : s[k].toNat < 128) (h0 : ¬ (s[k].toNat = 0 ∧ 0 < k)) :
    gv (s.data.toList.drop k) k a = .ok (a + s[k].toNat % 128 * 2 ^ (7 * k)) (k + 1) := by
  have h' : (s.data.toList[k]'(by simpa using hl)).toNat < 128 := h
  have h0' : ¬ ((s.data.toList[k]'(by simpa using hl)).toNat = 0 ∧ 0 < k) := h0
  rw [List.drop_eq_getElem_cons (by simpa using hl), gv, if_neg (by omega), if_neg (by omega), if_neg h0']; rfl

def VarPost (p : Nat) (w : World) : GV → Ending → World → Prop
  | .ok v n, e, w' => e = .returned (.int .i64 (v : Int)) ∧ w'.cell? ⟨p, 1, none⟩ = some (.int .i64 (n : Int)) ∧ w.grownBy w' (some p)
  | .err er, e, w' => e = .panicked [{ v := .iface 42 (.int .i64 er), recovered := false }] ∧ w.grownBy w' (some p)

set_option maxRecDepth 100000 in
set_option maxHeartbeats 1000000 in
theorem variable_any (p : Nat) (s : ByteArray) (w : World) (h0 : w.cell? ⟨p, 0, none⟩ = some (.string s)) (h1 : w.cell? ⟨p, 1, none⟩ = some (.int .i64 (0 : Nat)))
    (hz : w.frozen? ⟨p, 1, none⟩ = false) (hs : s.size ≤ 9223372036854775807) :
    Calls Tryz.prog 152 #[.pointer (some ⟨p, 0, none⟩)] w fun e w' => VarPost p w (gv s.data.toList 0 0) e w' := by
  obtain ⟨g, hg⟩ : ∃ g, g = gv s.data.toList 0 0 := ⟨_, rfl⟩
  rw [← hg]
  have Hg := Lib.hid hg
  clear hg
  go_enter Tryz.func152, Tryz.ntmps152
  go_wp2
  go_loopw [3, 6] (fun v i wr => ∃ k a : Nat, k ≤ 9 ∧ k ≤ s.size ∧ i = .int .i64 (k : Int) ∧ v = .int .i64 (a : Int) ∧ a < 2 ^ (7 * k) ∧ Hid (gv s.data.toList 0 0 = gv (s.data.toList.drop k) k a) ∧
      wr.cell? ⟨p, 0, none⟩ = some (.string s) ∧ wr.cell? ⟨p, 1, none⟩ = some (.int .i64 (k : Int)) ∧ wr.frozen? ⟨p, 1, none⟩ = false ∧ w.grownBy wr (some p))
    (fun _ i _ => 9 - (intOf i).toNat)
  case atStart => exact ⟨0, 0, by omega, by omega, rfl, rfl, by omega, rfl, h0, h1, hz, World.grownBy.refl _ _⟩
  case round =>
    obtain ⟨k, a, hk9, hks, rfl, rfl, ha, Ha, c0, c1, cz, hgr⟩ := hrel
    by_cases hk : k < 9
    · by_cases hl : k < s.size
      · have hb : s[k].toNat < 256 := UInt8.toNat_lt _
        have V := Lib.hid (vstep a k _ ha hk hb)
        go_wp2_with fail
        refine (next_some p k s _ _ c0 c1 cz hl hs).mono ?_
        rintro e w' ⟨rfl, n, rfl⟩
        go_wp2_with fail
        · have h128 : (128 : Int) ≤ ((s[k]'hl).toNat : Int) := by assumption
          have hgg := gv_more s k a hl hk (by omega)
          go_roundw
          case rel => exact ⟨k + 1, _, by omega, by omega, by go_num, by rw [V.out.1], V.out.2, Ha.out.trans hgg, (World.cell?_setCell_other _ _ _ _ (by simp)).trans c0, World.cell?_setCell_same _ _ _ c1, (World.frozen?_setCell _ _ _ _).trans cz, only_drewN (only_setCell hgr (.inl rfl) _) _⟩
          case measure => simp [intOf]; omega
        · have hzz : s[k].toNat = 0 := by assumption
          have h0k : 0 < k := by assumption
          have hgg := (Hg.out.trans Ha.out).trans (gv_zero s k a hl hk hzz h0k)
          refine ⟨rfl, ?_⟩
          rw [hgg]
          exact ⟨rfl, only_drewN (only_setCell hgr (.inl rfl) _) _⟩
        · have h128 : ((s[k]'hl).toNat : Int) < 128 := by assumption
          have hnk : ¬ 0 < k := by assumption
          have hz0 : s[k].toNat = 0 := by assumption
          have hgg := (Hg.out.trans Ha.out).trans (gv_last s k a hl hk (by omega) (fun h => hnk h.2))
          have V1 : bits .or .i64 (a : Int) (wrap64 (wrap64 (bits .andNot .u8 (0 : Int) 128) * 2 ^ (7 * k))) = ((a + s[k].toNat % 128 * 2 ^ (7 * k) : Nat) : Int) := by
            have := V.out.1
            rw [hz0] at this ⊢
            exact this
          go_ret
          rw [hgg]
          exact ⟨by rw [V1]; rfl, World.cell?_setCell_same _ _ _ c1, only_drewN (only_setCell hgr (.inl rfl) _) _⟩
        · have h128 : ((s[k]'hl).toNat : Int) < 128 := by assumption
          have hnk : ¬ s[k].toNat = 0 := by assumption
          have hgg := (Hg.out.trans Ha.out).trans (gv_last s k a hl hk (by omega) (fun h => hnk h.1))
          go_ret
          rw [hgg]
          exact ⟨by rw [V.out.1]; rfl, World.cell?_setCell_same _ _ _ c1, only_drewN (only_setCell hgr (.inl rfl) _) _⟩
      · obtain rfl : k = s.size := by omega
        have hgg := Lib.hid ((Hg.out.trans Ha.out).trans (gv_short _ _ a hk (by simp)))
        go_wp2_with fail
        refine (next_end p s _ _ c0 c1 hs).mono ?_
        rintro e w' ⟨rfl, n, rfl⟩
        refine ⟨rfl, ?_⟩
        rw [hgg.out]
        exact ⟨rfl, only_drewN hgr _⟩
    · have hgg := Lib.hid ((Hg.out.trans Ha.out).trans (gv_long _ _ a (by omega)))
      go_wp2_with fail
      refine ⟨rfl, ?_⟩
      rw [hgg.out]
      exact ⟨rfl, hgr⟩
end Go.Proofs.YtmoffcgbjmeiaaaGreatDoor

namespace Go.Proofs.YtmoffcgbjmeiaaaGreatDoor
open Go.RowKit

theorem run_assert_errno (n : Int) (w : World) : (Instr.typeAssert (.iface 42 (.int .i64 n)) 20 42 true).run Tryz.prog w = .ok (.tuple #[.int .i64 n, .bool true]) w := by kernel_rfl

set_option maxHeartbeats 400000 in
theorem told_errno (er : Int) (w : World) :
    Calls Tryz.prog 32 #[.iface 42 (.int .i64 er)] w fun e w' => e = .returned (.int .i64 er) ∧ w = w' := by
  have hta := run_assert_errno er
  go_enter Tryz.func32, Tryz.ntmps32
  go_wp2
  go_ret
  exact ⟨rfl, rfl⟩

set_option maxHeartbeats 400000 in
theorem getvar_catch (a b c : Nat) (x y z er : Int) (older : List PanicEntry) (w : World) (ha : w.cell? ⟨a, 0, none⟩ = some (.int .i64 x)) (hb : w.cell? ⟨b, 0, none⟩ = some (.int .i64 y)) (hc : w.cell? ⟨c, 0, none⟩ = some (.int .i64 z))
    (fa : w.frozen? ⟨a, 0, none⟩ = false) (fb : w.frozen? ⟨b, 0, none⟩ = false) (fc : w.frozen? ⟨c, 0, none⟩ = false) (hab : a ≠ b) (hbc : b ≠ c) (hac : a ≠ c) :
    CallsD Tryz.prog 151 #[.pointer (some ⟨a, 0, none⟩), .pointer (some ⟨b, 0, none⟩), .pointer (some ⟨c, 0, none⟩)] (.panicking ({ v := .iface 42 (.int .i64 er), recovered := false } :: older)) w fun e u' w' =>
      e = .returned (.tuple #[]) ∧ u' = .panicking ({ v := .iface 42 (.int .i64 er), recovered := true } :: older) ∧
        w' = ((w.setCell ⟨a, 0, none⟩ (.int .i64 0)).setCell ⟨b, 0, none⟩ (.int .i64 0)).setCell ⟨c, 0, none⟩ (.int .i64 er) := by
  refine callsD_of_wpS Tryz.func151 rfl fun c₀ cs hu => ?_
  apply wpS_seq
  apply wpS_region
  simp [wpOpsS, go_sem, recoverD, hu, Tryz.ntmps151, Exit.thenS]
  refine wpS_of_wp ?_
  simp [Array.replicate]
  go_wp2_with fail
  refine (told_errno _ _).mono ?_
  rintro e w' ⟨rfl, rfl⟩
  go_wp2
  simp [bodyPostS, results, Tryz.results151]

set_option maxHeartbeats 400000 in
theorem getvar_idle (a b c : Value) (w : World) :
    CallsD Tryz.prog 151 #[a, b, c] .returning w fun e u' w' => e = .returned (.tuple #[]) ∧ u' = .returning ∧ w' = w := by
  refine callsD_of_wpS Tryz.func151 rfl fun c₀ cs hu => ?_
  apply wpS_seq
  apply wpS_region
  simp [wpOpsS, go_sem, recoverD, hu, Tryz.ntmps151, Exit.thenS]
  refine wpS_of_wp ?_
  simp [Array.replicate]
  go_wp2
  cases c₀
  simp_all [bodyPostS, results, Tryz.results151]

set_option maxRecDepth 100000 in
set_option maxHeartbeats 1000000 in
theorem getvar_ok (s : ByteArray) (v n : Nat) (w : World) (hs : s.size ≤ 9223372036854775807) (hgv : gv s.data.toList 0 0 = .ok v n) :
    Calls Tryz.prog 147 #[.string s] w fun e w' => e = .returned (.tuple #[.int .i64 (v : Int), .int .i64 (n : Int), .int .i64 0]) ∧ Below w.heap.size w w' := by
  have hmf : ∀ (fn : Fn) (first cap : Array Value) (w : World), (Instr.makeFunc fn first cap).run Tryz.prog w = .ok (.func fn first cap) w := fun _ _ _ _ => rfl
  have Hgv := Lib.hid hgv
  clear hgv
  go_enter_defers Tryz.func147, Tryz.ntmps147
  go_wp2_with fail
  have b0 : Blk ((((w.alloc (.cells #[.int .i64 0] 3)).alloc (.cells #[.int .i64 0] 3)).alloc (.cells #[.int .i64 0] 42)).alloc (.cells #[.string s, .int .i64 0] 193)) w.heap.size 3 #[.int .i64 0] := (((Blk.new _ _ _).alloc _).alloc _).alloc _
  have b1 : Blk ((((w.alloc (.cells #[.int .i64 0] 3)).alloc (.cells #[.int .i64 0] 3)).alloc (.cells #[.int .i64 0] 42)).alloc (.cells #[.string s, .int .i64 0] 193)) (w.heap.size + 1) 3 #[.int .i64 0] := ((Blk.new' (by simp) _ _).alloc _).alloc _
  have b2 : Blk ((((w.alloc (.cells #[.int .i64 0] 3)).alloc (.cells #[.int .i64 0] 3)).alloc (.cells #[.int .i64 0] 42)).alloc (.cells #[.string s, .int .i64 0] 193)) (w.heap.size + 2) 42 #[.int .i64 0] := (Blk.new' (by simp) _ _).alloc _
  have b3 : Blk ((((w.alloc (.cells #[.int .i64 0] 3)).alloc (.cells #[.int .i64 0] 3)).alloc (.cells #[.int .i64 0] 42)).alloc (.cells #[.string s, .int .i64 0] 193)) (w.heap.size + 3) 193 #[.string s, .int .i64 0] := Blk.new' (by simp) _ _
  have hb : Below w.heap.size w ((((w.alloc (.cells #[.int .i64 0] 3)).alloc (.cells #[.int .i64 0] 3)).alloc (.cells #[.int .i64 0] 42)).alloc (.cells #[.string s, .int .i64 0] 193)) := below_alloc (below_alloc (below_alloc (below_alloc (Below.refl _ _) (Nat.le_refl _) _) (Nat.le_refl _) _) (Nat.le_refl _) _) (Nat.le_refl _) _
  generalize ((((w.alloc (.cells #[.int .i64 0] 3)).alloc (.cells #[.int .i64 0] 3)).alloc (.cells #[.int .i64 0] 42)).alloc (.cells #[.string s, .int .i64 0] 193)) = w1 at *
  refine (variable_any (w.heap.size + 3) s _ (b3.cell 0) (b3.cell 1) (b3.frozen 1) hs).mono ?_
  rw [Hgv.out]
  rintro e w2 ⟨rfl, hc, hgr⟩
  have d0 := b0.grown hgr (by simp)
  have d1 := b1.grown hgr (by simp)
  have d2 := b2.grown hgr (by simp)
  have hb2 : Below w.heap.size w w2 := hb.trans (below_of_only hgr hb.size (by omega))
  have c0 := d0.cell 0
  have f0 := d0.frozen 0
  have c1 := d1.cell 0
  have f1 := d1.frozen 0
  have c2 := d2.cell 0
  have f2 := d2.frozen 0
  simp at c0 c1 c2
  have D0 := Lib.hid d0
  have D1 := Lib.hid d1
  have D2 := Lib.hid d2
  clear b0 b1 b2 b3 d0 d1 d2
  go_wp2
  go_region
  go_wp2
  have e0 := ((((D0.out.set_ 0 (.int .i64 (v : Int))).set_ 0 (.int .i64 (v : Int))).far (p := ⟨w.heap.size + 1, 0, none⟩) (by dsimp only; omega) (.int .i64 (n : Int))).far (p := ⟨w.heap.size + 1 + 1, 0, none⟩) (by dsimp only; omega) (.int .i64 0)).cell 0
  have e1 := ((((D1.out.far (p := ⟨w.heap.size, 0, none⟩) (by dsimp only; omega) (.int .i64 (v : Int))).far (p := ⟨w.heap.size, 0, none⟩) (by dsimp only; omega) (.int .i64 (v : Int))).set_ 0 (.int .i64 (n : Int))).far (p := ⟨w.heap.size + 1 + 1, 0, none⟩) (by dsimp only; omega) (.int .i64 0)).cell 0
  have e2 := ((((D2.out.far (p := ⟨w.heap.size, 0, none⟩) (by dsimp only; omega) (.int .i64 (v : Int))).far (p := ⟨w.heap.size, 0, none⟩) (by dsimp only; omega) (.int .i64 (v : Int))).far (p := ⟨w.heap.size + 1, 0, none⟩) (by dsimp only; omega) (.int .i64 (n : Int))).set_ 0 (.int .i64 0)).cell 0
  have hb3 := below_setCell (below_setCell (below_setCell (below_setCell hb2 (p := ⟨w.heap.size, 0, none⟩) (Nat.le_refl _) (.int .i64 (v : Int))) (p := ⟨w.heap.size, 0, none⟩) (Nat.le_refl _) (.int .i64 (v : Int))) (p := ⟨w.heap.size + 1, 0, none⟩) (by dsimp only; omega) (.int .i64 (n : Int))) (p := ⟨w.heap.size + 1 + 1, 0, none⟩) (by dsimp only; omega) (.int .i64 0)
  refine leaves_cons (f := 151) (args := #[.pointer (some ⟨w.heap.size, 0, none⟩), .pointer (some ⟨w.heap.size + 1, 0, none⟩), .pointer (some ⟨w.heap.size + 1 + 1, 0, none⟩)]) (by simp) (by simp [go_sem]) ?_
  refine (getvar_idle _ _ _ _).mono ?_
  rintro e u' w'' ⟨rfl, rfl, rfl⟩
  generalize ((((w2.setCell ⟨w.heap.size, 0, none⟩ (.int .i64 (v : Int))).setCell ⟨w.heap.size, 0, none⟩ (.int .i64 (v : Int))).setCell ⟨w.heap.size + 1, 0, none⟩ (.int .i64 (n : Int))).setCell ⟨w.heap.size + 1 + 1, 0, none⟩ (.int .i64 0)) = w3 at *
  simp at e0 e1 e2
  simp [Leaves, settle, results, Tryz.results147, go_sem, e0, e1, e2]
  exact hb3.drew

set_option maxRecDepth 100000 in
set_option maxHeartbeats 1000000 in
theorem getvar_err (s : ByteArray) (er : Int) (w : World) (hs : s.size ≤ 9223372036854775807) (hgv : gv s.data.toList 0 0 = .err er) :
    Calls Tryz.prog 147 #[.string s] w fun e w' => e = .returned (.tuple #[.int .i64 0, .int .i64 0, .int .i64 er]) ∧ Below w.heap.size w w' := by
  have hmf : ∀ (fn : Fn) (first cap : Array Value) (w : World), (Instr.makeFunc fn first cap).run Tryz.prog w = .ok (.func fn first cap) w := fun _ _ _ _ => rfl
  have Hgv := Lib.hid hgv
  clear hgv
  go_enter_defers Tryz.func147, Tryz.ntmps147
  go_wp2_with fail
  have b0 : Blk ((((w.alloc (.cells #[.int .i64 0] 3)).alloc (.cells #[.int .i64 0] 3)).alloc (.cells #[.int .i64 0] 42)).alloc (.cells #[.string s, .int .i64 0] 193)) w.heap.size 3 #[.int .i64 0] := (((Blk.new _ _ _).alloc _).alloc _).alloc _
  have b1 : Blk ((((w.alloc (.cells #[.int .i64 0] 3)).alloc (.cells #[.int .i64 0] 3)).alloc (.cells #[.int .i64 0] 42)).alloc (.cells #[.string s, .int .i64 0] 193)) (w.heap.size + 1) 3 #[.int .i64 0] := ((Blk.new' (by simp) _ _).alloc _).alloc _
  have b2 : Blk ((((w.alloc (.cells #[.int .i64 0] 3)).alloc (.cells #[.int .i64 0] 3)).alloc (.cells #[.int .i64 0] 42)).alloc (.cells #[.string s, .int .i64 0] 193)) (w.heap.size + 2) 42 #[.int .i64 0] := (Blk.new' (by simp) _ _).alloc _
  have b3 : Blk ((((w.alloc (.cells #[.int .i64 0] 3)).alloc (.cells #[.int .i64 0] 3)).alloc (.cells #[.int .i64 0] 42)).alloc (.cells #[.string s, .int .i64 0] 193)) (w.heap.size + 3) 193 #[.string s, .int .i64 0] := Blk.new' (by simp) _ _
  have hb : Below w.heap.size w ((((w.alloc (.cells #[.int .i64 0] 3)).alloc (.cells #[.int .i64 0] 3)).alloc (.cells #[.int .i64 0] 42)).alloc (.cells #[.string s, .int .i64 0] 193)) := below_alloc (below_alloc (below_alloc (below_alloc (Below.refl _ _) (Nat.le_refl _) _) (Nat.le_refl _) _) (Nat.le_refl _) _) (Nat.le_refl _) _
  generalize ((((w.alloc (.cells #[.int .i64 0] 3)).alloc (.cells #[.int .i64 0] 3)).alloc (.cells #[.int .i64 0] 42)).alloc (.cells #[.string s, .int .i64 0] 193)) = w1 at *
  refine (variable_any (w.heap.size + 3) s _ (b3.cell 0) (b3.cell 1) (b3.frozen 1) hs).mono ?_
  rw [Hgv.out]
  rintro e w2 ⟨rfl, hgr⟩
  have d0 := b0.grown hgr (by simp)
  have d1 := b1.grown hgr (by simp)
  have d2 := b2.grown hgr (by simp)
  have hb2 : Below w.heap.size w w2 := hb.trans (below_of_only hgr hb.size (by omega))
  have c0 := d0.cell 0
  have f0 := d0.frozen 0
  have c1 := d1.cell 0
  have f1 := d1.frozen 0
  have c2 := d2.cell 0
  have f2 := d2.frozen 0
  simp at c0 c1 c2
  have D0 := Lib.hid d0
  have D1 := Lib.hid d1
  have D2 := Lib.hid d2
  clear b0 b1 b2 b3 d0 d1 d2
  go_wp2
  have e0 := (((D0.out.set_ 0 (.int .i64 0)).far (p := ⟨w.heap.size + 1, 0, none⟩) (by dsimp only; omega) (.int .i64 0)).far (p := ⟨w.heap.size + 1 + 1, 0, none⟩) (by dsimp only; omega) (.int .i64 er)).cell 0
  have e1 := (((D1.out.far (p := ⟨w.heap.size, 0, none⟩) (by dsimp only; omega) (.int .i64 0)).set_ 0 (.int .i64 0)).far (p := ⟨w.heap.size + 1 + 1, 0, none⟩) (by dsimp only; omega) (.int .i64 er)).cell 0
  have e2 := (((D2.out.far (p := ⟨w.heap.size, 0, none⟩) (by dsimp only; omega) (.int .i64 0)).far (p := ⟨w.heap.size + 1, 0, none⟩) (by dsimp only; omega) (.int .i64 0)).set_ 0 (.int .i64 er)).cell 0
  have hb3 := below_setCell (below_setCell (below_setCell hb2 (p := ⟨w.heap.size, 0, none⟩) (Nat.le_refl _) (.int .i64 0)) (p := ⟨w.heap.size + 1, 0, none⟩) (by dsimp only; omega) (.int .i64 0)) (p := ⟨w.heap.size + 1 + 1, 0, none⟩) (by dsimp only; omega) (.int .i64 er)
  refine leaves_cons (f := 151) (args := #[.pointer (some ⟨w.heap.size, 0, none⟩), .pointer (some ⟨w.heap.size + 1, 0, none⟩), .pointer (some ⟨w.heap.size + 1 + 1, 0, none⟩)]) (by simp) (by simp [go_sem]) ?_
  refine (getvar_catch w.heap.size (w.heap.size + 1) (w.heap.size + 1 + 1) 0 0 0 er [] _ c0 c1 c2 f0 f1 f2 (by omega) (by omega) (by omega)).mono ?_
  rintro e u' w'' ⟨rfl, rfl, rfl⟩
  generalize (((w2.setCell ⟨w.heap.size, 0, none⟩ (.int .i64 0)).setCell ⟨w.heap.size + 1, 0, none⟩ (.int .i64 0)).setCell ⟨w.heap.size + 1 + 1, 0, none⟩ (.int .i64 er)) = w3 at *
  simp at e0 e1 e2
  simp [Leaves, settle, results, Tryz.results147, go_sem, e0, e1, e2]
  exact hb3

end Go.Proofs.YtmoffcgbjmeiaaaGreatDoor

namespace Go.Proofs
open Go.Shelf
def Tryz.lays170_ren : Go.Shelf.Ren := ⟨fun | 170 => 26 | n => n, fun | 70 => 62 | 3 => 3 | 0 => 0 | 72 => 64 | 37 => 54 | 5 => 5 | n => n, fun | n => n⟩
theorem Tryz.lays170 : Go.Proofs.Lays.n170 Tryz.prog Tryz.lays170_ren := {
  mixed := by kernel_rfl
  f170 := Tryz.func26.trans (congrArg some (by kernel_rfl))
  t0 := Tryz.underlying0
  a0 := Tryz.isAgg0
  z0 := Tryz.sizeOf0
  v0 := Tryz.zeroValue0
  t3 := Tryz.underlying3
  a3 := Tryz.isAgg3
  z3 := Tryz.sizeOf3
  v3 := Tryz.zeroValue3
  t37 := Tryz.underlying54
  a37 := Tryz.isAgg54
  z37 := Tryz.sizeOf54
  v37 := Tryz.zeroValue54
  t70 := Tryz.underlying62
  a70 := Tryz.isAgg62
  z70 := Tryz.sizeOf62
  v70 := Tryz.zeroValue62
  t72 := Tryz.underlying64
  a72 := Tryz.isAgg64
  z72 := Tryz.sizeOf64
  v72 := Tryz.zeroValue64 }
open Go.RowKit in
/-- (*strings.Builder).Len: "Len returns the number of accumulated bytes; b.Len() == len(b.String()).": the world is as it was. (LAID: no walk: one application.) -/
theorem Tryz.Builder_Len (B b : Nat) (bs : List Value) (w : World) (h : Lib.IsBuilder 64 5 B b bs w) :
    Calls Tryz.prog 26 #[.pointer (some ⟨b, 0, none⟩)] w fun e w' => e = .returned (.int .i64 bs.length) ∧ w' = w := Any.Builder_Len Tryz.lays170 B b bs w h
def Tryz.lays169_ren : Go.Shelf.Ren := ⟨fun | 169 => 30 | n => n, fun | 70 => 62 | 9 => 9 | 0 => 0 | 72 => 64 | 37 => 54 | 127 => 110 | 3 => 3 | 5 => 5 | n => n, fun | n => n⟩
theorem Tryz.lays169 : Go.Proofs.Lays.n169 Tryz.prog Tryz.lays169_ren := {
  mixed := by kernel_rfl
  f169 := Tryz.func30.trans (congrArg some (by kernel_rfl))
  t0 := Tryz.underlying0
  a0 := Tryz.isAgg0
  z0 := Tryz.sizeOf0
  v0 := Tryz.zeroValue0
  t3 := Tryz.underlying3
  a3 := Tryz.isAgg3
  z3 := Tryz.sizeOf3
  v3 := Tryz.zeroValue3
  t9 := Tryz.underlying9
  a9 := Tryz.isAgg9
  z9 := Tryz.sizeOf9
  v9 := Tryz.zeroValue9
  t37 := Tryz.underlying54
  a37 := Tryz.isAgg54
  z37 := Tryz.sizeOf54
  v37 := Tryz.zeroValue54
  t70 := Tryz.underlying62
  a70 := Tryz.isAgg62
  z70 := Tryz.sizeOf62
  v70 := Tryz.zeroValue62
  t72 := Tryz.underlying64
  a72 := Tryz.isAgg64
  z72 := Tryz.sizeOf64
  v72 := Tryz.zeroValue64
  t127 := Tryz.underlying110
  a127 := Tryz.isAgg110
  z127 := Tryz.sizeOf110
  v127 := Tryz.zeroValue110 }
theorem Tryz.Builder_Extra_169 : Builder.Extra Tryz.prog Tryz.lays169_ren := {
  sizeBuilder := by kernel_rfl
  liesBuilder := by kernel_rfl
  t5 := Tryz.underlying5
  a5 := Tryz.isAgg5
  z5 := Tryz.sizeOf5
  v5 := Tryz.zeroValue5
  infoByte := by kernel_rfl
  cellsByte := by kernel_rfl
  sizeByte := by kernel_rfl
  neB5 := by decide }
open Go.RowKit in
/-- (*strings.Builder).String: "String returns the accumulated string.": OF A BUILDER THAT HOLDS AT LEAST ONE BYTE. ✋ THE MODEL FREEZES THOSE BYTES IN THE BUFFER (unsafe.String): a later write INTO them ends the model's run without an answer; a later append BEHIND them goes on. The statement's order of evaluation is drawn: one draw. (LAID: no walk: one application.) -/
theorem Tryz.Builder_String (B b : Nat) (l : List UInt8) (w : World) (h : Lib.IsBuilder 64 5 B b (Lib.byteCells l) w) (h0 : l ≠ []) :
    Calls Tryz.prog 30 #[.pointer (some ⟨b, 0, none⟩)] w fun e w' => e = .returned (.string ⟨l.toArray⟩) ∧ Below B w w' := Any.Builder_String Tryz.lays169 Tryz.Builder_Extra_169 B b l w h h0
open Go.RowKit in
/-- (*strings.Builder).String OF A BUILDER THAT HOLDS NO BYTE: the empty string. (Its buffer is nil, or a row of which it has taken nothing yet; where that row has NO capacity the model lays one new block for unsafe.SliceData's 'some address'.) One draw. (LAID: no walk: one application.) -/
theorem Tryz.Builder_String_empty (B b : Nat) (w : World) (h : Lib.IsBuilder 64 5 B b [] w) (hBw : B ≤ w.heap.size) :
    Calls Tryz.prog 30 #[.pointer (some ⟨b, 0, none⟩)] w fun e w' => e = .returned (.string ⟨#[]⟩) ∧ Below B w w' := Any.Builder_String_empty Tryz.lays169 Tryz.Builder_Extra_169 B b w h hBw
open Go.RowKit in
/-- (*strings.Builder).String: "String returns the accumulated string.": WHATEVER THE BUILDER HOLDS. (LAID: no walk: one application.) -/
theorem Tryz.Builder_String_any (B b : Nat) (l : List UInt8) (w : World) (h : Lib.IsBuilder 64 5 B b (Lib.byteCells l) w) (hBw : B ≤ w.heap.size) :
    Calls Tryz.prog 30 #[.pointer (some ⟨b, 0, none⟩)] w fun e w' => e = .returned (.string ⟨l.toArray⟩) ∧ Below B w w' := Any.Builder_String_any Tryz.lays169 Tryz.Builder_Extra_169 B b l w h hBw
def Tryz.lays213_ren : Go.Shelf.Ren := ⟨fun | 213 => 133 | 265 => 146 | n => n, fun | 9 => 9 | 3 => 3 | n => n, fun | n => n⟩
theorem Tryz.lays213 : Go.Proofs.Lays.n213 Tryz.prog Tryz.lays213_ren := {
  mixed := by kernel_rfl
  f213 := Tryz.func133.trans (congrArg some (by kernel_rfl))
  f265 := Tryz.func146.trans (congrArg some (by kernel_rfl))
  t3 := Tryz.underlying3
  a3 := Tryz.isAgg3
  z3 := Tryz.sizeOf3
  v3 := Tryz.zeroValue3
  t9 := Tryz.underlying9
  a9 := Tryz.isAgg9
  z9 := Tryz.sizeOf9
  v9 := Tryz.zeroValue9 }
open Go.RowKit in
/-- internal/bytealg.CompareString (what strings.Compare calls): IT RETURNS 'Lib.compareBytes a b'; the world is as it was. (LAID: no walk: one application.) -/
theorem Tryz.bytealg_CompareString (a b : ByteArray) (w : World) :
    Calls Tryz.prog 133 #[.string a, .string b] w fun e w' => e = .returned (.int .i64 (Lib.compareBytes a.data.toList b.data.toList)) ∧ w' = w := Any.bytealg_CompareString Tryz.lays213 a b w
def Tryz.lays106_ren : Go.Shelf.Ren := ⟨fun | 106 => 97 | 213 => 133 | 265 => 146 | n => n, fun | 9 => 9 | 3 => 3 | n => n, fun | n => n⟩
theorem Tryz.lays106 : Go.Proofs.Lays.n106 Tryz.prog Tryz.lays106_ren := {
  mixed := by kernel_rfl
  f106 := Tryz.func97.trans (congrArg some (by kernel_rfl))
  f213 := Tryz.func133.trans (congrArg some (by kernel_rfl))
  f265 := Tryz.func146.trans (congrArg some (by kernel_rfl))
  t3 := Tryz.underlying3
  a3 := Tryz.isAgg3
  z3 := Tryz.sizeOf3
  v3 := Tryz.zeroValue3
  t9 := Tryz.underlying9
  a9 := Tryz.isAgg9
  z9 := Tryz.sizeOf9
  v9 := Tryz.zeroValue9 }
open Go.RowKit in
/-- strings.Compare: "Compare returns an integer comparing two strings lexicographically. The result will be 0 if a == b, -1 if a < b, and +1 if a > b.": IT RETURNS 'Lib.compareBytes a b'; the world is as it was. (LAID: no walk: one application.) -/
theorem Tryz.strings_Compare (a b : ByteArray) (w : World) :
    Calls Tryz.prog 97 #[.string a, .string b] w fun e w' => e = .returned (.int .i64 (Lib.compareBytes a.data.toList b.data.toList)) ∧ w' = w := Any.strings_Compare Tryz.lays106 a b w
open Go.RowKit in
/-- (*strings.Builder).Len: "Len returns the number of accumulated bytes; b.Len() == len(b.String()).": the world is as it was. (THE FORM '_f': 'Lib.IsBuilderF'.) (LAID: no walk: one application.) -/
theorem Tryz.Builder_Len_f (B b : Nat) (bs : List Value) (w : World) (h : Lib.IsBuilderF 64 5 B b bs w) :
    Calls Tryz.prog 26 #[.pointer (some ⟨b, 0, none⟩)] w fun e w' => e = .returned (.int .i64 bs.length) ∧ w' = w := Any.Builder_Len_f Tryz.lays170 B b bs w h
open Go.RowKit in
/-- (*strings.Builder).String: "String returns the accumulated string.": OF A BUILDER THAT HOLDS AT LEAST ONE BYTE. ✋ THE MODEL FREEZES THOSE BYTES IN THE BUFFER (unsafe.String): a later write INTO them ends the model's run without an answer; a later append BEHIND them goes on. The statement's order of evaluation is drawn: one draw. THE FORM '_f': IT SAYS BESIDES THAT THE BUILDER IS A BUILDER STILL ('Lib.IsBuilderF', the same bytes): SO IT CAN BE WRITTEN ON: 'b.WriteString(b.String()[:k])'. (LAID: no walk: one application.) -/
theorem Tryz.Builder_String_f (B b : Nat) (l : List UInt8) (w : World) (h : Lib.IsBuilderF 64 5 B b (Lib.byteCells l) w) (h0 : l ≠ []) :
    Calls Tryz.prog 30 #[.pointer (some ⟨b, 0, none⟩)] w fun e w' => e = .returned (.string ⟨l.toArray⟩) ∧ (Lib.IsBuilderF 64 5 B b (Lib.byteCells l) w' ∧ Below B w w') := Any.Builder_String_f Tryz.lays169 Tryz.Builder_Extra_169 B b l w h h0
open Go.RowKit in
/-- (*strings.Builder).String OF A BUILDER THAT HOLDS NO BYTE: the empty string; THE FORM '_f': a builder still. (LAID: no walk: one application.) -/
theorem Tryz.Builder_String_empty_f (B b : Nat) (w : World) (h : Lib.IsBuilderF 64 5 B b [] w) (hBw : B ≤ w.heap.size) :
    Calls Tryz.prog 30 #[.pointer (some ⟨b, 0, none⟩)] w fun e w' => e = .returned (.string ⟨#[]⟩) ∧ (Lib.IsBuilderF 64 5 B b [] w' ∧ Below B w w') := Any.Builder_String_empty_f Tryz.lays169 Tryz.Builder_Extra_169 B b w h hBw
open Go.RowKit in
/-- (*strings.Builder).String: "String returns the accumulated string.": WHATEVER THE BUILDER HOLDS; THE FORM '_f': OF A BUILDER THAT MAY HAVE BEEN READ BEFORE; AND IT IS A BUILDER STILL, holding the same bytes: it can be written on. (LAID: no walk: one application.) -/
theorem Tryz.Builder_String_any_f (B b : Nat) (l : List UInt8) (w : World) (h : Lib.IsBuilderF 64 5 B b (Lib.byteCells l) w) (hBw : B ≤ w.heap.size) :
    Calls Tryz.prog 30 #[.pointer (some ⟨b, 0, none⟩)] w fun e w' => e = .returned (.string ⟨l.toArray⟩) ∧ (Lib.IsBuilderF 64 5 B b (Lib.byteCells l) w' ∧ Below B w w') := Any.Builder_String_any_f Tryz.lays169 Tryz.Builder_Extra_169 B b l w h hBw
end Go.Proofs

namespace Go.Proofs.YtmoffcgbjmeiaaaGreatDoor
open Go.RowKit

theorem lt_of_cell {w : World} {g i : Nat} {v : Value} (h : w.cell? ⟨g, i, none⟩ = some v) : g < w.heap.size := by
  rcases Nat.lt_or_ge g w.heap.size with hlt | hge
  · exact hlt
  · simp [World.cell?, Array.getElem?_eq_none hge] at h

theorem below_grow {B : Nat} {a w : World} (h : Below B a w) (hB : B ≤ w.heap.size) (os : Array Obj) : Below B a (Sort.grow w os) :=
  ⟨h.os, h.tape, h.output, by have := h.size; simp [Sort.grow]; omega, fun i hi => by
    rw [← h.block i hi]
    simp [Sort.grow, Array.getElem?_append, show i < w.heap.size from by omega]⟩

end Go.Proofs.YtmoffcgbjmeiaaaGreatDoor

namespace Go.Proofs.YtmoffcgbjmeiaaaGreatDoor
open Go.RowKit

theorem glob_halves : Tryz.prog.globalNamed "bedrock/raw.halves" = some 0 := by kernel_rfl

/-- The tables that the laws' first call reads. -/
structure Laid (w : World) : Prop where
  halves : Lib.TabIs Tryz.prog w "bedrock/raw.halves" .u32 halvesL
  pow10 : Lib.TabIs Tryz.prog w "internal/strconv.uint64pow10" .u64 Lib.pow10Tab

theorem crc_9 : crc [49, 50, 51, 52, 53, 54, 55, 56, 57] = 3808858755 := by decide +kernel
theorem itoa_50 : Lib.itoa (-50) = [45, 53, 48] := by decide +kernel
theorem gv_300 : gv [172, 2, 120] 0 0 = .ok 300 2 := by rfl
theorem be_258 : be 258 2 = [1, 2] := by decide +kernel

end Go.Proofs.YtmoffcgbjmeiaaaGreatDoor

namespace Go.Proofs.YtmoffcgbjmeiaaaGreatDoor
open Go.RowKit

theorem gv_begin (l : List UInt8) : ∀ i v, (∀ c ∈ l, 128 ≤ c.toNat) → i + l.length < 9 → gv l i v = .err 3 := by
  induction l with
  | nil => intro i v _ h; exact gv_short _ _ _ (by simpa using h) rfl
  | cons c r ih =>
    intro i v hc hl
    rw [List.length_cons] at hl
    have hc' := hc c (by simp)
    rw [gv, if_neg (by omega), if_pos hc']
    exact ih _ _ (fun d hd => hc d (by simp [hd])) (by omega)

theorem pv_high (v : Nat) : ∀ i < (pv v).length, ∀ c ∈ (pv v).take i, 128 ≤ c.toNat := by
  induction v using Nat.strongRecOn with
  | _ v ih =>
    intro i hi c hc
    by_cases h : v < 128
    · rw [pv_last v h] at hi hc
      obtain rfl : i = 0 := by simpa using hi
      simp at hc
    · rw [pv_more v (by omega)] at hi hc
      match i, hc with
      | 0, hc => simp at hc
      | i + 1, hc =>
        rw [List.take_succ_cons, List.mem_cons] at hc
        rcases hc with rfl | hc
        · rw [UInt8.toNat_ofNat']; omega
        · exact ih (v / 128) (by omega) i (by simpa using hi) c hc

theorem pv_len (k v : Nat) (h : v < 2 ^ (7 * k)) (hk : 1 ≤ k) : (pv v).length ≤ k := by
  induction k generalizing v with
  | zero => omega
  | succ k ih =>
    by_cases hv : v < 128
    · rw [pv_last v hv]; simp
    · rw [pv_more v (by omega), List.length_cons]
      rcases Nat.eq_zero_or_pos k with h0 | h0
      · subst h0; simp at h; omega
      · have h2 : 2 ^ (7 * (k + 1)) = 128 * 2 ^ (7 * k) := by rw [Nat.mul_add, Nat.pow_add]; omega
        have := ih (v / 128) (by rw [Nat.div_lt_iff_lt_mul (by decide)]; omega) h0
        omega
theorem pv_pos (v : Nat) : 1 ≤ (pv v).length := by
  by_cases hv : v < 128
  · rw [pv_last v hv]; simp
  · rw [pv_more v (by omega)]; simp
theorem pv_len9 (v : Nat) (h : v < 9223372036854775808) : (pv v).length ≤ 9 := pv_len 9 v (by omega) (by decide)

theorem gv_pv (r : List UInt8) (u : Nat) : ∀ i a, i + (pv u).length ≤ 9 → (0 < i → 0 < u) → gv (pv u ++ r) i a = .ok (a + u * 2 ^ (7 * i)) (i + (pv u).length) := by
  induction u using Nat.strongRecOn with
  | _ u ih =>
    intro i a hi h0
    by_cases h : u < 128
    · rw [pv_last u h] at hi ⊢
      rw [List.length_singleton] at hi ⊢
      have e : (UInt8.ofNat u).toNat = u := by rw [UInt8.toNat_ofNat']; omega
      show gv (UInt8.ofNat u :: r) i a = _
      rw [gv, e, if_neg (by omega), if_neg (by omega), if_neg (by omega), Nat.mod_eq_of_lt h]
    · have hp := pv_more u (by omega)
      rw [hp] at hi ⊢
      rw [List.length_cons] at hi ⊢
      have hq := pv_pos (u / 128)
      have e : (UInt8.ofNat (u % 128 + 128)).toNat = u % 128 + 128 := by rw [UInt8.toNat_ofNat']; omega
      rw [List.cons_append, gv, e, if_neg (by omega), if_pos (by omega), ih (u / 128) (by omega) (i + 1) _ (by omega) (fun _ => by omega)]
      have e2 : (u % 128 + 128) % 128 = u % 128 := by omega
      have e3 : 2 ^ (7 * (i + 1)) = 128 * 2 ^ (7 * i) := by rw [Nat.mul_add, Nat.pow_add]; omega
      have e4 : u % 128 * 2 ^ (7 * i) + u / 128 * (128 * 2 ^ (7 * i)) = u * 2 ^ (7 * i) := by
        rw [← Nat.mul_assoc, ← Nat.add_mul]
        congr 1
        omega
      rw [e2, e3]
      congr 1
      · omega
      · omega



set_option maxRecDepth 100000 in
set_option maxHeartbeats 1000000 in
theorem putvar_neg (v : Int) (w : World) (hv : v < 0) :
    Calls Tryz.prog 98 #[.int .i64 v] w fun e w' => e = .returned (.string ByteArray.empty) ∧ w = w' := by
  go_enter Tryz.func98, Tryz.ntmps98
  go_wp2
  go_ret
  exact ⟨rfl, rfl⟩

end Go.Proofs.YtmoffcgbjmeiaaaGreatDoor

namespace Go.Proofs.YtmoffcgbjmeiaaaGreatDoor
open Go.RowKit

set_option maxHeartbeats 400000 in
theorem compare_any (a b : ByteArray) (w : World) :
    Calls Tryz.prog 23 #[.string a, .string b] w fun e w' => e = .returned (.int .i64 (Lib.compareBytes a.data.toList b.data.toList)) ∧ w = w' := by
  go_enter Tryz.func23, Tryz.ntmps23
  go_wp2_with fail
  refine (Tryz.strings_Compare a b w).mono ?_
  rintro e w' ⟨rfl, rfl⟩
  go_wp2
  go_ret
  exact ⟨rfl, rfl⟩


/-! ### The order of bytes -/
theorem cmp_range (a b : List UInt8) : -1 ≤ Lib.compareBytes a b ∧ Lib.compareBytes a b ≤ 1 := by
  fun_induction Lib.compareBytes a b <;> first | omega | assumption
theorem cmp_swap (a b : List UInt8) : Lib.compareBytes b a = -Lib.compareBytes a b := by
  fun_induction Lib.compareBytes a b with
  | case1 => rfl
  | case2 => rfl
  | case3 => rfl
  | case4 x l y r h => rw [Lib.compareBytes, if_neg (by simp only [UInt8.lt_iff_toNat_lt] at *; omega), if_pos h]; rfl
  | case5 x l y r h h' => rw [Lib.compareBytes, if_pos h']
  | case6 x l y r h h' ih => rw [Lib.compareBytes, if_neg h', if_neg h, ih]
theorem cmp_eq (a b : List UInt8) : Lib.compareBytes a b = 0 ↔ a = b := by
  fun_induction Lib.compareBytes a b with
  | case1 => simp
  | case2 => simp
  | case3 => simp
  | case4 x l y r h => exact ⟨fun e => absurd e (by decide), fun e => by injection e with e1 _; subst e1; simp only [UInt8.lt_iff_toNat_lt] at h; omega⟩
  | case5 x l y r h h' => exact ⟨fun e => absurd e (by decide), fun e => by injection e with e1 _; subst e1; simp only [UInt8.lt_iff_toNat_lt] at h'; omega⟩
  | case6 x l y r h h' ih =>
    have e : x = y := by
      apply UInt8.toNat_inj.1
      simp only [UInt8.lt_iff_toNat_lt] at *
      omega
    rw [ih]; simp [e]
theorem cmp_trans (a b c : List UInt8) : Lib.compareBytes a b ≤ 0 → Lib.compareBytes b c ≤ 0 → Lib.compareBytes a c ≤ 0 ∧ (Lib.compareBytes a b < 0 → Lib.compareBytes a c < 0) := by
  fun_induction Lib.compareBytes a b generalizing c with
  | case1 => intro _ h; exact ⟨h, fun h => absurd h (by decide)⟩
  | case2 y bs =>
    intro _ h
    cases c with
    | nil => simp [Lib.compareBytes] at h
    | cons z cs => simp [Lib.compareBytes]
  | case3 => intro h; exact absurd h (by decide)
  | case4 x l y r h =>
    intro _ h2
    cases c with
    | nil => simp [Lib.compareBytes] at h2
    | cons z cs =>
      have hxz : x < z := by
        rw [Lib.compareBytes] at h2
        simp only [UInt8.lt_iff_toNat_lt] at *
        split at h2
        · omega
        · split at h2
          · exact absurd h2 (by decide)
          · omega
      rw [Lib.compareBytes, if_pos hxz]
      decide
  | case5 x l y r h h' => intro h; exact absurd h (by decide)
  | case6 x l y r h h' ih =>
    have e : x = y := by
      apply UInt8.toNat_inj.1
      simp only [UInt8.lt_iff_toNat_lt] at *
      omega
    subst e
    intro h1 h2
    cases c with
    | nil => simp [Lib.compareBytes] at h2
    | cons z cs =>
      rw [Lib.compareBytes] at h2 ⊢
      split
      · exact ⟨by decide, fun _ => by decide⟩
      · rename_i h3
        rw [if_neg h3] at h2
        split
        · rename_i h4; rw [if_pos h4] at h2; exact absurd h2 (by decide)
        · rename_i h4; rw [if_neg h4] at h2; exact ih cs h1 h2

theorem be_succ (v n : Nat) : be v (n + 1) = UInt8.ofNat (v / 2 ^ (8 * n) % 256) :: be v n := by
  unfold be
  rw [List.range_succ_eq_map, List.map_cons, List.map_map]
  congr 1
  apply List.map_congr_left
  intro i _
  simp only [Function.comp]
  rw [show n + 1 - 1 - i.succ = n - 1 - i from by omega]
theorem be_mod (v n : Nat) : be v n = be (v % 2 ^ (8 * n)) n := by
  unfold be
  apply List.map_congr_left
  intro i hi
  have hi : i < n := List.mem_range.1 hi
  have e : 2 ^ (8 * n) = 2 ^ (8 * (n - 1 - i)) * (256 * 2 ^ (8 * i)) := by
    rw [show (256 : Nat) = 2 ^ 8 from rfl, ← Nat.pow_add, ← Nat.pow_add]
    congr 1
    omega
  have e2 : v % 2 ^ (8 * n) / 2 ^ (8 * (n - 1 - i)) = v / 2 ^ (8 * (n - 1 - i)) % (256 * 2 ^ (8 * i)) := by rw [e, Nat.mod_mul_right_div_self]
  rw [e2, Nat.mod_mul_right_mod]
theorem be_cmp (n : Nat) : ∀ v u : Nat, v < 2 ^ (8 * n) → u < 2 ^ (8 * n) → Lib.compareBytes (be v n) (be u n) = if v < u then -1 else if v = u then 0 else 1 := by
  induction n with
  | zero =>
    intro v u hv hu
    have hv : v < 1 := hv
    have hu : u < 1 := hu
    obtain rfl : v = 0 := by omega
    obtain rfl : u = 0 := by omega
    rfl
  | succ n ih =>
    intro v u hv hu
    have hp : 2 ^ (8 * (n + 1)) = 256 * 2 ^ (8 * n) := by rw [Nat.mul_add, Nat.pow_add, Nat.mul_comm]
    have hv1 : v / 2 ^ (8 * n) < 256 := by rw [Nat.div_lt_iff_lt_mul (Nat.two_pow_pos _)]; omega
    have hu1 : u / 2 ^ (8 * n) < 256 := by rw [Nat.div_lt_iff_lt_mul (Nat.two_pow_pos _)]; omega
    have hm := ih (v % 2 ^ (8 * n)) (u % 2 ^ (8 * n)) (Nat.mod_lt _ (Nat.two_pow_pos _)) (Nat.mod_lt _ (Nat.two_pow_pos _))
    rw [← be_mod, ← be_mod] at hm
    rw [be_succ, be_succ, Lib.compareBytes, hm]
    have hvd := Nat.div_add_mod v (2 ^ (8 * n))
    have hud := Nat.div_add_mod u (2 ^ (8 * n))
    have hvl := Nat.mod_lt v (Nat.two_pow_pos (8 * n))
    have hul := Nat.mod_lt u (Nat.two_pow_pos (8 * n))
    generalize v / 2 ^ (8 * n) = A at *
    generalize u / 2 ^ (8 * n) = B at *
    generalize v % 2 ^ (8 * n) = C at *
    generalize u % 2 ^ (8 * n) = D at *
    generalize 2 ^ (8 * n) = M at *
    have hA : (UInt8.ofNat (A % 256)).toNat = A := by rw [UInt8.toNat_ofNat']; omega
    have hB : (UInt8.ofNat (B % 256)).toNat = B := by rw [UInt8.toNat_ofNat']; omega
    simp only [UInt8.lt_iff_toNat_lt, hA, hB]
    rcases Nat.lt_trichotomy A B with h | h | h
    · have h2 : M * A + M ≤ M * B := by rw [← Nat.mul_succ]; exact Nat.mul_le_mul_left _ h
      rw [if_pos h, if_pos (by omega)]
    · subst h
      rw [if_neg (by omega), if_neg (by omega)]
      by_cases h1 : C < D
      · rw [if_pos h1, if_pos (by omega)]
      · by_cases h2 : C = D
        · rw [if_neg h1, if_pos h2, if_neg (by omega), if_pos (by omega)]
        · rw [if_neg h1, if_neg h2, if_neg (by omega), if_neg (by omega)]
    · have h2 : M * B + M ≤ M * A := by rw [← Nat.mul_succ]; exact Nat.mul_le_mul_left _ h
      rw [if_neg (by omega), if_pos h, if_neg (by omega), if_neg (by omega)]

/-- What Put answers. -/
def PutIs (v n : Int) (s : ByteArray) (er : Int) : Prop :=
  (er = 0 ∧ 1 ≤ n ∧ n ≤ 7 ∧ 0 ≤ v ∧ v < 2 ^ (8 * n.toNat) ∧ s = ⟨(be v.toNat n.toNat).toArray⟩) ∨ (er = 1 ∧ s = ByteArray.empty ∧ (n < 1 ∨ 7 < n ∨ v < 0 ∨ 2 ^ (8 * n.toNat) ≤ v))

theorem put_cmp {v u n : Int} {s t : ByteArray} (hs : PutIs v n s 0) (ht : PutIs u n t 0) :
    (v < u ∧ Lib.compareBytes s.data.toList t.data.toList = -1) ∨ (v = u ∧ Lib.compareBytes s.data.toList t.data.toList = 0) ∨ (u < v ∧ Lib.compareBytes s.data.toList t.data.toList = 1) := by
  rcases hs with ⟨_, h1, h2, h3, h4, rfl⟩ | ⟨h, _⟩
  · rcases ht with ⟨_, _, _, g3, g4, rfl⟩ | ⟨h, _⟩
    · obtain ⟨v, rfl⟩ := Int.eq_ofNat_of_zero_le h3
      obtain ⟨u, rfl⟩ := Int.eq_ofNat_of_zero_le g3
      have a4 : v < 2 ^ (8 * n.toNat) := by exact_mod_cast h4
      have b4 : u < 2 ^ (8 * n.toNat) := by exact_mod_cast g4
      have := be_cmp n.toNat v u a4 b4
      simp only [Int.toNat_natCast]
      rw [this]
      rcases Nat.lt_trichotomy v u with h | h | h
      · exact .inl ⟨by omega, by rw [if_pos h]⟩
      · exact .inr (.inl ⟨by omega, by rw [if_neg (by omega), if_pos h]⟩)
      · exact .inr (.inr ⟨by omega, by rw [if_neg (by omega), if_neg (by omega)]⟩)
    · exact absurd h (by decide)
  · exact absurd h (by decide)

theorem put_any (v n : Int) (w : World) (hv0 : -9223372036854775808 ≤ v) (hv : v < 9223372036854775808) :
    Calls Tryz.prog 100 #[.int .i64 v, .int .i64 n] w fun e w' => ∃ (s : ByteArray) (er : Int), e = .returned (.tuple #[.string s, .int .i64 er]) ∧ Hid (PutIs v n s er) ∧ Below w.heap.size w w' := by
  by_cases h : n < 1 ∨ 7 < n ∨ v < 0 ∨ 2 ^ (8 * n.toNat) ≤ v
  · refine (put_bad v n w hv0 hv h).mono ?_
    rintro e w' ⟨rfl, rfl⟩
    exact ⟨_, _, rfl, Or.inr ⟨rfl, rfl, h⟩, Below.refl _ _⟩
  · obtain ⟨m, rfl⟩ := Int.eq_ofNat_of_zero_le (show 0 ≤ n by omega)
    obtain ⟨u, rfl⟩ := Int.eq_ofNat_of_zero_le (show 0 ≤ v by omega)
    rw [Int.toNat_natCast] at h
    have h8 : (u : Int) < 2 ^ (8 * m) := by omega
    have h9 : u < 2 ^ (8 * m) := by exact_mod_cast h8
    refine (put_ok u m w (by omega) (by omega) h9).mono ?_
    rintro e w' ⟨rfl, hb⟩
    exact ⟨_, _, rfl, Or.inl ⟨rfl, by omega, by omega, by omega, h8, rfl⟩, hb⟩

end Go.Proofs.YtmoffcgbjmeiaaaGreatDoor

namespace Go.Proofs.YtmoffcgbjmeiaaaGreatDoor
open Go.RowKit

theorem cmp9_cons (a b : UInt8) (r t : List UInt8) : Lib.compareBytes (a :: r) (b :: t) = if a.toNat < b.toNat then -1 else if b.toNat < a.toNat then 1 else Lib.compareBytes r t := by
  rw [Lib.compareBytes]
  simp only [UInt8.lt_iff_toNat_lt]
/-- The order of two texts, by their bytes. -/
def cmpT (a b : ByteArray) : Int := Lib.compareBytes a.data.toList b.data.toList

set_option maxRecDepth 100000 in
set_option maxHeartbeats 2000000 in
theorem rcompare9 (a b : ByteArray) (w : World) (ha : a.size ≤ 9223372036854775807) (hb : b.size ≤ 9223372036854775807) :
    Calls Tryz.prog 22 #[.string a, .string b] w fun e w' => e = .returned (.int .i64 (cmpT a b)) ∧ ∃ j, w' = w.drewN j := by
  have hla : a.data.toList.length = a.size := rfl
  have hlb : b.data.toList.length = b.size := rfl
  obtain ⟨g, hg⟩ : ∃ g, g = Lib.compareBytes a.data.toList b.data.toList := ⟨_, rfl⟩
  unfold cmpT
  rw [← hg]
  have Hg := Lib.hid hg
  have Hla := Lib.hid hla
  have Hlb := Lib.hid hlb
  clear hg hla hlb
  go_enter Tryz.func22, Tryz.ntmps22
  go_wp2_with fail
  go_loopw [5] (fun i wr => ∃ k j : Nat, k ≤ a.size ∧ k ≤ b.size ∧ i = .int .i64 (k : Int) ∧ Hid (g = Lib.compareBytes (a.data.toList.drop k) (b.data.toList.drop k)) ∧ Hid (wr = w.drewN j)) (fun i _ => a.size - (intOf i).toNat)
  case atStart => exact ⟨0, 0, by omega, by omega, rfl, Hg, Lib.hid rfl⟩
  case round =>
    obtain ⟨k, j0, hka, hkb, rfl, Hk, HW⟩ := hrel
    by_cases hl : k < a.size
    · by_cases hm : k < b.size
      · have hda : a.data.toList.drop k = a[k] :: a.data.toList.drop (k + 1) := List.drop_eq_getElem_cons (by simpa using hl)
        have hdb : b.data.toList.drop k = b[k] :: b.data.toList.drop (k + 1) := List.drop_eq_getElem_cons (by simpa using hm)
        have hk := Hk.out
        rw [hda, hdb, cmp9_cons] at hk
        have hka' : (k : Int) < (a.size : Int) := by omega
        have hkb' : (k : Int) < (b.size : Int) := by omega
        have hk0 : (0 : Int) ≤ (k : Int) := by omega
        clear hda hdb
        by_cases h1 : a[k].toNat < b[k].toNat
        · rw [if_pos h1] at hk
          have Hk2 := Lib.hid hk
          have e1 : decide (a[k].toNat < b[k].toNat) = true := decide_eq_true (by omega)
          clear hk h1
          go_wp2_with fail
          go_quiet (fail)
          go_wp2_with fail
          go_ret
          exact ⟨by rw [Hk2.out]; rfl, _, by rw [HW.out]; simp only [World.drewN_drewN]; rfl⟩
        · rw [if_neg h1] at hk
          have e1 : decide (a[k].toNat < b[k].toNat) = false := decide_eq_false (by omega)
          by_cases h2 : b[k].toNat < a[k].toNat
          · rw [if_pos h2] at hk
            have Hk2 := Lib.hid hk
            have e2 : decide (b[k].toNat < a[k].toNat) = true := decide_eq_true (by omega)
            clear hk h1 h2
            go_wp2_with fail
            go_quiet (fail)
            go_wp2_with fail
            go_quiet (fail)
            go_wp2_with fail
            go_ret
            exact ⟨by rw [Hk2.out]; rfl, _, by rw [HW.out]; simp only [World.drewN_drewN]; rfl⟩
          · rw [if_neg h2] at hk
            have Hk2 := Lib.hid hk
            have e2 : decide (b[k].toNat < a[k].toNat) = false := decide_eq_false (by omega)
            clear hk h1 h2
            go_wp2_with fail
            go_quiet (fail)
            go_wp2_with fail
            go_quiet (fail)
            go_wp2_with fail
            go_roundw
            case rel => exact ⟨k + 1, _, by omega, by omega, by go_num, Hk2, Lib.hid (by rw [HW.out]; simp only [World.drewN_drewN]; rfl)⟩
            case measure => simp [intOf]; omega
      · obtain rfl : k = b.size := by omega
        have hgg : g = 1 := by
          rw [Hk.out, List.drop_of_length_le (Nat.le_of_eq Hlb.out), show a.data.toList.drop b.size = a[b.size] :: a.data.toList.drop (b.size + 1) from List.drop_eq_getElem_cons (by simpa using hl)]
          rfl
        have Hgg := Lib.hid hgg
        clear hgg
        go_wp2_with fail
        go_ret
        exact ⟨by rw [Hgg.out]; rfl, j0, HW.out⟩
    · obtain rfl : k = a.size := by omega
      by_cases hm : a.size < b.size
      · have hgg : g = -1 := by
          rw [Hk.out, List.drop_of_length_le (Nat.le_of_eq Hla.out), show b.data.toList.drop a.size = b[a.size] :: b.data.toList.drop (a.size + 1) from List.drop_eq_getElem_cons (by simpa using hm)]
          rfl
        have Hgg := Lib.hid hgg
        clear hgg
        go_wp2_with fail
        go_ret
        exact ⟨by rw [Hgg.out]; rfl, j0, HW.out⟩
      · have heq : a.size = b.size := by omega
        have hgg : g = 0 := by
          rw [Hk.out, List.drop_of_length_le (Nat.le_of_eq Hla.out), List.drop_of_length_le (by rw [Hlb.out]; omega)]
          rfl
        have Hgg := Lib.hid hgg
        clear hgg
        have h3 : ¬ (b.size < a.size) := by omega
        go_wp2_with fail
        go_ret
        exact ⟨by rw [Hgg.out]; rfl, j0, HW.out⟩

theorem cmpT_range (a b : ByteArray) : -1 ≤ cmpT a b ∧ cmpT a b ≤ 1 := cmp_range _ _
theorem cmpT_swap (a b : ByteArray) : cmpT b a = -cmpT a b := cmp_swap _ _
theorem cmpT_eq (a b : ByteArray) : cmpT a b = 0 ↔ a = b := by
  unfold cmpT
  rw [cmp_eq]
  exact ⟨fun h => ByteArray.ext (Array.toList_inj.1 h), fun h => by rw [h]⟩
theorem cmpT_trans {a b c : ByteArray} (h : cmpT a b < 0) (h' : cmpT b c < 0) : cmpT a c < 0 := (cmp_trans _ _ _ (by unfold cmpT at h; omega) (by unfold cmpT at h'; omega)).2 h
theorem cmpT_le_lt {a b c : ByteArray} (h : cmpT a b ≤ 0) (h' : cmpT b c < 0) : cmpT a c < 0 := by
  by_cases e : cmpT a b = 0
  · rw [(cmpT_eq a b).1 e]; exact h'
  · exact cmpT_trans (by omega) h'
theorem cmpT_ge_gt {a b c : ByteArray} (h : 0 ≤ cmpT a c) (h' : cmpT a b < 0) : 0 < cmpT b c := by
  have h1 := cmpT_swap a c
  have h2 := cmpT_swap b c
  have h3 : cmpT c b < 0 := cmpT_le_lt (by omega) h'
  omega
end Go.Proofs.YtmoffcgbjmeiaaaGreatDoor

namespace Go.Proofs.YtmoffcgbjmeiaaaGreatDoor
open Go.RowKit

/-- A pair. -/
abbrev KV := ByteArray × ByteArray
abbrev bl (s : ByteArray) : List UInt8 := s.data.toList
theorem bl_len (s : ByteArray) : (bl s).length = s.size := rfl
theorem bl_mk (l : List UInt8) : bl ⟨l.toArray⟩ = l := rfl
theorem bl_inj {a b : ByteArray} (h : bl a = bl b) : a = b := by
  cases a; cases b
  have := Array.toList_inj.1 h
  simpa using this

/-- How many bytes two texts have in common at their beginnings. -/
def comL : List UInt8 → List UInt8 → Nat
  | a :: x, b :: y => if a = b then comL x y + 1 else 0
  | _, _ => 0
theorem comL_le : ∀ a b : List UInt8, comL a b ≤ a.length ∧ comL a b ≤ b.length
  | [], b => by cases b <;> simp [comL]
  | a :: x, [] => by simp [comL]
  | a :: x, b :: y => by
    have := comL_le x y
    rw [comL]
    split <;> simp <;> omega
theorem comL_take : ∀ a b : List UInt8, a.take (comL a b) = b.take (comL a b)
  | [], b => by cases b <;> simp [comL]
  | a :: x, [] => by simp [comL]
  | a :: x, b :: y => by
    rw [comL]
    split
    · rename_i h
      rw [List.take_succ_cons, List.take_succ_cons, comL_take x y, h]
    · simp
theorem comL_step (a b : List UInt8) (k : Nat) (ha : k < a.length) (hb : k < b.length) (h : a[k] = b[k]) : comL (a.drop k) (b.drop k) = comL (a.drop (k + 1)) (b.drop (k + 1)) + 1 := by
  rw [List.drop_eq_getElem_cons ha, List.drop_eq_getElem_cons hb, comL, if_pos h]
theorem comL_stop (a b : List UInt8) (k : Nat) (h : a.length ≤ k ∨ b.length ≤ k ∨ ∃ (ha : k < a.length) (hb : k < b.length), a[k] ≠ b[k]) : comL (a.drop k) (b.drop k) = 0 := by
  rcases h with h | h | ⟨ha, hb, h⟩
  · rw [List.drop_eq_nil_of_le h]; cases b.drop k <;> simp [comL]
  · rw [List.drop_eq_nil_of_le h]; cases a.drop k <;> simp [comL]
  · rw [List.drop_eq_getElem_cons ha, List.drop_eq_getElem_cons hb, comL, if_neg h]

/-- How many bytes the pair number i takes from the key ahead. -/
def comI (i : Nat) (prev k : List UInt8) : Nat := if i % 8 = 0 then 0 else comL k prev
theorem comI_le (i : Nat) (prev k : List UInt8) : comI i prev k ≤ k.length ∧ comI i prev k ≤ prev.length := by
  unfold comI
  split
  · exact ⟨Nat.zero_le _, Nat.zero_le _⟩
  · exact comL_le k prev
theorem comI_take (i : Nat) (prev k : List UInt8) : prev.take (comI i prev k) ++ k.drop (comI i prev k) = k := by
  unfold comI
  split
  · simp
  · rw [← comL_take k prev]; exact List.take_append_drop _ _
/-- The bytes of the pair number i. -/
def onePair (i : Nat) (prev k v : List UInt8) : List UInt8 :=
  pv (comI i prev k) ++ (pv (k.length - comI i prev k) ++ (pv v.length ++ (k.drop (comI i prev k) ++ v)))
/-- The bytes of pairs, from number i on. -/
def bodyL : Nat → List UInt8 → List KV → List UInt8
  | _, _, [] => []
  | i, prev, m :: r => onePair i prev (bl m.1) (bl m.2) ++ bodyL (i + 1) (bl m.1) r
/-- The last key. -/
def lastK (prev : List UInt8) : List KV → List UInt8
  | [] => prev
  | m :: r => lastK (bl m.1) r
theorem lastK_snoc (l : List KV) (m : KV) : ∀ prev, lastK prev (l ++ [m]) = bl m.1 := by
  induction l with
  | nil => intro prev; rfl
  | cons x r ih => intro prev; exact ih _
theorem bodyL_snoc (l : List KV) (m : KV) : ∀ i prev, bodyL i prev (l ++ [m]) = bodyL i prev l ++ onePair (i + l.length) (lastK prev l) (bl m.1) (bl m.2) := by
  induction l with
  | nil => intro i prev; simp [bodyL, lastK]
  | cons x r ih =>
    intro i prev
    rw [List.cons_append, bodyL, ih, bodyL, List.append_assoc, lastK, List.length_cons]
    rw [show i + 1 + r.length = i + (r.length + 1) from by omega]

/-- The pairs that bytes tell, from the last key on. -/
def readL : Nat → List UInt8 → List UInt8 → Option (List KV)
  | _, _, [] => some []
  | 0, _, _ :: _ => none
  | f + 1, last, c :: r =>
    match gv (c :: r) 0 0 with
    | .err _ => none
    | .ok x n1 => match gv ((c :: r).drop n1) 0 0 with
      | .err _ => none
      | .ok y n2 => match gv (((c :: r).drop n1).drop n2) 0 0 with
        | .err _ => none
        | .ok z n3 =>
          if last.length < x ∨ ((((c :: r).drop n1).drop n2).drop n3).length < y ∨ ((((c :: r).drop n1).drop n2).drop n3).length - y < z then none
          else (readL f (last.take x ++ ((((c :: r).drop n1).drop n2).drop n3).take y) (((((c :: r).drop n1).drop n2).drop n3).drop (y + z))).map
            fun q => (⟨(last.take x ++ ((((c :: r).drop n1).drop n2).drop n3).take y).toArray⟩, ⟨(((((c :: r).drop n1).drop n2).drop n3).drop y |>.take z).toArray⟩) :: q
theorem gv_pv0 (r : List UInt8) (u : Nat) (h : u < 9223372036854775808) : gv (pv u ++ r) 0 0 = .ok u (pv u).length := by
  have := gv_pv r u 0 0 (by have := pv_len9 u h; omega) (by omega)
  rw [this]
  congr 1 <;> omega
/-- Pairs whose sizes Go can hold. -/
def okP (l : List KV) : Prop := ∀ m ∈ l, m.1.size < 9223372036854775808 ∧ m.2.size < 9223372036854775808
/-- What pairs are as bytes is read as these pairs. -/
theorem readL_body : ∀ (l : List KV) (i f : Nat) (prev : List UInt8), okP l → l.length ≤ f → prev.length < 9223372036854775808 → readL f prev (bodyL i prev l) = some l := by
  intro l
  induction l with
  | nil => intro i f prev _ _ _; cases f <;> rfl
  | cons m l ih =>
    intro i f prev hok hf hp
    obtain ⟨f, rfl⟩ : ∃ g, f = g + 1 := ⟨f - 1, by simp at hf; omega⟩
    obtain ⟨h1, h2⟩ := hok m (List.mem_cons_self ..)
    obtain ⟨c1, c2⟩ := comI_le i prev (bl m.1)
    have ht := comI_take i prev (bl m.1)
    have hl1 : (bl m.1).length = m.1.size := rfl
    have hl2 : (bl m.2).length = m.2.size := rfl
    obtain ⟨n, hn⟩ : ∃ n, comI i prev (bl m.1) = n := ⟨_, rfl⟩
    obtain ⟨R, hR⟩ : ∃ R, bodyL (i + 1) (bl m.1) l = R := ⟨_, rfl⟩
    have hih := ih (i + 1) f (bl m.1) (fun x hx => hok x (List.mem_cons_of_mem _ hx)) (by simpa using hf) (by omega)
    rw [hR] at hih
    rw [bodyL, hR, onePair, hn]
    rw [hn] at c1 c2 ht
    have hpos := pv_pos n
    obtain ⟨B, hB⟩ : ∃ B, pv n ++ (pv ((bl m.1).length - n) ++ (pv (bl m.2).length ++ ((bl m.1).drop n ++ bl m.2))) ++ R = B := ⟨_, rfl⟩
    have g1 : gv B 0 0 = .ok n (pv n).length := by rw [← hB, List.append_assoc]; exact gv_pv0 _ n (by omega)
    have e1 : B.drop (pv n).length = pv ((bl m.1).length - n) ++ (pv (bl m.2).length ++ ((bl m.1).drop n ++ (bl m.2 ++ R))) := by
      rw [← hB, List.append_assoc, List.drop_append_of_le_length (Nat.le_refl _), List.drop_length]; simp
    have g2 : gv (B.drop (pv n).length) 0 0 = .ok ((bl m.1).length - n) (pv ((bl m.1).length - n)).length := by rw [e1]; exact gv_pv0 _ _ (by omega)
    have e2 : (B.drop (pv n).length).drop (pv ((bl m.1).length - n)).length = pv (bl m.2).length ++ ((bl m.1).drop n ++ (bl m.2 ++ R)) := by
      rw [e1, List.drop_append_of_le_length (Nat.le_refl _), List.drop_length]; simp
    have g3 : gv ((B.drop (pv n).length).drop (pv ((bl m.1).length - n)).length) 0 0 = .ok (bl m.2).length (pv (bl m.2).length).length := by rw [e2]; exact gv_pv0 _ _ (by omega)
    have e3 : ((B.drop (pv n).length).drop (pv ((bl m.1).length - n)).length).drop (pv (bl m.2).length).length = (bl m.1).drop n ++ (bl m.2 ++ R) := by
      rw [e2, List.drop_append_of_le_length (Nat.le_refl _), List.drop_length]; simp
    have hBne : B ≠ [] := by
      intro h
      have := congrArg List.length hB
      rw [h] at this
      simp only [List.length_append, List.length_nil] at this
      omega
    rw [hB]
    obtain ⟨c, r, rfl⟩ := List.exists_cons_of_ne_nil hBne
    rw [readL, g1]
    dsimp only
    rw [g2]
    dsimp only
    rw [g3]
    dsimp only
    rw [e3]
    have hd : ((bl m.1).drop n).length = (bl m.1).length - n := List.length_drop ..
    rw [if_neg (by simp; omega)]
    have t1 : ((bl m.1).drop n ++ (bl m.2 ++ R)).take ((bl m.1).length - n) = (bl m.1).drop n := by rw [← hd]; exact List.take_left
    have t2 : ((bl m.1).drop n ++ (bl m.2 ++ R)).drop ((bl m.1).length - n) = bl m.2 ++ R := by rw [← hd]; exact List.drop_left
    have t3 : ((bl m.1).drop n ++ (bl m.2 ++ R)).drop ((bl m.1).length - n + (bl m.2).length) = R := by
      rw [← List.drop_drop, t2]; exact List.drop_left
    rw [t1, t2, t3, ht, hih, List.take_left]
    rfl

/-- The bytes of a block. -/
def blkL (l : List KV) : List UInt8 := (bodyL 0 [] l ++ be l.length 4) ++ be (crc (bodyL 0 [] l ++ be l.length 4)) 4
theorem blkL_length (l : List KV) : (blkL l).length = (bodyL 0 [] l).length + 8 := by
  unfold blkL
  rw [List.length_append, List.length_append, be_length, be_length]
theorem blkL_body (l : List KV) : (blkL l).take ((blkL l).length - 8) = bodyL 0 [] l := by
  rw [blkL_length, Nat.add_sub_cancel]
  unfold blkL
  rw [List.append_assoc]
  exact List.take_left
/-- Do the keys rise? -/
def risesK : List KV → Bool
  | a :: b :: r => decide (cmpT a.1 b.1 < 0) && risesK (b :: r)
  | _ => true
/-- Is a key or a value too long? -/
def longK (l : List KV) : Bool := l.any fun m => decide (65536 < m.1.size) || decide (65536 < m.2.size)
/-- What Build answers. -/
def buildP (l : List KV) : ByteArray × Int :=
  if risesK l = false then (ByteArray.empty, 32) else if longK l = true then (ByteArray.empty, 2) else if 524288 < (blkL l).length then (ByteArray.empty, 2) else (⟨(blkL l).toArray⟩, 0)
theorem buildP_ok {l : List KV} {b : ByteArray} (h : buildP l = (b, 0)) : risesK l = true ∧ longK l = false ∧ (blkL l).length ≤ 524288 ∧ b = ⟨(blkL l).toArray⟩ := by
  unfold buildP at h
  split at h
  · simp at h
  · split at h
    · simp at h
    · split at h
      · simp at h
      · rename_i h1 h2 h3
        exact ⟨by simpa using h1, by simpa using h2, by omega, (congrArg Prod.fst h).symm⟩
theorem longK_ok {l : List KV} (h : longK l = false) : ∀ m ∈ l, m.1.size ≤ 65536 ∧ m.2.size ≤ 65536 := by
  intro m hm
  unfold longK at h
  rw [List.any_eq_false] at h
  have := h m hm
  simp at this
  exact this
/-- What Parse answers. -/
def parseP (b : ByteArray) : List KV × Int :=
  if b.size < 8 then ([], 31) else match readL b.size [] ((bl b).take (b.size - 8)) with
    | none => ([], 31)
    | some l => if buildP l = (b, 0) then (l, 0) else ([], 31)
theorem body_count : ∀ (l : List KV) (i : Nat) (prev : List UInt8), l.length ≤ (bodyL i prev l).length := by
  intro l
  induction l with
  | nil => intro i prev; exact Nat.zero_le _
  | cons m l ih =>
    intro i prev
    have h1 := ih (i + 1) (bl m.1)
    have h2 := pv_pos (comI i prev (bl m.1))
    rw [bodyL, onePair]
    simp only [List.length_append, List.length_cons]
    omega
theorem parse_build {l : List KV} {b : ByteArray} (h : buildP l = (b, 0)) : parseP b = (l, 0) := by
  obtain ⟨h1, h2, h3, h4⟩ := buildP_ok h
  have hb : bl b = blkL l := by rw [h4]
  have hs : b.size = (blkL l).length := by rw [← hb]; rfl
  have h8 := blkL_length l
  have hc := body_count l 0 []
  have hr : readL b.size [] ((bl b).take (b.size - 8)) = some l := by
    rw [hs, hb, blkL_body]
    refine readL_body l 0 _ [] (fun m hm => ?_) (by omega) (by decide)
    have := longK_ok h2 m hm
    omega
  unfold parseP
  rw [if_neg (by omega), hr]
  dsimp only
  rw [if_pos h]
theorem parse_ok {l : List KV} {b : ByteArray} {e : Int} (h : parseP b = (l, e)) : (e = 0 ∧ buildP l = (b, 0)) ∨ (e = 31 ∧ l = []) := by
  unfold parseP at h
  split at h
  · exact Or.inr ⟨(congrArg Prod.snd h).symm, (congrArg Prod.fst h).symm⟩
  · split at h
    · exact Or.inr ⟨(congrArg Prod.snd h).symm, (congrArg Prod.fst h).symm⟩
    · split at h
      · rename_i h1
        obtain rfl := (congrArg Prod.fst h)
        exact Or.inl ⟨(congrArg Prod.snd h).symm, h1⟩
      · exact Or.inr ⟨(congrArg Prod.snd h).symm, (congrArg Prod.fst h).symm⟩
theorem parse_no {b : ByteArray} (h : ∀ l, buildP l ≠ (b, 0)) : parseP b = ([], 31) := by
  obtain ⟨l, e, hp⟩ : ∃ l e, parseP b = (l, e) := ⟨_, _, rfl⟩
  rcases parse_ok hp with ⟨_, h1⟩ | ⟨h1, h2⟩
  · exact absurd h1 (h l)
  · rw [hp, h1, h2]
/-- What Seek answers. -/
def seekL : List KV → ByteArray → ByteArray × ByteArray × Int
  | [], _ => (ByteArray.empty, ByteArray.empty, 22)
  | m :: r, key => if cmpT m.1 key < 0 then seekL r key else (m.1, m.2, 0)
def seekP (b key : ByteArray) : ByteArray × ByteArray × Int := if (parseP b).2 = 0 then seekL (parseP b).1 key else (ByteArray.empty, ByteArray.empty, (parseP b).2)
end Go.Proofs.YtmoffcgbjmeiaaaGreatDoor

namespace Go.Proofs.YtmoffcgbjmeiaaaGreatDoor
open Go.RowKit

theorem be4_inj {v u : Nat} (hv : v < 4294967296) (hu : u < 4294967296) (h : be v 4 = be u 4) : v = u := by
  have g : ∀ k, k < 4 → v / 2 ^ (8 * (4 - 1 - k)) % 256 = u / 2 ^ (8 * (4 - 1 - k)) % 256 := by
    intro k hk
    have := (be_get v 4 k hk).symm.trans ((congrArg (·[k]?) h).trans (be_get u 4 k hk))
    have := congrArg UInt8.toNat (Option.some.inj this)
    rw [UInt8.toNat_ofNat', UInt8.toNat_ofNat'] at this
    omega
  have g0 : v / 16777216 % 256 = u / 16777216 % 256 := g 0 (by decide)
  have g1 : v / 65536 % 256 = u / 65536 % 256 := g 1 (by decide)
  have g2 : v / 256 % 256 = u / 256 % 256 := g 2 (by decide)
  have g3 : v / 1 % 256 = u / 1 % 256 := g 3 (by decide)
  omega
theorem crc_lt (l : List UInt8) : crc l < 4294967296 := by unfold crc; omega
/-- Of bytes of which one is changed Parse tells that they are none. -/
theorem parse_changed {l : List KV} {b b' : ByteArray} (h : buildP l = (b, 0)) {k : Nat} {c : UInt8} (hk : k < (bl b).length) (hc : (bl b)[k] ≠ c) (hb' : bl b' = (bl b).set k c) : parseP b' = ([], 31) := by
  refine parse_no fun l' h' => ?_
  obtain ⟨_, _, _, e1⟩ := buildP_ok h
  obtain ⟨_, _, _, e2⟩ := buildP_ok h'
  have f1 : bl b = blkL l := by rw [e1]
  have f2 : bl b' = blkL l' := by rw [e2]
  obtain ⟨P, hP⟩ : ∃ P, bodyL 0 [] l ++ be l.length 4 = P := ⟨_, rfl⟩
  obtain ⟨Q, hQ⟩ : ∃ Q, bodyL 0 [] l' ++ be l'.length 4 = Q := ⟨_, rfl⟩
  unfold blkL at f1 f2
  rw [hP] at f1
  rw [hQ, hb'] at f2
  have hl := congrArg List.length f2
  have hl1 := congrArg List.length f1
  rw [List.length_set] at hl
  rw [List.length_append, be_length] at hl hl1
  have hPQ : Q.length = P.length := by omega
  by_cases hkP : k < P.length
  · have g : (P ++ be (crc P) 4).set k c = P.set k c ++ be (crc P) 4 := List.set_append_left _ _ hkP
    rw [f1, g] at f2
    obtain ⟨q1, q2⟩ := List.append_inj f2 (by rw [List.length_set]; omega)
    have hcr := be4_inj (crc_lt _) (crc_lt _) q2
    have hne : P[k] ≠ c := by
      intro e
      refine hc ?_
      rw [← e]
      have : (bl b)[k]? = P[k]? := by rw [f1, List.getElem?_append_left hkP]
      rw [List.getElem?_eq_getElem hk, List.getElem?_eq_getElem hkP] at this
      exact Option.some.inj this
    rw [← q1] at hcr
    exact crc_changed P k hkP c hne hcr
  · have g : (P ++ be (crc P) 4).set k c = P ++ (be (crc P) 4).set (k - P.length) c := List.set_append_right _ _ (by omega)
    rw [f1, g] at f2
    obtain ⟨q1, q2⟩ := List.append_inj f2 hPQ.symm
    rw [← q1] at q2
    have hk2 : k - P.length < (be (crc P) 4).length := by rw [be_length]; omega
    have e1 : (bl b)[k]? = (be (crc P) 4)[k - P.length]? := by rw [f1, List.getElem?_append_right (by omega)]
    have e2 : (be (crc P) 4)[k - P.length]? = some c := by rw [← q2, List.getElem?_set_self (by rw [be_length]; rw [be_length] at hk2; exact hk2)]
    rw [e2, List.getElem?_eq_getElem hk] at e1
    exact hc (Option.some.inj e1)

/-! ### What is sought -/
theorem rises_tail {a : KV} {l : List KV} (h : risesK (a :: l) = true) : risesK l = true ∧ ∀ m ∈ l, cmpT a.1 m.1 < 0 := by
  induction l generalizing a with
  | nil => exact ⟨rfl, fun m hm => by cases hm⟩
  | cons b r ih =>
    rw [risesK, Bool.and_eq_true, decide_eq_true_eq] at h
    obtain ⟨h1, h2⟩ := ih h.2
    refine ⟨h.2, fun m hm => ?_⟩
    rcases List.mem_cons.1 hm with rfl | hm
    · exact h.1
    · exact cmpT_trans h.1 (h2 m hm)
theorem rises_get : ∀ {l : List KV} {i j : Nat} {a b : KV}, risesK l = true → i < j → l[i]? = some a → l[j]? = some b → cmpT a.1 b.1 < 0
  | [], _, _, _, _, _, _, ha, _ => by simp at ha
  | x :: r, 0, j + 1, a, b, h, _, ha, hb => by
    simp at ha hb
    subst ha
    exact (rises_tail h).2 b (List.mem_of_getElem? hb)
  | x :: r, i + 1, j + 1, a, b, h, hij, ha, hb => rises_get (l := r) (i := i) (j := j) (rises_tail h).1 (by omega) (by simpa using ha) (by simpa using hb)
theorem seek_at : ∀ {l : List KV} {i : Nat} {a : KV} {key : ByteArray}, l[i]? = some a → (∀ j m, j < i → l[j]? = some m → cmpT m.1 key < 0) → ¬ cmpT a.1 key < 0 → seekL l key = (a.1, a.2, 0)
  | [], _, _, _, h, _, _ => by simp at h
  | x :: r, 0, a, key, h, _, hn => by
    simp at h
    subst h
    rw [seekL, if_neg hn]
  | x :: r, i + 1, a, key, h, hj, hn => by
    rw [seekL, if_pos (hj 0 x (by omega) rfl)]
    exact seek_at (l := r) (i := i) (by simpa using h) (fun j m hjm hm => hj (j + 1) m (by omega) (by simpa using hm)) hn
theorem seek_none : ∀ {l : List KV} {key : ByteArray}, (∀ m ∈ l, cmpT m.1 key < 0) → seekL l key = (ByteArray.empty, ByteArray.empty, 22)
  | [], _, _ => rfl
  | x :: r, key, h => by
    rw [seekL, if_pos (h x (List.mem_cons_self ..))]
    exact seek_none fun m hm => h m (List.mem_cons_of_mem _ hm)
theorem seek_cases : ∀ (l : List KV) (key : ByteArray), (∃ (i : Nat) (a : KV), l[i]? = some a ∧ seekL l key = (a.1, a.2, 0) ∧ 0 ≤ cmpT a.1 key) ∨ (seekL l key = (ByteArray.empty, ByteArray.empty, 22) ∧ ∀ m ∈ l, cmpT m.1 key < 0)
  | [], key => Or.inr ⟨rfl, fun m hm => by cases hm⟩
  | x :: r, key => by
    by_cases h : cmpT x.1 key < 0
    · rcases seek_cases r key with ⟨i, a, h1, h2, h3⟩ | ⟨h1, h2⟩
      · exact Or.inl ⟨i + 1, a, by simpa using h1, by rw [seekL, if_pos h]; exact h2, h3⟩
      · refine Or.inr ⟨by rw [seekL, if_pos h]; exact h1, fun m hm => ?_⟩
        rcases List.mem_cons.1 hm with rfl | hm
        · exact h
        · exact h2 m hm
    · exact Or.inl ⟨0, x, rfl, by rw [seekL, if_neg h], by omega⟩
/-- A key with a zero byte behind it stands just behind the key. -/
theorem cmp_zero_lt : ∀ a : List UInt8, Lib.compareBytes a (a ++ [0]) < 0
  | [] => by decide
  | a :: r => by
    rw [List.cons_append, cmp9_cons, if_neg (by omega), if_neg (by omega)]
    exact cmp_zero_lt r
theorem cmp_zero_le : ∀ a b : List UInt8, Lib.compareBytes a b < 0 → Lib.compareBytes (a ++ [0]) b ≤ 0
  | [], [], h => absurd h (by decide)
  | [], c :: r, _ => by
    rw [List.nil_append, cmp9_cons]
    split
    · decide
    · split
      · rename_i h2; exact absurd h2 (by simp)
      · cases r <;> simp [Lib.compareBytes]
  | a :: x, [], h => absurd h (by simp [Lib.compareBytes])
  | a :: x, b :: y, h => by
    rw [cmp9_cons] at h
    rw [List.cons_append, cmp9_cons]
    split
    · decide
    · rename_i h1
      rw [if_neg h1] at h
      split
      · rename_i h2; rw [if_pos h2] at h; exact absurd h (by decide)
      · rename_i h2; rw [if_neg h2] at h; exact cmp_zero_le x y h
theorem cmpT_zero {a z : ByteArray} (hz : bl z = bl a ++ [0]) : cmpT a z < 0 ∧ ∀ b, cmpT a b < 0 → cmpT z b ≤ 0 := by
  unfold cmpT
  rw [show z.data.toList = a.data.toList ++ [0] from hz]
  exact ⟨cmp_zero_lt _, fun b h => cmp_zero_le _ _ h⟩
/-- What BlockSeeks asks of each key. -/
theorem seeks_at {l : List KV} (hR : risesK l = true) {i : Nat} {a : KV} (ha : l[i]? = some a) {z : ByteArray} (hz : bl z = bl a.1 ++ [0]) :
    seekL l a.1 = (a.1, a.2, 0) ∧ (∀ b, l[i + 1]? = some b → seekL l z = (b.1, b.2, 0)) ∧ (l.length = i + 1 → seekL l z = (ByteArray.empty, ByteArray.empty, 22)) := by
  obtain ⟨z1, z2⟩ := cmpT_zero hz
  have hself : ¬ cmpT a.1 a.1 < 0 := by rw [(cmpT_eq _ _).2 rfl]; decide
  refine ⟨seek_at ha (fun j m hj hm => rises_get hR hj hm ha) hself, fun b hb => ?_, fun hl => ?_⟩
  · refine seek_at hb (fun j m hj hm => ?_) ?_
    · rcases Nat.lt_or_ge j i with h | h
      · exact cmpT_trans (rises_get hR h hm ha) z1
      · obtain rfl : j = i := by omega
        rw [ha] at hm
        cases hm
        exact z1
    · have h1 := z2 b.1 (rises_get hR (Nat.lt_succ_self i) ha hb)
      have h2 := cmpT_swap z b.1
      omega
  · refine seek_none fun m hm => ?_
    obtain ⟨j, hj⟩ := List.mem_iff_getElem?.1 hm
    have hjl := (List.getElem?_eq_some_iff.1 hj).1
    rcases Nat.lt_or_ge j i with h | h
    · exact cmpT_trans (rises_get hR h hj ha) z1
    · obtain rfl : j = i := by omega
      rw [ha] at hj
      cases hj
      exact z1

/-! ### How long a block is -/
theorem pv_three (n : Nat) (h : n < 2097152) : 1 ≤ (pv n).length ∧ (pv n).length ≤ 3 := ⟨pv_pos n, pv_len 3 n (by omega) (by decide)⟩
/-- What keys and values have together, with nine bytes for each pair. -/
def sumK : List KV → Nat
  | [] => 0
  | m :: r => 9 + m.1.size + m.2.size + sumK r
/-- What keys have in common with those ahead. -/
def comK : Nat → List UInt8 → List KV → Nat
  | _, _, [] => 0
  | i, prev, m :: r => comI i prev (bl m.1) + comK (i + 1) (bl m.1) r
theorem body_bounds : ∀ (l : List KV) (i : Nat) (prev : List UInt8), (∀ m ∈ l, m.1.size ≤ 65536 ∧ m.2.size ≤ 65536) → (bodyL i prev l).length + comK i prev l ≤ sumK l ∧ 3 * l.length ≤ (bodyL i prev l).length
  | [], _, _, _ => ⟨Nat.zero_le _, Nat.zero_le _⟩
  | m :: r, i, prev, h => by
    obtain ⟨h1, h2⟩ := body_bounds r (i + 1) (bl m.1) fun x hx => h x (List.mem_cons_of_mem _ hx)
    obtain ⟨s1, s2⟩ := h m (List.mem_cons_self ..)
    have c1 := (comI_le i prev (bl m.1)).1
    have l1 : (bl m.1).length = m.1.size := rfl
    have l2 : (bl m.2).length = m.2.size := rfl
    have p1 := pv_three (comI i prev (bl m.1)) (by omega)
    have p2 := pv_three ((bl m.1).length - comI i prev (bl m.1)) (by omega)
    have p3 := pv_three (bl m.2).length (by omega)
    rw [bodyL, onePair, comK, sumK]
    simp only [List.length_append, List.length_cons, List.length_drop]
    omega
theorem blk_bounds {l : List KV} (h : longK l = false) : (blkL l).length + comK 0 [] l ≤ 8 + sumK l ∧ 8 + 3 * l.length ≤ (blkL l).length := by
  have := body_bounds l 0 [] (longK_ok h)
  rw [blkL_length]
  omega
theorem sumK_snoc (l : List KV) (m : KV) : sumK (l ++ [m]) = sumK l + (9 + m.1.size + m.2.size) := by
  induction l with
  | nil => simp [sumK]
  | cons x r ih => rw [List.cons_append, sumK, sumK, ih]; omega
theorem comK_snoc (l : List KV) (m : KV) : ∀ i prev, comK i prev (l ++ [m]) = comK i prev l + comI (i + l.length) (lastK prev l) (bl m.1) := by
  induction l with
  | nil => intro i prev; simp [comK, lastK]
  | cons x r ih =>
    intro i prev
    rw [List.cons_append, comK, ih, comK, lastK, List.length_cons]
    rw [show i + 1 + r.length = i + (r.length + 1) from by omega]
    omega
end Go.Proofs.YtmoffcgbjmeiaaaGreatDoor

namespace Go.Proofs.YtmoffcgbjmeiaaaGreatDoor
open Go.RowKit

theorem gv_ok : ∀ (l : List UInt8) (i a v n : Nat), gv l i a = .ok v n → i < n ∧ n ≤ i + l.length
  | [], i, a, v, n, h => by
    rw [gv] at h
    split at h <;> cases h
  | c :: r, i, a, v, n, h => by
    rw [gv] at h
    split at h
    · cases h
    · split at h
      · have := gv_ok r _ _ _ _ h
        simp only [List.length_cons]
        omega
      · split at h
        · cases h
        · cases h
          simp only [List.length_cons]
          omega
/-- Numbers read one behind the other. -/
def thr : Nat → List UInt8 → List Nat → Option (List Nat × List UInt8)
  | 0, r, acc => some (acc, r)
  | m + 1, r, acc => match gv r 0 0 with
    | .err _ => none
    | .ok v n => thr m (r.drop n) (acc ++ [v])
theorem thr_err {m : Nat} {r : List UInt8} {acc : List Nat} {e : Int} (h : gv r 0 0 = .err e) : thr (m + 1) r acc = none := by rw [thr, h]
theorem thr_ok {m : Nat} {r : List UInt8} {acc : List Nat} {v n : Nat} (h : gv r 0 0 = .ok v n) : thr (m + 1) r acc = thr m (r.drop n) (acc ++ [v]) := by rw [thr, h]
/-- What a pair's three numbers make of the rest. -/
def pairOf (last : List UInt8) (x y z : Nat) (t : List UInt8) : Option KV :=
  if last.length < x ∨ t.length < y ∨ t.length - y < z then none else some (⟨(last.take x ++ t.take y).toArray⟩, ⟨(t.drop y |>.take z).toArray⟩)
theorem readL_three (f : Nat) (last : List UInt8) (r : List UInt8) (hr : r ≠ []) :
    readL (f + 1) last r = match thr 3 r [] with
      | some ([x, y, z], t) => match pairOf last x y z t with
        | none => none
        | some m => (readL f (bl m.1) (t.drop (y + z))).map (m :: ·)
      | _ => none := by
  obtain ⟨c, r, rfl⟩ := List.exists_cons_of_ne_nil hr
  rw [readL, thr]
  cases h1 : gv (c :: r) 0 0 with
  | err e => rfl
  | ok x n1 =>
    dsimp only
    rw [thr]
    cases h2 : gv ((c :: r).drop n1) 0 0 with
    | err e => rfl
    | ok y n2 =>
      dsimp only
      rw [thr]
      cases h3 : gv (((c :: r).drop n1).drop n2) 0 0 with
      | err e => rfl
      | ok z n3 =>
        dsimp only
        rw [thr]
        dsimp only [List.nil_append, List.append_assoc, List.cons_append]
        unfold pairOf
        split
        · rfl
        · rfl
theorem readL_nil (f : Nat) (last : List UInt8) : readL f last [] = some [] := by cases f <;> rfl
/-- The pairs so far, and what the rest tells. -/
def goOn (l : List KV) : Option (List KV) → Option (List KV)
  | none => none
  | some r => some (l ++ r)
theorem goOn_nil (o : Option (List KV)) : goOn [] o = o := by cases o <;> rfl
theorem goOn_cons (l : List KV) (m : KV) (o : Option (List KV)) : goOn l (o.map (m :: ·)) = goOn (l ++ [m]) o := by
  cases o <;> simp [goOn]
end Go.Proofs.YtmoffcgbjmeiaaaGreatDoor

namespace Go.Proofs.YtmoffcgbjmeiaaaGreatDoor
open Go.RowKit

theorem comL_comm : ∀ a b : List UInt8, comL a b = comL b a
  | [], b => by cases b <;> simp [comL]
  | a :: x, [] => by simp [comL]
  | a :: x, b :: y => by
    rw [comL, comL, comL_comm x y]
    by_cases h : a = b
    · rw [if_pos h, if_pos h.symm]
    · rw [if_neg h, if_neg (fun e => h e.symm)]

set_option maxRecDepth 100000 in
set_option maxHeartbeats 2000000 in
theorem common_zero (i : Nat) (a k : ByteArray) (w : World) (hi : i < 4611686018427387904) (h8 : i % 8 = 0) :
    Calls Tryz.prog 25 #[.int .i64 (i : Int), .string a, .string k] w fun e w' => e = .returned (.int .i64 0) ∧ w' = w := by
  have e1 : ((i : Int) % 8 == 0) = true := by rw [beq_iff_eq]; omega
  clear h8
  generalize hr : (i : Int) % 8 = r at *
  go_enter Tryz.func25, Tryz.ntmps25
  go_wp2_with fail
  go_ret
  exact ⟨rfl, rfl⟩

set_option maxRecDepth 100000 in
set_option maxHeartbeats 2000000 in
theorem common_loop (i : Nat) (a k : ByteArray) (w : World) (hi : i < 4611686018427387904) (h8 : i % 8 ≠ 0) (ha : a.size ≤ 9223372036854775807) (hk : k.size ≤ 9223372036854775807) :
    Calls Tryz.prog 25 #[.int .i64 (i : Int), .string a, .string k] w fun e w' => e = .returned (.int .i64 (comL (bl k) (bl a) : Int)) ∧ ∃ j, w' = w.drewN j := by
  have e1 : ((i : Int) % 8 == 0) = false := by rw [beq_eq_false_iff_ne]; omega
  have hla : (bl a).length = a.size := rfl
  have hlk : (bl k).length = k.size := rfl
  obtain ⟨g, hg⟩ : ∃ g, comL (bl k) (bl a) = g := ⟨_, rfl⟩
  rw [hg]
  have Hg := Lib.hid hg
  have Hla := Lib.hid hla
  have Hlk := Lib.hid hlk
  clear h8 hg hla hlk
  generalize hr : (i : Int) % 8 = r at *
  go_enter Tryz.func25, Tryz.ntmps25
  go_wp2_with fail
  go_loopw [7] (fun i wr => ∃ k0 j : Nat, k0 ≤ a.size ∧ k0 ≤ k.size ∧ i = .int .i64 (k0 : Int) ∧ Hid (g = k0 + comL ((bl k).drop k0) ((bl a).drop k0)) ∧ Hid (wr = w.drewN j)) (fun i _ => a.size - (intOf i).toNat)
  case atStart => exact ⟨0, 0, by omega, by omega, rfl, Lib.hid (by rw [← Hg.out]; simp), Lib.hid rfl⟩
  case round =>
    obtain ⟨n, j0, hna, hnk, rfl, Hk, HW⟩ := hrel
    have n0 : (0 : Int) ≤ (n : Int) := by omega
    by_cases hl : n < a.size
    · by_cases hm : n < k.size
      · have hka' : (n : Int) < (a.size : Int) := by omega
        have hkb' : (n : Int) < (k.size : Int) := by omega
        by_cases h1 : k[n] = a[n]
        · have hk2 : g = (n + 1) + comL ((bl k).drop (n + 1)) ((bl a).drop (n + 1)) := by
            have := Hk.out
            rw [comL_step (bl k) (bl a) n (by rw [Hlk.out]; exact hm) (by rw [Hla.out]; exact hl) h1] at this
            omega
          have Hk2 := Lib.hid hk2
          have e2 : ((a[n].toNat : Int) == (k[n].toNat : Int)) = true := by rw [beq_iff_eq, h1]
          clear hk2 h1 Hk
          go_wp2_with fail
          go_quiet (fail)
          go_wp2_with fail
          go_roundw
          case rel => exact ⟨n + 1, _, by omega, by omega, by go_num, Hk2, Lib.hid (by rw [HW.out]; simp only [World.drewN_drewN]; rfl)⟩
          case measure => simp [intOf]; omega
        · have hk2 : g = n := by
            have := Hk.out
            rw [comL_stop (bl k) (bl a) n (Or.inr (Or.inr ⟨by rw [Hlk.out]; exact hm, by rw [Hla.out]; exact hl, h1⟩))] at this
            omega
          have Hk2 := Lib.hid hk2
          have e2 : ((a[n].toNat : Int) == (k[n].toNat : Int)) = false := by
            rw [beq_eq_false_iff_ne]
            intro e
            exact h1 (UInt8.toNat_inj.1 (by omega))
          clear hk2 h1 Hk
          go_wp2_with fail
          go_quiet (fail)
          go_wp2_with fail
          go_ret
          exact ⟨by rw [Hk2.out]; rfl, _, by rw [HW.out]; simp only [World.drewN_drewN]; rfl⟩
      · have hk2 : g = n := by
          have := Hk.out
          rw [comL_stop (bl k) (bl a) n (Or.inl (by rw [Hlk.out]; omega))] at this
          omega
        have Hk2 := Lib.hid hk2
        have hm' : ¬ (n : Int) < (k.size : Int) := by omega
        have hl' : (n : Int) < (a.size : Int) := by omega
        clear hk2 Hk
        go_wp2_with fail
        go_quiet (fail)
        go_wp2_with fail
        go_ret
        exact ⟨by rw [Hk2.out]; rfl, _, by rw [HW.out]; simp only [World.drewN_drewN]; rfl⟩
    · have hk2 : g = n := by
        have := Hk.out
        rw [comL_stop (bl k) (bl a) n (Or.inr (Or.inl (by rw [Hla.out]; omega)))] at this
        omega
      have Hk2 := Lib.hid hk2
      have hl' : ¬ (n : Int) < (a.size : Int) := by omega
      clear hk2 Hk
      go_wp2_with fail
      go_quiet (fail)
      go_wp2_with fail
      go_ret
      exact ⟨by rw [Hk2.out]; rfl, _, by rw [HW.out]; simp only [World.drewN_drewN]; rfl⟩
theorem common_any (i : Nat) (a k : ByteArray) (w : World) (hi : i < 4611686018427387904) (ha : a.size ≤ 9223372036854775807) (hk : k.size ≤ 9223372036854775807) :
    Calls Tryz.prog 25 #[.int .i64 (i : Int), .string a, .string k] w fun e w' => e = .returned (.int .i64 (comI i (bl a) (bl k) : Int)) ∧ ∃ j, w' = w.drewN j := by
  unfold comI
  by_cases h : i % 8 = 0
  · rw [if_pos h]
    exact (common_zero i a k w hi h).mono fun e w' ⟨h1, h2⟩ => ⟨h1, 0, h2⟩
  · rw [if_neg h]
    exact common_loop i a k w hi h ha hk
set_option maxRecDepth 100000 in
set_option maxHeartbeats 1000000 in
theorem fixed_any (v : Nat) (w : World) (hv : v < 4294967296) :
    Calls Tryz.prog 28 #[.int .i64 (v : Int)] w fun e w' => e = .returned (.string ⟨(be v 4).toArray⟩) ∧ Below w.heap.size w w' := by
  have C := Lib.hid (put_ok v 4 w (by decide) (by decide) hv)
  go_enter Tryz.func28, Tryz.ntmps28
  go_wp2_with fail
  refine C.out.mono ?_
  rintro e w1 ⟨rfl, hb⟩
  go_wp2_with fail
  go_ret
  exact ⟨rfl, hb⟩
set_option maxRecDepth 100000 in
set_option maxHeartbeats 1000000 in
theorem must_yes (w : World) : Calls Tryz.prog 101 #[.bool true] w fun e w' => e = .returned (.tuple #[]) ∧ w' = w := by
  go_enter Tryz.func101, Tryz.ntmps101
  go_wp2_with fail
  go_end0
  exact ⟨rfl, rfl⟩
/-- A step gave up. -/
abbrev gaveB : Ending := .panicked [{ v := .iface 42 (.int .i64 31), recovered := false }]
set_option maxRecDepth 100000 in
set_option maxHeartbeats 1000000 in
theorem must_no (w : World) : Calls Tryz.prog 101 #[.bool false] w fun e w' => e = gaveB ∧ w' = w := by
  go_enter Tryz.func101, Tryz.ntmps101
  go_wp2_with fail
  exact ⟨rfl, rfl, rfl⟩
end Go.Proofs.YtmoffcgbjmeiaaaGreatDoor

namespace Go.Proofs.YtmoffcgbjmeiaaaGreatDoor
open Go.RowKit

/-- A digit of sixteen. -/
def hx (n : Nat) : UInt8 := if n < 10 then UInt8.ofNat (48 + n) else UInt8.ofNat (87 + n)
/-- A byte in quotes. -/
def qb (c : UInt8) : List UInt8 :=
  if c.toNat < 32 ∨ 126 < c.toNat then [92, 120, hx (c.toNat / 16), hx (c.toNat % 16)] else if c.toNat = 34 ∨ c.toNat = 92 then [92, c] else [c]
def quoteL (l : List UInt8) : List UInt8 := 34 :: (l.map qb).flatten ++ [34]
theorem qb_len (c : UInt8) : 1 ≤ (qb c).length ∧ (qb c).length ≤ 4 := by
  unfold qb
  split
  · simp
  · split <;> simp
theorem flat_len (l : List UInt8) : (l.map qb).flatten.length ≤ 4 * l.length := by
  induction l with
  | nil => simp
  | cons c r ih =>
    have := (qb_len c).2
    rw [List.map_cons, List.flatten_cons, List.length_append, List.length_cons]
    omega
theorem flat_snoc (s : ByteArray) (k : Nat) (h : k < s.size) : ((s.data.toList.take (k + 1)).map qb).flatten = ((s.data.toList.take k).map qb).flatten ++ qb s[k] := by
  rw [List.take_succ_eq_append_getElem (by simpa using h), List.map_append, List.flatten_append]
  simp; rfl

theorem hexidx0 (W : World) : (Instr.index 9 (.string ⟨#[48, 49, 50, 51, 52, 53, 54, 55, 56, 57, 97, 98, 99, 100, 101, 102]⟩) (.int .u8 0)).run Tryz.prog W = .ok (.int .u8 48) W := by kernel_rfl
theorem hexidx1 (W : World) : (Instr.index 9 (.string ⟨#[48, 49, 50, 51, 52, 53, 54, 55, 56, 57, 97, 98, 99, 100, 101, 102]⟩) (.int .u8 1)).run Tryz.prog W = .ok (.int .u8 49) W := by kernel_rfl
theorem hexidx2 (W : World) : (Instr.index 9 (.string ⟨#[48, 49, 50, 51, 52, 53, 54, 55, 56, 57, 97, 98, 99, 100, 101, 102]⟩) (.int .u8 2)).run Tryz.prog W = .ok (.int .u8 50) W := by kernel_rfl
theorem hexidx3 (W : World) : (Instr.index 9 (.string ⟨#[48, 49, 50, 51, 52, 53, 54, 55, 56, 57, 97, 98, 99, 100, 101, 102]⟩) (.int .u8 3)).run Tryz.prog W = .ok (.int .u8 51) W := by kernel_rfl
theorem hexidx4 (W : World) : (Instr.index 9 (.string ⟨#[48, 49, 50, 51, 52, 53, 54, 55, 56, 57, 97, 98, 99, 100, 101, 102]⟩) (.int .u8 4)).run Tryz.prog W = .ok (.int .u8 52) W := by kernel_rfl
theorem hexidx5 (W : World) : (Instr.index 9 (.string ⟨#[48, 49, 50, 51, 52, 53, 54, 55, 56, 57, 97, 98, 99, 100, 101, 102]⟩) (.int .u8 5)).run Tryz.prog W = .ok (.int .u8 53) W := by kernel_rfl
theorem hexidx6 (W : World) : (Instr.index 9 (.string ⟨#[48, 49, 50, 51, 52, 53, 54, 55, 56, 57, 97, 98, 99, 100, 101, 102]⟩) (.int .u8 6)).run Tryz.prog W = .ok (.int .u8 54) W := by kernel_rfl
theorem hexidx7 (W : World) : (Instr.index 9 (.string ⟨#[48, 49, 50, 51, 52, 53, 54, 55, 56, 57, 97, 98, 99, 100, 101, 102]⟩) (.int .u8 7)).run Tryz.prog W = .ok (.int .u8 55) W := by kernel_rfl
theorem hexidx8 (W : World) : (Instr.index 9 (.string ⟨#[48, 49, 50, 51, 52, 53, 54, 55, 56, 57, 97, 98, 99, 100, 101, 102]⟩) (.int .u8 8)).run Tryz.prog W = .ok (.int .u8 56) W := by kernel_rfl
theorem hexidx9 (W : World) : (Instr.index 9 (.string ⟨#[48, 49, 50, 51, 52, 53, 54, 55, 56, 57, 97, 98, 99, 100, 101, 102]⟩) (.int .u8 9)).run Tryz.prog W = .ok (.int .u8 57) W := by kernel_rfl
theorem hexidx10 (W : World) : (Instr.index 9 (.string ⟨#[48, 49, 50, 51, 52, 53, 54, 55, 56, 57, 97, 98, 99, 100, 101, 102]⟩) (.int .u8 10)).run Tryz.prog W = .ok (.int .u8 97) W := by kernel_rfl
theorem hexidx11 (W : World) : (Instr.index 9 (.string ⟨#[48, 49, 50, 51, 52, 53, 54, 55, 56, 57, 97, 98, 99, 100, 101, 102]⟩) (.int .u8 11)).run Tryz.prog W = .ok (.int .u8 98) W := by kernel_rfl
theorem hexidx12 (W : World) : (Instr.index 9 (.string ⟨#[48, 49, 50, 51, 52, 53, 54, 55, 56, 57, 97, 98, 99, 100, 101, 102]⟩) (.int .u8 12)).run Tryz.prog W = .ok (.int .u8 99) W := by kernel_rfl
theorem hexidx13 (W : World) : (Instr.index 9 (.string ⟨#[48, 49, 50, 51, 52, 53, 54, 55, 56, 57, 97, 98, 99, 100, 101, 102]⟩) (.int .u8 13)).run Tryz.prog W = .ok (.int .u8 100) W := by kernel_rfl
theorem hexidx14 (W : World) : (Instr.index 9 (.string ⟨#[48, 49, 50, 51, 52, 53, 54, 55, 56, 57, 97, 98, 99, 100, 101, 102]⟩) (.int .u8 14)).run Tryz.prog W = .ok (.int .u8 101) W := by kernel_rfl
theorem hexidx15 (W : World) : (Instr.index 9 (.string ⟨#[48, 49, 50, 51, 52, 53, 54, 55, 56, 57, 97, 98, 99, 100, 101, 102]⟩) (.int .u8 15)).run Tryz.prog W = .ok (.int .u8 102) W := by kernel_rfl
theorem hexidx (n : Nat) (h : n < 16) (W : World) : (Instr.index 9 (.string ⟨#[48, 49, 50, 51, 52, 53, 54, 55, 56, 57, 97, 98, 99, 100, 101, 102]⟩) (.int .u8 (n : Int))).run Tryz.prog W = .ok (.int .u8 ((hx n).toNat : Int)) W := by
  match n, h with
  | 0, _ => exact hexidx0 W
  | 1, _ => exact hexidx1 W
  | 2, _ => exact hexidx2 W
  | 3, _ => exact hexidx3 W
  | 4, _ => exact hexidx4 W
  | 5, _ => exact hexidx5 W
  | 6, _ => exact hexidx6 W
  | 7, _ => exact hexidx7 W
  | 8, _ => exact hexidx8 W
  | 9, _ => exact hexidx9 W
  | 10, _ => exact hexidx10 W
  | 11, _ => exact hexidx11 W
  | 12, _ => exact hexidx12 W
  | 13, _ => exact hexidx13 W
  | 14, _ => exact hexidx14 W
  | 15, _ => exact hexidx15 W
  | n + 16, h => omega
theorem and_15 : ∀ c : Nat, c < 256 → bits .and .u8 (c : Int) 15 = ((c % 16 : Nat) : Int) := by decide +kernel

end Go.Proofs.YtmoffcgbjmeiaaaGreatDoor

namespace Go.Proofs.YtmoffcgbjmeiaaaGreatDoor
open Go.RowKit

/-! ### The reader's steps, of its whole block -/
theorem nextB_some (p k : Nat) (s : ByteArray) (er : Int) (w : World) (hB : Blk w p 193 #[.string s, .int .i64 k]) (hk : k < s.size) (hs : s.size ≤ 9223372036854775807) :
    Calls Tryz.prog 155 #[.pointer (some ⟨p, 0, none⟩), .int .i64 er] w fun e w' => e = .returned (.int .u8 (s[k]'hk).toNat) ∧ Blk w' p 193 #[.string s, .int .i64 ((k : Int) + 1)] ∧ w.grownBy w' (some p) := by
  refine (next_some p k s er w (hB.cell 0) (hB.cell 1) (hB.frozen 1) hk hs).mono ?_
  rintro e w' ⟨he, n, rfl⟩
  exact ⟨he, (hB.set_ 1 _).drewN n, only_drewN (only_setCell (World.grownBy.refl _ _) (.inl rfl) _) _⟩
theorem nextB_end (p : Nat) (s : ByteArray) (er : Int) (w : World) (hB : Blk w p 193 #[.string s, .int .i64 (s.size : Int)]) (hs : s.size ≤ 9223372036854775807) :
    Calls Tryz.prog 155 #[.pointer (some ⟨p, 0, none⟩), .int .i64 er] w fun e w' => e = .panicked [{ v := .iface 42 (.int .i64 er), recovered := false }] ∧ w.grownBy w' (some p) := by
  refine (next_end p s er w (hB.cell 0) (hB.cell 1) hs).mono ?_
  rintro e w' ⟨he, n, rfl⟩
  exact ⟨he, only_drewN (World.grownBy.refl _ _) n⟩

/-! ### Digits -/
/-- The worth of a digit of sixteen. -/
def hexv (c : Nat) : Option Nat := if 97 ≤ c ∧ c ≤ 102 then some (c - 87) else if 65 ≤ c ∧ c ≤ 70 then some (c - 55) else if 48 ≤ c ∧ c ≤ 57 then some (c - 48) else none

def HexPost (w : World) : Option Nat → Ending → World → Prop
  | some v, e, w' => e = .returned (.int .u8 (v : Int)) ∧ w = w'
  | none, e, w' => e = .panicked [{ v := .iface 42 (.int .i64 4), recovered := false }] ∧ w = w'

/-! ### What stands behind a backslash -/
def escx : List UInt8 → Option (UInt8 × Nat)
  | a :: b :: _ => (hexv a.toNat).bind fun x => (hexv b.toNat).map fun y => (UInt8.ofNat (16 * x + y), 3)
  | _ => none
def esc : List UInt8 → Option (UInt8 × Nat)
  | [] => none
  | c :: r => if c.toNat = 34 ∨ c.toNat = 92 then some (c, 1) else if c.toNat = 120 then escx r else none

theorem escx_cons (a b : UInt8) (t : List UInt8) : escx (a :: b :: t) = (hexv a.toNat).bind fun x => (hexv b.toNat).map fun y => (UInt8.ofNat (16 * x + y), 3) := rfl
theorem hexv_lt {c v : Nat} (h : hexv c = some v) : v < 16 := by
  unfold hexv at h
  split at h
  · injection h; omega
  · split at h
    · injection h; omega
    · split at h
      · injection h; omega
      · cases h

def EscPost (p k : Nat) (s : ByteArray) (w : World) : Option (UInt8 × Nat) → Ending → World → Prop
  | some (c, n), e, w' => e = .returned (.int .u8 (c.toNat : Int)) ∧ Blk w' p 193 #[.string s, .int .i64 ((k + n : Nat) : Int)] ∧ w.grownBy w' (some p)
  | none, e, w' => e = .panicked [{ v := .iface 42 (.int .i64 4), recovered := false }] ∧ w.grownBy w' (some p)

theorem grown_trans {a b c : World} {p : Nat} (h : a.grownBy b (some p)) (k : b.grownBy c (some p)) : a.grownBy c (some p) :=
  ⟨k.os.trans h.os, k.tape.trans h.tape, k.output.trans h.output, Nat.le_trans h.size k.size, fun i hi hne => (k.block i (Nat.lt_of_lt_of_le hi h.size) hne).trans (h.block i hi hne)⟩

theorem or_nib (x y : Nat) (hx : x < 16) (hy : y < 16) : bits .or .u8 ((x : Int) * 16) (y : Int) = ((UInt8.ofNat (16 * x + y)).toNat : Int) := by
  have h : ∀ x < 16, ∀ y < 16, bits .or .u8 (((x * 16 : Nat) : Int)) ((y : Nat) : Int) = ((16 * x + y : Nat) : Int) := by decide +kernel
  rw [show ((x : Int) * 16) = ((x * 16 : Nat) : Int) from by omega, h x hx y hy, u8_of _ (by omega)]

/-! ### What stands in quotes, behind the first of them -/
theorem esc_pos {l : List UInt8} {c : UInt8} {n : Nat} (h : esc l = some (c, n)) : 1 ≤ n ∧ n ≤ l.length := by
  cases l with
  | nil => cases h
  | cons a r =>
    rw [esc] at h
    split at h
    · injection h with h; injection h with _ h; subst h; simp
    · split at h
      · cases r with
        | nil => cases h
        | cons b t =>
          cases t with
          | nil => cases h
          | cons d t =>
            rw [escx_cons] at h
            cases hx : hexv b.toNat with
            | none => rw [hx] at h; cases h
            | some x =>
              cases hy : hexv d.toNat with
              | none => rw [hx, hy] at h; cases h
              | some y =>
                rw [hx, hy] at h
                injection h with h; injection h with _ h; subst h; simp
      · cases h

def uq (l : List UInt8) : Option (List UInt8 × Nat) :=
  match l with
  | [] => none
  | c :: r => if c.toNat = 34 then some ([], 1) else if c.toNat = 92 then
      match _h : esc r with
      | some (d, n) => (uq (r.drop n)).map fun x => (d :: x.1, x.2 + n + 1)
      | none => none
    else if 32 ≤ c.toNat ∧ c.toNat ≤ 126 then (uq r).map fun x => (c :: x.1, x.2 + 1) else none
  termination_by l.length
  decreasing_by
    · simp; omega
    · simp
/-- acc has been gathered out of n bytes; the rest says x. -/
def onto (acc : List UInt8) (n : Nat) (x : Option (List UInt8 × Nat)) : Option (List UInt8 × Nat) := x.map fun x => (acc ++ x.1, n + x.2)

theorem uq_end (c : UInt8) (r : List UInt8) (h : c.toNat = 34) : uq (c :: r) = some ([], 1) := by rw [uq, if_pos h]
theorem uq_esc (c : UInt8) (r : List UInt8) (d : UInt8) (n : Nat) (h : c.toNat = 92) (he : esc r = some (d, n)) (acc : List UInt8) (m : Nat) : onto acc m (uq (c :: r)) = onto (acc ++ [d]) (m + 1 + n) (uq (r.drop n)) := by
  rw [uq, if_neg (by omega), if_pos h]
  split
  · rename_i d' n' h'
    rw [he] at h'
    injection h' with h'
    injection h' with h1 h2
    subst h1; subst h2
    unfold onto
    cases uq (r.drop n) with
    | none => rfl
    | some x =>
      simp
      omega
  · rename_i h'
    rw [he] at h'
    cases h'
theorem uq_bad (c : UInt8) (r : List UInt8) (h : c.toNat = 92) (he : esc r = none) : uq (c :: r) = none := by
  rw [uq, if_neg (by omega), if_pos h]
  split
  · rename_i d' n' h'
    rw [he] at h'
    cases h'
  · rfl
theorem uq_plain (c : UInt8) (r : List UInt8) (h1 : c.toNat ≠ 34) (h2 : c.toNat ≠ 92) (h : 32 ≤ c.toNat ∧ c.toNat ≤ 126) (acc : List UInt8) (m : Nat) : onto acc m (uq (c :: r)) = onto (acc ++ [c]) (m + 1) (uq r) := by
  rw [uq, if_neg h1, if_neg h2, if_pos h]
  unfold onto
  cases uq r with
  | none => rfl
  | some x =>
    simp
    omega
theorem uq_not (c : UInt8) (r : List UInt8) (h1 : c.toNat ≠ 34) (h2 : c.toNat ≠ 92) (h : ¬ (32 ≤ c.toNat ∧ c.toNat ≤ 126)) : uq (c :: r) = none := by
  rw [uq, if_neg h1, if_neg h2, if_neg h]

def unq : List UInt8 → Option (List UInt8 × Nat)
  | [] => none
  | c :: r => if c.toNat = 34 then onto [] 1 (uq r) else none

def QuotPost (p : Nat) (s : ByteArray) (w : World) : Option (List UInt8 × Nat) → Ending → World → Prop
  | some (l, n), e, w' => e = .returned (.string ⟨l.toArray⟩) ∧ Blk w' p 193 #[.string s, .int .i64 (n : Int)] ∧ w.grownBy w' (some p)
  | none, e, w' => e = .panicked [{ v := .iface 42 (.int .i64 4), recovered := false }] ∧ w.grownBy w' (some p)
end Go.Proofs.YtmoffcgbjmeiaaaGreatDoor

namespace Go.Proofs.YtmoffcgbjmeiaaaGreatDoor
open Go.RowKit

/-! ### Get -/
def getL (l : List UInt8) : Nat := l.foldl (fun a c => a * 256 + c.toNat) 0
theorem getL_snoc (s : ByteArray) (k : Nat) (h : k < s.size) : getL (s.data.toList.take (k + 1)) = getL (s.data.toList.take k) * 256 + s[k].toNat := by
  unfold getL
  rw [List.take_succ_eq_append_getElem (by simpa using h), List.foldl_append]
  rfl

set_option maxRecDepth 100000 in
set_option maxHeartbeats 1000000 in
theorem get_bad (s : ByteArray) (w : World) (h : s.size < 1 ∨ 7 < s.size) :
    Calls Tryz.prog 135 #[.string s] w fun e w' => e = .returned (.tuple #[.int .i64 0, .int .i64 1]) ∧ w = w' := by
  by_cases h1 : s.size < 1
  · have h2 : decide (7 < (s.size : Int)) = false := decide_eq_false (by omega)
    clear h
    go_enter Tryz.func135, Tryz.ntmps135
    go_wp2
    go_ret2
    exact ⟨rfl, rfl⟩
  · have h2 : 7 < s.size := by omega
    clear h
    go_enter Tryz.func135, Tryz.ntmps135
    go_wp2
    go_ret2
    exact ⟨rfl, rfl⟩

set_option maxRecDepth 100000 in
set_option maxHeartbeats 1000000 in
theorem get_ok (s : ByteArray) (w : World) (h1 : 1 ≤ s.size) (h7 : s.size ≤ 7) :
    Calls Tryz.prog 135 #[.string s] w fun e w' => e = .returned (.tuple #[.int .i64 (getL s.data.toList : Int), .int .i64 0]) ∧ w = w' := by
  go_enter Tryz.func135, Tryz.ntmps135
  go_wp2
  go_loop [4, 16] (fun v i => ∃ k a : Nat, k ≤ s.size ∧ i = .int .i64 (k : Int) ∧ v = .int .i64 (a : Int) ∧ a < 2 ^ (8 * k) ∧ Hid (a = getL (s.data.toList.take k))) (fun _ i => s.size - (intOf i).toNat)
  case atStart => exact ⟨0, 0, by omega, rfl, rfl, by decide, rfl⟩
  case round =>
    obtain ⟨k, a, hk, rfl, rfl, ha, Ha⟩ := hrel
    by_cases hl : k < s.size
    · have hb8 := UInt8.toNat_lt s[k]
      have h56 : (2 : Nat) ^ (8 * k) ≤ 2 ^ 48 := Nat.pow_le_pow_right (by decide) (by omega)
      have ha48 : a < 281474976710656 := by omega
      have ho : bits .or .i64 ((a : Int) * 256) (s[k].toNat : Int) = ((a * 256 + s[k].toNat : Nat) : Int) := by
        have h1 := i64_or_nat (a * 256) s[k].toNat (by omega) (by omega)
        have h2 : a * 256 ||| s[k].toNat = a * 256 + s[k].toNat := by
          have := Nat.two_pow_add_eq_or_of_lt (i := 8) (b := s[k].toNat) (by omega) a
          rw [show 2 ^ 8 * a = a * 256 from by omega] at this
          exact this.symm
        rw [h2] at h1
        exact h1
      have hlt : a * 256 + s[k].toNat < 2 ^ (8 * (k + 1)) := by
        have : 2 ^ (8 * (k + 1)) = 2 ^ (8 * k) * 256 := by rw [Nat.mul_add, Nat.pow_add]
        omega
      have hsn := getL_snoc s k hl
      rw [← Ha.out] at hsn
      obtain ⟨x, hx⟩ : ∃ x, x = a * 256 + s[k].toNat := ⟨_, rfl⟩
      rw [← hx] at ho hlt hsn
      have Hsn := Lib.hid hsn
      have Hlt := Lib.hid hlt
      clear hsn hlt hx ha h56
      go_wp2
      go_round
      case rel => exact ⟨k + 1, x, by omega, by go_num, rfl, Hlt.out, Hsn.out.symm⟩
      case measure => simp [intOf]; omega
    · obtain rfl : k = s.size := by omega
      have hae : a = getL s.data.toList := by
        have := Ha.out
        rwa [List.take_of_length_le (by simp)] at this
      have Hae := Lib.hid hae
      clear hae
      go_wp2
      go_ret2
      exact ⟨by rw [← Hae.out]; rfl, rfl⟩

/-! ### Number -/
def digs : List UInt8 → Nat → Option Nat
  | [], a => some a
  | c :: r, a => if 48 ≤ c.toNat ∧ c.toNat ≤ 57 then digs r (a * 10 + (c.toNat - 48)) else none
def natL (l : List UInt8) : Option Nat := if l.length < 1 ∨ 16 < l.length ∨ (l.headD 0).toNat = 48 then none else digs l 0

def NatPost (w : World) : Option Nat → Ending → World → Prop
  | some v, e, w' => e = .returned (.int .i64 (v : Int)) ∧ w = w'
  | none, e, w' => e = .panicked [{ v := .iface 42 (.int .i64 4), recovered := false }] ∧ w = w'

end Go.Proofs.YtmoffcgbjmeiaaaGreatDoor
