/-
  Several texts in one: Plain lemmas on numbers, bits and worlds. No program is named.
  Slices of numbers and of texts that came in: what a walk asks of them, out of how they read. No program is named.
  Walks over package vec, part 1: Leq, Same, isCount, Valid.
  Walks over package vec, part 2: slices of numbers that a call makes: Clone, With, each, Join, Meet.
  An append that leaves what was there readable; rows of numbers that are apart. No program is named.
  The book of lists, of any kind: what a call turns (Tn), elements as cells (El), rows of a kind that are apart, rows that grow. No program is named.
  Walks over package raw, part 4: PutVar.
  Walks over package raw, part 5: Put and Get.
  Walks over package raw, part 6: Sum.
  The check sum, without the program: one byte changed changes it.
  Walks over package raw, part 1: the reader's steps.
  Walks over package raw, part 2: a number in groups of seven bits.
  Walks over package raw, part 3: GetVar, with its deferred closure.
  DERIVED: THE SHELF's CONTRACTS AT THIS DUMP, IN PLAIN WORDS (tools/lay-plain.mjs out of 'TryShelf.lean', which tools/lay-shelf.mjs wrote): THE SAME DECLARATIONS UNDER THE SAME NAMES: 'import', 'namespace', 'open', 'def', 'theorem' AND NOTHING ELSE: no command of the shelf's: FOR A HAND-IN. Each laying: the table of numbers ('.._ren') and one theorem, a field a fact of the dump's own or the kernel's comparison; each contract: ONE APPLICATION.
  Digits, over the table of the powers of ten that the laws lay.
  The walk over the laws' first call (alive), and what the laws ask of the tables.
  RawShort: of a number in few bytes no beginning is taken for it.
  The order of bytes; what Compare and Put answer.
  The order of texts, plain; the document's own Compare.
  Chapter 11, plain: what a block of pairs is, as bytes; which bytes are one. No program is named.
  Manifests, as plain values, 1: what an edit makes of a state (no program is named).
  Manifests, as plain values, 2: what holds of each state that edits made; notes in whatever order (no program is named).
  The document's own answers to chapter 14, part 1: whole, at, texts; files as they can be read in a world.
  The book of lists: the names that mark texts.
  The book of lists, Ints: marks, copies, are two alike? (Written by wip/gen/gen_bk.py.)
  Files as rows of a kind: a row of a call's own can be read; which files stand on a level, their numbers, how many bytes they have (plain).
  The landed package pick, part 1: of, numbers, Bytes.
-/
import Derived.WalkKit
import Derived.WalkSpells
import Derived.WalkLawsBesides
import Derived.Below
import Derived.Deep.Draws
import Derived.Deep.OwnRows
import Derived.OwnWalk
import Derived.Laws.AppendOwn
import Derived.Laws.BitsAllLaws
import Derived.Laws.BitsLemmas
import Derived.Lib.Hide
import Derived.ChangeSame
import Derived.ProofKit
import Derived.OpenShut
import Derived.SliceStrings
import Derived.Test.YtcljocmaojfhhaaRows
import Derived.Deep.QuietTactic
import Derived.BigQuiet
import Derived.Deep.Onto
import Derived.Lib.LaidTab
import Derived.Defers
import Derived.Recover
import Derived.Shelf.Small.Strs
import Derived.Shelf.Small.Wraps
import Derived.Ground.Names2Prog
import Derived.Shelf.Slices.SearchI
import Derived.Test.YtcljocmaojfhhaaProg
import Derived.Sort.Grow
import Derived.Lib.ItoaNum
import Derived.Lib.Strings
import Derived.Lib.Bytealg
import Derived.LoopTactic
import Derived.Test.YtcljocmaojfhhaaChecked
import Derived.DeepKeys
namespace Go.Proofs.Ytcljocmaojfhhaa
open Go.RowKit

theorem ofInt_i64 (a : Nat) (ha : a < 9223372036854775808) : (BitVec.ofInt 64 (a : Int)).toNat = a := by
  rw [BitVec.ofInt_natCast, BitVec.toNat_ofNat]; exact Nat.mod_eq_of_lt (by omega)
theorem i64_or_nat (a b : Nat) (ha : a < 9223372036854775808) (hb : b < 9223372036854775808) : bits .or .i64 (a : Int) (b : Int) = ((a ||| b : Nat) : Int) := by
  have hx : a ||| b < 2 ^ 63 := Nat.or_lt_two_pow (by omega) (by omega)
  show IntKind.i64.wrap ((BitVec.ofInt 64 (a : Int) ||| BitVec.ofInt 64 (b : Int)).toNat : Int) = _
  rw [BitVec.toNat_or, ofInt_i64 a ha, ofInt_i64 b hb, IntKind.wrap_i64]
  omega

theorem size_mk (l : List UInt8) : (⟨l.toArray⟩ : ByteArray).size = l.length := by simp [ByteArray.size]
theorem ret_int {k : IntKind} {a b : Int} (h : a = b) : Ending.returned (.int k a) = .returned (.int k b) := by rw [h]
theorem only_drewN {a w : World} {row : Option Nat} (h : a.grownBy w row) (n : Nat) : a.grownBy (w.drewN n) row := ⟨h.os, h.tape, h.output, h.size, h.block⟩
theorem only_drew {a w : World} {row : Option Nat} (h : a.grownBy w row) : a.grownBy w.drew row := ⟨h.os, h.tape, h.output, h.size, h.block⟩
theorem only_alloc {a w : World} {row : Option Nat} (h : a.grownBy w row) (o : Obj) : a.grownBy (w.alloc o) row :=
  ⟨h.os, h.tape, h.output, Nat.le_trans h.size (by simp), fun i hi hne => (Below.heap_alloc w o i (Nat.lt_of_lt_of_le hi h.size)).trans (h.block i hi hne)⟩
theorem only_setCell {a w : World} {g : Nat} (h : a.grownBy w (some g)) {p : Addr} (hp : p.block = g ∨ a.heap.size ≤ p.block) (u : Value) : a.grownBy (w.setCell p u) (some g) :=
  ⟨h.os, h.tape, h.output, by simpa [World.setCell] using h.size, fun i hi hne => (Below.heap_setCell w p u i (by
    rintro rfl
    rcases hp with hp | hp
    · exact hne (by rw [hp])
    · omega)).trans (h.block i hi hne)⟩

/-- Block g is just the cells cs, of element type t, none of them frozen. -/
def Blk (w : World) (g : Nat) (t : TypeId) (cs : Array Value) : Prop := w.heap[g]? = some (.cells cs t (0, 0))

section
variable {w w' : World} {g : Nat} {t : TypeId} {cs : Array Value}
theorem Blk.lt (h : Blk w g t cs) : g < w.heap.size := by
  rcases Nat.lt_or_ge g w.heap.size with hlt | hge
  · exact hlt
  · unfold Blk at h; rw [Array.getElem?_eq_none hge] at h; cases h
theorem Blk.cell (h : Blk w g t cs) (i : Nat) : w.cell? ⟨g, i, none⟩ = cs[i]? := cell_of_row w g i cs t (0, 0) h
theorem Blk.frozen (h : Blk w g t cs) (i : Nat) : w.frozen? ⟨g, i, none⟩ = false := by
  unfold Blk at h
  simp [World.frozen?, h]
theorem Blk.new (w : World) (t : TypeId) (cs : Array Value) : Blk (w.alloc (.cells cs t)) w.heap.size t cs := heap_alloc_new w _
theorem Blk.new' {w : World} {g : Nat} (h : w.heap.size = g) (t : TypeId) (cs : Array Value) : Blk (w.alloc (.cells cs t)) g t cs := h ▸ heap_alloc_new w _
theorem Blk.drew (h : Blk w g t cs) : Blk w.drew g t cs := h
theorem Blk.drewN (h : Blk w g t cs) (n : Nat) : Blk (w.drewN n) g t cs := h
theorem Blk.alloc (h : Blk w g t cs) (o : Obj) : Blk (w.alloc o) g t cs := (Below.heap_alloc w o g h.lt).trans h
theorem Blk.set_ (h : Blk w g t cs) (i : Nat) (u : Value) : Blk (w.setCell ⟨g, i, none⟩ u) g t (cs.setIfInBounds i u) := by
  unfold Blk at h ⊢
  simp [World.setCell, Array.getElem?_modify, h]
theorem Blk.far (h : Blk w g t cs) {p : Addr} (hp : g ≠ p.block) (u : Value) : Blk (w.setCell p u) g t cs := (Below.heap_setCell w p u g hp).trans h
theorem Blk.below {B : Nat} (h : Blk w g t cs) (hb : Below B w w') (hg : g < B) : Blk w' g t cs := (hb.block g hg).trans h
theorem Blk.grown {row : Option Nat} (h : Blk w g t cs) (hb : w.grownBy w' row) (hg : some g ≠ row) : Blk w' g t cs := (hb.block g h.lt hg).trans h
theorem Blk.ne_ {g' : Nat} {t' : TypeId} {cs' : Array Value} (h : Blk w g t cs) (h' : Blk w g' t' cs') (hne : t ≠ t') : g ≠ g' := by
  rintro rfl
  unfold Blk at h h'
  rw [h] at h'
  injection h' with h'
  injection h' with _ ht
  exact hne ht
end

theorem obj_set {w : World} {g : Nat} {cs : Array Value} {t : TypeId} {fr : Nat × Nat} (h : w.heap[g]? = some (.cells cs t fr)) (i : Nat) (u : Value) : (w.setCell ⟨g, i, none⟩ u).heap[g]? = some (.cells (cs.setIfInBounds i u) t fr) := by
  simp [World.setCell, Array.getElem?_modify, h]

theorem below_drewN {B : Nat} {a w : World} (h : Below B a w) (n : Nat) : Below B a (w.drewN n) := ⟨h.os, h.tape, h.output, h.size, h.block⟩
theorem below_of_only {a w : World} {B g : Nat} (h : a.grownBy w (some g)) (hB : B ≤ a.heap.size) (hg : B ≤ g) : Below B a w :=
  ⟨h.os, h.tape, h.output, h.size, fun i hi => h.block i (by omega) (fun e => by injection e with e; omega)⟩
theorem below_alloc {B : Nat} {a w : World} (h : Below B a w) (hB : B ≤ a.heap.size) (o : Obj) : Below B a (w.alloc o) := h.alloc (Nat.le_trans hB h.size) o
theorem below_setCell {B : Nat} {a w : World} (h : Below B a w) {p : Addr} (hp : B ≤ p.block) (u : Value) : Below B a (w.setCell p u) :=
  ⟨h.os, h.tape, h.output, by simpa [World.setCell] using h.size, fun i hi => (Below.heap_setCell w p u i (by omega)).trans (h.block i hi)⟩

theorem cell_new (w : World) (t : TypeId) (x : Value) : (w.alloc (.cells #[x] t)).cell? ⟨w.heap.size, 0, none⟩ = some x := (Blk.new w t #[x]).cell 0

/-! ### Rows of bytes that the call itself made -/
def b8 (c : UInt8) : Value := .int .u8 (c.toNat : Int)

/-- v is a slice of the call's own (its block from B on) that holds the bytes l. -/
def Byt (w : World) (B : Nat) (e : TypeId) (v : Value) (l : List UInt8) : Prop := w.ownsRow B e 1 v l.length (l.map b8)

section
variable {P : Program} {w : World} {B : Nat} {e : TypeId} {v : Value} {l : List UInt8}
theorem Byt.nil (w : World) (B : Nat) (e : TypeId) : Byt w B e (.slice none 0 0) [] := World.ownsRow_nil _ _ _ _
theorem Byt.alloc (h : Byt w B e v l) (o : Obj) : Byt (w.alloc o) B e v l := World.ownsRow.alloc h o

theorem Byt.drew (h : Byt w B e v l) : Byt w.drew B e v l := h
theorem Byt.drewN (h : Byt w B e v l) (n : Nat) : Byt (w.drewN n) B e v l := h

/-- 'append(b, c)' of one byte. -/
theorem wpList_append_byte (w : World) {ops : Array Oper} {rest : List Oper} {o : Oper} {a : Act} {Q : Exit → Act → World → Prop} (hgd : o.guard = none) (s x : Operand) (t : TypeId)
    (ho : o.op = .call { callee := .builtin .append, args := #[s, x], argTypes := #[t, t] }) (ht : P.underlying t = some (.slice e)) (hi : (P.info? e).map (fun i => (i.zero, i.size, i.bytes)) = some (some (.int .u8 0), 1, 1))
    (hs : a.eval s = v) (hown : Byt w B e v l) (ad : Addr) (cp : Nat) (hx : a.eval x = .slice (some ad) 1 cp) (z : Int) (hcell : w.cell? ad = some (.int .u8 z)) (c : UInt8) (hc : z = (c.toNat : Int))
    (hl : l.length < 140737488355328) (hB : B ≤ w.heap.size)
    (h : ∀ v' w', Byt w' B e v' (l ++ [c]) → w.grownBy w' v.ownBlock → wpList P ops Q rest (a.put o.dst v') w') : wpList P ops Q (o :: rest) a w := by
  obtain ⟨i0, hi0, hz0, hz1, hz2⟩ := info_parts hi
  refine wpList_append_own w hgd s x t ho B e i0 (.int .u8 0) 1 1 ht hi0 hz0 hz1 hz2 rfl (by decide) v l.length (l.map b8) hs hown ad 1 cp [b8 c] hx rfl ?_ ?_ ?_ ?_ hB ?_
  · intro j u hj
    match j, hj with
    | 0, hj =>
      simp at hj
      subst hj
      subst hc
      exact hcell
  · intro u hu
    simp at hu
    subst hu
    rfl
  · unfold maxLen; omega
  · omega
  · intro v' w' h1 h2 _
    refine h v' w' ?_ h2
    unfold Byt
    simpa using h1

/-- 'append(b, c, d, ..)'. -/
theorem wpList_append_bytes (w : World) {ops : Array Oper} {rest : List Oper} {o : Oper} {a : Act} {Q : Exit → Act → World → Prop} (hgd : o.guard = none) (s x : Operand) (t : TypeId)
    (ho : o.op = .call { callee := .builtin .append, args := #[s, x], argTypes := #[t, t] }) (ht : P.underlying t = some (.slice e)) (hi : (P.info? e).map (fun i => (i.zero, i.size, i.bytes)) = some (some (.int .u8 0), 1, 1))
    (hs : a.eval s = v) (hown : Byt w B e v l) (ad : Addr) (m cp : Nat) (hx : a.eval x = .slice (some ad) m cp) (cs : List UInt8) (hm : cs.length = m) (hcell : ∀ j u, (cs.map b8)[j]? = some u → w.cell? (ad.add j) = some u)
    (hl : l.length + m < 140737488355328) (hB : B ≤ w.heap.size)
    (h : ∀ v' w', Byt w' B e v' (l ++ cs) → w.grownBy w' v.ownBlock → wpList P ops Q rest (a.put o.dst v') w') : wpList P ops Q (o :: rest) a w := by
  obtain ⟨i0, hi0, hz0, hz1, hz2⟩ := info_parts hi
  refine wpList_append_own w hgd s x t ho B e i0 (.int .u8 0) 1 1 ht hi0 hz0 hz1 hz2 rfl (by decide) v l.length (l.map b8) hs hown ad m cp (cs.map b8) hx (by simp [hm]) hcell ?_ ?_ ?_ hB ?_
  · intro u hu
    obtain ⟨c, _, rfl⟩ := List.mem_map.1 hu
    rfl
  · unfold maxLen; omega
  · omega
  · intro v' w' h1 h2 _
    refine h v' w' ?_ h2
    unfold Byt
    rw [List.length_append, List.map_append, hm]
    exact h1
theorem step_append_bytes {ops : Array Oper} {o : Oper} {a : Act} {K : Act → World → Prop} {Q : Exit → Act → World → Prop} {E : Prop} (hgd : o.guard = none) (s x : Operand) (t : TypeId)
    (ho : o.op = .call { callee := .builtin .append, args := #[s, x], argTypes := #[t, t] }) (ht : P.underlying t = some (.slice e)) (hi : (P.info? e).map (fun i => (i.zero, i.size, i.bytes)) = some (some (.int .u8 0), 1, 1))
    (hs : a.eval s = v) (hown : Byt w B e v l) (ad : Addr) (m cp : Nat) (hx : a.eval x = .slice (some ad) m cp) (cs : List UInt8) (hm : cs.length = m) (hcell : ∀ j u, (cs.map b8)[j]? = some u → w.cell? (ad.add j) = some u)
    (hl : l.length + m < 140737488355328) (hB : B ≤ w.heap.size)
    (h : ∀ v' w', Byt w' B e v' (l ++ cs) → w.grownBy w' v.ownBlock → K (a.put o.dst v') w') : if Region.wanted o (yielded ops a.tmps) = true then Oper.wp P o a w K Q else E := by
  have hw : Region.wanted o (yielded ops a.tmps) = true := by simp [Region.wanted, hgd]
  rw [if_pos hw]
  obtain ⟨i0, hi0, hz0, hz1, hz2⟩ := info_parts hi
  refine wp_append_own w s x t ho B e i0 (.int .u8 0) 1 1 ht hi0 hz0 hz1 hz2 rfl (by decide) v l.length (l.map b8) hs hown ad m cp (cs.map b8) hx (by simp [hm]) hcell ?_ ?_ ?_ hB ?_
  · intro u hu
    obtain ⟨c, _, rfl⟩ := List.mem_map.1 hu
    rfl
  · unfold maxLen; omega
  · omega
  · intro v' w' h1 h2 _
    refine h v' w' ?_ h2
    unfold Byt
    rw [List.length_append, List.map_append, hm]
    exact h1
/-- The cells of a block that was just made. -/
theorem cells_new (w : World) (t : TypeId) (xs : List Value) : ∀ j u, xs[j]? = some u → (w.alloc (.cells xs.toArray t)).cell? (({ block := w.heap.size, off := 0, spot := none } : Addr).add j) = some u := by
  intro j u hu
  have e : ({ block := w.heap.size, off := 0, spot := none } : Addr).add j = ⟨w.heap.size, j, none⟩ := by simp [Addr.add]; intro h; exact h.symm
  rw [e, (Blk.new w t xs.toArray).cell j]
  simpa using hu

/-- What a byte more leaves of the memory that was there. -/
theorem Byt.grown {a w' : World} (h : Byt w B e v l) (hb : Below B a w) (hB : B ≤ w.heap.size) (hg : w.grownBy w' v.ownBlock) : Below B a w' := hb.grown hg hB (fun k hk => (World.ownsRow.lt h k hk).1)

/-- 'string(b)'. -/
theorem Byt.string (h : Byt w B e v l) {src dst : TypeId} (hs : P.underlying src = some (.slice e)) (he : P.underlying e = some (.int .u8)) (hd : P.underlying dst = some .string) :
    (convert src dst v).run P w = .ok (.string ⟨l.toArray⟩) w := by
  rcases h.2 with ⟨rfl, hn⟩ | ⟨g, cap, cur, rfl, h2⟩
  · have hl : l = [] := by simpa using hn
    subst hl
    exact run_convert_bytes_nil w src e hs he _ _ dst hd
  · refine run_convert_bytes_back w src dst e ⟨g, 0, none⟩ cap l hs he hd fun j hj => ?_
    have := World.ownsRow.cells (g := g) h rfl j (b8 l[j]) (by simp [hj])
    simpa [b8] using this
end

theorem ofInt_u32 (a : Nat) (ha : a < 4294967296) : (BitVec.ofInt 32 (a : Int)).toNat = a := by
  rw [BitVec.ofInt_natCast, BitVec.toNat_ofNat]; exact Nat.mod_eq_of_lt (by omega)
theorem u32_xor_nat (a b : Nat) (ha : a < 4294967296) (hb : b < 4294967296) : bits .xor .u32 (a : Int) (b : Int) = ((a ^^^ b : Nat) : Int) := by
  have hx : a ^^^ b < 2 ^ 32 := Nat.xor_lt_two_pow (by omega) (by omega)
  show IntKind.u32.wrap ((BitVec.ofInt 32 (a : Int) ^^^ BitVec.ofInt 32 (b : Int)).toNat : Int) = _
  rw [BitVec.toNat_xor, ofInt_u32 a ha, ofInt_u32 b hb, IntKind.wrap_u32]
  omega
theorem u32_and_nat (a b : Nat) (ha : a < 4294967296) (hb : b < 4294967296) : bits .and .u32 (a : Int) (b : Int) = ((a &&& b : Nat) : Int) := by
  have hx : a &&& b < 2 ^ 32 := Nat.and_lt_two_pow _ (by omega)
  show IntKind.u32.wrap ((BitVec.ofInt 32 (a : Int) &&& BitVec.ofInt 32 (b : Int)).toNat : Int) = _
  rw [BitVec.toNat_and, ofInt_u32 a ha, ofInt_u32 b hb, IntKind.wrap_u32]
  omega

theorem u32_not_nat (a : Nat) (ha : a < 4294967296) : bits .xor .u32 IntKind.u32.max (a : Int) = ((4294967295 - a : Nat) : Int) := by
  have hm : IntKind.u32.max = ((4294967295 : Nat) : Int) := by decide
  have e : (4294967295 ^^^ a : Nat) = 4294967295 - a := by
    have h1 : (BitVec.allOnes 32 ^^^ BitVec.ofNat 32 a) = ~~~ BitVec.ofNat 32 a := BitVec.allOnes_xor
    have h2 := congrArg BitVec.toNat h1
    rw [BitVec.toNat_xor, BitVec.toNat_not, BitVec.toNat_ofNat, Nat.mod_eq_of_lt (show a < 2 ^ 32 from by omega), BitVec.toNat_allOnes] at h2
    have h3 : (2 : Nat) ^ 32 - 1 = 4294967295 := by decide
    rw [h3] at h2
    exact h2
  rw [hm, u32_xor_nat _ _ (by decide) ha, e]

/-- Seven bits of a byte. -/
theorem andNot_128 : ∀ c : Nat, c < 256 → bits .andNot .u8 (c : Int) 128 = ((c % 128 : Nat) : Int) := by decide +kernel

/-- One group of seven bits more. -/
theorem vstep (a k c : Nat) (ha : a < 2 ^ (7 * k)) (hk : k < 9) (hc : c < 256) :
    bits .or .i64 (a : Int) (wrap64 (wrap64 (bits .andNot .u8 (c : Int) 128) * 2 ^ (7 * k))) = ((a + c % 128 * 2 ^ (7 * k) : Nat) : Int) ∧ a + c % 128 * 2 ^ (7 * k) < 2 ^ (7 * (k + 1)) := by
  have hm : c % 128 < 128 := Nat.mod_lt _ (by decide)
  have hp : 2 ^ (7 * (k + 1)) = 128 * 2 ^ (7 * k) := by rw [Nat.mul_add, Nat.pow_add]; omega
  have h1 : c % 128 * 2 ^ (7 * k) + 2 ^ (7 * k) ≤ 128 * 2 ^ (7 * k) := by
    have : (c % 128 + 1) * 2 ^ (7 * k) ≤ 128 * 2 ^ (7 * k) := Nat.mul_le_mul_right _ (by omega)
    rwa [Nat.add_mul, Nat.one_mul] at this
  have h2 : 2 ^ (7 * (k + 1)) ≤ 2 ^ 63 := Nat.pow_le_pow_right (by decide) (by omega)
  have h63 : (2 : Nat) ^ 63 = 9223372036854775808 := by decide
  refine ⟨?_, by omega⟩
  rw [andNot_128 c hc]
  have e1 : wrap64 ((c % 128 : Nat) : Int) = ((c % 128 : Nat) : Int) := IntWalk.wrap64_in _ (by omega)
  rw [e1]
  have e2 : (((c % 128 : Nat) : Int) * 2 ^ (7 * k)) = ((c % 128 * 2 ^ (7 * k) : Nat) : Int) := by push_cast; rfl
  rw [e2]
  have e3 : wrap64 ((c % 128 * 2 ^ (7 * k) : Nat) : Int) = ((c % 128 * 2 ^ (7 * k) : Nat) : Int) := IntWalk.wrap64_in _ (by omega)
  rw [e3, i64_or_nat _ _ (by omega) (by omega)]
  congr 1
  rw [Nat.or_comm, Nat.mul_comm, ← Nat.two_pow_add_eq_or_of_lt ha, Nat.add_comm]
end Go.Proofs.Ytcljocmaojfhhaa

namespace Go.Proofs.Ytcljocmaojfhhaa
open Go.RowKit Go.WideShapes Go.ChangeShapes

theorem block_lt {w : World} {g i : Nat} {v : Value} (h : w.cell? ⟨g, i, none⟩ = some v) : g < w.heap.size := by
  rcases Nat.lt_or_ge g w.heap.size with hlt | hge
  · exact hlt
  · simp [World.cell?, Array.getElem?_eq_none hge] at h

/-- n numbers stand at A. -/
structure IntsIn (w : World) (A : Option Addr) (n : Nat) (zs : List Int) : Prop where
  len : zs.length = n
  max : n ≤ 9223372036854775807
  some : 0 < n → ∃ b off, A = .some ⟨b, off, none⟩ ∧ b < w.heap.size ∧ ∀ j, j < n → w.cell? ⟨b, off + j, none⟩ = .some (.int .i64 (zs.getD j 0))
  wf : ∀ z ∈ zs, (Lit.int .i64 z).wf = true

theorem IntsIn.below {w w' : World} {A : Option Addr} {n : Nat} {zs : List Int} (h : IntsIn w A n zs) (hb : Below w.heap.size w w') : IntsIn w' A n zs :=
  ⟨h.len, h.max, fun hn => by
    obtain ⟨b, off, rfl, hlt, hc⟩ := h.some hn
    exact ⟨b, off, rfl, Nat.lt_of_lt_of_le hlt hb.size, fun j hj => (hb.cell (p := ⟨b, off + j, none⟩) hlt).trans (hc j hj)⟩, h.wf⟩

/-- n texts stand at A. -/
structure StrsIn (w : World) (A : Option Addr) (n : Nat) (ss : List ByteArray) : Prop where
  len : ss.length = n
  max : n ≤ 9223372036854775807
  some : 0 < n → ∃ b off, A = .some ⟨b, off, none⟩ ∧ b < w.heap.size ∧ ∀ j, j < n → w.cell? ⟨b, off + j, none⟩ = .some (.string (ss.getD j ByteArray.empty))
  size : ∀ s ∈ ss, s.size ≤ 9223372036854775807

theorem StrsIn.below {w w' : World} {A : Option Addr} {n : Nat} {ss : List ByteArray} (h : StrsIn w A n ss) (hb : Below w.heap.size w w') : StrsIn w' A n ss :=
  ⟨h.len, h.max, fun hn => by
    obtain ⟨b, off, rfl, hlt, hc⟩ := h.some hn
    exact ⟨b, off, rfl, Nat.lt_of_lt_of_le hlt hb.size, fun j hj => (hb.cell (p := ⟨b, off + j, none⟩) hlt).trans (hc j hj)⟩, h.size⟩

section
variable {H : Type} {enc : TypeId × Value → H} {P : Program} {w : World} {t e : TypeId} {A : Option Addr} {n cp : Nat} {d : DataW H} {p : List MemPlace}
theorem ints_view (ht : P.underlying t = some (.slice e)) (he : P.underlying e = some (.int .i64)) (hc : P.cellsOf e = 1) (h : DataW.Trod enc P w 0 (fun _ => true) true t (.slice A n cp) d p) : ∃ zs, IntsIn w A n zs := by
  obtain ⟨fuel, hf⟩ := h
  rcases open_ints ht he hc hf with ⟨hcs, _⟩ | ⟨a, len', cap', zs, hcs, _, hl, hm, hz, _, hcell, hwz⟩
  · simp [Value.cells] at hcs
    obtain ⟨rfl, rfl, rfl⟩ := hcs
    exact ⟨[], rfl, by decide, fun h => absurd h (by decide), fun z hz => by cases hz⟩
  · simp [Value.cells] at hcs
    obtain ⟨rfl, rfl, rfl⟩ := hcs
    rw [if_pos rfl] at hz
    unfold maxLen at hm
    refine ⟨zs.take n, by simp; omega, by omega, fun hn => ?_, fun z hz' => hwz z (List.mem_of_mem_take hz')⟩
    obtain ⟨b, off, rfl, hcc⟩ := ints_at hcell (by omega)
    refine ⟨b, off, rfl, block_lt (hcc 0 (by omega)), fun j hj => ?_⟩
    rw [hcc j (by omega)]
    simp [List.getD, hj]
theorem strs_view (ht : P.underlying t = some (.slice e)) (he : P.underlying e = some .string) (hc : P.cellsOf e = 1) (h : DataW.Trod enc P w 0 (fun _ => true) true t (.slice A n cp) d p) : ∃ ss, StrsIn w A n ss := by
  obtain ⟨fuel, hf⟩ := h
  rcases open_strings ht he hc hf with ⟨hcs, _⟩ | ⟨a, len', cap', ss, hcs, _, hl, hm, hz, _, hcell, hwz⟩
  · simp [Value.cells] at hcs
    obtain ⟨rfl, rfl, rfl⟩ := hcs
    exact ⟨[], rfl, by decide, fun h => absurd h (by decide), fun z hz => by cases hz⟩
  · simp [Value.cells] at hcs
    obtain ⟨rfl, rfl, rfl⟩ := hcs
    rw [if_pos rfl] at hz
    unfold maxLen at hm
    refine ⟨ss.take n, by simp; omega, by omega, fun hn => ?_, fun z hz' => by have := hwz z (List.mem_of_mem_take hz'); unfold maxLen at this; omega⟩
    obtain ⟨b, off, spot⟩ := a
    have hspot : spot = none := by simpa [Addr.add] using World.cell?_spot (hcell 0 (by omega))
    subst hspot
    have hcc : ∀ j, j < ss.length → w.cell? ⟨b, off + j, none⟩ = some (.string (ss.getD j ByteArray.empty)) := fun j hj => by rw [← Go.WideShapes.add_plain]; exact hcell j hj
    refine ⟨b, off, rfl, block_lt (hcc 0 (by omega)), fun j hj => ?_⟩
    rw [hcc j (by omega)]
    simp [List.getD, hj]
/-- Numbers that came in lie within the reach. -/
theorem ints_size (ht : P.underlying t = some (.slice e)) (he : P.underlying e = some (.int .i64)) (hc : P.cellsOf e = 1) (h : DataW.Trod enc P w 0 (fun _ => true) true t (.slice A n cp) d p)
    (hs : ∀ elems spare, d = .slice elems spare → (elems.length + spare.length) * 8 ≤ reachBytes) : n ≤ 17592186043904 := by
  obtain ⟨fuel, hf⟩ := h
  rcases open_ints ht he hc hf with ⟨hcs, _⟩ | ⟨a, len', cap', zs, hcs, _, hl, hm, hz, hx, _, _⟩
  · simp [Value.cells] at hcs
    omega
  · simp [Value.cells] at hcs
    obtain ⟨rfl, rfl, rfl⟩ := hcs
    have := hs _ _ (congrArg Prod.fst hx)
    rw [if_pos rfl] at hz
    simp only [lits, List.length_map, List.length_take, List.length_drop] at this
    unfold reachBytes at this
    omega
end
end Go.Proofs.Ytcljocmaojfhhaa

namespace Go.Proofs.Ytcljocmaojfhhaa
open Go.RowKit

/-- Is no time of xs above that of ys? -/
def leqL (xs ys : List Int) : Bool := decide (xs.length = ys.length ∧ ∀ j, j < xs.length → xs.getD j 0 ≤ ys.getD j 0)

theorem IntsIn.drewN {w : World} {A : Option Addr} {n : Nat} {zs : List Int} (h : IntsIn w A n zs) (q : Nat) : IntsIn (w.drewN q) A n zs := ⟨h.len, h.max, h.some, h.wf⟩
theorem drewN_zero (w : World) : w = w.drewN 0 := rfl
theorem drewN_more {w w1 : World} {q : Nat} (h : w1 = w.drewN q) (p : Nat) : ∃ r, w1.drewN p = w.drewN r := ⟨q + p, by rw [h, World.drewN_drewN]⟩

theorem list_ext_getD {xs ys : List Int} (h : xs.length = ys.length) (he : ∀ j, j < xs.length → xs.getD j 0 = ys.getD j 0) : xs = ys := by
  refine List.ext_getElem h fun j h1 h2 => ?_
  have := he j h1
  rwa [List.getD_eq_getElem?_getD, List.getD_eq_getElem?_getD, List.getElem?_eq_getElem h1, List.getElem?_eq_getElem h2] at this

/-- Is it a vector? -/
def validL (xs : List Int) : Bool := decide ((1 ≤ xs.length ∧ xs.length ≤ 8) ∧ ∀ j, j < xs.length → 0 ≤ xs.getD j 0 ∧ xs.getD j 0 < 281474976710656)

end Go.Proofs.Ytcljocmaojfhhaa

namespace Go.Proofs.Ytcljocmaojfhhaa
open Go.RowKit

theorem i64info : (Try.prog.info? 3).map (fun i => (i.zero, i.size, i.bytes)) = some (some (.int .i64 0), 1, 8) := by kernel_rfl

/-- v is a slice of the call's own (its block from B on) that holds the numbers zs. -/
def Nums (w : World) (B : Nat) (e : TypeId) (v : Value) (zs : List Int) : Prop := w.ownsRow B e 1 v zs.length (zs.map (Value.int .i64))

section
variable {w w' : World} {B : Nat} {e : TypeId} {v : Value} {zs : List Int}
theorem Nums.drewN (h : Nums w B e v zs) (n : Nat) : Nums (w.drewN n) B e v zs := h
theorem Nums.drew (h : Nums w B e v zs) : Nums w.drew B e v zs := h
theorem Nums.alloc (h : Nums w B e v zs) (o : Obj) : Nums (w.alloc o) B e v zs := World.ownsRow.alloc h o
theorem Nums.low (h : Nums w B e v zs) {B' : Nat} (hB : B' ≤ B) : Nums w B' e v zs := by
  refine ⟨h.1, ?_⟩
  rcases h.2 with hn | ⟨g, cap, cur, hv, hb, r⟩
  · exact Or.inl hn
  · exact Or.inr ⟨g, cap, cur, hv, Nat.le_trans hB hb, r⟩
theorem Nums.below (h : Nums w B e v zs) {B' : Nat} (hb : Below B' w w') (hB : w.heap.size ≤ B') : Nums w' B e v zs := by
  refine ⟨h.1, ?_⟩
  rcases h.2 with hn | ⟨g, cap, cur, hv, hg, hh, r⟩
  · exact Or.inl hn
  · exact Or.inr ⟨g, cap, cur, hv, hg, (hb.block g (Nat.lt_of_lt_of_le (Array.getElem?_eq_some_iff.1 hh).1 hB)).trans hh, r⟩
/-- As a slice that is read. -/
theorem Nums.ints (h : Nums w B e v zs) (hwf : ∀ z ∈ zs, (Lit.int .i64 z).wf = true) : ∃ A cp, v = .slice A zs.length cp ∧ IntsIn w A zs.length zs ∧ (0 < zs.length → ∃ g, A = some ⟨g, 0, none⟩ ∧ B ≤ g) := by
  rcases h.2 with ⟨rfl, hn⟩ | ⟨g, cap, cur, rfl, hb, hg, hc, hm, hs, ht⟩
  · exact ⟨none, 0, by rw [hn], ⟨rfl, by omega, fun h => by omega, hwf⟩, fun h => by omega⟩
  · refine ⟨some ⟨g, 0, none⟩, cap, rfl, ⟨rfl, by unfold maxLen at hm; omega, fun hn => ⟨g, 0, rfl, (Array.getElem?_eq_some_iff.1 hg).1, fun j hj => ?_⟩, hwf⟩, fun _ => ⟨g, rfl, hb⟩⟩
    have := World.ownsRow.cellAt (g := g) (cap := cap) h j (by omega)
    rw [Nat.zero_add, this]
    simp [List.getD, hj]
end

theorem wf_getD {zs : List Int} (h : ∀ z ∈ zs, (Lit.int .i64 z).wf = true) {j : Nat} (hj : j < zs.length) : (Lit.int .i64 (zs.getD j 0)).wf = true := by
  rw [List.getD_eq_getElem?_getD, List.getElem?_eq_getElem hj]
  exact h _ (List.getElem_mem _)

end Go.Proofs.Ytcljocmaojfhhaa

namespace Go.Proofs.Ytcljocmaojfhhaa
open Go.RowKit

theorem append_keep {P : Program} (w : World) (base : Nat) (t ty e : TypeId) (i : TypeInfo) (z : Value) (size bytes : Nat) (ht : P.underlying t = some (.slice e)) (hi : P.info? e = some i) (hz : i.zero = some z)
    (hsize : i.size = size) (hby : i.bytes = bytes) (v : Value) (n : Nat) (xs : List Value) (hown : w.ownsRow base e size v n xs)
    (a : Addr) (m c : Nat) (news : List Value) (hl : news.length = m * size) (hnews : ∀ j u, news[j]? = some u → w.cell? (a.add j) = some u) (h1 : ∀ u ∈ news, u.oneCell' = true)
    (h63 : n + m ≤ maxLen) (hbytes : (n + m) * bytes ≤ 140737488355328) (v' : Value) (w' : World) (hr : (Builtin.append_ #[t, t] ty #[v, .slice (some a) m c]).run P w = .ok v' w') :
    w'.ownsRow base e size v n xs ∧ (v'.ownBlock = v.ownBlock ∨ ∀ g, v'.ownBlock = some g → w.heap.size ≤ g) := by
  subst hsize
  subst hby
  have hsmall : n + m ≤ 9223372036854775807 := by simp only [maxLen] at h63; omega
  rcases hown.2 with ⟨rfl, rfl⟩ | ⟨g, cap, cur, rfl, hbg, hg, hnc, hcm, hcs, htake⟩
  · have hx : xs = [] := List.eq_nil_of_length_eq_zero (by simpa using hown.1)
    subst hx
    refine ⟨World.ownsRow_nil _ _ _ _, ?_⟩
    by_cases hm : m = 0
    · subst hm
      have hr2 : (Builtin.append_ #[t, t] ty #[.slice none 0 0, .slice (some a) 0 c]).run P w = .ok (.slice none 0 0) w := by
        simp [Builtin.append_, run_underlying ht, sizeOf, typeInfo, hi, Builtin.lenOf, Builtin.firstCells, loadCells, loadCellsFrom]
      rw [hr] at hr2
      injection hr2 with e1 e2
      left
      rw [e1]
    · have hr2 := run_append_nil (P := P) w t ty e i z ht hi hz a m c news hl hnews (by omega) (by omega) (by have hb := hbytes; simp only [Nat.zero_add] at hb; omega)
      rw [hr] at hr2
      injection hr2 with e1 e2
      right
      intro g hg
      rw [e1] at hg
      simp [Value.ownBlock] at hg
      omega
  · by_cases hroom : n + m ≤ cap
    · have hfit : n * i.size + news.length ≤ cur.size := by rw [hl, hcs, ← Nat.add_mul]; exact Nat.mul_le_mul_right _ hroom
      have hr2 := run_append_room (P := P) w t ty e i ht hi g n cap cur hg a m c news hl hnews h1 hroom hfit
      rw [hr] at hr2
      injection hr2 with e1 e2
      refine ⟨⟨hown.1, .inr ⟨g, cap, _, rfl, hbg, by rw [e2]; exact setRow_heap w g cur _ e _ hg, hnc, hcm, ?_, ?_⟩⟩, Or.inl (by rw [e1]; rfl)⟩
      · simp only [List.size_toArray, List.length_append, List.length_take, List.length_drop, Array.length_toList]
        omega
      · rw [htake]
        have hlx : xs.length = n * i.size := hown.1
        show List.take (n * i.size) (xs ++ news ++ _) = xs
        rw [List.append_assoc, ← hlx]
        exact List.take_left
    · have holds : ∀ j u, xs[j]? = some u → w.cell? ((⟨g, 0, none⟩ : Addr).add j) = some u := hown.cells (g := g) rfl
      have hr2 := run_append_grow (P := P) w t ty e i z ht hi hz ⟨g, 0, none⟩ n cap xs hown.1 holds a m c news hl hnews (by omega) (by omega) (growslice_fits (by omega) hbytes)
      rw [hr] at hr2
      injection hr2 with e1 e2
      refine ⟨?_, Or.inr fun k hk => ?_⟩
      · rw [e2]
        exact World.ownsRow.alloc (World.ownsRow.drew hown) _
      · rw [e1] at hk
        simp [Value.ownBlock] at hk
        omega

theorem wp_append_keep {P : Program} (w : World) {o : Oper} {a : Act} {K : Act → World → Prop} {Q : Exit → Act → World → Prop} (s x : Operand) (t : TypeId)
    (ho : o.op = .call { callee := .builtin .append, args := #[s, x], argTypes := #[t, t] })
    (base : Nat) (e : TypeId) (i : TypeInfo) (z : Value) (size bytes : Nat) (ht : P.underlying t = some (.slice e)) (hi : P.info? e = some i) (hz : i.zero = some z)
    (hsize : i.size = size) (hby : i.bytes = bytes) (hzs : z.cells.size = size) (hsz : 0 < size)
    (v : Value) (n : Nat) (xs : List Value) (hs : a.eval s = v) (hown : w.ownsRow base e size v n xs)
    (ad : Addr) (m c : Nat) (news : List Value) (hx : a.eval x = .slice (some ad) m c) (hl : news.length = m * size) (hnews : ∀ j u, news[j]? = some u → w.cell? (ad.add j) = some u) (h1 : ∀ u ∈ news, u.oneCell' = true)
    (h63 : n + m ≤ maxLen) (hbytes : (n + m) * bytes ≤ 140737488355328) (hbase : base ≤ w.heap.size)
    (h : ∀ v' w', w'.ownsRow base e size v' (n + m) (xs ++ news) → w.grownBy w' v.ownBlock → w'.ownsRow base e size v n xs → (v'.ownBlock = v.ownBlock ∨ ∀ g, v'.ownBlock = some g → w.heap.size ≤ g) → K (a.put o.dst v') w') : o.wp P a w K Q := by
  obtain ⟨v', w', hr, h2, h3, _⟩ := run_append_own (P := P) w base t o.type e i z size bytes ht hi hz hsize hby hzs hsz v n xs hown ad m c news hl hnews h1 h63 hbytes hbase
  obtain ⟨h4, h5⟩ := append_keep w base t o.type e i z size bytes ht hi hz hsize hby v n xs hown ad m c news hl hnews h1 h63 hbytes v' w' hr
  unfold Oper.wp execOp
  simp only [ho, resolve, invoke, builtin, Sem.run_bind, Sem.run_pure, Result.andThen_ok, List.map_toArray, List.map_cons, List.map_nil, hs, hx, hr]
  exact h v' w' h2 h3 h4 h5

theorem wpList_append_keep {P : Program} (w : World) {ops : Array Oper} {rest : List Oper} {o : Oper} {a : Act} {Q : Exit → Act → World → Prop} (hgd : o.guard = none) (s x : Operand) (t : TypeId)
    (ho : o.op = .call { callee := .builtin .append, args := #[s, x], argTypes := #[t, t] })
    (base : Nat) (e : TypeId) (i : TypeInfo) (z : Value) (size bytes : Nat) (ht : P.underlying t = some (.slice e)) (hi : P.info? e = some i) (hz : i.zero = some z)
    (hsize : i.size = size) (hby : i.bytes = bytes) (hzs : z.cells.size = size) (hsz : 0 < size)
    (v : Value) (n : Nat) (xs : List Value) (hs : a.eval s = v) (hown : w.ownsRow base e size v n xs)
    (ad : Addr) (m c : Nat) (news : List Value) (hx : a.eval x = .slice (some ad) m c) (hl : news.length = m * size) (hnews : ∀ j u, news[j]? = some u → w.cell? (ad.add j) = some u) (h1 : ∀ u ∈ news, u.oneCell' = true)
    (h63 : n + m ≤ maxLen) (hbytes : (n + m) * bytes ≤ 140737488355328) (hbase : base ≤ w.heap.size)
    (h : ∀ v' w', w'.ownsRow base e size v' (n + m) (xs ++ news) → w.grownBy w' v.ownBlock → w'.ownsRow base e size v n xs → (v'.ownBlock = v.ownBlock ∨ ∀ g, v'.ownBlock = some g → w.heap.size ≤ g) → wpList P ops Q rest (a.put o.dst v') w') :
    wpList P ops Q (o :: rest) a w := by
  refine wpList_plain hgd fun K hK => ?_
  exact wp_append_keep w s x t ho base e i z size bytes ht hi hz hsize hby hzs hsz v n xs hs hown ad m c news hx hl hnews h1 h63 hbytes hbase fun v' w' a1 a2 a3 a4 => hK _ _ (h v' w' a1 a2 a3 a4)

theorem step_append_keep {P : Program} {w : World} {ops : Array Oper} {o : Oper} {a : Act} {K : Act → World → Prop} {Q : Exit → Act → World → Prop} {E : Prop} (hgd : o.guard = none) (s x : Operand) (t : TypeId)
    (ho : o.op = .call { callee := .builtin .append, args := #[s, x], argTypes := #[t, t] })
    (base : Nat) (e : TypeId) (i : TypeInfo) (z : Value) (size bytes : Nat) (ht : P.underlying t = some (.slice e)) (hi : P.info? e = some i) (hz : i.zero = some z)
    (hsize : i.size = size) (hby : i.bytes = bytes) (hzs : z.cells.size = size) (hsz : 0 < size)
    (v : Value) (n : Nat) (xs : List Value) (hs : a.eval s = v) (hown : w.ownsRow base e size v n xs)
    (ad : Addr) (m c : Nat) (news : List Value) (hx : a.eval x = .slice (some ad) m c) (hl : news.length = m * size) (hnews : ∀ j u, news[j]? = some u → w.cell? (ad.add j) = some u) (h1 : ∀ u ∈ news, u.oneCell' = true)
    (h63 : n + m ≤ maxLen) (hbytes : (n + m) * bytes ≤ 140737488355328) (hbase : base ≤ w.heap.size)
    (h : ∀ v' w', w'.ownsRow base e size v' (n + m) (xs ++ news) → w.grownBy w' v.ownBlock → w'.ownsRow base e size v n xs → (v'.ownBlock = v.ownBlock ∨ ∀ g, v'.ownBlock = some g → w.heap.size ≤ g) → K (a.put o.dst v') w') :
    if Region.wanted o (yielded ops a.tmps) = true then Oper.wp P o a w K Q else E := by
  rw [if_pos (by simp [Region.wanted, hgd])]
  exact wp_append_keep w s x t ho base e i z size bytes ht hi hz hsize hby hzs hsz v n xs hs hown ad m c news hx hl hnews h1 h63 hbytes hbase h

/-- Nothing put behind nothing. -/
theorem wpList_append_nothing {P : Program} (w : World) {ops : Array Oper} {rest : List Oper} {o : Oper} {a : Act} {Q : Exit → Act → World → Prop} (hgd : o.guard = none) (s x : Operand) (t e : TypeId) (i : TypeInfo)
    (ho : o.op = .call { callee := .builtin .append, args := #[s, x], argTypes := #[t, t] }) (ht : P.underlying t = some (.slice e)) (hi : P.info? e = some i)
    (hs : a.eval s = .slice none 0 0) (A : Option Addr) (c : Nat) (hx : a.eval x = .slice A 0 c)
    (h : wpList P ops Q rest (a.put o.dst (.slice none 0 0)) w) : wpList P ops Q (o :: rest) a w := by
  refine wpList_plain hgd fun _ hK => ?_
  have hr : (Builtin.append_ #[t, t] o.type #[.slice none 0 0, .slice A 0 c]).run P w = .ok (.slice none 0 0) w := by
    cases A <;> simp [Builtin.append_, run_underlying ht, sizeOf, typeInfo, hi, Builtin.lenOf, Builtin.firstCells, loadCells, loadCellsFrom]
  unfold Oper.wp execOp
  simp only [ho, resolve, invoke, builtin, Sem.run_bind, Sem.run_pure, Result.andThen_ok, List.map_toArray, List.map_cons, List.map_nil, hs, hx, hr]
  exact hK _ _ h

/-! ### Rows of numbers of the call's own, each in a block of its own -/
abbrev Row := Value × List Int
/-- v's block is none of w's. -/
def Off (v u : Value) : Prop := ∀ g, v.ownBlock = some g → u.ownBlock ≠ some g
theorem Off.symm {v u : Value} (h : Off v u) : Off u v := fun g hg hv => h g hv hg

structure Rows (w : World) (B : Nat) (e : TypeId) (rs : List Row) : Prop where
  each : ∀ r ∈ rs, Nums w B e r.1 r.2
  apart : rs.Pairwise fun r s => Off r.1 s.1

section
variable {w w' : World} {B : Nat} {e : TypeId} {rs : List Row}
theorem Rows.below (h : Rows w B e rs) {B' : Nat} (hb : Below B' w w') (hB : w.heap.size ≤ B') : Rows w' B e rs := ⟨fun r hr => (h.each r hr).below hb hB, h.apart⟩
theorem Nums.lt_ {v : Value} {zs : List Int} (h : Nums w B e v zs) {g : Nat} (hg : v.ownBlock = some g) : B ≤ g ∧ g < w.heap.size := World.ownsRow.lt h g hg
/-- A row that a call made behind them. -/
theorem Rows.add (h : Rows w B e rs) (hb : Below w.heap.size w w') {v : Value} {zs : List Int} (hN : Nums w' w.heap.size e v zs) (hB : B ≤ w.heap.size) : Rows w' B e ((v, zs) :: rs) :=
  ⟨fun r hr => by
    rcases List.mem_cons.1 hr with rfl | hr
    · exact hN.low hB
    · exact (h.each r hr).below hb (Nat.le_refl _),
   List.pairwise_cons.2 ⟨fun r hr g hg hv => by
    have h1 := (hN.lt_ hg).1
    have h2 := ((h.each r hr).lt_ hv).2
    omega, h.apart⟩⟩
end
end Go.Proofs.Ytcljocmaojfhhaa

namespace Go.Proofs.Ytcljocmaojfhhaa
open Go.RowKit

/-- What has turned: from block B on, and only such as T says; new blocks are free. -/
structure Tn (B : Nat) (T : Obj → Bool) (w w' : World) : Prop where
  os : w'.os = w.os
  tape : w'.tape = w.tape
  output : w'.output = w.output
  size : w.heap.size ≤ w'.heap.size
  block : ∀ k o, w.heap[k]? = some o → (k < B ∨ T o = false) → w'.heap[k]? = some o
/-- Blocks of type e. -/
def cellsT (e : TypeId) : Obj → Bool
  | .cells _ t _ => t == e
  | _ => false
theorem cellsT_ne {e t : TypeId} (h : t ≠ e) (cs : Array Value) (fr : Nat × Nat) : cellsT e (.cells cs t fr) = false := beq_eq_false_iff_ne.2 h
section
variable {B : Nat} {T : Obj → Bool} {w w' w'' : World}
theorem Tn.refl (B : Nat) (T : Obj → Bool) (w : World) : Tn B T w w := ⟨rfl, rfl, rfl, Nat.le_refl _, fun _ _ h _ => h⟩
theorem Tn.trans (h : Tn B T w w') (g : Tn B T w' w'') : Tn B T w w'' := ⟨g.os.trans h.os, g.tape.trans h.tape, g.output.trans h.output, Nat.le_trans h.size g.size, fun k o hk ho => g.block k o (h.block k o hk ho) ho⟩
theorem Tn.of_below (h : Below w.heap.size w w') : Tn B T w w' := ⟨h.os, h.tape, h.output, h.size, fun k _o hk _ => (h.block k (Array.getElem?_eq_some_iff.1 hk).1).trans hk⟩
theorem Tn.of_grown (h : w.grownBy w' none) : Tn B T w w' := ⟨h.os, h.tape, h.output, h.size, fun k o hk _ => (h.block k (Array.getElem?_eq_some_iff.1 hk).1 (by simp)).trans hk⟩
theorem Tn.alloc (h : Tn B T w w') (o : Obj) : Tn B T w (w'.alloc o) := h.trans (Tn.of_grown (World.grownBy_alloc w' o none))
theorem Tn.drew (h : Tn B T w w') : Tn B T w w'.drew := ⟨h.os, h.tape, h.output, h.size, h.block⟩
theorem Tn.drewN (h : Tn B T w w') (n : Nat) : Tn B T w (w'.drewN n) := ⟨h.os, h.tape, h.output, h.size, h.block⟩
theorem Tn.row {row : Option Nat} (h : Tn B T w w') (g : w'.grownBy w'' row) (hr : ∀ k, row = some k → w.heap.size ≤ k ∨ (B ≤ k ∧ ∃ o, w'.heap[k]? = some o ∧ T o = true)) : Tn B T w w'' := by
  refine ⟨g.os.trans h.os, g.tape.trans h.tape, g.output.trans h.output, Nat.le_trans h.size g.size, fun k o hk ho => ?_⟩
  have h1 := h.block k o hk ho
  by_cases e : some k = row
  · exfalso
    have hlt := (Array.getElem?_eq_some_iff.1 hk).1
    rcases hr k e.symm with h2 | ⟨h2, o', h3, h4⟩
    · omega
    · rw [h1] at h3
      cases h3
      rcases ho with ho | ho
      · omega
      · rw [h4] at ho; cases ho
  · exact (g.block k (Array.getElem?_eq_some_iff.1 h1).1 e).trans h1
theorem Tn.setCell (h : Tn B T w w') {p : Addr} (hp : w.heap.size ≤ p.block ∨ (B ≤ p.block ∧ ∃ o, w'.heap[p.block]? = some o ∧ T o = true)) (u : Value) : Tn B T w (w'.setCell p u) :=
  h.row (row := some p.block) (only_setCell ⟨rfl, rfl, rfl, Nat.le_refl _, fun _ _ _ => rfl⟩ (Or.inl rfl) u) (fun k hk => by cases hk; exact hp)
theorem Tn.below (h : Tn B T w w') (hB : B ≤ w.heap.size) : Below B w w' :=
  ⟨h.os, h.tape, h.output, h.size, fun k hk => by
    have hlt : k < w.heap.size := by omega
    rw [h.block k _ (Array.getElem?_eq_getElem hlt) (Or.inl hk), Array.getElem?_eq_getElem hlt]⟩
theorem Tn.blk (h : Tn B T w w') {g : Nat} {t : TypeId} {cs : Array Value} (hb : Blk w g t cs) (hT : T (.cells cs t (0, 0)) = false) : Blk w' g t cs := h.block g _ hb (Or.inr hT)
theorem Tn.own (h : Tn B T w w') {b : Nat} {e : TypeId} {sz : Nat} {v : Value} {n : Nat} {xs : List Value} (hown : w.ownsRow b e sz v n xs) (hT : ∀ cs fr, T (.cells cs e fr) = false) : w'.ownsRow b e sz v n xs := by
  obtain ⟨h1, h2⟩ := hown
  refine ⟨h1, ?_⟩
  rcases h2 with h2 | ⟨g, cap, cur, e1, e2, e3, e4⟩
  · exact Or.inl h2
  · exact Or.inr ⟨g, cap, cur, e1, e2, h.block g _ e3 (Or.inr (hT _ _)), e4⟩
theorem Tn.mono {T' : Obj → Bool} (h : Tn B T w w') (hT : ∀ o, T' o = false → T o = false) : Tn B T' w w' := ⟨h.os, h.tape, h.output, h.size, fun k o hk ho => h.block k o hk (ho.imp id (hT o))⟩
/-- A row of the kind grew. -/
theorem Tn.grow {e : TypeId} {sz n : Nat} {v : Value} {xs : List Value} (h : Tn B (cellsT e) w w') (hown : w'.ownsRow B e sz v n xs) (g : w'.grownBy w'' v.ownBlock) : Tn B (cellsT e) w w'' :=
  h.row g (fun k hk => by
    rcases hown.2 with ⟨rfl, _⟩ | ⟨g, cap, cur, rfl, hb, hh, _⟩
    · cases hk
    · cases hk
      exact Or.inr ⟨hb, _, hh, beq_self_eq_true e⟩)
end

/-- Elements of a kind: their cells, and their marks. -/
structure El (α : Type) where
  cl : α → List Value
  sz : Nat
  pos : 0 < sz
  len : ∀ x, (cl x).length = sz
  one : ∀ x, ∀ u ∈ cl x, u.oneCell' = true
  mark : Nat → Nat → α
section
variable {α : Type} (E : El α)
def El.row (L : List α) : List Value := L.flatMap E.cl
theorem El.row_length (L : List α) : (E.row L).length = L.length * E.sz := by
  induction L with
  | nil => simp [El.row]
  | cons x L ih => simp only [El.row, List.flatMap_cons, List.length_append, List.length_cons] at *; rw [E.len, ih, Nat.add_mul, Nat.one_mul, Nat.add_comm]
theorem El.row_append (L M : List α) : E.row (L ++ M) = E.row L ++ E.row M := by simp [El.row]
theorem El.row_one (x : α) : E.row [x] = E.cl x := by simp [El.row]
theorem El.row_oneCell (L : List α) : ∀ u ∈ E.row L, u.oneCell' = true := by
  intro u hu
  obtain ⟨m, _, hm⟩ := List.mem_flatMap.1 hu
  exact E.one m u hm
theorem El.row_drop (L : List α) : ∀ i, E.row (L.drop i) = (E.row L).drop (i * E.sz) := by
  induction L with
  | nil => intro i; simp [El.row]
  | cons x L ih =>
    intro i
    cases i with
    | zero => simp
    | succ i =>
      rw [List.drop_succ_cons, ih i]
      simp only [El.row, List.flatMap_cons]
      rw [show (i + 1) * E.sz = (E.cl x).length + i * E.sz by rw [E.len, Nat.add_mul, Nat.one_mul, Nat.add_comm], List.drop_append, show List.drop ((E.cl x).length + i * E.sz) (E.cl x) = [] from List.drop_eq_nil_of_le (by omega), List.nil_append, Nat.add_sub_cancel_left]
theorem El.row_at (L : List α) (i j : Nat) (x : α) (h : L[i]? = some x) (hj : j < E.sz) : (E.row L)[i * E.sz + j]? = (E.cl x)[j]? := by
  have hd := E.row_drop L i
  have hi := (List.getElem?_eq_some_iff.1 h).1
  rw [List.drop_eq_getElem_cons hi, (List.getElem?_eq_some_iff.1 h).2] at hd
  have e : E.row (x :: L.drop (i + 1)) = E.cl x ++ E.row (L.drop (i + 1)) := rfl
  rw [e] at hd
  have := congrArg (fun l : List Value => l[j]?) hd
  simp only [List.getElem?_drop] at this
  rw [List.getElem?_append_left (by rw [E.len]; exact hj)] at this
  exact this.symm
/-- The marks of list i, from a place on. -/
def El.marks (i start n : Nat) : List α := (List.range n).map fun k => E.mark i (start + k)
theorem El.marks_length (i start n : Nat) : (E.marks i start n).length = n := by simp [El.marks]
theorem El.marks_succ (i start n : Nat) : E.marks i start (n + 1) = E.marks i start n ++ [E.mark i (start + n)] := by
  unfold El.marks
  rw [List.range_succ, List.map_append]
  rfl
theorem El.marks_append (i start n m : Nat) : E.marks i start n ++ E.marks i (start + n) m = E.marks i start (n + m) := by
  induction m with
  | zero => simp [El.marks]
  | succ m ih => rw [El.marks_succ, ← List.append_assoc, ih, ← Nat.add_assoc, El.marks_succ, Nat.add_assoc]
theorem El.marks_at (i n j : Nat) (hj : j < n) : (E.marks i 0 n)[j]? = some (E.mark i j) := by
  unfold El.marks
  rw [List.getElem?_map, List.getElem?_range hj]
  simp
end

/-- A row of the call's own, of a kind. -/
def Own {α : Type} (E : El α) (w : World) (B : Nat) (e : TypeId) (v : Value) (L : List α) : Prop := w.ownsRow B e E.sz v L.length (E.row L)
section
variable {α : Type} {E : El α} {w w' : World} {B : Nat} {e : TypeId} {v : Value} {L : List α}
theorem Own.tn (h : Own E w B e v L) {B' : Nat} {T : Obj → Bool} (g : Tn B' T w w') (hT : ∀ cs fr, T (.cells cs e fr) = false) : Own E w' B e v L := g.own h hT
theorem Own.below (h : Own E w B e v L) (g : Below w.heap.size w w') : Own E w' B e v L := (Tn.of_below (B := 0) (T := fun _ => false) g).own h (fun _ _ => rfl)
theorem Own.low (h : Own E w B e v L) {B' : Nat} (hB : B' ≤ B) : Own E w B' e v L := World.ownsRow.mono h hB
theorem Own.lt (h : Own E w B e v L) {g : Nat} (hg : v.ownBlock = some g) : B ≤ g ∧ g < w.heap.size := World.ownsRow.lt h g hg
theorem Own.slice (h : Own E w B e v L) : ∃ a c, v = .slice a L.length c := by
  rcases h.2 with ⟨rfl, h0⟩ | ⟨g, cap, cur, rfl, _⟩
  · exact ⟨none, 0, by rw [h0]⟩
  · exact ⟨_, _, rfl⟩
theorem Own.some_ (h : Own E w B e v L) (hn : 0 < L.length) : ∃ g c cur, v = .slice (some ⟨g, 0, none⟩) L.length c ∧ B ≤ g ∧ w.heap[g]? = some (.cells cur e (0, 0)) := by
  rcases h.2 with ⟨_, h0⟩ | ⟨g, cap, cur, hv, hb, hh, _⟩
  · omega
  · exact ⟨g, cap, cur, hv, hb, hh⟩
theorem Own.cells {g n c : Nat} (h : Own E w B e (.slice (some ⟨g, 0, none⟩) n c) L) {i j : Nat} {x : α} {u : Value} (hx : L[i]? = some x) (hj : j < E.sz) (hu : (E.cl x)[j]? = some u) : w.cell? ⟨g, i * E.sz + j, none⟩ = some u := by
  have := World.ownsRow.cells h (g := g) rfl (i * E.sz + j) u (by rw [E.row_at L i j x hx hj]; exact hu)
  rwa [Addr.add_lit, Nat.zero_add] at this
end

/-- m rows of a kind, apart. -/
structure Rwk {α : Type} (E : El α) (w : World) (B : Nat) (e : TypeId) (m : Nat) (a : Nat → Value) (F : Nat → List α) : Prop where
  each : ∀ i, i < m → Own E w B e (a i) (F i)
  apart : ∀ i j, i < m → j < m → i ≠ j → Off (a i) (a j)
theorem Rwk.tn {α : Type} {E : El α} {w w' : World} {B : Nat} {e : TypeId} {m : Nat} {a : Nat → Value} {F : Nat → List α} (h : Rwk E w B e m a F) {B' : Nat} {T : Obj → Bool} (g : Tn B' T w w') (hT : ∀ cs fr, T (.cells cs e fr) = false) : Rwk E w' B e m a F := ⟨fun i hi => (h.each i hi).tn g hT, h.apart⟩
theorem Rwk.below {α : Type} {E : El α} {w w' : World} {B : Nat} {e : TypeId} {m : Nat} {a : Nat → Value} {F : Nat → List α} (h : Rwk E w B e m a F) (g : Below w.heap.size w w') : Rwk E w' B e m a F := ⟨fun i hi => (h.each i hi).below g, h.apart⟩

/-- f, but x at k. -/
def upk {α : Type} (f : Nat → α) (k : Nat) (x : α) : Nat → α := fun i => if i = k then x else f i
theorem upk_at {α : Type} (f : Nat → α) (k : Nat) (x : α) : upk f k x k = x := if_pos rfl
theorem upk_ne {α : Type} (f : Nat → α) {k i : Nat} (x : α) (h : i ≠ k) : upk f k x i = f i := if_neg h
theorem upk_upk {α : Type} (f : Nat → α) (k : Nat) (x y : α) : upk (upk f k x) k y = upk f k y := by
  funext i; unfold upk; split <;> rfl
theorem upk_self {α : Type} (f : Nat → α) (k : Nat) (x : α) (h : f k = x) : upk f k x = f := by
  funext i; unfold upk; split
  · next e => rw [e, h]
  · rfl
theorem range_upk (b : Nat → Value) (k : Nat) (x : Value) : (List.range k).map b ++ [x] = (List.range (k + 1)).map (upk b k x) := by
  rw [List.range_succ, List.map_append, List.map_singleton, upk_at]
  congr 1
  refine List.map_congr_left fun i hi => ?_
  rw [upk_ne]
  have := List.mem_range.1 hi
  omega

theorem own_shrk {w : World} {B g n n' c sz : Nat} {e : TypeId} {xs ys : List Value} (h : w.ownsRow B e sz (.slice (some ⟨g, 0, none⟩) (n + n') c) (n + n') (xs ++ ys)) (hx : xs.length = n * sz) : w.ownsRow B e sz (.slice (some ⟨g, 0, none⟩) n c) n xs := by
  rcases h.2 with ⟨h', _⟩ | ⟨g', cap, cur, h', hb, hh, hnc, hcm, hcs, htake⟩
  · simp at h'
  · simp only [Value.slice.injEq, Option.some.injEq, Addr.mk.injEq, and_true, true_and] at h'
    obtain ⟨rfl, rfl⟩ := h'
    refine ⟨hx, .inr ⟨g, c, cur, rfl, hb, hh, by omega, hcm, hcs, ?_⟩⟩
    rw [← hx]
    have := congrArg (List.take xs.length) htake
    rw [List.take_take, Nat.min_eq_left (by rw [hx]; exact Nat.mul_le_mul_right _ (by omega))] at this
    rw [this, List.take_left]
theorem own_capk {w : World} {B B' g n n' c sz : Nat} {e : TypeId} {v : Value} {xs ys : List Value} (hs : 0 < sz) (h1 : w.ownsRow B e sz (.slice (some ⟨g, 0, none⟩) n c) n xs) (h2 : w.ownsRow B' e sz v n' ys) (hb : v.ownBlock = some g) : v = .slice (some ⟨g, 0, none⟩) n' c := by
  rcases h1.2 with ⟨h', _⟩ | ⟨g', cap, cur, h', _, hh, _, _, hcs, _⟩
  · simp at h'
  · simp only [Value.slice.injEq, Option.some.injEq, Addr.mk.injEq, and_true, true_and] at h'
    obtain ⟨rfl, rfl⟩ := h'
    rcases h2.2 with ⟨rfl, _⟩ | ⟨g2, cap2, cur2, rfl, _, hh2, _, _, hcs2, _⟩
    · simp [Value.ownBlock] at hb
    · simp [Value.ownBlock] at hb
      subst hb
      rw [hh] at hh2
      injection hh2 with hh2
      injection hh2 with h3
      subst h3
      rw [show cap2 = c from Nat.eq_of_mul_eq_mul_right hs (by omega)]
theorem offk_none {v u : Value} (h : Off v u) : u.ownBlock = none ∨ u.ownBlock ≠ v.ownBlock := by
  cases hu : u.ownBlock with
  | none => exact Or.inl rfl
  | some g => exact Or.inr fun e => h g e.symm hu

/-- m rows and what has grown out of them: apart, but that a row may lie at the head of what has grown out of it. -/
structure Famk {α : Type} (E : El α) (w : World) (B : Nat) (e : TypeId) (m : Nat) (a b : Nat → Value) (F H : Nat → List α) : Prop where
  ra : ∀ i, i < m → Own E w B e (a i) (F i)
  rb : ∀ i, i < m → Own E w B e (b i) (H i)
  oaa : ∀ i j, i < m → j < m → i ≠ j → Off (a i) (a j)
  oab : ∀ i j, i < m → j < m → i ≠ j → Off (a i) (b j)
  obb : ∀ i j, i < m → j < m → i ≠ j → Off (b i) (b j)
  tie : ∀ i, i < m → Off (a i) (b i) ∨ ∃ g c ys, a i = .slice (some ⟨g, 0, none⟩) (F i).length c ∧ b i = .slice (some ⟨g, 0, none⟩) (H i).length c ∧ H i = F i ++ ys
section
variable {α : Type} {E : El α} {w w' : World} {B : Nat} {e : TypeId} {m : Nat} {a b : Nat → Value} {F H : Nat → List α}
theorem Famk.start (h : Rwk E w B e m a F) : Famk E w B e m a a F F :=
  ⟨h.each, h.each, h.apart, h.apart, h.apart, fun i hi => by
    rcases (h.each i hi).2 with ⟨e, _⟩ | ⟨g, cap, cur, e, _⟩
    · exact Or.inl fun g hg => by rw [e] at hg; simp [Value.ownBlock] at hg
    · exact Or.inr ⟨g, cap, [], e, e, by simp⟩⟩
theorem Famk.tn (h : Famk E w B e m a b F H) {B' : Nat} {T : Obj → Bool} (g : Tn B' T w w') (hT : ∀ cs fr, T (.cells cs e fr) = false) : Famk E w' B e m a b F H := ⟨fun i hi => (h.ra i hi).tn g hT, fun i hi => (h.rb i hi).tn g hT, h.oaa, h.oab, h.obb, h.tie⟩
theorem Famk.below (h : Famk E w B e m a b F H) (g : Below w.heap.size w w') : Famk E w' B e m a b F H := h.tn (Tn.of_below (B := 0) (T := fun _ => false) g) (fun _ _ => rfl)
theorem Famk.append (h : Famk E w B e m a b F H) {k : Nat} (hk : k < m) {v' : Value} {zs : List α} {p : Nat} (hp : zs.length = p)
    (hown : w'.ownsRow B e E.sz v' ((H k).length + p) (E.row (H k) ++ E.row zs)) (hgr : w.grownBy w' (b k).ownBlock)
    (hold : Own E w' B e (b k) (H k)) (hblk : v'.ownBlock = (b k).ownBlock ∨ ∀ g, v'.ownBlock = some g → w.heap.size ≤ g) :
    Famk E w' B e m a (upk b k v') F (upk H k (H k ++ zs)) := by
  have kept : ∀ u xs, Own E w B e u xs → Off (b k) u → Own E w' B e u xs := fun u xs hu ho => World.ownsRow.kept hu hgr (offk_none ho)
  have offv : ∀ u xs, Own E w B e u xs → Off u (b k) → Off u v' := by
    intro u xs hu ho g hg hv
    rcases hblk with e | e
    · exact ho g hg (e ▸ hv)
    · have h1 := e g hv
      have h2 := (hu.lt hg).2
      omega
  refine ⟨fun i hi => ?_, fun i hi => ?_, h.oaa, fun i j hi hj hij => ?_, fun i j hi hj hij => ?_, fun i hi => ?_⟩
  · by_cases hik : i = k
    · subst hik
      rcases h.tie i hi with ho | ⟨g, c, ys, ea, eb, eh⟩
      · exact kept _ _ (h.ra i hi) ho.symm
      · unfold Own at hold ⊢
        rw [eb, eh, List.length_append, E.row_append] at hold
        rw [ea]
        exact own_shrk hold (E.row_length _)
    · exact kept _ _ (h.ra i hi) (h.oab i k hi hk hik).symm
  · by_cases hik : i = k
    · subst hik
      rw [upk_at, upk_at]
      unfold Own
      rw [List.length_append, E.row_append, hp]
      exact hown
    · rw [upk_ne _ _ hik, upk_ne _ _ hik]
      exact kept _ _ (h.rb i hi) (h.obb i k hi hk hik).symm
  · by_cases hjk : j = k
    · subst hjk
      rw [upk_at]
      exact offv _ _ (h.ra i hi) (h.oab i j hi hj hij)
    · rw [upk_ne _ _ hjk]
      exact h.oab i j hi hj hij
  · by_cases hjk : j = k
    · subst hjk
      rw [upk_at, upk_ne _ _ hij]
      exact offv _ _ (h.rb i hi) (h.obb i j hi hj hij)
    · rw [upk_ne _ _ hjk]
      by_cases hik : i = k
      · subst hik
        rw [upk_at]
        exact (offv _ _ (h.rb j hj) (h.obb j i hj hi (Ne.symm hij))).symm
      · rw [upk_ne _ _ hik]
        exact h.obb i j hi hj hij
  · by_cases hik : i = k
    · subst hik
      rw [upk_at, upk_at]
      rcases h.tie i hi with ho | ⟨g, c, ys, ea, eb, eh⟩
      · exact Or.inl (offv _ _ (h.ra i hi) ho)
      · rcases hblk with e | e
        · refine Or.inr ⟨g, c, ys ++ zs, ea, ?_, by rw [eh, List.append_assoc]⟩
          unfold Own at hold
          rw [eb] at hold e
          rw [List.length_append, hp]
          exact own_capk E.pos hold hown e
        · refine Or.inl fun g' hg' hv => ?_
          have h1 := e g' hv
          have h2 := ((h.ra i hi).lt hg').2
          omega
    · rw [upk_ne _ _ hik, upk_ne _ _ hik]
      exact h.tie i hi
theorem Famk.marked {k N p : Nat} {l l' : Value} (h : Famk E w B e m a (upk b k l) F (upk H k (E.marks k 0 N))) (hk : k < m)
    (hown : w'.ownsRow B e E.sz l' (N + p) (E.row (E.marks k 0 N) ++ E.row (E.marks k N p))) (hgr : w.grownBy w' l.ownBlock)
    (hold : w'.ownsRow B e E.sz l N (E.row (E.marks k 0 N))) (hblk : l'.ownBlock = l.ownBlock ∨ ∀ g, l'.ownBlock = some g → w.heap.size ≤ g) :
    Famk E w' B e m a (upk b k l') F (upk H k (E.marks k 0 (N + p))) := by
  have := Famk.append h hk (v' := l') (zs := E.marks k N p) (p := p) (E.marks_length _ _ _) (by rw [upk_at, E.marks_length]; exact hown) (by rw [upk_at]; exact hgr) (by unfold Own; rw [upk_at, upk_at, E.marks_length]; exact hold) (by rw [upk_at]; exact hblk)
  rw [upk_upk, upk_upk, upk_at] at this
  have e := E.marks_append k 0 N p
  rw [Nat.zero_add] at e
  rw [e] at this
  exact this
end

/-- 'append(r, l...)' of elements of a kind, be l none. -/
theorem app_own {P : Program} {α : Type} (E : El α) (te e : TypeId) (z : Value) (bytes : Nat) (ht : P.underlying te = some (.slice e)) (hinfo : (P.info? e).map (fun i => (i.zero, i.size, i.bytes)) = some (some z, E.sz, bytes)) (hzs : z.cells.size = E.sz)
    (w : World) (base : Nat) (v : Value) (L M : List α) (hown : Own E w base e v L) (A : Option Addr) (c : Nat) (hA : A = none → M = []) (hM : ∀ a, A = some a → ∀ j u, (E.row M)[j]? = some u → w.cell? (a.add j) = some u)
    (h63 : L.length + M.length ≤ maxLen) (hbytes : (L.length + M.length) * bytes ≤ 140737488355328) (hbase : base ≤ w.heap.size) (m : Nat) (hm : m = M.length) :
    ∃ v' w', (∀ ty, (Builtin.append_ #[te, te] ty #[v, .slice A m c]).run P w = .ok v' w') ∧ Own E w' base e v' (L ++ M) ∧ w.grownBy w' v.ownBlock ∧ Own E w' base e v L ∧ (v'.ownBlock = v.ownBlock ∨ ∀ g, v'.ownBlock = some g → w.heap.size ≤ g) := by
  obtain ⟨i0, hi, hz, hsize, hby⟩ := info_parts hinfo
  subst hm
  cases A with
  | some a =>
    obtain ⟨v', w', hr, h2, h3, _⟩ := run_append_own (P := P) w base te 0 e i0 z E.sz bytes ht hi hz hsize hby hzs E.pos v L.length (E.row L) hown a M.length c (E.row M) (E.row_length M) (hM a rfl) (E.row_oneCell M) h63 hbytes hbase
    obtain ⟨h4, h5⟩ := append_keep w base te 0 e i0 z E.sz bytes ht hi hz hsize hby v L.length (E.row L) hown a M.length c (E.row M) (E.row_length M) (hM a rfl) (E.row_oneCell M) h63 hbytes v' w' hr
    refine ⟨v', w', fun ty => by rw [← hr]; rfl, ?_, h3, h4, h5⟩
    unfold Own
    rw [List.length_append, E.row_append]
    exact h2
  | none =>
    obtain rfl := hA rfl
    have hr : ∀ ty, (Builtin.append_ #[te, te] ty #[v, .slice none 0 c]).run P w = .ok v w := fun ty => by
      rcases hown.2 with ⟨rfl, _⟩ | ⟨g, cap, cur, rfl, _, _, hle, _⟩
      · simp [Builtin.append_, run_underlying ht, sizeOf, typeInfo, hi, Builtin.lenOf, Builtin.firstCells]
      · simp [Builtin.append_, run_underlying ht, sizeOf, typeInfo, hi, Builtin.lenOf, Builtin.firstCells, loadCells, storeCells, hle]
    exact ⟨v, w, hr, by rw [List.append_nil]; exact hown, ⟨rfl, rfl, rfl, Nat.le_refl _, fun _ _ _ => rfl⟩, hown, Or.inl rfl⟩
/-- An append whose run is known: in a region that draws nothing, and in one that draws. -/
theorem wpList_append_k {P : Program} (w w' : World) {ops : Array Oper} {rest : List Oper} {o : Oper} {a : Act} {Q : Exit → Act → World → Prop} (hgd : o.guard = none) (s x : Operand) (t : TypeId)
    (ho : o.op = .call { callee := .builtin .append, args := #[s, x], argTypes := #[t, t] }) (vs vx v : Value) (hs : a.eval s = vs) (hx : a.eval x = vx) (hrun : ∀ ty, (Builtin.append_ #[t, t] ty #[vs, vx]).run P w = .ok v w')
    (h : wpList P ops Q rest (a.put o.dst v) w') : wpList P ops Q (o :: rest) a w := by
  refine wpList_plain hgd fun _ hK => ?_
  unfold Oper.wp execOp
  simp only [ho, resolve, invoke, builtin, Sem.run_bind, Sem.run_pure, Result.andThen_ok, List.map_toArray, List.map_cons, List.map_nil, hs, hx, hrun]
  exact hK _ _ h
theorem step_append_k {P : Program} {ops : Array Oper} {o : Oper} {a : Act} {w w' : World} {K : Act → World → Prop} {Q : Exit → Act → World → Prop} {E : Prop}
    (hg : o.guard = none) (s x : Operand) (t : TypeId) (hop : o.op = Op.call { callee := Callee.builtin Builtin.append, args := #[s, x], argTypes := #[t, t] })
    (vs vx v : Value) (hs : a.eval s = vs) (hx : a.eval x = vx) (hrun : (Builtin.append_ #[t, t] o.type #[vs, vx]).run P w = .ok v w') (hK : K (a.put o.dst v) w') :
    if Region.wanted o (yielded ops a.tmps) = true then Oper.wp P o a w K Q else E := by
  have hw : Region.wanted o (yielded ops a.tmps) = true := by simp [Region.wanted, hg]
  rw [if_pos hw]
  unfold Oper.wp
  simp [execOp, hop, resolve, invoke, builtin, hs, hx, hrun, Result.andThen]
  exact hK
/-- All that is in a block of its own can be read. -/
theorem own_reads {α : Type} {E : El α} {w : World} {B : Nat} {e : TypeId} {A : Option Addr} {n c : Nat} {L : List α} (h : Own E w B e (.slice A n c) L) : n = L.length ∧ (A = none → L = []) ∧ ∀ a, A = some a → ∀ j u, (E.row L)[j]? = some u → w.cell? (a.add j) = some u := by
  have hc := fun g hg => World.ownsRow.cells h (g := g) hg
  rcases h.2 with ⟨h1, h0⟩ | ⟨g, cap, cur, hv, _⟩
  · injection h1 with e1 e2 e3
    subst e1 e2
    exact ⟨h0.symm, fun _ => List.eq_nil_of_length_eq_zero h0, fun a ha => by cases ha⟩
  · injection hv with e1 e2 e3
    subst e1
    exact ⟨e2, (fun h => by cases h), fun a ha => by cases ha; exact hc g rfl⟩
/-- Grown in a row that is new: grown in none. -/
theorem grow_k {a b c : World} {base : Nat} {e : TypeId} {sz n : Nat} {v : Value} {xs : List Value} (h : a.grownBy b none) (hown : b.ownsRow base e sz v n xs) (hb : a.heap.size ≤ base) (g : b.grownBy c v.ownBlock) : a.grownBy c none :=
  ⟨g.os.trans h.os, g.tape.trans h.tape, g.output.trans h.output, Nat.le_trans h.size g.size, fun k hk _ => (g.block k (Nat.lt_of_lt_of_le hk h.size) (fun e => by have := (hown.lt k e.symm).1; omega)).trans (h.block k hk (by simp))⟩
theorem gnone {a b c : World} (h : a.grownBy b none) (g : b.grownBy c none) : a.grownBy c none :=
  ⟨g.os.trans h.os, g.tape.trans h.tape, g.output.trans h.output, Nat.le_trans h.size g.size, fun k hk _ => (g.block k (Nat.lt_of_lt_of_le hk h.size) (by simp)).trans (h.block k hk (by simp))⟩
theorem grefl (w : World) (row : Option Nat) : w.grownBy w row := ⟨rfl, rfl, rfl, Nat.le_refl _, fun _ _ _ => rfl⟩
theorem below_g {w w' : World} (h : w.grownBy w' none) : Below w.heap.size w w' := ⟨h.os, h.tape, h.output, h.size, fun k hk => h.block k hk (by simp)⟩
theorem g_below {w w' : World} (h : Below w.heap.size w w') : w.grownBy w' none := ⟨h.os, h.tape, h.output, h.size, fun k hk _ => h.block k hk⟩
end Go.Proofs.Ytcljocmaojfhhaa

namespace Go.Proofs.Ytcljocmaojfhhaa
open Go.RowKit

theorem u8info : (Try.prog.info? 5).map (fun i => (i.zero, i.size, i.bytes)) = some (some (.int .u8 0), 1, 1) := by kernel_rfl

/-- A number in groups of seven bits. -/
def pv (v : Nat) : List UInt8 := if v < 128 then [UInt8.ofNat v] else UInt8.ofNat (v % 128 + 128) :: pv (v / 128)
  termination_by v
  decreasing_by omega

theorem or_128 : ∀ c : Nat, c < 256 → bits .or .u8 (c : Int) 128 = ((c % 128 + 128 : Nat) : Int) := by decide +kernel

theorem u8_of (n : Nat) (h : n < 256) : (n : Int) = ((UInt8.ofNat n).toNat : Int) := by simp; omega

theorem pv_more (v : Nat) (h : 128 ≤ v) : pv v = UInt8.ofNat (v % 128 + 128) :: pv (v / 128) := by rw [pv, if_neg (by omega)]
theorem pv_last (v : Nat) (h : v < 128) : pv v = [UInt8.ofNat v] := by rw [pv, if_pos h]

end Go.Proofs.Ytcljocmaojfhhaa

namespace Go.Proofs.Ytcljocmaojfhhaa
open Go.RowKit

/-- A number as n bytes, the highest first. -/
def be (v n : Nat) : List UInt8 := (List.range n).map fun i => UInt8.ofNat (v / 2 ^ (8 * (n - 1 - i)) % 256)

theorem be_length (v n : Nat) : (be v n).length = n := by simp [be]
theorem be_get (v n k : Nat) (h : k < n) : (be v n)[k]? = some (UInt8.ofNat (v / 2 ^ (8 * (n - 1 - k)) % 256)) := by unfold be; rw [List.getElem?_map, List.getElem?_range h]; rfl
theorem be_step (v n k : Nat) (h : k < n) : (((be v n).take k ++ List.replicate (n - k) (0 : UInt8)).map b8).set k (.int .u8 ((v : Int) / 2 ^ (8 * (n - 1 - k)) % 256)) =
    ((be v n).take (k + 1) ++ List.replicate (n - (k + 1)) (0 : UInt8)).map b8 := by
  obtain ⟨c, hc⟩ : ∃ c, c = UInt8.ofNat (v / 2 ^ (8 * (n - 1 - k)) % 256) := ⟨_, rfl⟩
  have hb : Value.int .u8 ((v : Int) / 2 ^ (8 * (n - 1 - k)) % 256) = b8 c := by
    have e : (v : Int) / 2 ^ (8 * (n - 1 - k)) % 256 = ((v / 2 ^ (8 * (n - 1 - k)) % 256 : Nat) : Int) := by rw [Int.natCast_emod, Int.natCast_ediv, Int.natCast_pow]; rfl
    rw [e, u8_of _ (by omega), ← hc]
    rfl
  have hg := be_get v n k h
  rw [← hc] at hg
  have hl := be_length v n
  have hlt : (List.take k (be v n)).length = k := by simp; omega
  rw [hb, ← List.map_set, List.set_append_right _ _ (by omega), hlt, Nat.sub_self, show n - k = (n - (k + 1)) + 1 from by omega, List.replicate_succ, List.set_cons_zero]
  rw [List.take_add_one, hg]
  simp

end Go.Proofs.Ytcljocmaojfhhaa

namespace Go.Proofs.Ytcljocmaojfhhaa
open Go.RowKit

/-- What four of a sum's eight steps make of four bits. -/
def halvesL : List Int := [0, 274646895, 549293790, 820201905, 1098587580, 1361435347, 1640403810, 1905808397, 2197175160, 2460548119, 2722870694, 2987750089, 3280807620, 3553878443, 3811616794, 4084100981]

def halfN (i : Nat) : Nat := (halvesL.getD i 0).toNat
theorem halfN_lt : ∀ i < 16, halvesL.getD i 0 = (halfN i : Int) ∧ halfN i < 4294967296 := by decide

/-- Four bits of a sum. -/
def nib (b : Nat) : Nat := (b / 16) ^^^ halfN (b % 16)
theorem nib_lt (b : Nat) (hb : b < 4294967296) : nib b < 4294967296 := by
  have h1 := (halfN_lt (b % 16) (by omega)).2
  exact Nat.xor_lt_two_pow (n := 32) (by omega) (by omega)

/-- A sum goes on by a byte. -/
def sumStep (a : Nat) (c : UInt8) : Nat := nib (nib (a ^^^ c.toNat))
theorem sumStep_lt (a : Nat) (c : UInt8) (ha : a < 4294967296) : sumStep a c < 4294967296 :=
  nib_lt _ (nib_lt _ (Nat.xor_lt_two_pow (n := 32) ha (by have := UInt8.toNat_lt c; omega)))

def sumL (l : List UInt8) : Nat := l.foldl sumStep 4294967295
theorem foldl_sum_lt (l : List UInt8) (a : Nat) (ha : a < 4294967296) : l.foldl sumStep a < 4294967296 := by
  induction l generalizing a with
  | nil => exact ha
  | cons c r ih => exact ih _ (sumStep_lt a c ha)
theorem sumL_lt (l : List UInt8) : sumL l < 4294967296 := foldl_sum_lt l _ (by decide)

theorem sum_snoc (s : ByteArray) (k : Nat) (h : k < s.size) : sumL (s.data.toList.take (k + 1)) = sumStep (sumL (s.data.toList.take k)) s[k] := by
  unfold sumL
  rw [List.take_succ_eq_append_getElem (by simpa using h), List.foldl_append]
  rfl

theorem nib_walk (b : Nat) (hb : b < 4294967296) : bits .and .u32 (b : Int) 15 = ((b % 16 : Nat) : Int) ∧ bits .xor .u32 ((b : Int) / 16) (halvesL.getD (b % 16) 0) = (nib b : Int) := by
  have h1 := halfN_lt (b % 16) (by omega)
  constructor
  · have := u32_and_nat b 15 hb (by decide)
    rw [show b &&& 15 = b % 16 from Nat.and_two_pow_sub_one_eq_mod b 4] at this
    exact this
  · rw [h1.1, show (b : Int) / 16 = ((b / 16 : Nat) : Int) from by omega, u32_xor_nat _ _ (by omega) h1.2]
    rfl

/-- The check sum of some bytes. -/
def crc (l : List UInt8) : Nat := 4294967295 - sumL l

end Go.Proofs.Ytcljocmaojfhhaa

namespace Go.Proofs.Ytcljocmaojfhhaa
open Go.RowKit

/-! ### One byte changed changes the sum -/
theorem half_top : ∀ i < 16, halfN i / 268435456 = i := by decide
theorem nib_top (b : Nat) (hb : b < 4294967296) : nib b / 268435456 = b % 16 := by
  have h1 := half_top (b % 16) (by omega)
  have e : ∀ x : Nat, x / 268435456 = x >>> 28 := fun x => (Nat.shiftRight_eq_div_pow x 28).symm
  unfold nib
  rw [e] at h1 ⊢
  rw [Nat.shiftRight_xor_distrib, h1, Nat.shiftRight_eq_div_pow, show b / 16 / 2 ^ 28 = 0 from by omega, Nat.zero_xor]
theorem xor_cancel (a b c : Nat) (h : a ^^^ c = b ^^^ c) : a = b := by
  have := congrArg (· ^^^ c) h
  simp only [Nat.xor_assoc, Nat.xor_self, Nat.xor_zero] at this
  exact this
theorem nib_inj (b c : Nat) (hb : b < 4294967296) (hc : c < 4294967296) (h : nib b = nib c) : b = c := by
  have h1 := nib_top b hb
  have h2 := nib_top c hc
  rw [h, h2] at h1
  unfold nib at h
  rw [h1] at h
  have h3 := xor_cancel _ _ _ h
  omega
theorem xor_byte_lt (a : Nat) (c : UInt8) (ha : a < 4294967296) : a ^^^ c.toNat < 4294967296 := Nat.xor_lt_two_pow (n := 32) ha (by have := UInt8.toNat_lt c; omega)
theorem step_inj (a b : Nat) (c : UInt8) (ha : a < 4294967296) (hb : b < 4294967296) (h : sumStep a c = sumStep b c) : a = b := by
  have h1 := xor_byte_lt a c ha
  have h2 := xor_byte_lt b c hb
  exact xor_cancel _ _ _ (nib_inj _ _ h1 h2 (nib_inj _ _ (nib_lt _ h1) (nib_lt _ h2) h))
theorem step_inj_byte (a : Nat) (c d : UInt8) (ha : a < 4294967296) (h : sumStep a c = sumStep a d) : c = d := by
  have h1 := xor_byte_lt a c ha
  have h2 := xor_byte_lt a d ha
  have h3 := nib_inj _ _ h1 h2 (nib_inj _ _ (nib_lt _ h1) (nib_lt _ h2) h)
  rw [Nat.xor_comm a, Nat.xor_comm a] at h3
  exact UInt8.toNat_inj.1 (xor_cancel _ _ _ h3)
theorem foldl_inj (l : List UInt8) : ∀ a b, a < 4294967296 → b < 4294967296 → l.foldl sumStep a = l.foldl sumStep b → a = b := by
  induction l with
  | nil => intro a b _ _ h; exact h
  | cons c r ih => intro a b ha hb h; exact step_inj a b c ha hb (ih _ _ (sumStep_lt a c ha) (sumStep_lt b c hb) h)

theorem crc_changed (l : List UInt8) (k : Nat) (hk : k < l.length) (d : UInt8) (hd : l[k] ≠ d) : crc l ≠ crc (l.set k d) := by
  intro h
  have h1 := sumL_lt l
  have h2 := sumL_lt (l.set k d)
  have h3 : sumL l = sumL (l.set k d) := by unfold crc at h; omega
  have e1 : l = l.take k ++ l[k] :: l.drop (k + 1) := by rw [List.getElem_cons_drop, List.take_append_drop]
  have e2 : l.set k d = l.take k ++ d :: l.drop (k + 1) := List.set_eq_take_append_cons_drop.trans (by rw [if_pos hk])
  rw [e2] at h3
  conv at h3 => lhs; rw [e1]
  unfold sumL at h3
  rw [List.foldl_append, List.foldl_append, List.foldl_cons, List.foldl_cons] at h3
  have hp := foldl_sum_lt (l.take k) 4294967295 (by decide)
  have h4 := foldl_inj _ _ _ (sumStep_lt _ _ hp) (sumStep_lt _ _ hp) h3
  exact hd (step_inj_byte _ _ _ hp h4)

theorem ofInt_u8 (a : Nat) (ha : a < 256) : (BitVec.ofInt 8 (a : Int)).toNat = a := by
  rw [BitVec.ofInt_natCast, BitVec.toNat_ofNat]; exact Nat.mod_eq_of_lt (by omega)
theorem u8_xor (a : Nat) (ha : a < 256) (b : Nat) (hb : b < 256) : bits .xor .u8 (a : Int) (b : Int) = ((a ^^^ b : Nat) : Int) := by
  have hx : a ^^^ b < 2 ^ 8 := Nat.xor_lt_two_pow (by omega) (by omega)
  show IntKind.u8.wrap ((BitVec.ofInt 8 (a : Int) ^^^ BitVec.ofInt 8 (b : Int)).toNat : Int) = _
  rw [BitVec.toNat_xor, ofInt_u8 a ha, ofInt_u8 b hb, IntKind.wrap_u8]
  omega
end Go.Proofs.Ytcljocmaojfhhaa

namespace Go.Proofs.Ytcljocmaojfhhaa
open Go.RowKit

end Go.Proofs.Ytcljocmaojfhhaa

namespace Go.Proofs.Ytcljocmaojfhhaa
open Go.RowKit

inductive GV where
  | ok (v n : Nat)
  | err (e : Int)

/-- What GetVar makes of bytes: i groups are taken, v is what they say. -/
def gv : List UInt8 → Nat → Nat → GV
  | [], i, _ => if i < 9 then .err 3 else .err 4
  | c :: r, i, v => if 9 ≤ i then .err 4 else if 128 ≤ c.toNat then gv r (i + 1) (v + c.toNat % 128 * 2 ^ (7 * i)) else if c.toNat = 0 ∧ 0 < i then .err 4 else .ok (v + c.toNat % 128 * 2 ^ (7 * i)) (i + 1)

theorem gv_long (l : List UInt8) (i v : Nat) (h : 9 ≤ i) : gv l i v = .err 4 := by
  cases l with
  | nil => rw [gv, if_neg (by omega)]
  | cons c r => rw [gv, if_pos h]

theorem gv_short (l : List UInt8) (i v : Nat) (h : i < 9) (hl : l = []) : gv l i v = .err 3 := by
  subst hl; rw [gv, if_pos h]

theorem gv_more (s : ByteArray) (k a : Nat) (hl : k < s.size) (hk : k < 9) (h : 128 ≤ s[k].toNat) :
    gv (s.data.toList.drop k) k a = gv (s.data.toList.drop (k + 1)) (k + 1) (a + s[k].toNat % 128 * 2 ^ (7 * k)) := by
  rw [List.drop_eq_getElem_cons (by simpa using hl), gv, if_neg (by omega), if_pos (by exact h)]; rfl
theorem gv_zero (s : ByteArray) (k a : Nat) (hl : k < s.size) (hk : k < 9) (h : s[k].toNat = 0) (h0 : 0 < k) :
    gv (s.data.toList.drop k) k a = .err 4 := by
  have e : (s.data.toList[k]'(by simpa using hl)).toNat = 0 := h
  rw [List.drop_eq_getElem_cons (by simpa using hl), gv, if_neg (by omega), if_neg (by omega), if_pos ⟨e, h0⟩]
theorem gv_last (s : ByteArray) (k a : Nat) (hl : k < s.size) (hk : k < 9) (h : s[k].toNat < 128) (h0 : ¬ (s[k].toNat = 0 ∧ 0 < k)) :
    gv (s.data.toList.drop k) k a = .ok (a + s[k].toNat % 128 * 2 ^ (7 * k)) (k + 1) := by
  have h' : (s.data.toList[k]'(by simpa using hl)).toNat < 128 := h
  have h0' : ¬ ((s.data.toList[k]'(by simpa using hl)).toNat = 0 ∧ 0 < k) := h0
  rw [List.drop_eq_getElem_cons (by simpa using hl), gv, if_neg (by omega), if_neg (by omega), if_neg h0']; rfl

end Go.Proofs.Ytcljocmaojfhhaa

namespace Go.Proofs.Ytcljocmaojfhhaa
open Go.RowKit

end Go.Proofs.Ytcljocmaojfhhaa

namespace Go.Proofs
open Go.Shelf
def Try.lays213_ren : Go.Shelf.Ren := ⟨fun | 213 => 32 | 265 => 33 | n => n, fun | 9 => 9 | 3 => 3 | n => n, fun | n => n⟩
theorem Try.lays213 : Go.Proofs.Lays.n213 Try.prog Try.lays213_ren := {
  mixed := by kernel_rfl
  f213 := Try.func32.trans (congrArg some (by kernel_rfl))
  f265 := Try.func33.trans (congrArg some (by kernel_rfl))
  t3 := Try.underlying3
  a3 := Try.isAgg3
  z3 := Try.sizeOf3
  v3 := Try.zeroValue3
  t9 := Try.underlying9
  a9 := Try.isAgg9
  z9 := Try.sizeOf9
  v9 := Try.zeroValue9 }
open Go.RowKit in
/-- internal/bytealg.CompareString (what strings.Compare calls): IT RETURNS 'Lib.compareBytes a b'; the world is as it was. (LAID: no walk: one application.) -/
theorem Try.bytealg_CompareString (a b : ByteArray) (w : World) :
    Calls Try.prog 32 #[.string a, .string b] w fun e w' => e = .returned (.int .i64 (Lib.compareBytes a.data.toList b.data.toList)) ∧ w' = w := Any.bytealg_CompareString Try.lays213 a b w
def Try.lays106_ren : Go.Shelf.Ren := ⟨fun | 106 => 29 | 213 => 32 | 265 => 33 | n => n, fun | 9 => 9 | 3 => 3 | n => n, fun | n => n⟩
theorem Try.lays106 : Go.Proofs.Lays.n106 Try.prog Try.lays106_ren := {
  mixed := by kernel_rfl
  f106 := Try.func29.trans (congrArg some (by kernel_rfl))
  f213 := Try.func32.trans (congrArg some (by kernel_rfl))
  f265 := Try.func33.trans (congrArg some (by kernel_rfl))
  t3 := Try.underlying3
  a3 := Try.isAgg3
  z3 := Try.sizeOf3
  v3 := Try.zeroValue3
  t9 := Try.underlying9
  a9 := Try.isAgg9
  z9 := Try.sizeOf9
  v9 := Try.zeroValue9 }
open Go.RowKit in
/-- strings.Compare: "Compare returns an integer comparing two strings lexicographically. The result will be 0 if a == b, -1 if a < b, and +1 if a > b.": IT RETURNS 'Lib.compareBytes a b'; the world is as it was. (LAID: no walk: one application.) -/
theorem Try.strings_Compare (a b : ByteArray) (w : World) :
    Calls Try.prog 29 #[.string a, .string b] w fun e w' => e = .returned (.int .i64 (Lib.compareBytes a.data.toList b.data.toList)) ∧ w' = w := Any.strings_Compare Try.lays106 a b w
def Try.lays215_ren : Go.Shelf.Ren := ⟨fun | 215 => 31 | n => n, fun | 3 => 3 | 4 => 4 | n => n, fun | n => n⟩
theorem Try.lays215 : Go.Proofs.Lays.n215 Try.prog Try.lays215_ren := {
  mixed := by kernel_rfl
  f215 := Try.func31.trans (congrArg some (by kernel_rfl))
  t3 := Try.underlying3
  a3 := Try.isAgg3
  z3 := Try.sizeOf3
  v3 := Try.zeroValue3
  t4 := Try.underlying4
  a4 := Try.isAgg4
  z4 := Try.sizeOf4
  v4 := Try.zeroValue4 }
open Go.RowKit in
/-- cmp.isNaN at int: 'x != x': false. (LAID: no walk: one application.) -/
theorem Try.cmp_isNaN_int (x : Int) (w : World) :
    Calls Try.prog 31 #[.int .i64 x] w fun e w' => e = .returned (.bool false) ∧ w' = w := Any.cmp_isNaN_int Try.lays215 x w
def Try.lays122_ren : Go.Shelf.Ren := ⟨fun | 122 => 28 | 215 => 31 | n => n, fun | 3 => 3 | 4 => 4 | n => n, fun | n => n⟩
theorem Try.lays122 : Go.Proofs.Lays.n122 Try.prog Try.lays122_ren := {
  mixed := by kernel_rfl
  f122 := Try.func28.trans (congrArg some (by kernel_rfl))
  f215 := Try.func31.trans (congrArg some (by kernel_rfl))
  t3 := Try.underlying3
  a3 := Try.isAgg3
  z3 := Try.sizeOf3
  v3 := Try.zeroValue3
  t4 := Try.underlying4
  a4 := Try.isAgg4
  z4 := Try.sizeOf4
  v4 := Try.zeroValue4 }
open Go.RowKit in
/-- cmp.Compare at int: "Compare returns -1 if x is less than y, 0 if x equals y, +1 if x is greater than y.": IT RETURNS 'Lib.compareInt x y'; the world is as it was. (LAID: no walk: one application.) -/
theorem Try.cmp_Compare_int (x y : Int) (w : World) :
    Calls Try.prog 28 #[.int .i64 x, .int .i64 y] w fun e w' => e = .returned (.int .i64 (Lib.compareInt x y)) ∧ w' = w := Any.cmp_Compare_int Try.lays122 x y w
def Try.laysNm237_ren : Go.Shelf.Ren := ⟨fun | 37 => 31 | n => n, fun | 3 => 3 | 4 => 4 | n => n, fun | n => n⟩
theorem Try.laysNm237 : Go.Proofs.Lays2.n37 Try.prog Try.laysNm237_ren := {
  mixed := by kernel_rfl
  f37 := Try.func31.trans (congrArg some (by kernel_rfl))
  t3 := Try.underlying3
  a3 := Try.isAgg3
  z3 := Try.sizeOf3
  v3 := Try.zeroValue3
  t4 := Try.underlying4
  a4 := Try.isAgg4
  z4 := Try.sizeOf4
  v4 := Try.zeroValue4 }
open Go.RowKit Go.Lib in
/-- cmp.isNaN[int]: 'x != x': false. (LAID: no walk: one application.) -/
theorem Try.cmp_isNaN_int2 (x : Int) (w : World) :
    Calls Try.prog 31 #[.int .i64 x] w fun e w' => e = .returned (.bool false) ∧ w' = w := Any.cmp_isNaN_int2 Try.laysNm237 x w
end Go.Proofs

namespace Go.Proofs.Ytcljocmaojfhhaa
open Go.RowKit

theorem lt_of_cell {w : World} {g i : Nat} {v : Value} (h : w.cell? ⟨g, i, none⟩ = some v) : g < w.heap.size := by
  rcases Nat.lt_or_ge g w.heap.size with hlt | hge
  · exact hlt
  · simp [World.cell?, Array.getElem?_eq_none hge] at h

theorem below_grow {B : Nat} {a w : World} (h : Below B a w) (hB : B ≤ w.heap.size) (os : Array Obj) : Below B a (Sort.grow w os) :=
  ⟨h.os, h.tape, h.output, by have := h.size; simp [Sort.grow]; omega, fun i hi => by
    rw [← h.block i hi]
    simp [Sort.grow, Array.getElem?_append, show i < w.heap.size from by omega]⟩

end Go.Proofs.Ytcljocmaojfhhaa

namespace Go.Proofs.Ytcljocmaojfhhaa
open Go.RowKit

/-- The tables that the laws' first call reads. -/
structure Laid (w : World) : Prop where
  halves : Lib.TabIs Try.prog w "bedrock/raw.halves" .u32 halvesL
  pow10 : Lib.TabIs Try.prog w "internal/strconv.uint64pow10" .u64 Lib.pow10Tab

theorem crc_9 : crc [49, 50, 51, 52, 53, 54, 55, 56, 57] = 3808858755 := by decide +kernel
theorem itoa_50 : Lib.itoa (-50) = [45, 53, 48] := by decide +kernel
theorem gv_300 : gv [172, 2, 120] 0 0 = .ok 300 2 := by rfl
theorem be_258 : be 258 2 = [1, 2] := by decide +kernel

end Go.Proofs.Ytcljocmaojfhhaa

namespace Go.Proofs.Ytcljocmaojfhhaa
open Go.RowKit

theorem gv_begin (l : List UInt8) : ∀ i v, (∀ c ∈ l, 128 ≤ c.toNat) → i + l.length < 9 → gv l i v = .err 3 := by
  induction l with
  | nil => intro i v _ h; exact gv_short _ _ _ (by simpa using h) rfl
  | cons c r ih =>
    intro i v hc hl
    rw [List.length_cons] at hl
    have hc' := hc c (by simp)
    rw [gv, if_neg (by omega), if_pos hc']
    exact ih _ _ (fun d hd => hc d (by simp [hd])) (by omega)

theorem pv_high (v : Nat) : ∀ i < (pv v).length, ∀ c ∈ (pv v).take i, 128 ≤ c.toNat := by
  induction v using Nat.strongRecOn with
  | _ v ih =>
    intro i hi c hc
    by_cases h : v < 128
    · rw [pv_last v h] at hi hc
      obtain rfl : i = 0 := by simpa using hi
      simp at hc
    · rw [pv_more v (by omega)] at hi hc
      match i, hc with
      | 0, hc => simp at hc
      | i + 1, hc =>
        rw [List.take_succ_cons, List.mem_cons] at hc
        rcases hc with rfl | hc
        · rw [UInt8.toNat_ofNat']; omega
        · exact ih (v / 128) (by omega) i (by simpa using hi) c hc

theorem pv_len (k v : Nat) (h : v < 2 ^ (7 * k)) (hk : 1 ≤ k) : (pv v).length ≤ k := by
  induction k generalizing v with
  | zero => omega
  | succ k ih =>
    by_cases hv : v < 128
    · rw [pv_last v hv]; simp
    · rw [pv_more v (by omega), List.length_cons]
      rcases Nat.eq_zero_or_pos k with h0 | h0
      · subst h0; simp at h; omega
      · have h2 : 2 ^ (7 * (k + 1)) = 128 * 2 ^ (7 * k) := by rw [Nat.mul_add, Nat.pow_add]; omega
        have := ih (v / 128) (by rw [Nat.div_lt_iff_lt_mul (by decide)]; omega) h0
        omega
theorem pv_pos (v : Nat) : 1 ≤ (pv v).length := by
  by_cases hv : v < 128
  · rw [pv_last v hv]; simp
  · rw [pv_more v (by omega)]; simp
theorem pv_len9 (v : Nat) (h : v < 9223372036854775808) : (pv v).length ≤ 9 := pv_len 9 v (by omega) (by decide)

theorem gv_pv (r : List UInt8) (u : Nat) : ∀ i a, i + (pv u).length ≤ 9 → (0 < i → 0 < u) → gv (pv u ++ r) i a = .ok (a + u * 2 ^ (7 * i)) (i + (pv u).length) := by
  induction u using Nat.strongRecOn with
  | _ u ih =>
    intro i a hi h0
    by_cases h : u < 128
    · rw [pv_last u h] at hi ⊢
      rw [List.length_singleton] at hi ⊢
      have e : (UInt8.ofNat u).toNat = u := by rw [UInt8.toNat_ofNat']; omega
      show gv (UInt8.ofNat u :: r) i a = _
      rw [gv, e, if_neg (by omega), if_neg (by omega), if_neg (by omega), Nat.mod_eq_of_lt h]
    · have hp := pv_more u (by omega)
      rw [hp] at hi ⊢
      rw [List.length_cons] at hi ⊢
      have hq := pv_pos (u / 128)
      have e : (UInt8.ofNat (u % 128 + 128)).toNat = u % 128 + 128 := by rw [UInt8.toNat_ofNat']; omega
      rw [List.cons_append, gv, e, if_neg (by omega), if_pos (by omega), ih (u / 128) (by omega) (i + 1) _ (by omega) (fun _ => by omega)]
      have e2 : (u % 128 + 128) % 128 = u % 128 := by omega
      have e3 : 2 ^ (7 * (i + 1)) = 128 * 2 ^ (7 * i) := by rw [Nat.mul_add, Nat.pow_add]; omega
      have e4 : u % 128 * 2 ^ (7 * i) + u / 128 * (128 * 2 ^ (7 * i)) = u * 2 ^ (7 * i) := by
        rw [← Nat.mul_assoc, ← Nat.add_mul]
        congr 1
        omega
      rw [e2, e3]
      congr 1
      · omega
      · omega



end Go.Proofs.Ytcljocmaojfhhaa

namespace Go.Proofs.Ytcljocmaojfhhaa
open Go.RowKit

set_option maxHeartbeats 400000 in
theorem compare_any (a b : ByteArray) (w : World) :
    Calls Try.prog 22 #[.string a, .string b] w fun e w' => e = .returned (.int .i64 (Lib.compareBytes a.data.toList b.data.toList)) ∧ w = w' := by
  go_enter Try.func22, Try.ntmps22
  go_wp2_with fail
  refine (Try.strings_Compare a b w).mono ?_
  rintro e w' ⟨rfl, rfl⟩
  go_wp2
  go_ret
  exact ⟨rfl, rfl⟩


/-! ### The order of bytes -/
theorem cmp_range (a b : List UInt8) : -1 ≤ Lib.compareBytes a b ∧ Lib.compareBytes a b ≤ 1 := by
  fun_induction Lib.compareBytes a b <;> first | omega | assumption
theorem cmp_swap (a b : List UInt8) : Lib.compareBytes b a = -Lib.compareBytes a b := by
  fun_induction Lib.compareBytes a b with
  | case1 => rfl
  | case2 => rfl
  | case3 => rfl
  | case4 x l y r h => rw [Lib.compareBytes, if_neg (by simp only [UInt8.lt_iff_toNat_lt] at *; omega), if_pos h]; rfl
  | case5 x l y r h h' => rw [Lib.compareBytes, if_pos h']
  | case6 x l y r h h' ih => rw [Lib.compareBytes, if_neg h', if_neg h, ih]
theorem cmp_eq (a b : List UInt8) : Lib.compareBytes a b = 0 ↔ a = b := by
  fun_induction Lib.compareBytes a b with
  | case1 => simp
  | case2 => simp
  | case3 => simp
  | case4 x l y r h => exact ⟨fun e => absurd e (by decide), fun e => by injection e with e1 _; subst e1; simp only [UInt8.lt_iff_toNat_lt] at h; omega⟩
  | case5 x l y r h h' => exact ⟨fun e => absurd e (by decide), fun e => by injection e with e1 _; subst e1; simp only [UInt8.lt_iff_toNat_lt] at h'; omega⟩
  | case6 x l y r h h' ih =>
    have e : x = y := by
      apply UInt8.toNat_inj.1
      simp only [UInt8.lt_iff_toNat_lt] at *
      omega
    rw [ih]; simp [e]
theorem cmp_trans (a b c : List UInt8) : Lib.compareBytes a b ≤ 0 → Lib.compareBytes b c ≤ 0 → Lib.compareBytes a c ≤ 0 ∧ (Lib.compareBytes a b < 0 → Lib.compareBytes a c < 0) := by
  fun_induction Lib.compareBytes a b generalizing c with
  | case1 => intro _ h; exact ⟨h, fun h => absurd h (by decide)⟩
  | case2 y bs =>
    intro _ h
    cases c with
    | nil => simp [Lib.compareBytes] at h
    | cons z cs => simp [Lib.compareBytes]
  | case3 => intro h; exact absurd h (by decide)
  | case4 x l y r h =>
    intro _ h2
    cases c with
    | nil => simp [Lib.compareBytes] at h2
    | cons z cs =>
      have hxz : x < z := by
        rw [Lib.compareBytes] at h2
        simp only [UInt8.lt_iff_toNat_lt] at *
        split at h2
        · omega
        · split at h2
          · exact absurd h2 (by decide)
          · omega
      rw [Lib.compareBytes, if_pos hxz]
      decide
  | case5 x l y r h h' => intro h; exact absurd h (by decide)
  | case6 x l y r h h' ih =>
    have e : x = y := by
      apply UInt8.toNat_inj.1
      simp only [UInt8.lt_iff_toNat_lt] at *
      omega
    subst e
    intro h1 h2
    cases c with
    | nil => simp [Lib.compareBytes] at h2
    | cons z cs =>
      rw [Lib.compareBytes] at h2 ⊢
      split
      · exact ⟨by decide, fun _ => by decide⟩
      · rename_i h3
        rw [if_neg h3] at h2
        split
        · rename_i h4; rw [if_pos h4] at h2; exact absurd h2 (by decide)
        · rename_i h4; rw [if_neg h4] at h2; exact ih cs h1 h2

theorem be_succ (v n : Nat) : be v (n + 1) = UInt8.ofNat (v / 2 ^ (8 * n) % 256) :: be v n := by
  unfold be
  rw [List.range_succ_eq_map, List.map_cons, List.map_map]
  congr 1
  apply List.map_congr_left
  intro i _
  simp only [Function.comp]
  rw [show n + 1 - 1 - i.succ = n - 1 - i from by omega]
theorem be_mod (v n : Nat) : be v n = be (v % 2 ^ (8 * n)) n := by
  unfold be
  apply List.map_congr_left
  intro i hi
  have hi : i < n := List.mem_range.1 hi
  have e : 2 ^ (8 * n) = 2 ^ (8 * (n - 1 - i)) * (256 * 2 ^ (8 * i)) := by
    rw [show (256 : Nat) = 2 ^ 8 from rfl, ← Nat.pow_add, ← Nat.pow_add]
    congr 1
    omega
  have e2 : v % 2 ^ (8 * n) / 2 ^ (8 * (n - 1 - i)) = v / 2 ^ (8 * (n - 1 - i)) % (256 * 2 ^ (8 * i)) := by rw [e, Nat.mod_mul_right_div_self]
  rw [e2, Nat.mod_mul_right_mod]
theorem be_cmp (n : Nat) : ∀ v u : Nat, v < 2 ^ (8 * n) → u < 2 ^ (8 * n) → Lib.compareBytes (be v n) (be u n) = if v < u then -1 else if v = u then 0 else 1 := by
  induction n with
  | zero =>
    intro v u hv hu
    have hv : v < 1 := hv
    have hu : u < 1 := hu
    obtain rfl : v = 0 := by omega
    obtain rfl : u = 0 := by omega
    rfl
  | succ n ih =>
    intro v u hv hu
    have hp : 2 ^ (8 * (n + 1)) = 256 * 2 ^ (8 * n) := by rw [Nat.mul_add, Nat.pow_add, Nat.mul_comm]
    have hv1 : v / 2 ^ (8 * n) < 256 := by rw [Nat.div_lt_iff_lt_mul (Nat.two_pow_pos _)]; omega
    have hu1 : u / 2 ^ (8 * n) < 256 := by rw [Nat.div_lt_iff_lt_mul (Nat.two_pow_pos _)]; omega
    have hm := ih (v % 2 ^ (8 * n)) (u % 2 ^ (8 * n)) (Nat.mod_lt _ (Nat.two_pow_pos _)) (Nat.mod_lt _ (Nat.two_pow_pos _))
    rw [← be_mod, ← be_mod] at hm
    rw [be_succ, be_succ, Lib.compareBytes, hm]
    have hvd := Nat.div_add_mod v (2 ^ (8 * n))
    have hud := Nat.div_add_mod u (2 ^ (8 * n))
    have hvl := Nat.mod_lt v (Nat.two_pow_pos (8 * n))
    have hul := Nat.mod_lt u (Nat.two_pow_pos (8 * n))
    generalize v / 2 ^ (8 * n) = A at *
    generalize u / 2 ^ (8 * n) = B at *
    generalize v % 2 ^ (8 * n) = C at *
    generalize u % 2 ^ (8 * n) = D at *
    generalize 2 ^ (8 * n) = M at *
    have hA : (UInt8.ofNat (A % 256)).toNat = A := by rw [UInt8.toNat_ofNat']; omega
    have hB : (UInt8.ofNat (B % 256)).toNat = B := by rw [UInt8.toNat_ofNat']; omega
    simp only [UInt8.lt_iff_toNat_lt, hA, hB]
    rcases Nat.lt_trichotomy A B with h | h | h
    · have h2 : M * A + M ≤ M * B := by rw [← Nat.mul_succ]; exact Nat.mul_le_mul_left _ h
      rw [if_pos h, if_pos (by omega)]
    · subst h
      rw [if_neg (by omega), if_neg (by omega)]
      by_cases h1 : C < D
      · rw [if_pos h1, if_pos (by omega)]
      · by_cases h2 : C = D
        · rw [if_neg h1, if_pos h2, if_neg (by omega), if_pos (by omega)]
        · rw [if_neg h1, if_neg h2, if_neg (by omega), if_neg (by omega)]
    · have h2 : M * B + M ≤ M * A := by rw [← Nat.mul_succ]; exact Nat.mul_le_mul_left _ h
      rw [if_neg (by omega), if_pos h, if_neg (by omega), if_neg (by omega)]

/-- What Put answers. -/
def PutIs (v n : Int) (s : ByteArray) (er : Int) : Prop :=
  (er = 0 ∧ 1 ≤ n ∧ n ≤ 7 ∧ 0 ≤ v ∧ v < 2 ^ (8 * n.toNat) ∧ s = ⟨(be v.toNat n.toNat).toArray⟩) ∨ (er = 1 ∧ s = ByteArray.empty ∧ (n < 1 ∨ 7 < n ∨ v < 0 ∨ 2 ^ (8 * n.toNat) ≤ v))

theorem put_cmp {v u n : Int} {s t : ByteArray} (hs : PutIs v n s 0) (ht : PutIs u n t 0) :
    (v < u ∧ Lib.compareBytes s.data.toList t.data.toList = -1) ∨ (v = u ∧ Lib.compareBytes s.data.toList t.data.toList = 0) ∨ (u < v ∧ Lib.compareBytes s.data.toList t.data.toList = 1) := by
  rcases hs with ⟨_, h1, h2, h3, h4, rfl⟩ | ⟨h, _⟩
  · rcases ht with ⟨_, _, _, g3, g4, rfl⟩ | ⟨h, _⟩
    · obtain ⟨v, rfl⟩ := Int.eq_ofNat_of_zero_le h3
      obtain ⟨u, rfl⟩ := Int.eq_ofNat_of_zero_le g3
      have a4 : v < 2 ^ (8 * n.toNat) := by exact_mod_cast h4
      have b4 : u < 2 ^ (8 * n.toNat) := by exact_mod_cast g4
      have := be_cmp n.toNat v u a4 b4
      simp only [Int.toNat_natCast]
      rw [this]
      rcases Nat.lt_trichotomy v u with h | h | h
      · exact .inl ⟨by omega, by rw [if_pos h]⟩
      · exact .inr (.inl ⟨by omega, by rw [if_neg (by omega), if_pos h]⟩)
      · exact .inr (.inr ⟨by omega, by rw [if_neg (by omega), if_neg (by omega)]⟩)
    · exact absurd h (by decide)
  · exact absurd h (by decide)

end Go.Proofs.Ytcljocmaojfhhaa

namespace Go.Proofs.Ytcljocmaojfhhaa
open Go.RowKit

theorem cmp9_cons (a b : UInt8) (r t : List UInt8) : Lib.compareBytes (a :: r) (b :: t) = if a.toNat < b.toNat then -1 else if b.toNat < a.toNat then 1 else Lib.compareBytes r t := by
  rw [Lib.compareBytes]
  simp only [UInt8.lt_iff_toNat_lt]
/-- The order of two texts, by their bytes. -/
def cmpT (a b : ByteArray) : Int := Lib.compareBytes a.data.toList b.data.toList

theorem cmpT_range (a b : ByteArray) : -1 ≤ cmpT a b ∧ cmpT a b ≤ 1 := cmp_range _ _
theorem cmpT_swap (a b : ByteArray) : cmpT b a = -cmpT a b := cmp_swap _ _
theorem cmpT_eq (a b : ByteArray) : cmpT a b = 0 ↔ a = b := by
  unfold cmpT
  rw [cmp_eq]
  exact ⟨fun h => ByteArray.ext (Array.toList_inj.1 h), fun h => by rw [h]⟩
theorem cmpT_trans {a b c : ByteArray} (h : cmpT a b < 0) (h' : cmpT b c < 0) : cmpT a c < 0 := (cmp_trans _ _ _ (by unfold cmpT at h; omega) (by unfold cmpT at h'; omega)).2 h
theorem cmpT_le_lt {a b c : ByteArray} (h : cmpT a b ≤ 0) (h' : cmpT b c < 0) : cmpT a c < 0 := by
  by_cases e : cmpT a b = 0
  · rw [(cmpT_eq a b).1 e]; exact h'
  · exact cmpT_trans (by omega) h'
theorem cmpT_ge_gt {a b c : ByteArray} (h : 0 ≤ cmpT a c) (h' : cmpT a b < 0) : 0 < cmpT b c := by
  have h1 := cmpT_swap a c
  have h2 := cmpT_swap b c
  have h3 : cmpT c b < 0 := cmpT_le_lt (by omega) h'
  omega
end Go.Proofs.Ytcljocmaojfhhaa

namespace Go.Proofs.Ytcljocmaojfhhaa
open Go.RowKit

/-- A pair. -/
abbrev KV := ByteArray × ByteArray
abbrev bl (s : ByteArray) : List UInt8 := s.data.toList
theorem bl_len (s : ByteArray) : (bl s).length = s.size := rfl
theorem bl_mk (l : List UInt8) : bl ⟨l.toArray⟩ = l := rfl
theorem bl_inj {a b : ByteArray} (h : bl a = bl b) : a = b := by
  cases a; cases b
  have := Array.toList_inj.1 h
  simpa using this

/-- How many bytes two texts have in common at their beginnings. -/
def comL : List UInt8 → List UInt8 → Nat
  | a :: x, b :: y => if a = b then comL x y + 1 else 0
  | _, _ => 0
theorem comL_le : ∀ a b : List UInt8, comL a b ≤ a.length ∧ comL a b ≤ b.length
  | [], b => by cases b <;> simp [comL]
  | a :: x, [] => by simp [comL]
  | a :: x, b :: y => by
    have := comL_le x y
    rw [comL]
    split <;> simp <;> omega
theorem comL_take : ∀ a b : List UInt8, a.take (comL a b) = b.take (comL a b)
  | [], b => by cases b <;> simp [comL]
  | a :: x, [] => by simp [comL]
  | a :: x, b :: y => by
    rw [comL]
    split
    · rename_i h
      rw [List.take_succ_cons, List.take_succ_cons, comL_take x y, h]
    · simp
theorem comL_step (a b : List UInt8) (k : Nat) (ha : k < a.length) (hb : k < b.length) (h : a[k] = b[k]) : comL (a.drop k) (b.drop k) = comL (a.drop (k + 1)) (b.drop (k + 1)) + 1 := by
  rw [List.drop_eq_getElem_cons ha, List.drop_eq_getElem_cons hb, comL, if_pos h]
theorem comL_stop (a b : List UInt8) (k : Nat) (h : a.length ≤ k ∨ b.length ≤ k ∨ ∃ (ha : k < a.length) (hb : k < b.length), a[k] ≠ b[k]) : comL (a.drop k) (b.drop k) = 0 := by
  rcases h with h | h | ⟨ha, hb, h⟩
  · rw [List.drop_eq_nil_of_le h]; cases b.drop k <;> simp [comL]
  · rw [List.drop_eq_nil_of_le h]; cases a.drop k <;> simp [comL]
  · rw [List.drop_eq_getElem_cons ha, List.drop_eq_getElem_cons hb, comL, if_neg h]

/-- How many bytes the pair number i takes from the key ahead. -/
def comI (i : Nat) (prev k : List UInt8) : Nat := if i % 8 = 0 then 0 else comL k prev
theorem comI_le (i : Nat) (prev k : List UInt8) : comI i prev k ≤ k.length ∧ comI i prev k ≤ prev.length := by
  unfold comI
  split
  · exact ⟨Nat.zero_le _, Nat.zero_le _⟩
  · exact comL_le k prev
theorem comI_take (i : Nat) (prev k : List UInt8) : prev.take (comI i prev k) ++ k.drop (comI i prev k) = k := by
  unfold comI
  split
  · simp
  · rw [← comL_take k prev]; exact List.take_append_drop _ _
/-- The bytes of the pair number i. -/
def onePair (i : Nat) (prev k v : List UInt8) : List UInt8 :=
  pv (comI i prev k) ++ (pv (k.length - comI i prev k) ++ (pv v.length ++ (k.drop (comI i prev k) ++ v)))
/-- The bytes of pairs, from number i on. -/
def bodyL : Nat → List UInt8 → List KV → List UInt8
  | _, _, [] => []
  | i, prev, m :: r => onePair i prev (bl m.1) (bl m.2) ++ bodyL (i + 1) (bl m.1) r
/-- The last key. -/
def lastK (prev : List UInt8) : List KV → List UInt8
  | [] => prev
  | m :: r => lastK (bl m.1) r
theorem lastK_snoc (l : List KV) (m : KV) : ∀ prev, lastK prev (l ++ [m]) = bl m.1 := by
  induction l with
  | nil => intro prev; rfl
  | cons x r ih => intro prev; exact ih _
theorem bodyL_snoc (l : List KV) (m : KV) : ∀ i prev, bodyL i prev (l ++ [m]) = bodyL i prev l ++ onePair (i + l.length) (lastK prev l) (bl m.1) (bl m.2) := by
  induction l with
  | nil => intro i prev; simp [bodyL, lastK]
  | cons x r ih =>
    intro i prev
    rw [List.cons_append, bodyL, ih, bodyL, List.append_assoc, lastK, List.length_cons]
    rw [show i + 1 + r.length = i + (r.length + 1) from by omega]

/-- The pairs that bytes tell, from the last key on. -/
def readL : Nat → List UInt8 → List UInt8 → Option (List KV)
  | _, _, [] => some []
  | 0, _, _ :: _ => none
  | f + 1, last, c :: r =>
    match gv (c :: r) 0 0 with
    | .err _ => none
    | .ok x n1 => match gv ((c :: r).drop n1) 0 0 with
      | .err _ => none
      | .ok y n2 => match gv (((c :: r).drop n1).drop n2) 0 0 with
        | .err _ => none
        | .ok z n3 =>
          if last.length < x ∨ ((((c :: r).drop n1).drop n2).drop n3).length < y ∨ ((((c :: r).drop n1).drop n2).drop n3).length - y < z then none
          else (readL f (last.take x ++ ((((c :: r).drop n1).drop n2).drop n3).take y) (((((c :: r).drop n1).drop n2).drop n3).drop (y + z))).map
            fun q => (⟨(last.take x ++ ((((c :: r).drop n1).drop n2).drop n3).take y).toArray⟩, ⟨(((((c :: r).drop n1).drop n2).drop n3).drop y |>.take z).toArray⟩) :: q
theorem gv_pv0 (r : List UInt8) (u : Nat) (h : u < 9223372036854775808) : gv (pv u ++ r) 0 0 = .ok u (pv u).length := by
  have := gv_pv r u 0 0 (by have := pv_len9 u h; omega) (by omega)
  rw [this]
  congr 1 <;> omega
/-- Pairs whose sizes Go can hold. -/
def okP (l : List KV) : Prop := ∀ m ∈ l, m.1.size < 9223372036854775808 ∧ m.2.size < 9223372036854775808
/-- What pairs are as bytes is read as these pairs. -/
theorem readL_body : ∀ (l : List KV) (i f : Nat) (prev : List UInt8), okP l → l.length ≤ f → prev.length < 9223372036854775808 → readL f prev (bodyL i prev l) = some l := by
  intro l
  induction l with
  | nil => intro i f prev _ _ _; cases f <;> rfl
  | cons m l ih =>
    intro i f prev hok hf hp
    obtain ⟨f, rfl⟩ : ∃ g, f = g + 1 := ⟨f - 1, by simp at hf; omega⟩
    obtain ⟨h1, h2⟩ := hok m (List.mem_cons_self ..)
    obtain ⟨c1, c2⟩ := comI_le i prev (bl m.1)
    have ht := comI_take i prev (bl m.1)
    have hl1 : (bl m.1).length = m.1.size := rfl
    have hl2 : (bl m.2).length = m.2.size := rfl
    obtain ⟨n, hn⟩ : ∃ n, comI i prev (bl m.1) = n := ⟨_, rfl⟩
    obtain ⟨R, hR⟩ : ∃ R, bodyL (i + 1) (bl m.1) l = R := ⟨_, rfl⟩
    have hih := ih (i + 1) f (bl m.1) (fun x hx => hok x (List.mem_cons_of_mem _ hx)) (by simpa using hf) (by omega)
    rw [hR] at hih
    rw [bodyL, hR, onePair, hn]
    rw [hn] at c1 c2 ht
    have hpos := pv_pos n
    obtain ⟨B, hB⟩ : ∃ B, pv n ++ (pv ((bl m.1).length - n) ++ (pv (bl m.2).length ++ ((bl m.1).drop n ++ bl m.2))) ++ R = B := ⟨_, rfl⟩
    have g1 : gv B 0 0 = .ok n (pv n).length := by rw [← hB, List.append_assoc]; exact gv_pv0 _ n (by omega)
    have e1 : B.drop (pv n).length = pv ((bl m.1).length - n) ++ (pv (bl m.2).length ++ ((bl m.1).drop n ++ (bl m.2 ++ R))) := by
      rw [← hB, List.append_assoc, List.drop_append_of_le_length (Nat.le_refl _), List.drop_length]; simp
    have g2 : gv (B.drop (pv n).length) 0 0 = .ok ((bl m.1).length - n) (pv ((bl m.1).length - n)).length := by rw [e1]; exact gv_pv0 _ _ (by omega)
    have e2 : (B.drop (pv n).length).drop (pv ((bl m.1).length - n)).length = pv (bl m.2).length ++ ((bl m.1).drop n ++ (bl m.2 ++ R)) := by
      rw [e1, List.drop_append_of_le_length (Nat.le_refl _), List.drop_length]; simp
    have g3 : gv ((B.drop (pv n).length).drop (pv ((bl m.1).length - n)).length) 0 0 = .ok (bl m.2).length (pv (bl m.2).length).length := by rw [e2]; exact gv_pv0 _ _ (by omega)
    have e3 : ((B.drop (pv n).length).drop (pv ((bl m.1).length - n)).length).drop (pv (bl m.2).length).length = (bl m.1).drop n ++ (bl m.2 ++ R) := by
      rw [e2, List.drop_append_of_le_length (Nat.le_refl _), List.drop_length]; simp
    have hBne : B ≠ [] := by
      intro h
      have := congrArg List.length hB
      rw [h] at this
      simp only [List.length_append, List.length_nil] at this
      omega
    rw [hB]
    obtain ⟨c, r, rfl⟩ := List.exists_cons_of_ne_nil hBne
    rw [readL, g1]
    dsimp only
    rw [g2]
    dsimp only
    rw [g3]
    dsimp only
    rw [e3]
    have hd : ((bl m.1).drop n).length = (bl m.1).length - n := List.length_drop ..
    rw [if_neg (by simp; omega)]
    have t1 : ((bl m.1).drop n ++ (bl m.2 ++ R)).take ((bl m.1).length - n) = (bl m.1).drop n := by rw [← hd]; exact List.take_left
    have t2 : ((bl m.1).drop n ++ (bl m.2 ++ R)).drop ((bl m.1).length - n) = bl m.2 ++ R := by rw [← hd]; exact List.drop_left
    have t3 : ((bl m.1).drop n ++ (bl m.2 ++ R)).drop ((bl m.1).length - n + (bl m.2).length) = R := by
      rw [← List.drop_drop, t2]; exact List.drop_left
    rw [t1, t2, t3, ht, hih, List.take_left]
    rfl

/-- The bytes of a block. -/
def blkL (l : List KV) : List UInt8 := (bodyL 0 [] l ++ be l.length 4) ++ be (crc (bodyL 0 [] l ++ be l.length 4)) 4
theorem blkL_length (l : List KV) : (blkL l).length = (bodyL 0 [] l).length + 8 := by
  unfold blkL
  rw [List.length_append, List.length_append, be_length, be_length]
theorem blkL_body (l : List KV) : (blkL l).take ((blkL l).length - 8) = bodyL 0 [] l := by
  rw [blkL_length, Nat.add_sub_cancel]
  unfold blkL
  rw [List.append_assoc]
  exact List.take_left
/-- Do the keys rise? -/
def risesK : List KV → Bool
  | a :: b :: r => decide (cmpT a.1 b.1 < 0) && risesK (b :: r)
  | _ => true
/-- Is a key or a value too long? -/
def longK (l : List KV) : Bool := l.any fun m => decide (65536 < m.1.size) || decide (65536 < m.2.size)
/-- What Build answers. -/
def buildP (l : List KV) : ByteArray × Int :=
  if risesK l = false then (ByteArray.empty, 32) else if longK l = true then (ByteArray.empty, 2) else if 524288 < (blkL l).length then (ByteArray.empty, 2) else (⟨(blkL l).toArray⟩, 0)
theorem buildP_ok {l : List KV} {b : ByteArray} (h : buildP l = (b, 0)) : risesK l = true ∧ longK l = false ∧ (blkL l).length ≤ 524288 ∧ b = ⟨(blkL l).toArray⟩ := by
  unfold buildP at h
  split at h
  · simp at h
  · split at h
    · simp at h
    · split at h
      · simp at h
      · rename_i h1 h2 h3
        exact ⟨by simpa using h1, by simpa using h2, by omega, (congrArg Prod.fst h).symm⟩
theorem longK_ok {l : List KV} (h : longK l = false) : ∀ m ∈ l, m.1.size ≤ 65536 ∧ m.2.size ≤ 65536 := by
  intro m hm
  unfold longK at h
  rw [List.any_eq_false] at h
  have := h m hm
  simp at this
  exact this
/-- What Parse answers. -/
def parseP (b : ByteArray) : List KV × Int :=
  if b.size < 8 then ([], 31) else match readL b.size [] ((bl b).take (b.size - 8)) with
    | none => ([], 31)
    | some l => if buildP l = (b, 0) then (l, 0) else ([], 31)
theorem body_count : ∀ (l : List KV) (i : Nat) (prev : List UInt8), l.length ≤ (bodyL i prev l).length := by
  intro l
  induction l with
  | nil => intro i prev; exact Nat.zero_le _
  | cons m l ih =>
    intro i prev
    have h1 := ih (i + 1) (bl m.1)
    have h2 := pv_pos (comI i prev (bl m.1))
    rw [bodyL, onePair]
    simp only [List.length_append, List.length_cons]
    omega
theorem parse_build {l : List KV} {b : ByteArray} (h : buildP l = (b, 0)) : parseP b = (l, 0) := by
  obtain ⟨h1, h2, h3, h4⟩ := buildP_ok h
  have hb : bl b = blkL l := by rw [h4]
  have hs : b.size = (blkL l).length := by rw [← hb]; rfl
  have h8 := blkL_length l
  have hc := body_count l 0 []
  have hr : readL b.size [] ((bl b).take (b.size - 8)) = some l := by
    rw [hs, hb, blkL_body]
    refine readL_body l 0 _ [] (fun m hm => ?_) (by omega) (by decide)
    have := longK_ok h2 m hm
    omega
  unfold parseP
  rw [if_neg (by omega), hr]
  dsimp only
  rw [if_pos h]
theorem parse_ok {l : List KV} {b : ByteArray} {e : Int} (h : parseP b = (l, e)) : (e = 0 ∧ buildP l = (b, 0)) ∨ (e = 31 ∧ l = []) := by
  unfold parseP at h
  split at h
  · exact Or.inr ⟨(congrArg Prod.snd h).symm, (congrArg Prod.fst h).symm⟩
  · split at h
    · exact Or.inr ⟨(congrArg Prod.snd h).symm, (congrArg Prod.fst h).symm⟩
    · split at h
      · rename_i h1
        obtain rfl := (congrArg Prod.fst h)
        exact Or.inl ⟨(congrArg Prod.snd h).symm, h1⟩
      · exact Or.inr ⟨(congrArg Prod.snd h).symm, (congrArg Prod.fst h).symm⟩
theorem parse_no {b : ByteArray} (h : ∀ l, buildP l ≠ (b, 0)) : parseP b = ([], 31) := by
  obtain ⟨l, e, hp⟩ : ∃ l e, parseP b = (l, e) := ⟨_, _, rfl⟩
  rcases parse_ok hp with ⟨_, h1⟩ | ⟨h1, h2⟩
  · exact absurd h1 (h l)
  · rw [hp, h1, h2]
/-- What Seek answers. -/
def seekL : List KV → ByteArray → ByteArray × ByteArray × Int
  | [], _ => (ByteArray.empty, ByteArray.empty, 22)
  | m :: r, key => if cmpT m.1 key < 0 then seekL r key else (m.1, m.2, 0)
def seekP (b key : ByteArray) : ByteArray × ByteArray × Int := if (parseP b).2 = 0 then seekL (parseP b).1 key else (ByteArray.empty, ByteArray.empty, (parseP b).2)
end Go.Proofs.Ytcljocmaojfhhaa

namespace Go.Proofs.Ytcljocmaojfhhaa
open Go.RowKit

/-- A file: its level, its number, how many keys, how many bytes, its first key and its last. -/
structure FileM where
  lv : Int
  nu : Int
  co : Int
  sz : Int
  fi : ByteArray
  la : ByteArray
deriving DecidableEq
structure StM where
  files : List FileM
  next : Int
  log : Int
  floor : List Int
  notes : List KV
deriving DecidableEq
structure EdM where
  add : List FileM
  rem : List Int
  log : Int
  floor : List Int
  notes : List KV
deriving DecidableEq
def zeroM : StM := ⟨[], 0, 0, [], []⟩
def newM : StM := ⟨[], 1, 0, [], []⟩

def wholeM (n low : Int) : Bool := decide (low ≤ n ∧ n ≤ 2147483647)
def validM (f : FileM) : Bool := decide ((0 ≤ f.lv ∧ f.lv ≤ 6) ∧ (1 ≤ f.nu ∧ f.nu ≤ 2147483647) ∧ (1 ≤ f.co ∧ f.co ≤ 2147483647) ∧ (0 ≤ f.sz ∧ f.sz ≤ 2147483647) ∧ (1 ≤ f.fi.size ∧ f.fi.size ≤ 500) ∧ (1 ≤ f.la.size ∧ f.la.size ≤ 500) ∧ cmpT f.fi f.la ≤ 0)
def nameM (n : KV) : Bool := decide ((1 ≤ n.1.size ∧ n.1.size ≤ 32) ∧ n.2.size ≤ 20000)
/-- An edit that can be, looked at by itself. -/
def canM (e : EdM) : Bool := e.add.all validM && (decide (e.floor = []) || validL e.floor) && decide (0 ≤ e.log ∧ e.log ≤ 4294967295) && e.notes.all nameM

def hasM (l : List FileM) (n : Int) : Bool := l.any fun f => decide (f.nu = n)
/-- A list without the first file of a number. -/
def eraseM : List FileM → Int → List FileM
  | [], _ => []
  | f :: r, n => if f.nu = n then r else f :: eraseM r n
def remM : List FileM → List Int → Option (List FileM)
  | l, [] => some l
  | l, n :: r => if hasM l n = true then remM (eraseM l n) r else none
/-- Does a file stand ahead of another one? -/
def befM (a b : FileM) : Prop := if a.lv ≠ b.lv then a.lv < b.lv else if a.lv = 0 then a.nu < b.nu else cmpT a.fi b.fi < 0
instance (a b : FileM) : Decidable (befM a b) := by unfold befM; infer_instance
def insM : List FileM → FileM → List FileM
  | [], f => [f]
  | x :: r, f => if befM f x then f :: x :: r else x :: insM r f
/-- A number that is there already, among the files, or among those that are added ahead of it. -/
def thereM (next : Int) (files : List FileM) : List FileM → List FileM → Bool
  | _, [] => false
  | done, f :: r => decide (f.nu < next) || hasM files f.nu || hasM done f.nu || thereM next files (done ++ [f]) r
def meetM (a b : FileM) : Bool := decide (a.lv = b.lv ∧ 0 < a.lv ∧ cmpT a.fi b.la ≤ 0 ∧ cmpT b.fi a.la ≤ 0)
def clashM : List FileM → Bool
  | [] => false
  | x :: r => r.any (fun y => meetM y x) || clashM r
/-- Notes with one more: said anew, or taken away where its text is empty; 'placed': it has its place already. -/
def noteG (n : KV) : Bool → List KV → List KV
  | placed, [] => if placed = true then [] else [n]
  | placed, m :: r =>
    if placed = false ∧ 0 < cmpT m.1 n.1 then n :: m :: noteG n true r
    else if cmpT m.1 n.1 = 0 then noteG n placed r else m :: noteG n placed r
def noteM (l : List KV) (n : KV) : List KV := noteG n (decide (n.2.size = 0)) l
def textsM (l : List KV) : Nat := (l.map fun m => m.2.size).sum
def nextM (n : Int) (l : List FileM) : Int := l.foldl (fun n f => if n ≤ f.nu then f.nu + 1 else n) n

/-- The next number; a zero state has 1. -/
def nowM (s : StM) : Int := if s.next < 1 then 1 else s.next
/-- The state behind an edit, of files that are left: no bound is looked at. -/
def madeM (s : StM) (e : EdM) (left : List FileM) : StM :=
  ⟨(left ++ e.add).foldl insM [], nextM (nowM s) e.add, if 0 < e.log then e.log else s.log, if e.floor = [] then s.floor else e.floor, e.notes.foldl noteM s.notes⟩
def backM (s : StM) (e : EdM) : Prop := (e.floor ≠ [] ∧ s.floor ≠ [] ∧ leqL s.floor e.floor = false) ∨ (0 < e.log ∧ e.log < s.log)
instance (s : StM) (e : EdM) : Decidable (backM s e) := by unfold backM; infer_instance
def longM (e : EdM) (t : StM) : Prop := 50 < e.add.length ∨ 50000 < textsM e.notes ∨ 500 < t.files.length ∨ 50 < t.notes.length ∨ 50000 < textsM t.notes
instance (e : EdM) (t : StM) : Decidable (longM e t) := by unfold longM; infer_instance
/-- The state behind an edit, or no state and what is wrong. -/
def applyM (s : StM) (e : EdM) : StM × Int :=
  if canM e = false then (zeroM, 1) else
  match remM s.files e.rem with
  | none => (zeroM, 22)
  | some left =>
    if thereM (nowM s) left [] e.add = true then (zeroM, 23)
    else if backM s e then (zeroM, 32)
    else if clashM (madeM s e left).files = true then (zeroM, 32)
    else if longM e (madeM s e left) then (zeroM, 2)
    else (madeM s e left, 0)

theorem apply_err {s : StM} {e : EdM} (h : (applyM s e).2 ≠ 0) : (applyM s e).1 = zeroM := by
  unfold applyM at h ⊢
  by_cases c : canM e = false
  · rw [if_pos c]
  · rw [if_neg c] at h ⊢
    cases hr : remM s.files e.rem with
    | none => rfl
    | some left =>
      rw [hr] at h
      dsimp only at h ⊢
      by_cases c1 : thereM (nowM s) left [] e.add = true
      · rw [if_pos c1]
      · rw [if_neg c1] at h ⊢
        by_cases c2 : backM s e
        · rw [if_pos c2]
        · rw [if_neg c2] at h ⊢
          by_cases c3 : clashM (madeM s e left).files = true
          · rw [if_pos c3]
          · rw [if_neg c3] at h ⊢
            by_cases c4 : longM e (madeM s e left)
            · rw [if_pos c4]
            · rw [if_neg c4] at h
              exact absurd rfl h

/-- All that is known where an edit is taken. -/
structure TookM (s : StM) (e : EdM) (t : StM) : Prop where
  can : canM e = true
  left : ∃ left, remM s.files e.rem = some left ∧ thereM (nowM s) left [] e.add = false ∧ t = madeM s e left
  back : ¬ backM s e
  clash : clashM t.files = false
  long : ¬ longM e t
theorem apply_took {s t : StM} {e : EdM} (h : applyM s e = (t, 0)) : TookM s e t := by
  unfold applyM at h
  have no : ∀ z : Int, z ≠ 0 → ((zeroM, z) : StM × Int) = (t, 0) → False := fun z hz e => hz (congrArg Prod.snd e)
  by_cases c : canM e = false
  · rw [if_pos c] at h
    exact (no _ (by decide) h).elim
  · rw [if_neg c] at h
    cases hr : remM s.files e.rem with
    | none =>
      rw [hr] at h
      exact (no _ (by decide) h).elim
    | some left =>
      rw [hr] at h
      dsimp only at h
      by_cases c1 : thereM (nowM s) left [] e.add = true
      · rw [if_pos c1] at h
        exact (no _ (by decide) h).elim
      · rw [if_neg c1] at h
        by_cases c2 : backM s e
        · rw [if_pos c2] at h
          exact (no _ (by decide) h).elim
        · rw [if_neg c2] at h
          by_cases c3 : clashM (madeM s e left).files = true
          · rw [if_pos c3] at h
            exact (no _ (by decide) h).elim
          · rw [if_neg c3] at h
            by_cases c4 : longM e (madeM s e left)
            · rw [if_pos c4] at h
              exact (no _ (by decide) h).elim
            · rw [if_neg c4] at h
              have ht : madeM s e left = t := congrArg Prod.fst h
              subst ht
              exact ⟨by simpa using c, ⟨left, hr, by simpa using c1, rfl⟩, c2, by simpa using c3, c4⟩
theorem took_apply {s t : StM} {e : EdM} (h : TookM s e t) : applyM s e = (t, 0) := by
  obtain ⟨hc, ⟨left, hr, ht, rfl⟩, hb, hm, hl⟩ := h
  unfold applyM
  rw [if_neg (by rw [hc]; simp), hr]
  dsimp only
  rw [if_neg (by rw [ht]; simp), if_neg hb, if_neg (by rw [hm]; simp), if_neg hl]
end Go.Proofs.Ytcljocmaojfhhaa

namespace Go.Proofs.Ytcljocmaojfhhaa
open Go.RowKit

theorem erase_sub (l : List FileM) (n : Int) : (eraseM l n).Sublist l := by
  induction l with
  | nil => exact List.Sublist.refl _
  | cons f r ih =>
    unfold eraseM
    split
    · exact List.sublist_cons_self f r
    · exact ih.cons_cons f
theorem rem_sub : ∀ (r : List Int) (l left : List FileM), remM l r = some left → left.Sublist l
  | [], l, left, h => by
    unfold remM at h
    cases h
    exact List.Sublist.refl _
  | n :: r, l, left, h => by
    unfold remM at h
    split at h
    · exact (rem_sub r _ _ h).trans (erase_sub l n)
    · cases h
theorem rem_len {r : List Int} {l left : List FileM} (h : remM l r = some left) : left.length ≤ l.length := (rem_sub _ _ _ h).length_le
theorem bef_trans {a b c : FileM} (h : befM a b) (k : befM b c) : befM a c := by
  unfold befM at *
  by_cases h1 : a.lv = b.lv <;> by_cases h2 : b.lv = c.lv
  · rw [if_neg (by simpa using h1)] at h
    rw [if_neg (by simpa using h2)] at k
    rw [if_neg (by rw [h1, h2]; simp)]
    by_cases h3 : a.lv = 0
    · rw [if_pos h3] at h
      rw [if_pos (h1 ▸ h3)] at k
      rw [if_pos h3]
      omega
    · rw [if_neg h3] at h
      rw [if_neg (h1 ▸ h3)] at k
      rw [if_neg h3]
      exact cmpT_trans h k
  · rw [if_pos h2] at k
    rw [if_pos (by rw [h1]; exact h2)]
    omega
  · rw [if_pos h1] at h
    rw [if_pos (by rw [← h2]; exact h1)]
    omega
  · rw [if_pos h1] at h
    rw [if_pos h2] at k
    rw [if_pos (by omega)]
    omega
theorem ins_perm (l : List FileM) (f : FileM) : (insM l f).Perm (f :: l) := by
  induction l with
  | nil => exact List.Perm.refl _
  | cons x r ih =>
    unfold insM
    split
    · exact List.Perm.refl _
    · exact (ih.cons x).trans (List.Perm.swap f x r)
theorem inss_perm (l acc : List FileM) : (l.foldl insM acc).Perm (acc ++ l) := by
  induction l generalizing acc with
  | nil => simp
  | cons f r ih =>
    rw [List.foldl_cons]
    refine (ih _).trans ?_
    refine ((ins_perm acc f).append_right r).trans ?_
    rw [List.cons_append]
    exact List.perm_middle.symm
/-- No later file ahead of an earlier one. -/
def RowM (l : List FileM) : Prop := l.Pairwise fun a b => ¬ befM b a
theorem ins_row {l : List FileM} (h : RowM l) (f : FileM) : RowM (insM l f) := by
  induction l with
  | nil => exact List.pairwise_singleton _ _
  | cons x r ih =>
    have hx := List.pairwise_cons.1 h
    unfold insM
    split
    · rename_i hb
      refine List.pairwise_cons.2 ⟨fun y hy hy2 => ?_, h⟩
      have hyx := bef_trans hy2 hb
      rcases List.mem_cons.1 hy with rfl | hy
      · unfold befM at hyx
        rw [if_neg (by simp)] at hyx
        split at hyx
        · omega
        · rw [(cmpT_eq _ _).2 rfl] at hyx
          omega
      · exact hx.1 y hy hyx
    · rename_i hb
      refine List.pairwise_cons.2 ⟨fun y hy => ?_, ih hx.2⟩
      rcases List.mem_cons.1 ((ins_perm r f).mem_iff.1 hy) with rfl | hy
      · exact hb
      · exact hx.1 y hy
theorem inss_row (l : List FileM) {acc : List FileM} (h : RowM acc) : RowM (l.foldl insM acc) := by
  induction l generalizing acc with
  | nil => exact h
  | cons f r ih => exact ih (ins_row h f)
theorem ins_last {l : List FileM} {f : FileM} (h : ∀ x ∈ l, ¬ befM f x) : insM l f = l ++ [f] := by
  induction l with
  | nil => rfl
  | cons x r ih =>
    unfold insM
    rw [if_neg (h x (by simp)), ih fun y hy => h y (by simp [hy]), List.cons_append]
/-- Files that stand as they should stay as they stand. -/
theorem inss_same {l acc : List FileM} (h : RowM (acc ++ l)) : l.foldl insM acc = acc ++ l := by
  induction l generalizing acc with
  | nil => simp
  | cons f r ih =>
    have hp := List.pairwise_append.1 h
    rw [List.foldl_cons, ins_last (fun x hx => hp.2.2 x hx f (by simp)), ih (by rw [List.append_assoc]; exact h), List.append_assoc]
    rfl
theorem row_sub {l m : List FileM} (h : RowM l) (hs : m.Sublist l) : RowM m := List.Pairwise.sublist hs h

theorem has_iff {l : List FileM} {n : Int} : hasM l n = true ↔ ∃ f ∈ l, f.nu = n := by
  unfold hasM
  rw [List.any_eq_true]
  exact ⟨fun ⟨f, hf, h⟩ => ⟨f, hf, by simpa using h⟩, fun ⟨f, hf, h⟩ => ⟨f, hf, by simpa using h⟩⟩
theorem has_not {l : List FileM} {n : Int} (h : hasM l n = false) : ∀ f ∈ l, f.nu ≠ n := fun f hf e => by
  rw [has_iff.2 ⟨f, hf, e⟩] at h
  cases h
theorem there_not {next : Int} {files : List FileM} : ∀ {add done : List FileM}, thereM next files done add = false → (∀ f ∈ add, next ≤ f.nu ∧ (∀ g ∈ files, g.nu ≠ f.nu) ∧ (∀ g ∈ done, g.nu ≠ f.nu)) ∧ add.Pairwise fun a b => a.nu ≠ b.nu
  | [], done, _ => ⟨fun f hf => by simp at hf, List.Pairwise.nil⟩
  | f :: r, done, h => by
    unfold thereM at h
    rw [Bool.or_eq_false_iff, Bool.or_eq_false_iff, Bool.or_eq_false_iff] at h
    obtain ⟨⟨⟨h1, h2⟩, h3⟩, h4⟩ := h
    have hr := there_not h4
    have h1 : ¬ f.nu < next := by simpa using h1
    refine ⟨fun g hg => ?_, List.pairwise_cons.2 ⟨fun g hg => (hr.1 g hg).2.2 f (by simp), hr.2⟩⟩
    rcases List.mem_cons.1 hg with rfl | hg
    · exact ⟨by omega, has_not h2, has_not h3⟩
    · have := hr.1 g hg
      exact ⟨this.1, this.2.1, fun k hk => this.2.2 k (by simp [hk])⟩
theorem next_le (l : List FileM) (n : Int) : n ≤ nextM n l := by
  induction l generalizing n with
  | nil => exact Int.le_refl _
  | cons f r ih =>
    have := ih (if n ≤ f.nu then f.nu + 1 else n)
    unfold nextM at *
    rw [List.foldl_cons]
    split at this <;> rename_i h
    · rw [if_pos h]; omega
    · rw [if_neg h]; omega
theorem next_over (l : List FileM) (n : Int) : ∀ f ∈ l, f.nu < nextM n l := by
  induction l generalizing n with
  | nil => intro f hf; simp at hf
  | cons f r ih =>
    intro g hg
    have h1 := next_le r (if n ≤ f.nu then f.nu + 1 else n)
    have h2 := ih (if n ≤ f.nu then f.nu + 1 else n)
    unfold nextM at *
    rw [List.foldl_cons]
    rcases List.mem_cons.1 hg with rfl | hg
    · split at h1 <;> rename_i h
      · rw [if_pos h]; omega
      · rw [if_neg h]; omega
    · exact h2 g hg
theorem next_most (l : List FileM) (n m : Int) (hn : n ≤ m) (hl : ∀ f ∈ l, f.nu < m) : nextM n l ≤ m := by
  induction l generalizing n with
  | nil => exact hn
  | cons f r ih =>
    have h1 := ih (if n ≤ f.nu then f.nu + 1 else n) (by have := hl f (by simp); split <;> omega) fun g hg => hl g (by simp [hg])
    unfold nextM at *
    rw [List.foldl_cons]
    exact h1
theorem clash_iff {l : List FileM} : clashM l = false ↔ l.Pairwise fun a b => meetM b a = false := by
  induction l with
  | nil => exact ⟨fun _ => List.Pairwise.nil, fun _ => rfl⟩
  | cons x r ih =>
    unfold clashM
    rw [Bool.or_eq_false_iff, List.pairwise_cons, ih, List.any_eq_false]
    exact ⟨fun ⟨a, b⟩ => ⟨fun y hy => by simpa using a y hy, b⟩, fun ⟨a, b⟩ => ⟨fun y hy => by simpa using a y hy, b⟩⟩

/-- Notes by name, each once. -/
def NotesM (l : List KV) : Prop := l.Pairwise fun a b => cmpT a.1 b.1 < 0
theorem note_true (n : KV) (l : List KV) : noteG n true l = l.filter fun m => decide (cmpT m.1 n.1 ≠ 0) := by
  induction l with
  | nil => rfl
  | cons m r ih =>
    unfold noteG
    rw [if_neg (by simp)]
    by_cases h : cmpT m.1 n.1 = 0
    · rw [if_pos h, ih, List.filter_cons_of_neg (by simpa using h)]
    · rw [if_neg h, ih, List.filter_cons_of_pos (by simpa using h)]
theorem note_false {l : List KV} (hl : NotesM l) (n : KV) :
    noteG n false l = l.filter (fun m => decide (cmpT m.1 n.1 < 0)) ++ n :: l.filter fun m => decide (0 < cmpT m.1 n.1) := by
  induction l with
  | nil => rfl
  | cons m r ih =>
    have hr := List.pairwise_cons.1 hl
    unfold noteG
    by_cases h : 0 < cmpT m.1 n.1
    · have ab : ∀ k ∈ r, 0 < cmpT k.1 n.1 := fun k hk => cmpT_ge_gt (by omega) (hr.1 k hk)
      have e1 : r.filter (fun k => decide (cmpT k.1 n.1 ≠ 0)) = r := List.filter_eq_self.2 fun k hk => by have := ab k hk; simp; omega
      have e2 : r.filter (fun k => decide (cmpT k.1 n.1 < 0)) = [] := List.filter_eq_nil_iff.2 fun k hk => by have := ab k hk; simp; omega
      have e3 : r.filter (fun k => decide (0 < cmpT k.1 n.1)) = r := List.filter_eq_self.2 fun k hk => by have := ab k hk; simp; omega
      rw [if_pos ⟨rfl, h⟩, note_true, List.filter_cons_of_neg (by simp; omega), List.filter_cons_of_pos (by simpa using h), e1, e2, e3]
      rfl
    · rw [if_neg (fun c => h c.2)]
      by_cases h0 : cmpT m.1 n.1 = 0
      · rw [if_pos h0, ih hr.2, List.filter_cons_of_neg (by simp; omega), List.filter_cons_of_neg (by simp; omega)]
      · rw [if_neg h0, ih hr.2, List.filter_cons_of_pos (by simp; omega), List.filter_cons_of_neg (by simp; omega), List.cons_append]
theorem note_mem {l : List KV} (hl : NotesM l) (n m : KV) : m ∈ noteM l n ↔ (m ∈ l ∧ m.1 ≠ n.1) ∨ (m = n ∧ n.2.size ≠ 0) := by
  have ne : ∀ k : KV, k.1 ≠ n.1 ↔ cmpT k.1 n.1 ≠ 0 := fun k => not_congr (cmpT_eq _ _).symm
  unfold noteM
  by_cases h : n.2.size = 0
  · rw [decide_eq_true h, note_true, List.mem_filter, ne]
    simp [h]
  · rw [decide_eq_false h, note_false hl, List.mem_append, List.mem_cons, List.mem_filter, List.mem_filter, ne]
    simp only [decide_eq_true_eq]
    constructor
    · rintro (⟨a, b⟩ | rfl | ⟨a, b⟩)
      · exact Or.inl ⟨a, by omega⟩
      · exact Or.inr ⟨rfl, h⟩
      · exact Or.inl ⟨a, by omega⟩
    · rintro (⟨a, b⟩ | ⟨rfl, _⟩)
      · rcases Int.lt_or_gt_of_ne b with b | b
        · exact Or.inl ⟨a, b⟩
        · exact Or.inr (Or.inr ⟨a, b⟩)
      · exact Or.inr (Or.inl rfl)
theorem note_keeps {l : List KV} (hl : NotesM l) (n : KV) : NotesM (noteM l n) := by
  unfold noteM
  by_cases h : n.2.size = 0
  · rw [decide_eq_true h, note_true]
    exact List.Pairwise.sublist List.filter_sublist hl
  · rw [decide_eq_false h, note_false hl]
    refine List.pairwise_append.2 ⟨List.Pairwise.sublist List.filter_sublist hl, List.pairwise_cons.2 ⟨fun k hk => ?_, List.Pairwise.sublist List.filter_sublist hl⟩, fun a ha b hb => ?_⟩
    · have := (List.mem_filter.1 hk).2
      have := cmpT_swap k.1 n.1
      simp only [decide_eq_true_eq] at *
      omega
    · have h1 := (List.mem_filter.1 ha).2
      simp only [decide_eq_true_eq] at h1
      rcases List.mem_cons.1 hb with rfl | hb
      · exact h1
      · have h2 := (List.mem_filter.1 hb).2
        simp only [decide_eq_true_eq] at h2
        have h3 := cmpT_swap b.1 n.1
        exact cmpT_trans h1 (by omega)
theorem notes_keep (e : List KV) {l : List KV} (hl : NotesM l) : NotesM (e.foldl noteM l) := by
  induction e generalizing l with
  | nil => exact hl
  | cons n r ih => exact ih (note_keeps hl n)
theorem notes_said (e : List KV) {l : List KV} (hl : NotesM l) (h : ∀ n ∈ l, n.2.size ≠ 0) : ∀ n ∈ e.foldl noteM l, n.2.size ≠ 0 := by
  induction e generalizing l with
  | nil => exact h
  | cons n r ih =>
    refine ih (note_keeps hl n) fun m hm => ?_
    rcases (note_mem hl n m).1 hm with ⟨a, _⟩ | ⟨rfl, a⟩
    · exact h m a
    · exact a
theorem notes_ext : ∀ {L M : List KV}, NotesM L → NotesM M → (∀ m, m ∈ L ↔ m ∈ M) → L = M
  | [], [], _, _, _ => rfl
  | [], y :: M, _, _, h => absurd ((h y).2 (by simp)) (by simp)
  | x :: L, [], _, _, h => absurd ((h x).1 (by simp)) (by simp)
  | x :: L, y :: M, hL, hM, h => by
    have h1 := List.pairwise_cons.1 hL
    have h2 := List.pairwise_cons.1 hM
    have irr : ∀ a : ByteArray, ¬ cmpT a a < 0 := fun a => by rw [(cmpT_eq a a).2 rfl]; omega
    obtain rfl : x = y := by
      rcases List.mem_cons.1 ((h x).1 (by simp)) with e | hx
      · exact e
      · rcases List.mem_cons.1 ((h y).2 (by simp)) with e | hy
        · exact e.symm
        · exact absurd (cmpT_trans (h1.1 y hy) (h2.1 x hx)) (irr _)
    rw [notes_ext h1.2 h2.2 fun m => ?_]
    constructor
    · intro hm
      rcases List.mem_cons.1 ((h m).1 (by simp [hm])) with e | hm2
      · exact absurd (h1.1 m hm) (by rw [e]; exact irr _)
      · exact hm2
    · intro hm
      rcases List.mem_cons.1 ((h m).2 (by simp [hm])) with e | hm2
      · exact absurd (h2.1 m hm) (by rw [e]; exact irr _)
      · exact hm2
/-- Two notes of different names, in either order. -/
theorem note_comm {l : List KV} (hl : NotesM l) {a b : KV} (hab : a.1 ≠ b.1) : noteM (noteM l a) b = noteM (noteM l b) a := by
  refine notes_ext (note_keeps (note_keeps hl a) b) (note_keeps (note_keeps hl b) a) fun m => ?_
  rw [note_mem (note_keeps hl a), note_mem (note_keeps hl b), note_mem hl, note_mem hl]
  constructor
  · rintro (⟨⟨h, k⟩ | ⟨rfl, h⟩, g⟩ | ⟨rfl, h⟩)
    · exact Or.inl ⟨Or.inl ⟨h, g⟩, k⟩
    · exact Or.inr ⟨rfl, h⟩
    · exact Or.inl ⟨Or.inr ⟨rfl, h⟩, fun e => hab e.symm⟩
  · rintro (⟨⟨h, k⟩ | ⟨rfl, h⟩, g⟩ | ⟨rfl, h⟩)
    · exact Or.inl ⟨Or.inl ⟨h, g⟩, k⟩
    · exact Or.inr ⟨rfl, h⟩
    · exact Or.inl ⟨Or.inr ⟨rfl, h⟩, hab⟩
end Go.Proofs.Ytcljocmaojfhhaa

namespace Go.Proofs.Ytcljocmaojfhhaa
open Go.RowKit

/-- A file as a value. -/
def fileV (f : FileM) : Value := .agg #[.int .i64 f.lv, .int .i64 f.nu, .int .i64 f.co, .int .i64 f.sz, .string f.fi, .string f.la]
/-- The files L can be read at the slice A of length n. -/
structure FilesAt (w : World) (A : Option Addr) (n : Nat) (L : List FileM) : Prop where
  len : n = L.length
  at_ : ∀ (i : Nat) (m : FileM), L[i]? = some m → ∃ g off, A = some ⟨g, off, none⟩ ∧ g < w.heap.size ∧ w.cell? ⟨g, off + i * 6, none⟩ = some (.int .i64 m.lv) ∧ w.cell? ⟨g, off + i * 6 + 1, none⟩ = some (.int .i64 m.nu) ∧ w.cell? ⟨g, off + i * 6 + 2, none⟩ = some (.int .i64 m.co) ∧ w.cell? ⟨g, off + i * 6 + 3, none⟩ = some (.int .i64 m.sz) ∧ w.cell? ⟨g, off + i * 6 + 4, none⟩ = some (.string m.fi) ∧ w.cell? ⟨g, off + i * 6 + 5, none⟩ = some (.string m.la)
theorem FilesAt.below {w w' : World} {A : Option Addr} {n : Nat} {L : List FileM} (h : FilesAt w A n L) (hb : Below w.heap.size w w') : FilesAt w' A n L :=
  ⟨h.len, fun i m hm => by
    obtain ⟨g, off, e, hg, h0, h1, h2, h3, h4, h5⟩ := h.at_ i m hm
    exact ⟨g, off, e, Nat.lt_of_lt_of_le hg hb.size, (hb.cell (p := ⟨g, off + i * 6, none⟩) hg).trans h0, (hb.cell (p := ⟨g, off + i * 6 + 1, none⟩) hg).trans h1, (hb.cell (p := ⟨g, off + i * 6 + 2, none⟩) hg).trans h2, (hb.cell (p := ⟨g, off + i * 6 + 3, none⟩) hg).trans h3, (hb.cell (p := ⟨g, off + i * 6 + 4, none⟩) hg).trans h4, (hb.cell (p := ⟨g, off + i * 6 + 5, none⟩) hg).trans h5⟩⟩
/-- The place of a number among files; -1: none. -/
def atM : List FileM → Int → Int
  | [], _ => -1
  | f :: r, n => if f.nu = n then 0 else if atM r n < 0 then -1 else atM r n + 1
theorem atM_first {n : Int} : ∀ {L : List FileM} {k : Nat} {m : FileM}, L[k]? = some m → m.nu = n → (∀ i x, i < k → L[i]? = some x → x.nu ≠ n) → atM L n = k
  | [], k, m, h, _, _ => by simp at h
  | f :: r, 0, m, h, e, _ => by
    simp at h
    subst h
    unfold atM
    rw [if_pos e]
    rfl
  | f :: r, k + 1, m, h, e, hn => by
    have ih := atM_first (L := r) (k := k) (by simpa using h) e (fun i x hi hx => hn (i + 1) x (by omega) (by simpa using hx))
    unfold atM
    rw [if_neg (hn 0 f (by omega) rfl), ih, if_neg (by omega)]
    omega
theorem atM_none {n : Int} : ∀ {L : List FileM}, (∀ (i : Nat) x, L[i]? = some x → x.nu ≠ n) → atM L n = -1
  | [], _ => rfl
  | f :: r, hn => by
    have ih := atM_none (L := r) (fun i x hx => hn (i + 1) x (by simpa using hx))
    unfold atM
    rw [if_neg (hn 0 f rfl), ih, if_pos (by omega)]
end Go.Proofs.Ytcljocmaojfhhaa

namespace Go.Proofs.Ytcljocmaojfhhaa
open Go.RowKit

def bname (i k : Nat) : ByteArray := ⟨#[109, UInt8.ofNat (65 + i % 26), UInt8.ofNat (65 + i / 26 % 26), UInt8.ofNat (48 + k % 10), UInt8.ofNat (48 + k / 10 % 10), UInt8.ofNat (48 + k / 100 % 10)]⟩

end Go.Proofs.Ytcljocmaojfhhaa

namespace Go.Proofs.Ytcljocmaojfhhaa
open Go.RowKit

def elInts : El (Int) := ⟨fun x => [.int .i64 x], 1, by decide, fun _ => rfl, fun x u hu => by simp at hu; subst hu; rfl, fun i k => -1000000 * (i : Int) - (k : Int) - 7⟩
def okInts (_x : Int) : Prop := True
theorem okmInts (i start n : Nat) : ∀ x ∈ elInts.marks i start n, okInts x := by
  intro x hx
  obtain ⟨k, _, rfl⟩ := List.mem_map.1 hx
  exact trivial
theorem infoInts : (Try.prog.info? 3).map (fun i => (i.zero, i.size, i.bytes)) = some (some (.int .i64 0), elInts.sz, 8) := by kernel_rfl
theorem underInts : Try.prog.underlying 27 = some (.slice 3) := by kernel_rfl
end Go.Proofs.Ytcljocmaojfhhaa

namespace Go.Proofs.Ytcljocmaojfhhaa
open Go.RowKit

def fileL (f : FileM) : List Value := [.int .i64 f.lv, .int .i64 f.nu, .int .i64 f.co, .int .i64 f.sz, .string f.fi, .string f.la]
def elFl : El FileM := ⟨fileL, 6, by decide, fun _ => rfl, fun x u hu => by
  unfold fileL at hu
  simp only [List.mem_cons, List.not_mem_nil, or_false] at hu
  rcases hu with rfl | rfl | rfl | rfl | rfl | rfl <;> rfl, fun i k => ⟨0, -1 - (i : Int), (k : Int), 0, ⟨#[]⟩, ⟨#[]⟩⟩⟩
theorem infoFl : (Try.prog.info? 26).map (fun i => (i.zero, i.size, i.bytes)) = some (some (.agg #[.int .i64 0, .int .i64 0, .int .i64 0, .int .i64 0, .string ⟨#[]⟩, .string ⟨#[]⟩]), elFl.sz, 64) := by kernel_rfl
theorem underFl : Try.prog.underlying 22 = some (.slice 26) := by kernel_rfl
/-- What lies in a row, by its place. -/
theorem rowf_place {α : Type} (E : El α) {L : List α} {j : Nat} {u : Value} (h : (E.row L)[j]? = some u) : ∃ i r x, j = i * E.sz + r ∧ r < E.sz ∧ L[i]? = some x ∧ (E.cl x)[r]? = some u := by
  have hj := (List.getElem?_eq_some_iff.1 h).1
  rw [E.row_length] at hj
  have hr := Nat.mod_lt j E.pos
  have hd : j = j / E.sz * E.sz + j % E.sz := by rw [Nat.mul_comm]; exact (Nat.div_add_mod j E.sz).symm
  have hi : j / E.sz < L.length := (Nat.div_lt_iff_lt_mul E.pos).2 hj
  refine ⟨j / E.sz, j % E.sz, L[j / E.sz], hd, hr, List.getElem?_eq_getElem hi, ?_⟩
  rw [← E.row_at L (j / E.sz) (j % E.sz) _ (List.getElem?_eq_getElem hi) hr, ← hd]
  exact h
/-- Files that can be read, as a row of cells. -/
theorem FilesAt.rowf {w : World} {a : Addr} {n : Nat} {L : List FileM} (h : FilesAt w (some a) n L) : ∀ j u, (elFl.row L)[j]? = some u → w.cell? (a.add j) = some u := by
  intro j u hu
  obtain ⟨i, r, x, rfl, hr, hx, hc⟩ := rowf_place elFl hu
  obtain ⟨g, off, e, _, h0, h1, h2, h3, h4, h5⟩ := h.at_ i x hx
  cases e
  have hr : r < 6 := hr
  have e6 : elFl.sz = 6 := rfl
  rw [e6, show (⟨g, off, none⟩ : Addr).add (i * 6 + r) = ⟨g, off + (i * 6 + r), none⟩ from Addr.add_lit _ _ _, ← Nat.add_assoc]
  have hc : (fileL x)[r]? = some u := hc
  rcases (by omega : r = 0 ∨ r = 1 ∨ r = 2 ∨ r = 3 ∨ r = 4 ∨ r = 5) with rfl | rfl | rfl | rfl | rfl | rfl <;> cases hc <;> assumption
theorem filesAt_none {w : World} {n : Nat} {L : List FileM} (h : FilesAt w none n L) : L = [] := by
  cases L with
  | nil => rfl
  | cons x r => obtain ⟨g, off, e, _⟩ := h.at_ 0 x rfl; cases e
/-- A row of a call's own can be read. -/
theorem own_files {w : World} {B n c : Nat} {e : TypeId} {A : Option Addr} {L : List FileM} (h : Own elFl w B e (.slice A n c) L) : FilesAt w A n L ∧ (0 < n → ∃ g, A = some ⟨g, 0, none⟩ ∧ B ≤ g ∧ g < w.heap.size) := by
  obtain ⟨hn, hA, _⟩ := own_reads h
  refine ⟨⟨hn, fun i m hm => ?_⟩, fun h0 => ?_⟩
  · have h0 : 0 < L.length := by have := (List.getElem?_eq_some_iff.1 hm).1; omega
    obtain ⟨g, c', cur, e1, _, _⟩ := h.some_ h0
    injection e1 with e1 e2 e3
    subst e1
    have K := fun (j : Nat) (u : Value) hj hu => Own.cells (j := j) (u := u) h hm hj hu
    have e6 : elFl.sz = 6 := rfl
    rw [e6] at K
    have hlt := (h.lt (g := g) rfl).2
    refine ⟨g, 0, rfl, hlt, ?_, ?_, ?_, ?_, ?_, ?_⟩ <;> rw [Nat.zero_add]
    · exact K 0 _ (by decide) rfl
    · exact K 1 _ (by decide) rfl
    · exact K 2 _ (by decide) rfl
    · exact K 3 _ (by decide) rfl
    · exact K 4 _ (by decide) rfl
    · exact K 5 _ (by decide) rfl
  · obtain ⟨g, c', cur, e1, hb, _⟩ := h.some_ (by omega)
    injection e1 with e1 e2 e3
    subst e1
    exact ⟨g, rfl, hb, (h.lt (g := g) rfl).2⟩
theorem Own.alc {α : Type} {E : El α} {w : World} {B : Nat} {e : TypeId} {v : Value} {L : List α} (h : Own E w B e v L) (o : Obj) : Own E (w.alloc o) B e v L := World.ownsRow.alloc h o
theorem ftake_snoc {L : List FileM} {i : Nat} {f : FileM} (hf : L[i]? = some f) : L.take (i + 1) = L.take i ++ [f] := by
  rw [List.take_add_one, hf]; rfl
theorem meas_ltP {n k : Nat} (h : k < n) : n - ((k : Int) + 1).toNat < n - (k : Int).toNat := by omega

/-- The files of a level. -/
def ofP (L : List FileM) (lv : Int) : List FileM := L.filter fun f => decide (f.lv = lv)
/-- How many bytes some files have, at most as many as there may be. -/
def sumP (L : List FileM) : Int := L.foldl (fun n f => n + min (max f.sz 0) (2147483647 - n)) 0
def bytesP (L : List FileM) (lv : Int) : Int := sumP (ofP L lv)
/-- The files of a level that have keys of a range. -/
def rangeP (L : List FileM) (lv : Int) (fi la : ByteArray) : List FileM := (ofP L lv).filter fun f => !(decide (0 < cmpT f.fi la) || decide (cmpT f.la fi < 0))
def overP (L : List FileM) (lv : Int) (fi la : ByteArray) : List Int := (rangeP L lv fi la).map (·.nu)
theorem ofP_snoc (L : List FileM) (f : FileM) (lv : Int) : ofP (L ++ [f]) lv = if f.lv = lv then ofP L lv ++ [f] else ofP L lv := by
  unfold ofP
  rw [List.filter_append]
  by_cases h : f.lv = lv
  · rw [if_pos h]; simp [h]
  · rw [if_neg h]; simp [h]
theorem sumP_snoc (L : List FileM) (f : FileM) : sumP (L ++ [f]) = sumP L + min (max f.sz 0) (2147483647 - sumP L) := by
  unfold sumP
  rw [List.foldl_append]
  rfl
theorem sumP_le (L : List FileM) : 0 ≤ sumP L ∧ sumP L ≤ 2147483647 := by
  have h : ∀ (L : List FileM) (n : Int), 0 ≤ n ∧ n ≤ 2147483647 → 0 ≤ L.foldl (fun n f => n + min (max f.sz 0) (2147483647 - n)) n ∧ L.foldl (fun n f => n + min (max f.sz 0) (2147483647 - n)) n ≤ 2147483647 := by
    intro L
    induction L with
    | nil => intro n h; exact h
    | cons x r ih =>
      intro n h
      refine ih (n + min (max x.sz 0) (2147483647 - n)) ?_
      omega
  exact h L 0 (by omega)
end Go.Proofs.Ytcljocmaojfhhaa

namespace Go.Proofs.Ytcljocmaojfhhaa
open Go.RowKit

set_option maxRecDepth 100000 in
set_option maxHeartbeats 2000000 in
theorem pof_any (A : Option Addr) (n c : Nat) (L : List FileM) (lv : Int) (w : World) (hI : FilesAt w A n L) (hn : n ≤ 1000000) :
    Calls Try.prog 18 #[.slice A n c, .int .i64 lv] w fun e w' => ∃ v, e = .returned v ∧ Own elFl w' w.heap.size 26 v (ofP L lv) ∧ w.grownBy w' none := by
  have HI := Lib.hid hI
  have HLn := Lib.hid hI.len
  clear hI
  go_enter Try.func18, Try.ntmps18
  go_wp2_with fail
  go_loopw [5, 7, 10] (fun o y i wr => ∃ k : Nat, k ≤ n ∧ i = .int .i64 (k : Int) ∧ Hid (Own elFl wr w.heap.size 26 o (ofP (L.take k) lv)) ∧ Hid (w.grownBy wr none)) (fun _ _ i _ => n - (intOf i).toNat)
  case atStart => exact ⟨0, by omega, rfl, World.ownsRow_nil _ _ _ _, grefl _ _⟩
  case round =>
    obtain ⟨k, hk, rfl, HN, HG⟩ := hrel
    by_cases hl : k < n
    · have g3 : (k : Int) < (n : Int) := by omega
      have g4 : (0 : Int) ≤ (k : Int) := by omega
      have hkL : k < L.length := by rw [← HLn.out]; exact hl
      have hs := List.getElem?_eq_getElem hkL
      generalize L[k] = f at hs
      have hsn := ofP_snoc (L.take k) f lv
      rw [← ftake_snoc hs] at hsn
      obtain ⟨g, off, rfl, hg, z0, z1, z2, z3, z4, z5⟩ := (HI.out.below (below_g HG.out)).at_ k f hs
      obtain ⟨C, hC⟩ : ∃ C, C = Obj.cells #[.int .i64 f.lv, .int .i64 f.nu, .int .i64 f.co, .int .i64 f.sz, .string f.fi, .string f.la] 26 := ⟨_, rfl⟩
      by_cases he : f.lv = lv
      · rw [if_pos he] at hsn
        have e1 : (f.lv == lv) = true := beq_iff_eq.2 he
        obtain ⟨ao, co, eo⟩ := HN.out.slice
        subst eo
        have Ha : Own elFl ((wr.alloc C).alloc C) w.heap.size 26 (.slice ao (ofP (L.take k) lv).length co) (ofP (L.take k) lv) := World.ownsRow.alloc (World.ownsRow.alloc HN.out _) _
        have hlen : (ofP (L.take k) lv).length ≤ 1000000 := by
          unfold ofP
          refine Nat.le_trans (List.length_filter_le _ _) ?_
          rw [List.length_take]; omega
        obtain ⟨v', w2, hr, hown, hgr, _, _⟩ := app_own (P := Try.prog) elFl 22 26 (.agg #[.int .i64 0, .int .i64 0, .int .i64 0, .int .i64 0, .string ⟨#[]⟩, .string ⟨#[]⟩]) 64 underFl infoFl rfl ((wr.alloc C).alloc C) w.heap.size (.slice ao (ofP (L.take k) lv).length co) (ofP (L.take k) lv) [f] Ha (some ⟨wr.heap.size + 1, 0, none⟩) 1 (fun h => by cases h) (fun a ha j' u hu => by
          cases ha
          rw [El.row_one] at hu
          have h1 := cells_new (wr.alloc C) 26 (fileL f) j' u hu
          rw [show (wr.alloc C).heap.size = wr.heap.size + 1 by simp] at h1
          rw [hC]
          rw [hC] at h1
          exact h1) (by unfold maxLen; simp; omega) (by simp; omega) (Nat.le_trans HG.out.size (by simp; omega)) 1 rfl
        rw [← hsn] at hown
        have HN2 := Lib.hid hown
        have HG2 := Lib.hid (grow_k (gnone HG.out (gnone (World.grownBy_alloc wr C none) (World.grownBy_alloc _ C none))) Ha (Nat.le_refl _) hgr)
        rw [hC] at hr
        have HR := fun ty => Lib.hid (hr ty)
        clear hr hown hgr Ha HN HG hsn hs hg he hC hlen
        generalize (ofP (L.take k) lv).length = m0 at *
        go_wp2_with (at_builtin; refine wpList_append_k _ w2 rfl (.tmp 18) (.tmp 20) 22 rfl _ _ v' rfl rfl (fun ty => (HR ty).out) ?_)
        go_roundw
        case rel => exact ⟨k + 1, by omega, by go_num, HN2, HG2⟩
        case measure => exact meas_ltP hl
      · rw [if_neg he] at hsn
        have e1 : (f.lv == lv) = false := beq_eq_false_iff_ne.2 he
        have hN2 := HN.out.alc C
        rw [← hsn] at hN2
        have HN2 := Lib.hid hN2
        have HG2 := Lib.hid (gnone HG.out (World.grownBy_alloc wr C none))
        rw [hC] at HN2 HG2
        clear HN HG hsn hs hg he hC hN2
        go_wp2_with fail
        go_roundw
        case rel => exact ⟨k + 1, by omega, by go_num, HN2, HG2⟩
        case measure => exact meas_ltP hl
    · have hX : Hid (L.take k = L) := Lib.hid (List.take_of_length_le (by rw [← HLn.out]; omega))
      have g3 : ¬ (k : Int) < (n : Int) := by omega
      go_wp2_with fail
      go_ret
      exact ⟨_, rfl, by have h := HN.out; rw [hX.out] at h; exact h, HG.out⟩
set_option maxRecDepth 100000 in
set_option maxHeartbeats 2000000 in
theorem pnumbers_any (A : Option Addr) (n c : Nat) (L : List FileM) (w : World) (hI : FilesAt w A n L) (hn : n ≤ 1000000) :
    Calls Try.prog 15 #[.slice A n c] w fun e w' => ∃ v, e = .returned v ∧ Own elInts w' w.heap.size 3 v (L.map (·.nu)) ∧ w.grownBy w' none := by
  have HI := Lib.hid hI
  have HLn := Lib.hid hI.len
  clear hI
  go_enter Try.func15, Try.ntmps15
  go_wp2_with fail
  go_loopw [3, 5, 8] (fun o y i wr => ∃ k : Nat, k ≤ n ∧ i = .int .i64 (k : Int) ∧ Hid (Own elInts wr w.heap.size 3 o ((L.take k).map (·.nu))) ∧ Hid (w.grownBy wr none)) (fun _ _ i _ => n - (intOf i).toNat)
  case atStart => exact ⟨0, by omega, rfl, World.ownsRow_nil _ _ _ _, grefl _ _⟩
  case round =>
    obtain ⟨k, hk, rfl, HN, HG⟩ := hrel
    by_cases hl : k < n
    · have g3 : (k : Int) < (n : Int) := by omega
      have g4 : (0 : Int) ≤ (k : Int) := by omega
      have hkL : k < L.length := by rw [← HLn.out]; exact hl
      have hs := List.getElem?_eq_getElem hkL
      generalize L[k] = f at hs
      have hsn : (L.take (k + 1)).map (·.nu) = (L.take k).map (·.nu) ++ [f.nu] := by rw [ftake_snoc hs, List.map_append]; rfl
      obtain ⟨g, off, rfl, hg, z0, z1, z2, z3, z4, z5⟩ := (HI.out.below (below_g HG.out)).at_ k f hs
      obtain ⟨C, hC⟩ : ∃ C, C = Obj.cells #[.int .i64 f.lv, .int .i64 f.nu, .int .i64 f.co, .int .i64 f.sz, .string f.fi, .string f.la] 26 := ⟨_, rfl⟩
      obtain ⟨ao, co, eo⟩ := HN.out.slice
      subst eo
      have Ha : Own elInts ((wr.alloc C).alloc (.cells #[.int .i64 f.nu] 3)) w.heap.size 3 (.slice ao ((L.take k).map (·.nu)).length co) ((L.take k).map (·.nu)) := World.ownsRow.alloc (World.ownsRow.alloc HN.out _) _
      have hlen : ((L.take k).map (·.nu)).length ≤ 1000000 := by rw [List.length_map, List.length_take]; omega
      obtain ⟨v', w2, hr, hown, hgr, _, _⟩ := app_own (P := Try.prog) elInts 27 3 (.int .i64 0) 8 underInts infoInts rfl ((wr.alloc C).alloc (.cells #[.int .i64 f.nu] 3)) w.heap.size (.slice ao ((L.take k).map (·.nu)).length co) ((L.take k).map (·.nu)) [f.nu] Ha (some ⟨wr.heap.size + 1, 0, none⟩) 1 (fun h => by cases h) (fun a ha j' u hu => by
        cases ha
        rw [El.row_one] at hu
        have h1 := cells_new (wr.alloc C) 3 [.int .i64 f.nu] j' u hu
        rw [show (wr.alloc C).heap.size = wr.heap.size + 1 by simp] at h1
        exact h1) (by unfold maxLen; simp only [List.length_singleton]; omega) (by simp only [List.length_singleton]; omega) (Nat.le_trans HG.out.size (by simp; omega)) 1 rfl
      rw [← hsn] at hown
      have HN2 := Lib.hid hown
      have HG2 := Lib.hid (grow_k (gnone HG.out (gnone (World.grownBy_alloc wr C none) (World.grownBy_alloc _ (.cells #[.int .i64 f.nu] 3) none))) Ha (Nat.le_refl _) hgr)
      rw [hC] at hr
      have HR := fun ty => Lib.hid (hr ty)
      clear hr hown hgr Ha HN HG hsn hs hg hC hlen
      generalize ((L.take k).map (·.nu)).length = m0 at *
      go_wp2_with (at_builtin; refine wpList_append_k _ w2 rfl (.tmp 12) (.tmp 15) 27 rfl _ _ v' rfl rfl (fun ty => (HR ty).out) ?_)
      go_roundw
      case rel => exact ⟨k + 1, by omega, by go_num, HN2, HG2⟩
      case measure => exact meas_ltP hl
    · have hX : Hid (L.take k = L) := Lib.hid (List.take_of_length_le (by rw [← HLn.out]; omega))
      have g3 : ¬ (k : Int) < (n : Int) := by omega
      go_wp2_with fail
      go_ret
      exact ⟨_, rfl, by have h := HN.out; rw [hX.out] at h; exact h, HG.out⟩
set_option maxRecDepth 100000 in
set_option maxHeartbeats 2000000 in
theorem pbytes_any (A : Option Addr) (n c : Nat) (L : List FileM) (lv : Int) (w : World) (hI : FilesAt w A n L) (hn : n ≤ 1000000) :
    Calls Try.prog 10 #[.slice A n c, .int .i64 lv] w fun e w' => e = .returned (.int .i64 (bytesP L lv)) ∧ w.grownBy w' none := by
  have CO := Lib.hid (pof_any A n c L lv w hI hn)
  have hlen : (ofP L lv).length ≤ 1000000 := by
    unfold ofP
    refine Nat.le_trans (List.length_filter_le _ _) ?_
    rw [← hI.len]; exact hn
  unfold bytesP
  generalize ofP L lv = M at *
  clear hI
  go_enter Try.func10, Try.ntmps10
  go_wp2_with fail
  refine CO.out.mono ?_
  rintro e w1 ⟨v, rfl, hown, hg⟩
  obtain ⟨a, c1, rfl⟩ := hown.slice
  have HI := Lib.hid (own_files hown).1
  have HG0 := Lib.hid hg
  obtain ⟨m, hm⟩ : ∃ m, M.length = m := ⟨_, rfl⟩
  rw [hm] at HI hlen ⊢
  have HM := Lib.hid hm
  clear hown hg CO hm
  go_wp2_with fail
  go_loopw [5, 7, 12] (fun o y i wr => ∃ (k : Nat) (s : Int), k ≤ m ∧ i = .int .i64 (k : Int) ∧ o = .int .i64 s ∧ 0 ≤ s ∧ s ≤ 2147483647 ∧ Hid (s = sumP (M.take k)) ∧ Hid (w1.grownBy wr none)) (fun _ _ i _ => m - (intOf i).toNat)
  case atStart => exact ⟨0, 0, by omega, rfl, rfl, by omega, by omega, Lib.hid rfl, grefl _ _⟩
  case round =>
    obtain ⟨k, s, hk, rfl, rfl, s0, s1, HS, HG⟩ := hrel
    by_cases hl : k < m
    · have g3 : (k : Int) < (m : Int) := by omega
      have g4 : (0 : Int) ≤ (k : Int) := by omega
      have hkL : k < M.length := by rw [HM.out]; exact hl
      have hs := List.getElem?_eq_getElem hkL
      generalize M[k] = f at hs
      have hsn : sumP (M.take (k + 1)) = s + min (max f.sz 0) (2147483647 - s) := by rw [ftake_snoc hs, sumP_snoc, ← HS.out]
      obtain ⟨g, off, rfl, hg, z0, z1, z2, z3, z4, z5⟩ := (HI.out.below (below_g HG.out)).at_ k f hs
      have w1' : wrap64 (2147483647 - s) = 2147483647 - s := by unfold wrap64; omega
      have w2' : wrap64 (s + min (max f.sz 0) (2147483647 - s)) = s + min (max f.sz 0) (2147483647 - s) := by unfold wrap64; omega
      have b1 : 0 ≤ s + min (max f.sz 0) (2147483647 - s) := by omega
      have b2 : s + min (max f.sz 0) (2147483647 - s) ≤ 2147483647 := by omega
      have HG2 := Lib.hid (gnone HG.out (World.grownBy_alloc wr (.cells #[.int .i64 f.lv, .int .i64 f.nu, .int .i64 f.co, .int .i64 f.sz, .string f.fi, .string f.la] 26) none))
      have HS2 := Lib.hid hsn.symm
      clear hs hg hsn HG HS
      go_wp2_with fail
      go_roundw
      case rel => exact ⟨k + 1, _, by omega, by go_num, rfl, b1, b2, HS2, HG2⟩
      case measure => exact meas_ltP hl
    · have hX : Hid (M.take k = M) := Lib.hid (List.take_of_length_le (by rw [HM.out]; omega))
      have g3 : ¬ (k : Int) < (m : Int) := by omega
      go_wp2_with fail
      go_ret
      exact ⟨by have h := HS.out; rw [hX.out] at h; rw [h]; rfl, gnone HG0.out HG.out⟩
end Go.Proofs.Ytcljocmaojfhhaa
