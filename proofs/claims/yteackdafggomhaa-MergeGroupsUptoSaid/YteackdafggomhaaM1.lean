/-
  Several texts in one: Plain lemmas on numbers, bits and worlds. No program is named.
  Slices of numbers and of texts that came in: what a walk asks of them, out of how they read. No program is named.
  Walks over package vec, part 1: Leq, Same, isCount, Valid.
  Walks over package vec, part 2: slices of numbers that a call makes: Clone, With, each, Join, Meet.
  An append that leaves what was there readable; rows of numbers that are apart. No program is named.
  The book of lists, of any kind: what a call turns (Tn), elements as cells (El), rows of a kind that are apart, rows that grow. No program is named.
  The book of lists, of any kind: rows of lists; an element stored. No program is named.
  The book of lists, of any kind: what is kept; one more. No program is named.
  Walks over package raw, part 4: PutVar.
  Walks over package raw, part 5: Put and Get.
  Walks over package raw, part 6: Sum.
  The check sum, without the program: one byte changed changes it.
  Walks over package raw, part 1: the reader's steps.
  Walks over package raw, part 2: a number in groups of seven bits.
  Walks over package raw, part 3: GetVar, with its deferred closure.
  DERIVED: THE SHELF's CONTRACTS AT THIS DUMP, IN PLAIN WORDS (tools/lay-plain.mjs out of 'TryShelf.lean', which tools/lay-shelf.mjs wrote): THE SAME DECLARATIONS UNDER THE SAME NAMES: 'import', 'namespace', 'open', 'def', 'theorem' AND NOTHING ELSE: no command of the shelf's: FOR A HAND-IN. Each laying: the table of numbers ('.._ren') and one theorem, a field a fact of the dump's own or the kernel's comparison; each contract: ONE APPLICATION.
  Digits, over the table of the powers of ten that the laws lay.
  The walk over the laws' first call (alive), and what the laws ask of the tables.
  RawShort: of a number in few bytes no beginning is taken for it.
  The order of bytes; what Compare and Put answer.
  The order of texts, plain; the document's own Compare.
  Chapter 11, plain: what a block of pairs is, as bytes; which bytes are one. No program is named.
  Chapter 11, plain: bytes of which one is changed; what is sought; how long a block is. No program is named.
  A list of pairs of texts, as it can be read in a world. No program is named.
-/
import Derived.WalkKit
import Derived.WalkSpells
import Derived.WalkLawsBesides
import Derived.Below
import Derived.Deep.Draws
import Derived.Deep.OwnRows
import Derived.OwnWalk
import Derived.Laws.AppendOwn
import Derived.Laws.BitsAllLaws
import Derived.Laws.BitsLemmas
import Derived.Lib.Hide
import Derived.ChangeSame
import Derived.ProofKit
import Derived.OpenShut
import Derived.SliceStrings
import Derived.Test.YteackdafggomhaaRows
import Derived.Deep.QuietTactic
import Derived.BigQuiet
import Derived.Deep.Onto
import Derived.Lib.LaidTab
import Derived.Defers
import Derived.Recover
import Derived.Shelf.Small.Strs
import Derived.Shelf.Strings.Search1
import Derived.Shelf.Strings.Search2
import Derived.Shelf.Strings.Search3
import Derived.Shelf.LaysM
import Derived.Shelf.Strings.Shaped
import Derived.Test.YteackdafggomhaaProg
import Derived.Sort.Grow
import Derived.Lib.ItoaNum
import Derived.Lib.Strings
import Derived.Lib.Bytealg
import Derived.LoopTactic
namespace Go.Proofs.Yteackdafggomhaa
open Go.RowKit

theorem ofInt_i64 (a : Nat) (ha : a < 9223372036854775808) : (BitVec.ofInt 64 (a : Int)).toNat = a := by
  rw [BitVec.ofInt_natCast, BitVec.toNat_ofNat]; exact Nat.mod_eq_of_lt (by omega)
theorem i64_or_nat (a b : Nat) (ha : a < 9223372036854775808) (hb : b < 9223372036854775808) : bits .or .i64 (a : Int) (b : Int) = ((a ||| b : Nat) : Int) := by
  have hx : a ||| b < 2 ^ 63 := Nat.or_lt_two_pow (by omega) (by omega)
  show IntKind.i64.wrap ((BitVec.ofInt 64 (a : Int) ||| BitVec.ofInt 64 (b : Int)).toNat : Int) = _
  rw [BitVec.toNat_or, ofInt_i64 a ha, ofInt_i64 b hb, IntKind.wrap_i64]
  omega

theorem size_mk (l : List UInt8) : (⟨l.toArray⟩ : ByteArray).size = l.length := by simp [ByteArray.size]
theorem ret_int {k : IntKind} {a b : Int} (h : a = b) : Ending.returned (.int k a) = .returned (.int k b) := by rw [h]
theorem only_drewN {a w : World} {row : Option Nat} (h : a.grownBy w row) (n : Nat) : a.grownBy (w.drewN n) row := ⟨h.os, h.tape, h.output, h.size, h.block⟩
theorem only_drew {a w : World} {row : Option Nat} (h : a.grownBy w row) : a.grownBy w.drew row := ⟨h.os, h.tape, h.output, h.size, h.block⟩
theorem only_alloc {a w : World} {row : Option Nat} (h : a.grownBy w row) (o : Obj) : a.grownBy (w.alloc o) row :=
  ⟨h.os, h.tape, h.output, Nat.le_trans h.size (by simp), fun i hi hne => (Below.heap_alloc w o i (Nat.lt_of_lt_of_le hi h.size)).trans (h.block i hi hne)⟩
theorem only_setCell {a w : World} {g : Nat} (h : a.grownBy w (some g)) {p : Addr} (hp : p.block = g ∨ a.heap.size ≤ p.block) (u : Value) : a.grownBy (w.setCell p u) (some g) :=
  ⟨h.os, h.tape, h.output, by simpa [World.setCell] using h.size, fun i hi hne => (Below.heap_setCell w p u i (by
    rintro rfl
    rcases hp with hp | hp
    · exact hne (by rw [hp])
    · omega)).trans (h.block i hi hne)⟩

/-- Block g is just the cells cs, of element type t, none of them frozen. -/
def Blk (w : World) (g : Nat) (t : TypeId) (cs : Array Value) : Prop := w.heap[g]? = some (.cells cs t (0, 0))

section
variable {w w' : World} {g : Nat} {t : TypeId} {cs : Array Value}
theorem Blk.lt (h : Blk w g t cs) : g < w.heap.size := by
  rcases Nat.lt_or_ge g w.heap.size with hlt | hge
  · exact hlt
  · unfold Blk at h; rw [Array.getElem?_eq_none hge] at h; cases h
theorem Blk.cell (h : Blk w g t cs) (i : Nat) : w.cell? ⟨g, i, none⟩ = cs[i]? := cell_of_row w g i cs t (0, 0) h
theorem Blk.frozen (h : Blk w g t cs) (i : Nat) : w.frozen? ⟨g, i, none⟩ = false := by
  unfold Blk at h
  simp [World.frozen?, h]
theorem Blk.new (w : World) (t : TypeId) (cs : Array Value) : Blk (w.alloc (.cells cs t)) w.heap.size t cs := heap_alloc_new w _
theorem Blk.new' {w : World} {g : Nat} (h : w.heap.size = g) (t : TypeId) (cs : Array Value) : Blk (w.alloc (.cells cs t)) g t cs := h ▸ heap_alloc_new w _
theorem Blk.drew (h : Blk w g t cs) : Blk w.drew g t cs := h
theorem Blk.drewN (h : Blk w g t cs) (n : Nat) : Blk (w.drewN n) g t cs := h
theorem Blk.alloc (h : Blk w g t cs) (o : Obj) : Blk (w.alloc o) g t cs := (Below.heap_alloc w o g h.lt).trans h
theorem Blk.set_ (h : Blk w g t cs) (i : Nat) (u : Value) : Blk (w.setCell ⟨g, i, none⟩ u) g t (cs.setIfInBounds i u) := by
  unfold Blk at h ⊢
  simp [World.setCell, Array.getElem?_modify, h]
theorem Blk.far (h : Blk w g t cs) {p : Addr} (hp : g ≠ p.block) (u : Value) : Blk (w.setCell p u) g t cs := (Below.heap_setCell w p u g hp).trans h
theorem Blk.below {B : Nat} (h : Blk w g t cs) (hb : Below B w w') (hg : g < B) : Blk w' g t cs := (hb.block g hg).trans h
theorem Blk.grown {row : Option Nat} (h : Blk w g t cs) (hb : w.grownBy w' row) (hg : some g ≠ row) : Blk w' g t cs := (hb.block g h.lt hg).trans h
theorem Blk.ne_ {g' : Nat} {t' : TypeId} {cs' : Array Value} (h : Blk w g t cs) (h' : Blk w g' t' cs') (hne : t ≠ t') : g ≠ g' := by
  rintro rfl
  unfold Blk at h h'
  rw [h] at h'
  injection h' with h'
  injection h' with _ ht
  exact hne ht
end

theorem obj_set {w : World} {g : Nat} {cs : Array Value} {t : TypeId} {fr : Nat × Nat} (h : w.heap[g]? = some (.cells cs t fr)) (i : Nat) (u : Value) : (w.setCell ⟨g, i, none⟩ u).heap[g]? = some (.cells (cs.setIfInBounds i u) t fr) := by
  simp [World.setCell, Array.getElem?_modify, h]

theorem below_drewN {B : Nat} {a w : World} (h : Below B a w) (n : Nat) : Below B a (w.drewN n) := ⟨h.os, h.tape, h.output, h.size, h.block⟩
theorem below_of_only {a w : World} {B g : Nat} (h : a.grownBy w (some g)) (hB : B ≤ a.heap.size) (hg : B ≤ g) : Below B a w :=
  ⟨h.os, h.tape, h.output, h.size, fun i hi => h.block i (by omega) (fun e => by injection e with e; omega)⟩
theorem below_alloc {B : Nat} {a w : World} (h : Below B a w) (hB : B ≤ a.heap.size) (o : Obj) : Below B a (w.alloc o) := h.alloc (Nat.le_trans hB h.size) o
theorem below_setCell {B : Nat} {a w : World} (h : Below B a w) {p : Addr} (hp : B ≤ p.block) (u : Value) : Below B a (w.setCell p u) :=
  ⟨h.os, h.tape, h.output, by simpa [World.setCell] using h.size, fun i hi => (Below.heap_setCell w p u i (by omega)).trans (h.block i hi)⟩

theorem cell_new (w : World) (t : TypeId) (x : Value) : (w.alloc (.cells #[x] t)).cell? ⟨w.heap.size, 0, none⟩ = some x := (Blk.new w t #[x]).cell 0

/-! ### Rows of bytes that the call itself made -/
def b8 (c : UInt8) : Value := .int .u8 (c.toNat : Int)

/-- v is a slice of the call's own (its block from B on) that holds the bytes l. -/
def Byt (w : World) (B : Nat) (e : TypeId) (v : Value) (l : List UInt8) : Prop := w.ownsRow B e 1 v l.length (l.map b8)

section
variable {P : Program} {w : World} {B : Nat} {e : TypeId} {v : Value} {l : List UInt8}
theorem Byt.nil (w : World) (B : Nat) (e : TypeId) : Byt w B e (.slice none 0 0) [] := World.ownsRow_nil _ _ _ _
theorem Byt.alloc (h : Byt w B e v l) (o : Obj) : Byt (w.alloc o) B e v l := World.ownsRow.alloc h o

theorem Byt.drew (h : Byt w B e v l) : Byt w.drew B e v l := h
theorem Byt.drewN (h : Byt w B e v l) (n : Nat) : Byt (w.drewN n) B e v l := h

/-- 'append(b, c)' of one byte. -/
theorem wpList_append_byte (w : World) {ops : Array Oper} {rest : List Oper} {o : Oper} {a : Act} {Q : Exit → Act → World → Prop} (hgd : o.guard = none) (s x : Operand) (t : TypeId)
    (ho : o.op = .call { callee := .builtin .append, args := #[s, x], argTypes := #[t, t] }) (ht : P.underlying t = some (.slice e)) (hi : (P.info? e).map (fun i => (i.zero, i.size, i.bytes)) = some (some (.int .u8 0), 1, 1))
    (hs : a.eval s = v) (hown : Byt w B e v l) (ad : Addr) (cp : Nat) (hx : a.eval x = .slice (some ad) 1 cp) (z : Int) (hcell : w.cell? ad = some (.int .u8 z)) (c : UInt8) (hc : z = (c.toNat : Int))
    (hl : l.length < 140737488355328) (hB : B ≤ w.heap.size)
    (h : ∀ v' w', Byt w' B e v' (l ++ [c]) → w.grownBy w' v.ownBlock → wpList P ops Q rest (a.put o.dst v') w') : wpList P ops Q (o :: rest) a w := by
  obtain ⟨i0, hi0, hz0, hz1, hz2⟩ := info_parts hi
  refine wpList_append_own w hgd s x t ho B e i0 (.int .u8 0) 1 1 ht hi0 hz0 hz1 hz2 rfl (by decide) v l.length (l.map b8) hs hown ad 1 cp [b8 c] hx rfl ?_ ?_ ?_ ?_ hB ?_
  · intro j u hj
    match j, hj with
    | 0, hj =>
      simp at hj
      subst hj
      subst hc
      exact hcell
  · intro u hu
    simp at hu
    subst hu
    rfl
  · unfold maxLen; omega
  · omega
  · intro v' w' h1 h2 _
    refine h v' w' ?_ h2
    unfold Byt
    simpa using h1

/-- 'append(b, c, d, ..)'. -/
theorem wpList_append_bytes (w : World) {ops : Array Oper} {rest : List Oper} {o : Oper} {a : Act} {Q : Exit → Act → World → Prop} (hgd : o.guard = none) (s x : Operand) (t : TypeId)
    (ho : o.op = .call { callee := .builtin .append, args := #[s, x], argTypes := #[t, t] }) (ht : P.underlying t = some (.slice e)) (hi : (P.info? e).map (fun i => (i.zero, i.size, i.bytes)) = some (some (.int .u8 0), 1, 1))
    (hs : a.eval s = v) (hown : Byt w B e v l) (ad : Addr) (m cp : Nat) (hx : a.eval x = .slice (some ad) m cp) (cs : List UInt8) (hm : cs.length = m) (hcell : ∀ j u, (cs.map b8)[j]? = some u → w.cell? (ad.add j) = some u)
    (hl : l.length + m < 140737488355328) (hB : B ≤ w.heap.size)
    (h : ∀ v' w', Byt w' B e v' (l ++ cs) → w.grownBy w' v.ownBlock → wpList P ops Q rest (a.put o.dst v') w') : wpList P ops Q (o :: rest) a w := by
  obtain ⟨i0, hi0, hz0, hz1, hz2⟩ := info_parts hi
  refine wpList_append_own w hgd s x t ho B e i0 (.int .u8 0) 1 1 ht hi0 hz0 hz1 hz2 rfl (by decide) v l.length (l.map b8) hs hown ad m cp (cs.map b8) hx (by simp [hm]) hcell ?_ ?_ ?_ hB ?_
  · intro u hu
    obtain ⟨c, _, rfl⟩ := List.mem_map.1 hu
    rfl
  · unfold maxLen; omega
  · omega
  · intro v' w' h1 h2 _
    refine h v' w' ?_ h2
    unfold Byt
    rw [List.length_append, List.map_append, hm]
    exact h1
theorem step_append_bytes {ops : Array Oper} {o : Oper} {a : Act} {K : Act → World → Prop} {Q : Exit → Act → World → Prop} {E : Prop} (hgd : o.guard = none) (s x : Operand) (t : TypeId)
    (ho : o.op = .call { callee := .builtin .append, args := #[s, x], argTypes := #[t, t] }) (ht : P.underlying t = some (.slice e)) (hi : (P.info? e).map (fun i => (i.zero, i.size, i.bytes)) = some (some (.int .u8 0), 1, 1))
    (hs : a.eval s = v) (hown : Byt w B e v l) (ad : Addr) (m cp : Nat) (hx : a.eval x = .slice (some ad) m cp) (cs : List UInt8) (hm : cs.length = m) (hcell : ∀ j u, (cs.map b8)[j]? = some u → w.cell? (ad.add j) = some u)
    (hl : l.length + m < 140737488355328) (hB : B ≤ w.heap.size)
    (h : ∀ v' w', Byt w' B e v' (l ++ cs) → w.grownBy w' v.ownBlock → K (a.put o.dst v') w') : if Region.wanted o (yielded ops a.tmps) = true then Oper.wp P o a w K Q else E := by
  have hw : Region.wanted o (yielded ops a.tmps) = true := by simp [Region.wanted, hgd]
  rw [if_pos hw]
  obtain ⟨i0, hi0, hz0, hz1, hz2⟩ := info_parts hi
  refine wp_append_own w s x t ho B e i0 (.int .u8 0) 1 1 ht hi0 hz0 hz1 hz2 rfl (by decide) v l.length (l.map b8) hs hown ad m cp (cs.map b8) hx (by simp [hm]) hcell ?_ ?_ ?_ hB ?_
  · intro u hu
    obtain ⟨c, _, rfl⟩ := List.mem_map.1 hu
    rfl
  · unfold maxLen; omega
  · omega
  · intro v' w' h1 h2 _
    refine h v' w' ?_ h2
    unfold Byt
    rw [List.length_append, List.map_append, hm]
    exact h1
/-- The cells of a block that was just made. -/
theorem cells_new (w : World) (t : TypeId) (xs : List Value) : ∀ j u, xs[j]? = some u → (w.alloc (.cells xs.toArray t)).cell? (({ block := w.heap.size, off := 0, spot := none } : Addr).add j) = some u := by
  intro j u hu
  have e : ({ block := w.heap.size, off := 0, spot := none } : Addr).add j = ⟨w.heap.size, j, none⟩ := by simp [Addr.add]; intro h; exact h.symm
  rw [e, (Blk.new w t xs.toArray).cell j]
  simpa using hu

/-- What a byte more leaves of the memory that was there. -/
theorem Byt.grown {a w' : World} (h : Byt w B e v l) (hb : Below B a w) (hB : B ≤ w.heap.size) (hg : w.grownBy w' v.ownBlock) : Below B a w' := hb.grown hg hB (fun k hk => (World.ownsRow.lt h k hk).1)

/-- 'string(b)'. -/
theorem Byt.string (h : Byt w B e v l) {src dst : TypeId} (hs : P.underlying src = some (.slice e)) (he : P.underlying e = some (.int .u8)) (hd : P.underlying dst = some .string) :
    (convert src dst v).run P w = .ok (.string ⟨l.toArray⟩) w := by
  rcases h.2 with ⟨rfl, hn⟩ | ⟨g, cap, cur, rfl, h2⟩
  · have hl : l = [] := by simpa using hn
    subst hl
    exact run_convert_bytes_nil w src e hs he _ _ dst hd
  · refine run_convert_bytes_back w src dst e ⟨g, 0, none⟩ cap l hs he hd fun j hj => ?_
    have := World.ownsRow.cells (g := g) h rfl j (b8 l[j]) (by simp [hj])
    simpa [b8] using this
end

theorem ofInt_u32 (a : Nat) (ha : a < 4294967296) : (BitVec.ofInt 32 (a : Int)).toNat = a := by
  rw [BitVec.ofInt_natCast, BitVec.toNat_ofNat]; exact Nat.mod_eq_of_lt (by omega)
theorem u32_xor_nat (a b : Nat) (ha : a < 4294967296) (hb : b < 4294967296) : bits .xor .u32 (a : Int) (b : Int) = ((a ^^^ b : Nat) : Int) := by
  have hx : a ^^^ b < 2 ^ 32 := Nat.xor_lt_two_pow (by omega) (by omega)
  show IntKind.u32.wrap ((BitVec.ofInt 32 (a : Int) ^^^ BitVec.ofInt 32 (b : Int)).toNat : Int) = _
  rw [BitVec.toNat_xor, ofInt_u32 a ha, ofInt_u32 b hb, IntKind.wrap_u32]
  omega
theorem u32_and_nat (a b : Nat) (ha : a < 4294967296) (hb : b < 4294967296) : bits .and .u32 (a : Int) (b : Int) = ((a &&& b : Nat) : Int) := by
  have hx : a &&& b < 2 ^ 32 := Nat.and_lt_two_pow _ (by omega)
  show IntKind.u32.wrap ((BitVec.ofInt 32 (a : Int) &&& BitVec.ofInt 32 (b : Int)).toNat : Int) = _
  rw [BitVec.toNat_and, ofInt_u32 a ha, ofInt_u32 b hb, IntKind.wrap_u32]
  omega

theorem u32_not_nat (a : Nat) (ha : a < 4294967296) : bits .xor .u32 IntKind.u32.max (a : Int) = ((4294967295 - a : Nat) : Int) := by
  have hm : IntKind.u32.max = ((4294967295 : Nat) : Int) := by decide
  have e : (4294967295 ^^^ a : Nat) = 4294967295 - a := by
    have h1 : (BitVec.allOnes 32 ^^^ BitVec.ofNat 32 a) = ~~~ BitVec.ofNat 32 a := BitVec.allOnes_xor
    have h2 := congrArg BitVec.toNat h1
    rw [BitVec.toNat_xor, BitVec.toNat_not, BitVec.toNat_ofNat, Nat.mod_eq_of_lt (show a < 2 ^ 32 from by omega), BitVec.toNat_allOnes] at h2
    have h3 : (2 : Nat) ^ 32 - 1 = 4294967295 := by decide
    rw [h3] at h2
    exact h2
  rw [hm, u32_xor_nat _ _ (by decide) ha, e]

/-- Seven bits of a byte. -/
theorem andNot_128 : ∀ c : Nat, c < 256 → bits .andNot .u8 (c : Int) 128 = ((c % 128 : Nat) : Int) := by decide +kernel

/-- One group of seven bits more. -/
theorem vstep (a k c : Nat) (ha : a < 2 ^ (7 * k)) (hk : k < 9) (hc : c < 256) :
    bits .or .i64 (a : Int) (wrap64 (wrap64 (bits .andNot .u8 (c : Int) 128) * 2 ^ (7 * k))) = ((a + c % 128 * 2 ^ (7 * k) : Nat) : Int) ∧ a + c % 128 * 2 ^ (7 * k) < 2 ^ (7 * (k + 1)) := by
  have hm : c % 128 < 128 := Nat.mod_lt _ (by decide)
  have hp : 2 ^ (7 * (k + 1)) = 128 * 2 ^ (7 * k) := by rw [Nat.mul_add, Nat.pow_add]; omega
  have h1 : c % 128 * 2 ^ (7 * k) + 2 ^ (7 * k) ≤ 128 * 2 ^ (7 * k) := by
    have : (c % 128 + 1) * 2 ^ (7 * k) ≤ 128 * 2 ^ (7 * k) := Nat.mul_le_mul_right _ (by omega)
    rwa [Nat.add_mul, Nat.one_mul] at this
  have h2 : 2 ^ (7 * (k + 1)) ≤ 2 ^ 63 := Nat.pow_le_pow_right (by decide) (by omega)
  have h63 : (2 : Nat) ^ 63 = 9223372036854775808 := by decide
  refine ⟨?_, by omega⟩
  rw [andNot_128 c hc]
  have e1 : wrap64 ((c % 128 : Nat) : Int) = ((c % 128 : Nat) : Int) := IntWalk.wrap64_in _ (by omega)
  rw [e1]
  have e2 : (((c % 128 : Nat) : Int) * 2 ^ (7 * k)) = ((c % 128 * 2 ^ (7 * k) : Nat) : Int) := by push_cast; rfl
  rw [e2]
  have e3 : wrap64 ((c % 128 * 2 ^ (7 * k) : Nat) : Int) = ((c % 128 * 2 ^ (7 * k) : Nat) : Int) := IntWalk.wrap64_in _ (by omega)
  rw [e3, i64_or_nat _ _ (by omega) (by omega)]
  congr 1
  rw [Nat.or_comm, Nat.mul_comm, ← Nat.two_pow_add_eq_or_of_lt ha, Nat.add_comm]
end Go.Proofs.Yteackdafggomhaa

namespace Go.Proofs.Yteackdafggomhaa
open Go.RowKit Go.WideShapes Go.ChangeShapes

theorem block_lt {w : World} {g i : Nat} {v : Value} (h : w.cell? ⟨g, i, none⟩ = some v) : g < w.heap.size := by
  rcases Nat.lt_or_ge g w.heap.size with hlt | hge
  · exact hlt
  · simp [World.cell?, Array.getElem?_eq_none hge] at h

/-- n numbers stand at A. -/
structure IntsIn (w : World) (A : Option Addr) (n : Nat) (zs : List Int) : Prop where
  len : zs.length = n
  max : n ≤ 9223372036854775807
  some : 0 < n → ∃ b off, A = .some ⟨b, off, none⟩ ∧ b < w.heap.size ∧ ∀ j, j < n → w.cell? ⟨b, off + j, none⟩ = .some (.int .i64 (zs.getD j 0))
  wf : ∀ z ∈ zs, (Lit.int .i64 z).wf = true

theorem IntsIn.below {w w' : World} {A : Option Addr} {n : Nat} {zs : List Int} (h : IntsIn w A n zs) (hb : Below w.heap.size w w') : IntsIn w' A n zs :=
  ⟨h.len, h.max, fun hn => by
    obtain ⟨b, off, rfl, hlt, hc⟩ := h.some hn
    exact ⟨b, off, rfl, Nat.lt_of_lt_of_le hlt hb.size, fun j hj => (hb.cell (p := ⟨b, off + j, none⟩) hlt).trans (hc j hj)⟩, h.wf⟩

/-- n texts stand at A. -/
structure StrsIn (w : World) (A : Option Addr) (n : Nat) (ss : List ByteArray) : Prop where
  len : ss.length = n
  max : n ≤ 9223372036854775807
  some : 0 < n → ∃ b off, A = .some ⟨b, off, none⟩ ∧ b < w.heap.size ∧ ∀ j, j < n → w.cell? ⟨b, off + j, none⟩ = .some (.string (ss.getD j ByteArray.empty))
  size : ∀ s ∈ ss, s.size ≤ 9223372036854775807

theorem StrsIn.below {w w' : World} {A : Option Addr} {n : Nat} {ss : List ByteArray} (h : StrsIn w A n ss) (hb : Below w.heap.size w w') : StrsIn w' A n ss :=
  ⟨h.len, h.max, fun hn => by
    obtain ⟨b, off, rfl, hlt, hc⟩ := h.some hn
    exact ⟨b, off, rfl, Nat.lt_of_lt_of_le hlt hb.size, fun j hj => (hb.cell (p := ⟨b, off + j, none⟩) hlt).trans (hc j hj)⟩, h.size⟩

section
variable {H : Type} {enc : TypeId × Value → H} {P : Program} {w : World} {t e : TypeId} {A : Option Addr} {n cp : Nat} {d : DataW H} {p : List MemPlace}
theorem ints_view (ht : P.underlying t = some (.slice e)) (he : P.underlying e = some (.int .i64)) (hc : P.cellsOf e = 1) (h : DataW.Trod enc P w 0 (fun _ => true) true t (.slice A n cp) d p) : ∃ zs, IntsIn w A n zs := by
  obtain ⟨fuel, hf⟩ := h
  rcases open_ints ht he hc hf with ⟨hcs, _⟩ | ⟨a, len', cap', zs, hcs, _, hl, hm, hz, _, hcell, hwz⟩
  · simp [Value.cells] at hcs
    obtain ⟨rfl, rfl, rfl⟩ := hcs
    exact ⟨[], rfl, by decide, fun h => absurd h (by decide), fun z hz => by cases hz⟩
  · simp [Value.cells] at hcs
    obtain ⟨rfl, rfl, rfl⟩ := hcs
    rw [if_pos rfl] at hz
    unfold maxLen at hm
    refine ⟨zs.take n, by simp; omega, by omega, fun hn => ?_, fun z hz' => hwz z (List.mem_of_mem_take hz')⟩
    obtain ⟨b, off, rfl, hcc⟩ := ints_at hcell (by omega)
    refine ⟨b, off, rfl, block_lt (hcc 0 (by omega)), fun j hj => ?_⟩
    rw [hcc j (by omega)]
    simp [List.getD, hj]
theorem strs_view (ht : P.underlying t = some (.slice e)) (he : P.underlying e = some .string) (hc : P.cellsOf e = 1) (h : DataW.Trod enc P w 0 (fun _ => true) true t (.slice A n cp) d p) : ∃ ss, StrsIn w A n ss := by
  obtain ⟨fuel, hf⟩ := h
  rcases open_strings ht he hc hf with ⟨hcs, _⟩ | ⟨a, len', cap', ss, hcs, _, hl, hm, hz, _, hcell, hwz⟩
  · simp [Value.cells] at hcs
    obtain ⟨rfl, rfl, rfl⟩ := hcs
    exact ⟨[], rfl, by decide, fun h => absurd h (by decide), fun z hz => by cases hz⟩
  · simp [Value.cells] at hcs
    obtain ⟨rfl, rfl, rfl⟩ := hcs
    rw [if_pos rfl] at hz
    unfold maxLen at hm
    refine ⟨ss.take n, by simp; omega, by omega, fun hn => ?_, fun z hz' => by have := hwz z (List.mem_of_mem_take hz'); unfold maxLen at this; omega⟩
    obtain ⟨b, off, spot⟩ := a
    have hspot : spot = none := by simpa [Addr.add] using World.cell?_spot (hcell 0 (by omega))
    subst hspot
    have hcc : ∀ j, j < ss.length → w.cell? ⟨b, off + j, none⟩ = some (.string (ss.getD j ByteArray.empty)) := fun j hj => by rw [← Go.WideShapes.add_plain]; exact hcell j hj
    refine ⟨b, off, rfl, block_lt (hcc 0 (by omega)), fun j hj => ?_⟩
    rw [hcc j (by omega)]
    simp [List.getD, hj]
/-- Numbers that came in lie within the reach. -/
theorem ints_size (ht : P.underlying t = some (.slice e)) (he : P.underlying e = some (.int .i64)) (hc : P.cellsOf e = 1) (h : DataW.Trod enc P w 0 (fun _ => true) true t (.slice A n cp) d p)
    (hs : ∀ elems spare, d = .slice elems spare → (elems.length + spare.length) * 8 ≤ reachBytes) : n ≤ 17592186043904 := by
  obtain ⟨fuel, hf⟩ := h
  rcases open_ints ht he hc hf with ⟨hcs, _⟩ | ⟨a, len', cap', zs, hcs, _, hl, hm, hz, hx, _, _⟩
  · simp [Value.cells] at hcs
    omega
  · simp [Value.cells] at hcs
    obtain ⟨rfl, rfl, rfl⟩ := hcs
    have := hs _ _ (congrArg Prod.fst hx)
    rw [if_pos rfl] at hz
    simp only [lits, List.length_map, List.length_take, List.length_drop] at this
    unfold reachBytes at this
    omega
end
end Go.Proofs.Yteackdafggomhaa

namespace Go.Proofs.Yteackdafggomhaa
open Go.RowKit

/-- Is no time of xs above that of ys? -/
def leqL (xs ys : List Int) : Bool := decide (xs.length = ys.length ∧ ∀ j, j < xs.length → xs.getD j 0 ≤ ys.getD j 0)

theorem IntsIn.drewN {w : World} {A : Option Addr} {n : Nat} {zs : List Int} (h : IntsIn w A n zs) (q : Nat) : IntsIn (w.drewN q) A n zs := ⟨h.len, h.max, h.some, h.wf⟩
theorem drewN_zero (w : World) : w = w.drewN 0 := rfl
theorem drewN_more {w w1 : World} {q : Nat} (h : w1 = w.drewN q) (p : Nat) : ∃ r, w1.drewN p = w.drewN r := ⟨q + p, by rw [h, World.drewN_drewN]⟩

theorem list_ext_getD {xs ys : List Int} (h : xs.length = ys.length) (he : ∀ j, j < xs.length → xs.getD j 0 = ys.getD j 0) : xs = ys := by
  refine List.ext_getElem h fun j h1 h2 => ?_
  have := he j h1
  rwa [List.getD_eq_getElem?_getD, List.getD_eq_getElem?_getD, List.getElem?_eq_getElem h1, List.getElem?_eq_getElem h2] at this

/-- Is it a vector? -/
def validL (xs : List Int) : Bool := decide ((1 ≤ xs.length ∧ xs.length ≤ 8) ∧ ∀ j, j < xs.length → 0 ≤ xs.getD j 0 ∧ xs.getD j 0 < 281474976710656)

end Go.Proofs.Yteackdafggomhaa

namespace Go.Proofs.Yteackdafggomhaa
open Go.RowKit

theorem i64info : (Try.prog.info? 3).map (fun i => (i.zero, i.size, i.bytes)) = some (some (.int .i64 0), 1, 8) := by kernel_rfl

/-- v is a slice of the call's own (its block from B on) that holds the numbers zs. -/
def Nums (w : World) (B : Nat) (e : TypeId) (v : Value) (zs : List Int) : Prop := w.ownsRow B e 1 v zs.length (zs.map (Value.int .i64))

section
variable {w w' : World} {B : Nat} {e : TypeId} {v : Value} {zs : List Int}
theorem Nums.drewN (h : Nums w B e v zs) (n : Nat) : Nums (w.drewN n) B e v zs := h
theorem Nums.drew (h : Nums w B e v zs) : Nums w.drew B e v zs := h
theorem Nums.alloc (h : Nums w B e v zs) (o : Obj) : Nums (w.alloc o) B e v zs := World.ownsRow.alloc h o
theorem Nums.low (h : Nums w B e v zs) {B' : Nat} (hB : B' ≤ B) : Nums w B' e v zs := by
  refine ⟨h.1, ?_⟩
  rcases h.2 with hn | ⟨g, cap, cur, hv, hb, r⟩
  · exact Or.inl hn
  · exact Or.inr ⟨g, cap, cur, hv, Nat.le_trans hB hb, r⟩
theorem Nums.below (h : Nums w B e v zs) {B' : Nat} (hb : Below B' w w') (hB : w.heap.size ≤ B') : Nums w' B e v zs := by
  refine ⟨h.1, ?_⟩
  rcases h.2 with hn | ⟨g, cap, cur, hv, hg, hh, r⟩
  · exact Or.inl hn
  · exact Or.inr ⟨g, cap, cur, hv, hg, (hb.block g (Nat.lt_of_lt_of_le (Array.getElem?_eq_some_iff.1 hh).1 hB)).trans hh, r⟩
/-- As a slice that is read. -/
theorem Nums.ints (h : Nums w B e v zs) (hwf : ∀ z ∈ zs, (Lit.int .i64 z).wf = true) : ∃ A cp, v = .slice A zs.length cp ∧ IntsIn w A zs.length zs ∧ (0 < zs.length → ∃ g, A = some ⟨g, 0, none⟩ ∧ B ≤ g) := by
  rcases h.2 with ⟨rfl, hn⟩ | ⟨g, cap, cur, rfl, hb, hg, hc, hm, hs, ht⟩
  · exact ⟨none, 0, by rw [hn], ⟨rfl, by omega, fun h => by omega, hwf⟩, fun h => by omega⟩
  · refine ⟨some ⟨g, 0, none⟩, cap, rfl, ⟨rfl, by unfold maxLen at hm; omega, fun hn => ⟨g, 0, rfl, (Array.getElem?_eq_some_iff.1 hg).1, fun j hj => ?_⟩, hwf⟩, fun _ => ⟨g, rfl, hb⟩⟩
    have := World.ownsRow.cellAt (g := g) (cap := cap) h j (by omega)
    rw [Nat.zero_add, this]
    simp [List.getD, hj]
end

theorem wf_getD {zs : List Int} (h : ∀ z ∈ zs, (Lit.int .i64 z).wf = true) {j : Nat} (hj : j < zs.length) : (Lit.int .i64 (zs.getD j 0)).wf = true := by
  rw [List.getD_eq_getElem?_getD, List.getElem?_eq_getElem hj]
  exact h _ (List.getElem_mem _)

end Go.Proofs.Yteackdafggomhaa

namespace Go.Proofs.Yteackdafggomhaa
open Go.RowKit

theorem append_keep {P : Program} (w : World) (base : Nat) (t ty e : TypeId) (i : TypeInfo) (z : Value) (size bytes : Nat) (ht : P.underlying t = some (.slice e)) (hi : P.info? e = some i) (hz : i.zero = some z)
    (hsize : i.size = size) (hby : i.bytes = bytes) (v : Value) (n : Nat) (xs : List Value) (hown : w.ownsRow base e size v n xs)
    (a : Addr) (m c : Nat) (news : List Value) (hl : news.length = m * size) (hnews : ∀ j u, news[j]? = some u → w.cell? (a.add j) = some u) (h1 : ∀ u ∈ news, u.oneCell' = true)
    (h63 : n + m ≤ maxLen) (hbytes : (n + m) * bytes ≤ 140737488355328) (v' : Value) (w' : World) (hr : (Builtin.append_ #[t, t] ty #[v, .slice (some a) m c]).run P w = .ok v' w') :
    w'.ownsRow base e size v n xs ∧ (v'.ownBlock = v.ownBlock ∨ ∀ g, v'.ownBlock = some g → w.heap.size ≤ g) := by
  subst hsize
  subst hby
  have hsmall : n + m ≤ 9223372036854775807 := by simp only [maxLen] at h63; omega
  rcases hown.2 with ⟨rfl, rfl⟩ | ⟨g, cap, cur, rfl, hbg, hg, hnc, hcm, hcs, htake⟩
  · have hx : xs = [] := List.eq_nil_of_length_eq_zero (by simpa using hown.1)
    subst hx
    refine ⟨World.ownsRow_nil _ _ _ _, ?_⟩
    by_cases hm : m = 0
    · subst hm
      have hr2 : (Builtin.append_ #[t, t] ty #[.slice none 0 0, .slice (some a) 0 c]).run P w = .ok (.slice none 0 0) w := by
        simp [Builtin.append_, run_underlying ht, sizeOf, typeInfo, hi, Builtin.lenOf, Builtin.firstCells, loadCells, loadCellsFrom]
      rw [hr] at hr2
      injection hr2 with e1 e2
      left
      rw [e1]
    · have hr2 := run_append_nil (P := P) w t ty e i z ht hi hz a m c news hl hnews (by omega) (by omega) (by have hb := hbytes; simp only [Nat.zero_add] at hb; omega)
      rw [hr] at hr2
      injection hr2 with e1 e2
      right
      intro g hg
      rw [e1] at hg
      simp [Value.ownBlock] at hg
      omega
  · by_cases hroom : n + m ≤ cap
    · have hfit : n * i.size + news.length ≤ cur.size := by rw [hl, hcs, ← Nat.add_mul]; exact Nat.mul_le_mul_right _ hroom
      have hr2 := run_append_room (P := P) w t ty e i ht hi g n cap cur hg a m c news hl hnews h1 hroom hfit
      rw [hr] at hr2
      injection hr2 with e1 e2
      refine ⟨⟨hown.1, .inr ⟨g, cap, _, rfl, hbg, by rw [e2]; exact setRow_heap w g cur _ e _ hg, hnc, hcm, ?_, ?_⟩⟩, Or.inl (by rw [e1]; rfl)⟩
      · simp only [List.size_toArray, List.length_append, List.length_take, List.length_drop, Array.length_toList]
        omega
      · rw [htake]
        have hlx : xs.length = n * i.size := hown.1
        show List.take (n * i.size) (xs ++ news ++ _) = xs
        rw [List.append_assoc, ← hlx]
        exact List.take_left
    · have holds : ∀ j u, xs[j]? = some u → w.cell? ((⟨g, 0, none⟩ : Addr).add j) = some u := hown.cells (g := g) rfl
      have hr2 := run_append_grow (P := P) w t ty e i z ht hi hz ⟨g, 0, none⟩ n cap xs hown.1 holds a m c news hl hnews (by omega) (by omega) (growslice_fits (by omega) hbytes)
      rw [hr] at hr2
      injection hr2 with e1 e2
      refine ⟨?_, Or.inr fun k hk => ?_⟩
      · rw [e2]
        exact World.ownsRow.alloc (World.ownsRow.drew hown) _
      · rw [e1] at hk
        simp [Value.ownBlock] at hk
        omega

theorem wp_append_keep {P : Program} (w : World) {o : Oper} {a : Act} {K : Act → World → Prop} {Q : Exit → Act → World → Prop} (s x : Operand) (t : TypeId)
    (ho : o.op = .call { callee := .builtin .append, args := #[s, x], argTypes := #[t, t] })
    (base : Nat) (e : TypeId) (i : TypeInfo) (z : Value) (size bytes : Nat) (ht : P.underlying t = some (.slice e)) (hi : P.info? e = some i) (hz : i.zero = some z)
    (hsize : i.size = size) (hby : i.bytes = bytes) (hzs : z.cells.size = size) (hsz : 0 < size)
    (v : Value) (n : Nat) (xs : List Value) (hs : a.eval s = v) (hown : w.ownsRow base e size v n xs)
    (ad : Addr) (m c : Nat) (news : List Value) (hx : a.eval x = .slice (some ad) m c) (hl : news.length = m * size) (hnews : ∀ j u, news[j]? = some u → w.cell? (ad.add j) = some u) (h1 : ∀ u ∈ news, u.oneCell' = true)
    (h63 : n + m ≤ maxLen) (hbytes : (n + m) * bytes ≤ 140737488355328) (hbase : base ≤ w.heap.size)
    (h : ∀ v' w', w'.ownsRow base e size v' (n + m) (xs ++ news) → w.grownBy w' v.ownBlock → w'.ownsRow base e size v n xs → (v'.ownBlock = v.ownBlock ∨ ∀ g, v'.ownBlock = some g → w.heap.size ≤ g) → K (a.put o.dst v') w') : o.wp P a w K Q := by
  obtain ⟨v', w', hr, h2, h3, _⟩ := run_append_own (P := P) w base t o.type e i z size bytes ht hi hz hsize hby hzs hsz v n xs hown ad m c news hl hnews h1 h63 hbytes hbase
  obtain ⟨h4, h5⟩ := append_keep w base t o.type e i z size bytes ht hi hz hsize hby v n xs hown ad m c news hl hnews h1 h63 hbytes v' w' hr
  unfold Oper.wp execOp
  simp only [ho, resolve, invoke, builtin, Sem.run_bind, Sem.run_pure, Result.andThen_ok, List.map_toArray, List.map_cons, List.map_nil, hs, hx, hr]
  exact h v' w' h2 h3 h4 h5

theorem wpList_append_keep {P : Program} (w : World) {ops : Array Oper} {rest : List Oper} {o : Oper} {a : Act} {Q : Exit → Act → World → Prop} (hgd : o.guard = none) (s x : Operand) (t : TypeId)
    (ho : o.op = .call { callee := .builtin .append, args := #[s, x], argTypes := #[t, t] })
    (base : Nat) (e : TypeId) (i : TypeInfo) (z : Value) (size bytes : Nat) (ht : P.underlying t = some (.slice e)) (hi : P.info? e = some i) (hz : i.zero = some z)
    (hsize : i.size = size) (hby : i.bytes = bytes) (hzs : z.cells.size = size) (hsz : 0 < size)
    (v : Value) (n : Nat) (xs : List Value) (hs : a.eval s = v) (hown : w.ownsRow base e size v n xs)
    (ad : Addr) (m c : Nat) (news : List Value) (hx : a.eval x = .slice (some ad) m c) (hl : news.length = m * size) (hnews : ∀ j u, news[j]? = some u → w.cell? (ad.add j) = some u) (h1 : ∀ u ∈ news, u.oneCell' = true)
    (h63 : n + m ≤ maxLen) (hbytes : (n + m) * bytes ≤ 140737488355328) (hbase : base ≤ w.heap.size)
    (h : ∀ v' w', w'.ownsRow base e size v' (n + m) (xs ++ news) → w.grownBy w' v.ownBlock → w'.ownsRow base e size v n xs → (v'.ownBlock = v.ownBlock ∨ ∀ g, v'.ownBlock = some g → w.heap.size ≤ g) → wpList P ops Q rest (a.put o.dst v') w') :
    wpList P ops Q (o :: rest) a w := by
  refine wpList_plain hgd fun K hK => ?_
  exact wp_append_keep w s x t ho base e i z size bytes ht hi hz hsize hby hzs hsz v n xs hs hown ad m c news hx hl hnews h1 h63 hbytes hbase fun v' w' a1 a2 a3 a4 => hK _ _ (h v' w' a1 a2 a3 a4)

theorem step_append_keep {P : Program} {w : World} {ops : Array Oper} {o : Oper} {a : Act} {K : Act → World → Prop} {Q : Exit → Act → World → Prop} {E : Prop} (hgd : o.guard = none) (s x : Operand) (t : TypeId)
    (ho : o.op = .call { callee := .builtin .append, args := #[s, x], argTypes := #[t, t] })
    (base : Nat) (e : TypeId) (i : TypeInfo) (z : Value) (size bytes : Nat) (ht : P.underlying t = some (.slice e)) (hi : P.info? e = some i) (hz : i.zero = some z)
    (hsize : i.size = size) (hby : i.bytes = bytes) (hzs : z.cells.size = size) (hsz : 0 < size)
    (v : Value) (n : Nat) (xs : List Value) (hs : a.eval s = v) (hown : w.ownsRow base e size v n xs)
    (ad : Addr) (m c : Nat) (news : List Value) (hx : a.eval x = .slice (some ad) m c) (hl : news.length = m * size) (hnews : ∀ j u, news[j]? = some u → w.cell? (ad.add j) = some u) (h1 : ∀ u ∈ news, u.oneCell' = true)
    (h63 : n + m ≤ maxLen) (hbytes : (n + m) * bytes ≤ 140737488355328) (hbase : base ≤ w.heap.size)
    (h : ∀ v' w', w'.ownsRow base e size v' (n + m) (xs ++ news) → w.grownBy w' v.ownBlock → w'.ownsRow base e size v n xs → (v'.ownBlock = v.ownBlock ∨ ∀ g, v'.ownBlock = some g → w.heap.size ≤ g) → K (a.put o.dst v') w') :
    if Region.wanted o (yielded ops a.tmps) = true then Oper.wp P o a w K Q else E := by
  rw [if_pos (by simp [Region.wanted, hgd])]
  exact wp_append_keep w s x t ho base e i z size bytes ht hi hz hsize hby hzs hsz v n xs hs hown ad m c news hx hl hnews h1 h63 hbytes hbase h

/-- Nothing put behind nothing. -/
theorem wpList_append_nothing {P : Program} (w : World) {ops : Array Oper} {rest : List Oper} {o : Oper} {a : Act} {Q : Exit → Act → World → Prop} (hgd : o.guard = none) (s x : Operand) (t e : TypeId) (i : TypeInfo)
    (ho : o.op = .call { callee := .builtin .append, args := #[s, x], argTypes := #[t, t] }) (ht : P.underlying t = some (.slice e)) (hi : P.info? e = some i)
    (hs : a.eval s = .slice none 0 0) (A : Option Addr) (c : Nat) (hx : a.eval x = .slice A 0 c)
    (h : wpList P ops Q rest (a.put o.dst (.slice none 0 0)) w) : wpList P ops Q (o :: rest) a w := by
  refine wpList_plain hgd fun _ hK => ?_
  have hr : (Builtin.append_ #[t, t] o.type #[.slice none 0 0, .slice A 0 c]).run P w = .ok (.slice none 0 0) w := by
    cases A <;> simp [Builtin.append_, run_underlying ht, sizeOf, typeInfo, hi, Builtin.lenOf, Builtin.firstCells, loadCells, loadCellsFrom]
  unfold Oper.wp execOp
  simp only [ho, resolve, invoke, builtin, Sem.run_bind, Sem.run_pure, Result.andThen_ok, List.map_toArray, List.map_cons, List.map_nil, hs, hx, hr]
  exact hK _ _ h

/-! ### Rows of numbers of the call's own, each in a block of its own -/
abbrev Row := Value × List Int
/-- v's block is none of w's. -/
def Off (v u : Value) : Prop := ∀ g, v.ownBlock = some g → u.ownBlock ≠ some g
theorem Off.symm {v u : Value} (h : Off v u) : Off u v := fun g hg hv => h g hv hg

structure Rows (w : World) (B : Nat) (e : TypeId) (rs : List Row) : Prop where
  each : ∀ r ∈ rs, Nums w B e r.1 r.2
  apart : rs.Pairwise fun r s => Off r.1 s.1

section
variable {w w' : World} {B : Nat} {e : TypeId} {rs : List Row}
theorem Rows.below (h : Rows w B e rs) {B' : Nat} (hb : Below B' w w') (hB : w.heap.size ≤ B') : Rows w' B e rs := ⟨fun r hr => (h.each r hr).below hb hB, h.apart⟩
theorem Nums.lt_ {v : Value} {zs : List Int} (h : Nums w B e v zs) {g : Nat} (hg : v.ownBlock = some g) : B ≤ g ∧ g < w.heap.size := World.ownsRow.lt h g hg
/-- A row that a call made behind them. -/
theorem Rows.add (h : Rows w B e rs) (hb : Below w.heap.size w w') {v : Value} {zs : List Int} (hN : Nums w' w.heap.size e v zs) (hB : B ≤ w.heap.size) : Rows w' B e ((v, zs) :: rs) :=
  ⟨fun r hr => by
    rcases List.mem_cons.1 hr with rfl | hr
    · exact hN.low hB
    · exact (h.each r hr).below hb (Nat.le_refl _),
   List.pairwise_cons.2 ⟨fun r hr g hg hv => by
    have h1 := (hN.lt_ hg).1
    have h2 := ((h.each r hr).lt_ hv).2
    omega, h.apart⟩⟩
end
end Go.Proofs.Yteackdafggomhaa

namespace Go.Proofs.Yteackdafggomhaa
open Go.RowKit

/-- What has turned: from block B on, and only such as T says; new blocks are free. -/
structure Tn (B : Nat) (T : Obj → Bool) (w w' : World) : Prop where
  os : w'.os = w.os
  tape : w'.tape = w.tape
  output : w'.output = w.output
  size : w.heap.size ≤ w'.heap.size
  block : ∀ k o, w.heap[k]? = some o → (k < B ∨ T o = false) → w'.heap[k]? = some o
/-- Blocks of type e. -/
def cellsT (e : TypeId) : Obj → Bool
  | .cells _ t _ => t == e
  | _ => false
theorem cellsT_ne {e t : TypeId} (h : t ≠ e) (cs : Array Value) (fr : Nat × Nat) : cellsT e (.cells cs t fr) = false := beq_eq_false_iff_ne.2 h
section
variable {B : Nat} {T : Obj → Bool} {w w' w'' : World}
theorem Tn.refl (B : Nat) (T : Obj → Bool) (w : World) : Tn B T w w := ⟨rfl, rfl, rfl, Nat.le_refl _, fun _ _ h _ => h⟩
theorem Tn.trans (h : Tn B T w w') (g : Tn B T w' w'') : Tn B T w w'' := ⟨g.os.trans h.os, g.tape.trans h.tape, g.output.trans h.output, Nat.le_trans h.size g.size, fun k o hk ho => g.block k o (h.block k o hk ho) ho⟩
theorem Tn.of_below (h : Below w.heap.size w w') : Tn B T w w' := ⟨h.os, h.tape, h.output, h.size, fun k _o hk _ => (h.block k (Array.getElem?_eq_some_iff.1 hk).1).trans hk⟩
theorem Tn.of_grown (h : w.grownBy w' none) : Tn B T w w' := ⟨h.os, h.tape, h.output, h.size, fun k o hk _ => (h.block k (Array.getElem?_eq_some_iff.1 hk).1 (by simp)).trans hk⟩
theorem Tn.alloc (h : Tn B T w w') (o : Obj) : Tn B T w (w'.alloc o) := h.trans (Tn.of_grown (World.grownBy_alloc w' o none))
theorem Tn.drew (h : Tn B T w w') : Tn B T w w'.drew := ⟨h.os, h.tape, h.output, h.size, h.block⟩
theorem Tn.drewN (h : Tn B T w w') (n : Nat) : Tn B T w (w'.drewN n) := ⟨h.os, h.tape, h.output, h.size, h.block⟩
theorem Tn.row {row : Option Nat} (h : Tn B T w w') (g : w'.grownBy w'' row) (hr : ∀ k, row = some k → w.heap.size ≤ k ∨ (B ≤ k ∧ ∃ o, w'.heap[k]? = some o ∧ T o = true)) : Tn B T w w'' := by
  refine ⟨g.os.trans h.os, g.tape.trans h.tape, g.output.trans h.output, Nat.le_trans h.size g.size, fun k o hk ho => ?_⟩
  have h1 := h.block k o hk ho
  by_cases e : some k = row
  · exfalso
    have hlt := (Array.getElem?_eq_some_iff.1 hk).1
    rcases hr k e.symm with h2 | ⟨h2, o', h3, h4⟩
    · omega
    · rw [h1] at h3
      cases h3
      rcases ho with ho | ho
      · omega
      · rw [h4] at ho; cases ho
  · exact (g.block k (Array.getElem?_eq_some_iff.1 h1).1 e).trans h1
theorem Tn.setCell (h : Tn B T w w') {p : Addr} (hp : w.heap.size ≤ p.block ∨ (B ≤ p.block ∧ ∃ o, w'.heap[p.block]? = some o ∧ T o = true)) (u : Value) : Tn B T w (w'.setCell p u) :=
  h.row (row := some p.block) (only_setCell ⟨rfl, rfl, rfl, Nat.le_refl _, fun _ _ _ => rfl⟩ (Or.inl rfl) u) (fun k hk => by cases hk; exact hp)
theorem Tn.below (h : Tn B T w w') (hB : B ≤ w.heap.size) : Below B w w' :=
  ⟨h.os, h.tape, h.output, h.size, fun k hk => by
    have hlt : k < w.heap.size := by omega
    rw [h.block k _ (Array.getElem?_eq_getElem hlt) (Or.inl hk), Array.getElem?_eq_getElem hlt]⟩
theorem Tn.blk (h : Tn B T w w') {g : Nat} {t : TypeId} {cs : Array Value} (hb : Blk w g t cs) (hT : T (.cells cs t (0, 0)) = false) : Blk w' g t cs := h.block g _ hb (Or.inr hT)
theorem Tn.own (h : Tn B T w w') {b : Nat} {e : TypeId} {sz : Nat} {v : Value} {n : Nat} {xs : List Value} (hown : w.ownsRow b e sz v n xs) (hT : ∀ cs fr, T (.cells cs e fr) = false) : w'.ownsRow b e sz v n xs := by
  obtain ⟨h1, h2⟩ := hown
  refine ⟨h1, ?_⟩
  rcases h2 with h2 | ⟨g, cap, cur, e1, e2, e3, e4⟩
  · exact Or.inl h2
  · exact Or.inr ⟨g, cap, cur, e1, e2, h.block g _ e3 (Or.inr (hT _ _)), e4⟩
theorem Tn.mono {T' : Obj → Bool} (h : Tn B T w w') (hT : ∀ o, T' o = false → T o = false) : Tn B T' w w' := ⟨h.os, h.tape, h.output, h.size, fun k o hk ho => h.block k o hk (ho.imp id (hT o))⟩
/-- A row of the kind grew. -/
theorem Tn.grow {e : TypeId} {sz n : Nat} {v : Value} {xs : List Value} (h : Tn B (cellsT e) w w') (hown : w'.ownsRow B e sz v n xs) (g : w'.grownBy w'' v.ownBlock) : Tn B (cellsT e) w w'' :=
  h.row g (fun k hk => by
    rcases hown.2 with ⟨rfl, _⟩ | ⟨g, cap, cur, rfl, hb, hh, _⟩
    · cases hk
    · cases hk
      exact Or.inr ⟨hb, _, hh, beq_self_eq_true e⟩)
end

/-- Elements of a kind: their cells, and their marks. -/
structure El (α : Type) where
  cl : α → List Value
  sz : Nat
  pos : 0 < sz
  len : ∀ x, (cl x).length = sz
  one : ∀ x, ∀ u ∈ cl x, u.oneCell' = true
  mark : Nat → Nat → α
section
variable {α : Type} (E : El α)
def El.row (L : List α) : List Value := L.flatMap E.cl
theorem El.row_length (L : List α) : (E.row L).length = L.length * E.sz := by
  induction L with
  | nil => simp [El.row]
  | cons x L ih => simp only [El.row, List.flatMap_cons, List.length_append, List.length_cons] at *; rw [E.len, ih, Nat.add_mul, Nat.one_mul, Nat.add_comm]
theorem El.row_append (L M : List α) : E.row (L ++ M) = E.row L ++ E.row M := by simp [El.row]
theorem El.row_one (x : α) : E.row [x] = E.cl x := by simp [El.row]
theorem El.row_oneCell (L : List α) : ∀ u ∈ E.row L, u.oneCell' = true := by
  intro u hu
  obtain ⟨m, _, hm⟩ := List.mem_flatMap.1 hu
  exact E.one m u hm
theorem El.row_drop (L : List α) : ∀ i, E.row (L.drop i) = (E.row L).drop (i * E.sz) := by
  induction L with
  | nil => intro i; simp [El.row]
  | cons x L ih =>
    intro i
    cases i with
    | zero => simp
    | succ i =>
      rw [List.drop_succ_cons, ih i]
      simp only [El.row, List.flatMap_cons]
      rw [show (i + 1) * E.sz = (E.cl x).length + i * E.sz by rw [E.len, Nat.add_mul, Nat.one_mul, Nat.add_comm], List.drop_append, show List.drop ((E.cl x).length + i * E.sz) (E.cl x) = [] from List.drop_eq_nil_of_le (by omega), List.nil_append, Nat.add_sub_cancel_left]
theorem El.row_at (L : List α) (i j : Nat) (x : α) (h : L[i]? = some x) (hj : j < E.sz) : (E.row L)[i * E.sz + j]? = (E.cl x)[j]? := by
  have hd := E.row_drop L i
  have hi := (List.getElem?_eq_some_iff.1 h).1
  rw [List.drop_eq_getElem_cons hi, (List.getElem?_eq_some_iff.1 h).2] at hd
  have e : E.row (x :: L.drop (i + 1)) = E.cl x ++ E.row (L.drop (i + 1)) := rfl
  rw [e] at hd
  have := congrArg (fun l : List Value => l[j]?) hd
  simp only [List.getElem?_drop] at this
  rw [List.getElem?_append_left (by rw [E.len]; exact hj)] at this
  exact this.symm
/-- The marks of list i, from a place on. -/
def El.marks (i start n : Nat) : List α := (List.range n).map fun k => E.mark i (start + k)
theorem El.marks_length (i start n : Nat) : (E.marks i start n).length = n := by simp [El.marks]
theorem El.marks_succ (i start n : Nat) : E.marks i start (n + 1) = E.marks i start n ++ [E.mark i (start + n)] := by
  unfold El.marks
  rw [List.range_succ, List.map_append]
  rfl
theorem El.marks_append (i start n m : Nat) : E.marks i start n ++ E.marks i (start + n) m = E.marks i start (n + m) := by
  induction m with
  | zero => simp [El.marks]
  | succ m ih => rw [El.marks_succ, ← List.append_assoc, ih, ← Nat.add_assoc, El.marks_succ, Nat.add_assoc]
theorem El.marks_at (i n j : Nat) (hj : j < n) : (E.marks i 0 n)[j]? = some (E.mark i j) := by
  unfold El.marks
  rw [List.getElem?_map, List.getElem?_range hj]
  simp
end

/-- A row of the call's own, of a kind. -/
def Own {α : Type} (E : El α) (w : World) (B : Nat) (e : TypeId) (v : Value) (L : List α) : Prop := w.ownsRow B e E.sz v L.length (E.row L)
section
variable {α : Type} {E : El α} {w w' : World} {B : Nat} {e : TypeId} {v : Value} {L : List α}
theorem Own.tn (h : Own E w B e v L) {B' : Nat} {T : Obj → Bool} (g : Tn B' T w w') (hT : ∀ cs fr, T (.cells cs e fr) = false) : Own E w' B e v L := g.own h hT
theorem Own.below (h : Own E w B e v L) (g : Below w.heap.size w w') : Own E w' B e v L := (Tn.of_below (B := 0) (T := fun _ => false) g).own h (fun _ _ => rfl)
theorem Own.low (h : Own E w B e v L) {B' : Nat} (hB : B' ≤ B) : Own E w B' e v L := World.ownsRow.mono h hB
theorem Own.lt (h : Own E w B e v L) {g : Nat} (hg : v.ownBlock = some g) : B ≤ g ∧ g < w.heap.size := World.ownsRow.lt h g hg
theorem Own.slice (h : Own E w B e v L) : ∃ a c, v = .slice a L.length c := by
  rcases h.2 with ⟨rfl, h0⟩ | ⟨g, cap, cur, rfl, _⟩
  · exact ⟨none, 0, by rw [h0]⟩
  · exact ⟨_, _, rfl⟩
theorem Own.some_ (h : Own E w B e v L) (hn : 0 < L.length) : ∃ g c cur, v = .slice (some ⟨g, 0, none⟩) L.length c ∧ B ≤ g ∧ w.heap[g]? = some (.cells cur e (0, 0)) := by
  rcases h.2 with ⟨_, h0⟩ | ⟨g, cap, cur, hv, hb, hh, _⟩
  · omega
  · exact ⟨g, cap, cur, hv, hb, hh⟩
theorem Own.cells {g n c : Nat} (h : Own E w B e (.slice (some ⟨g, 0, none⟩) n c) L) {i j : Nat} {x : α} {u : Value} (hx : L[i]? = some x) (hj : j < E.sz) (hu : (E.cl x)[j]? = some u) : w.cell? ⟨g, i * E.sz + j, none⟩ = some u := by
  have := World.ownsRow.cells h (g := g) rfl (i * E.sz + j) u (by rw [E.row_at L i j x hx hj]; exact hu)
  rwa [Addr.add_lit, Nat.zero_add] at this
end

/-- m rows of a kind, apart. -/
structure Rwk {α : Type} (E : El α) (w : World) (B : Nat) (e : TypeId) (m : Nat) (a : Nat → Value) (F : Nat → List α) : Prop where
  each : ∀ i, i < m → Own E w B e (a i) (F i)
  apart : ∀ i j, i < m → j < m → i ≠ j → Off (a i) (a j)
theorem Rwk.tn {α : Type} {E : El α} {w w' : World} {B : Nat} {e : TypeId} {m : Nat} {a : Nat → Value} {F : Nat → List α} (h : Rwk E w B e m a F) {B' : Nat} {T : Obj → Bool} (g : Tn B' T w w') (hT : ∀ cs fr, T (.cells cs e fr) = false) : Rwk E w' B e m a F := ⟨fun i hi => (h.each i hi).tn g hT, h.apart⟩
theorem Rwk.below {α : Type} {E : El α} {w w' : World} {B : Nat} {e : TypeId} {m : Nat} {a : Nat → Value} {F : Nat → List α} (h : Rwk E w B e m a F) (g : Below w.heap.size w w') : Rwk E w' B e m a F := ⟨fun i hi => (h.each i hi).below g, h.apart⟩

/-- f, but x at k. -/
def upk {α : Type} (f : Nat → α) (k : Nat) (x : α) : Nat → α := fun i => if i = k then x else f i
theorem upk_at {α : Type} (f : Nat → α) (k : Nat) (x : α) : upk f k x k = x := if_pos rfl
theorem upk_ne {α : Type} (f : Nat → α) {k i : Nat} (x : α) (h : i ≠ k) : upk f k x i = f i := if_neg h
theorem upk_upk {α : Type} (f : Nat → α) (k : Nat) (x y : α) : upk (upk f k x) k y = upk f k y := by
  funext i; unfold upk; split <;> rfl
theorem upk_self {α : Type} (f : Nat → α) (k : Nat) (x : α) (h : f k = x) : upk f k x = f := by
  funext i; unfold upk; split
  · next e => rw [e, h]
  · rfl
theorem range_upk (b : Nat → Value) (k : Nat) (x : Value) : (List.range k).map b ++ [x] = (List.range (k + 1)).map (upk b k x) := by
  rw [List.range_succ, List.map_append, List.map_singleton, upk_at]
  congr 1
  refine List.map_congr_left fun i hi => ?_
  rw [upk_ne]
  have := List.mem_range.1 hi
  omega

theorem own_shrk {w : World} {B g n n' c sz : Nat} {e : TypeId} {xs ys : List Value} (h : w.ownsRow B e sz (.slice (some ⟨g, 0, none⟩) (n + n') c) (n + n') (xs ++ ys)) (hx : xs.length = n * sz) : w.ownsRow B e sz (.slice (some ⟨g, 0, none⟩) n c) n xs := by
  rcases h.2 with ⟨h', _⟩ | ⟨g', cap, cur, h', hb, hh, hnc, hcm, hcs, htake⟩
  · simp at h'
  · simp only [Value.slice.injEq, Option.some.injEq, Addr.mk.injEq, and_true, true_and] at h'
    obtain ⟨rfl, rfl⟩ := h'
    refine ⟨hx, .inr ⟨g, c, cur, rfl, hb, hh, by omega, hcm, hcs, ?_⟩⟩
    rw [← hx]
    have := congrArg (List.take xs.length) htake
    rw [List.take_take, Nat.min_eq_left (by rw [hx]; exact Nat.mul_le_mul_right _ (by omega))] at this
    rw [this, List.take_left]
theorem own_capk {w : World} {B B' g n n' c sz : Nat} {e : TypeId} {v : Value} {xs ys : List Value} (hs : 0 < sz) (h1 : w.ownsRow B e sz (.slice (some ⟨g, 0, none⟩) n c) n xs) (h2 : w.ownsRow B' e sz v n' ys) (hb : v.ownBlock = some g) : v = .slice (some ⟨g, 0, none⟩) n' c := by
  rcases h1.2 with ⟨h', _⟩ | ⟨g', cap, cur, h', _, hh, _, _, hcs, _⟩
  · simp at h'
  · simp only [Value.slice.injEq, Option.some.injEq, Addr.mk.injEq, and_true, true_and] at h'
    obtain ⟨rfl, rfl⟩ := h'
    rcases h2.2 with ⟨rfl, _⟩ | ⟨g2, cap2, cur2, rfl, _, hh2, _, _, hcs2, _⟩
    · simp [Value.ownBlock] at hb
    · simp [Value.ownBlock] at hb
      subst hb
      rw [hh] at hh2
      injection hh2 with hh2
      injection hh2 with h3
      subst h3
      rw [show cap2 = c from Nat.eq_of_mul_eq_mul_right hs (by omega)]
theorem offk_none {v u : Value} (h : Off v u) : u.ownBlock = none ∨ u.ownBlock ≠ v.ownBlock := by
  cases hu : u.ownBlock with
  | none => exact Or.inl rfl
  | some g => exact Or.inr fun e => h g e.symm hu

/-- m rows and what has grown out of them: apart, but that a row may lie at the head of what has grown out of it. -/
structure Famk {α : Type} (E : El α) (w : World) (B : Nat) (e : TypeId) (m : Nat) (a b : Nat → Value) (F H : Nat → List α) : Prop where
  ra : ∀ i, i < m → Own E w B e (a i) (F i)
  rb : ∀ i, i < m → Own E w B e (b i) (H i)
  oaa : ∀ i j, i < m → j < m → i ≠ j → Off (a i) (a j)
  oab : ∀ i j, i < m → j < m → i ≠ j → Off (a i) (b j)
  obb : ∀ i j, i < m → j < m → i ≠ j → Off (b i) (b j)
  tie : ∀ i, i < m → Off (a i) (b i) ∨ ∃ g c ys, a i = .slice (some ⟨g, 0, none⟩) (F i).length c ∧ b i = .slice (some ⟨g, 0, none⟩) (H i).length c ∧ H i = F i ++ ys
section
variable {α : Type} {E : El α} {w w' : World} {B : Nat} {e : TypeId} {m : Nat} {a b : Nat → Value} {F H : Nat → List α}
theorem Famk.start (h : Rwk E w B e m a F) : Famk E w B e m a a F F :=
  ⟨h.each, h.each, h.apart, h.apart, h.apart, fun i hi => by
    rcases (h.each i hi).2 with ⟨e, _⟩ | ⟨g, cap, cur, e, _⟩
    · exact Or.inl fun g hg => by rw [e] at hg; simp [Value.ownBlock] at hg
    · exact Or.inr ⟨g, cap, [], e, e, by simp⟩⟩
theorem Famk.tn (h : Famk E w B e m a b F H) {B' : Nat} {T : Obj → Bool} (g : Tn B' T w w') (hT : ∀ cs fr, T (.cells cs e fr) = false) : Famk E w' B e m a b F H := ⟨fun i hi => (h.ra i hi).tn g hT, fun i hi => (h.rb i hi).tn g hT, h.oaa, h.oab, h.obb, h.tie⟩
theorem Famk.below (h : Famk E w B e m a b F H) (g : Below w.heap.size w w') : Famk E w' B e m a b F H := h.tn (Tn.of_below (B := 0) (T := fun _ => false) g) (fun _ _ => rfl)
theorem Famk.append (h : Famk E w B e m a b F H) {k : Nat} (hk : k < m) {v' : Value} {zs : List α} {p : Nat} (hp : zs.length = p)
    (hown : w'.ownsRow B e E.sz v' ((H k).length + p) (E.row (H k) ++ E.row zs)) (hgr : w.grownBy w' (b k).ownBlock)
    (hold : Own E w' B e (b k) (H k)) (hblk : v'.ownBlock = (b k).ownBlock ∨ ∀ g, v'.ownBlock = some g → w.heap.size ≤ g) :
    Famk E w' B e m a (upk b k v') F (upk H k (H k ++ zs)) := by
  have kept : ∀ u xs, Own E w B e u xs → Off (b k) u → Own E w' B e u xs := fun u xs hu ho => World.ownsRow.kept hu hgr (offk_none ho)
  have offv : ∀ u xs, Own E w B e u xs → Off u (b k) → Off u v' := by
    intro u xs hu ho g hg hv
    rcases hblk with e | e
    · exact ho g hg (e ▸ hv)
    · have h1 := e g hv
      have h2 := (hu.lt hg).2
      omega
  refine ⟨fun i hi => ?_, fun i hi => ?_, h.oaa, fun i j hi hj hij => ?_, fun i j hi hj hij => ?_, fun i hi => ?_⟩
  · by_cases hik : i = k
    · subst hik
      rcases h.tie i hi with ho | ⟨g, c, ys, ea, eb, eh⟩
      · exact kept _ _ (h.ra i hi) ho.symm
      · unfold Own at hold ⊢
        rw [eb, eh, List.length_append, E.row_append] at hold
        rw [ea]
        exact own_shrk hold (E.row_length _)
    · exact kept _ _ (h.ra i hi) (h.oab i k hi hk hik).symm
  · by_cases hik : i = k
    · subst hik
      rw [upk_at, upk_at]
      unfold Own
      rw [List.length_append, E.row_append, hp]
      exact hown
    · rw [upk_ne _ _ hik, upk_ne _ _ hik]
      exact kept _ _ (h.rb i hi) (h.obb i k hi hk hik).symm
  · by_cases hjk : j = k
    · subst hjk
      rw [upk_at]
      exact offv _ _ (h.ra i hi) (h.oab i j hi hj hij)
    · rw [upk_ne _ _ hjk]
      exact h.oab i j hi hj hij
  · by_cases hjk : j = k
    · subst hjk
      rw [upk_at, upk_ne _ _ hij]
      exact offv _ _ (h.rb i hi) (h.obb i j hi hj hij)
    · rw [upk_ne _ _ hjk]
      by_cases hik : i = k
      · subst hik
        rw [upk_at]
        exact (offv _ _ (h.rb j hj) (h.obb j i hj hi (Ne.symm hij))).symm
      · rw [upk_ne _ _ hik]
        exact h.obb i j hi hj hij
  · by_cases hik : i = k
    · subst hik
      rw [upk_at, upk_at]
      rcases h.tie i hi with ho | ⟨g, c, ys, ea, eb, eh⟩
      · exact Or.inl (offv _ _ (h.ra i hi) ho)
      · rcases hblk with e | e
        · refine Or.inr ⟨g, c, ys ++ zs, ea, ?_, by rw [eh, List.append_assoc]⟩
          unfold Own at hold
          rw [eb] at hold e
          rw [List.length_append, hp]
          exact own_capk E.pos hold hown e
        · refine Or.inl fun g' hg' hv => ?_
          have h1 := e g' hv
          have h2 := ((h.ra i hi).lt hg').2
          omega
    · rw [upk_ne _ _ hik, upk_ne _ _ hik]
      exact h.tie i hi
theorem Famk.marked {k N p : Nat} {l l' : Value} (h : Famk E w B e m a (upk b k l) F (upk H k (E.marks k 0 N))) (hk : k < m)
    (hown : w'.ownsRow B e E.sz l' (N + p) (E.row (E.marks k 0 N) ++ E.row (E.marks k N p))) (hgr : w.grownBy w' l.ownBlock)
    (hold : w'.ownsRow B e E.sz l N (E.row (E.marks k 0 N))) (hblk : l'.ownBlock = l.ownBlock ∨ ∀ g, l'.ownBlock = some g → w.heap.size ≤ g) :
    Famk E w' B e m a (upk b k l') F (upk H k (E.marks k 0 (N + p))) := by
  have := Famk.append h hk (v' := l') (zs := E.marks k N p) (p := p) (E.marks_length _ _ _) (by rw [upk_at, E.marks_length]; exact hown) (by rw [upk_at]; exact hgr) (by unfold Own; rw [upk_at, upk_at, E.marks_length]; exact hold) (by rw [upk_at]; exact hblk)
  rw [upk_upk, upk_upk, upk_at] at this
  have e := E.marks_append k 0 N p
  rw [Nat.zero_add] at e
  rw [e] at this
  exact this
end

/-- 'append(r, l...)' of elements of a kind, be l none. -/
theorem app_own {P : Program} {α : Type} (E : El α) (te e : TypeId) (z : Value) (bytes : Nat) (ht : P.underlying te = some (.slice e)) (hinfo : (P.info? e).map (fun i => (i.zero, i.size, i.bytes)) = some (some z, E.sz, bytes)) (hzs : z.cells.size = E.sz)
    (w : World) (base : Nat) (v : Value) (L M : List α) (hown : Own E w base e v L) (A : Option Addr) (c : Nat) (hA : A = none → M = []) (hM : ∀ a, A = some a → ∀ j u, (E.row M)[j]? = some u → w.cell? (a.add j) = some u)
    (h63 : L.length + M.length ≤ maxLen) (hbytes : (L.length + M.length) * bytes ≤ 140737488355328) (hbase : base ≤ w.heap.size) (m : Nat) (hm : m = M.length) :
    ∃ v' w', (∀ ty, (Builtin.append_ #[te, te] ty #[v, .slice A m c]).run P w = .ok v' w') ∧ Own E w' base e v' (L ++ M) ∧ w.grownBy w' v.ownBlock ∧ Own E w' base e v L ∧ (v'.ownBlock = v.ownBlock ∨ ∀ g, v'.ownBlock = some g → w.heap.size ≤ g) := by
  obtain ⟨i0, hi, hz, hsize, hby⟩ := info_parts hinfo
  subst hm
  cases A with
  | some a =>
    obtain ⟨v', w', hr, h2, h3, _⟩ := run_append_own (P := P) w base te 0 e i0 z E.sz bytes ht hi hz hsize hby hzs E.pos v L.length (E.row L) hown a M.length c (E.row M) (E.row_length M) (hM a rfl) (E.row_oneCell M) h63 hbytes hbase
    obtain ⟨h4, h5⟩ := append_keep w base te 0 e i0 z E.sz bytes ht hi hz hsize hby v L.length (E.row L) hown a M.length c (E.row M) (E.row_length M) (hM a rfl) (E.row_oneCell M) h63 hbytes v' w' hr
    refine ⟨v', w', fun ty => by rw [← hr]; rfl, ?_, h3, h4, h5⟩
    unfold Own
    rw [List.length_append, E.row_append]
    exact h2
  | none =>
    obtain rfl := hA rfl
    have hr : ∀ ty, (Builtin.append_ #[te, te] ty #[v, .slice none 0 c]).run P w = .ok v w := fun ty => by
      rcases hown.2 with ⟨rfl, _⟩ | ⟨g, cap, cur, rfl, _, _, hle, _⟩
      · simp [Builtin.append_, run_underlying ht, sizeOf, typeInfo, hi, Builtin.lenOf, Builtin.firstCells]
      · simp [Builtin.append_, run_underlying ht, sizeOf, typeInfo, hi, Builtin.lenOf, Builtin.firstCells, loadCells, storeCells, hle]
    exact ⟨v, w, hr, by rw [List.append_nil]; exact hown, ⟨rfl, rfl, rfl, Nat.le_refl _, fun _ _ _ => rfl⟩, hown, Or.inl rfl⟩
/-- An append whose run is known: in a region that draws nothing, and in one that draws. -/
theorem wpList_append_k {P : Program} (w w' : World) {ops : Array Oper} {rest : List Oper} {o : Oper} {a : Act} {Q : Exit → Act → World → Prop} (hgd : o.guard = none) (s x : Operand) (t : TypeId)
    (ho : o.op = .call { callee := .builtin .append, args := #[s, x], argTypes := #[t, t] }) (vs vx v : Value) (hs : a.eval s = vs) (hx : a.eval x = vx) (hrun : ∀ ty, (Builtin.append_ #[t, t] ty #[vs, vx]).run P w = .ok v w')
    (h : wpList P ops Q rest (a.put o.dst v) w') : wpList P ops Q (o :: rest) a w := by
  refine wpList_plain hgd fun _ hK => ?_
  unfold Oper.wp execOp
  simp only [ho, resolve, invoke, builtin, Sem.run_bind, Sem.run_pure, Result.andThen_ok, List.map_toArray, List.map_cons, List.map_nil, hs, hx, hrun]
  exact hK _ _ h
theorem step_append_k {P : Program} {ops : Array Oper} {o : Oper} {a : Act} {w w' : World} {K : Act → World → Prop} {Q : Exit → Act → World → Prop} {E : Prop}
    (hg : o.guard = none) (s x : Operand) (t : TypeId) (hop : o.op = Op.call { callee := Callee.builtin Builtin.append, args := #[s, x], argTypes := #[t, t] })
    (vs vx v : Value) (hs : a.eval s = vs) (hx : a.eval x = vx) (hrun : (Builtin.append_ #[t, t] o.type #[vs, vx]).run P w = .ok v w') (hK : K (a.put o.dst v) w') :
    if Region.wanted o (yielded ops a.tmps) = true then Oper.wp P o a w K Q else E := by
  have hw : Region.wanted o (yielded ops a.tmps) = true := by simp [Region.wanted, hg]
  rw [if_pos hw]
  unfold Oper.wp
  simp [execOp, hop, resolve, invoke, builtin, hs, hx, hrun, Result.andThen]
  exact hK
/-- All that is in a block of its own can be read. -/
theorem own_reads {α : Type} {E : El α} {w : World} {B : Nat} {e : TypeId} {A : Option Addr} {n c : Nat} {L : List α} (h : Own E w B e (.slice A n c) L) : n = L.length ∧ (A = none → L = []) ∧ ∀ a, A = some a → ∀ j u, (E.row L)[j]? = some u → w.cell? (a.add j) = some u := by
  have hc := fun g hg => World.ownsRow.cells h (g := g) hg
  rcases h.2 with ⟨h1, h0⟩ | ⟨g, cap, cur, hv, _⟩
  · injection h1 with e1 e2 e3
    subst e1 e2
    exact ⟨h0.symm, fun _ => List.eq_nil_of_length_eq_zero h0, fun a ha => by cases ha⟩
  · injection hv with e1 e2 e3
    subst e1
    exact ⟨e2, (fun h => by cases h), fun a ha => by cases ha; exact hc g rfl⟩
/-- Grown in a row that is new: grown in none. -/
theorem grow_k {a b c : World} {base : Nat} {e : TypeId} {sz n : Nat} {v : Value} {xs : List Value} (h : a.grownBy b none) (hown : b.ownsRow base e sz v n xs) (hb : a.heap.size ≤ base) (g : b.grownBy c v.ownBlock) : a.grownBy c none :=
  ⟨g.os.trans h.os, g.tape.trans h.tape, g.output.trans h.output, Nat.le_trans h.size g.size, fun k hk _ => (g.block k (Nat.lt_of_lt_of_le hk h.size) (fun e => by have := (hown.lt k e.symm).1; omega)).trans (h.block k hk (by simp))⟩
theorem gnone {a b c : World} (h : a.grownBy b none) (g : b.grownBy c none) : a.grownBy c none :=
  ⟨g.os.trans h.os, g.tape.trans h.tape, g.output.trans h.output, Nat.le_trans h.size g.size, fun k hk _ => (g.block k (Nat.lt_of_lt_of_le hk h.size) (by simp)).trans (h.block k hk (by simp))⟩
theorem grefl (w : World) (row : Option Nat) : w.grownBy w row := ⟨rfl, rfl, rfl, Nat.le_refl _, fun _ _ _ => rfl⟩
theorem below_g {w w' : World} (h : w.grownBy w' none) : Below w.heap.size w w' := ⟨h.os, h.tape, h.output, h.size, fun k hk => h.block k hk (by simp)⟩
theorem g_below {w w' : World} (h : Below w.heap.size w w') : w.grownBy w' none := ⟨h.os, h.tape, h.output, h.size, fun k hk _ => h.block k hk⟩
end Go.Proofs.Yteackdafggomhaa

namespace Go.Proofs.Yteackdafggomhaa
open Go.RowKit

/-- One of a row of lists. -/
theorem srow_at {w : World} {B m : Nat} {te : TypeId} {v : Value} {a : Nat → Value} (h : w.ownsRow B te 1 v m ((List.range m).map a)) {k : Nat} (hk : k < m) : ∃ g c, v = .slice (some ⟨g, 0, none⟩) m c ∧ B ≤ g ∧ g < w.heap.size ∧ w.cell? ⟨g, k, none⟩ = some (a k) := by
  rcases h.2 with ⟨_, h0⟩ | ⟨g, cap, cur, hv, hb, hh, _⟩
  · omega
  · subst hv
    refine ⟨g, cap, rfl, hb, (Array.getElem?_eq_some_iff.1 hh).1, ?_⟩
    have := World.ownsRow.cells h (g := g) rfl k (a k) (by rw [List.getElem?_map, List.getElem?_range hk]; rfl)
    rwa [Addr.add_lit, Nat.zero_add] at this
theorem srow_slice {w : World} {B m : Nat} {te : TypeId} {v : Value} {xs : List Value} (h : w.ownsRow B te 1 v m xs) : ∃ A c, v = .slice A m c := by
  rcases h.2 with ⟨rfl, h0⟩ | ⟨g, cap, cur, rfl, _⟩
  · exact ⟨none, 0, by rw [h0]⟩
  · exact ⟨_, _, rfl⟩

/-! ### Cells set one behind the other -/
def setAll : List Value → Nat → List Value → List Value
  | xs, _, [] => xs
  | xs, i, u :: us => setAll (xs.set i u) (i + 1) us
theorem setAll_split (us : List Value) : ∀ (pre mid post : List Value), mid.length = us.length → setAll (pre ++ mid ++ post) pre.length us = pre ++ us ++ post := by
  induction us with
  | nil => intro pre mid post h; have : mid = [] := List.eq_nil_of_length_eq_zero h; subst this; rfl
  | cons u us ih =>
    intro pre mid post h
    cases mid with
    | nil => simp at h
    | cons x mid =>
      have h1 := ih (pre ++ [u]) mid post (by simpa using h)
      have e : (pre ++ (x :: mid) ++ post).set pre.length u = pre ++ [u] ++ mid ++ post := by
        simp
      show setAll ((pre ++ (x :: mid) ++ post).set pre.length u) (pre.length + 1) us = _
      rw [e, show pre.length + 1 = (pre ++ [u]).length by simp, h1]
      simp
theorem El.row_set {α : Type} (E : El α) (L : List α) (j : Nat) (x : α) (hj : j < L.length) : E.row (L.set j x) = setAll (E.row L) (j * E.sz) (E.cl x) := by
  have h1 : L = L.take j ++ [L[j]] ++ L.drop (j + 1) := by
    have := List.take_append_drop j L
    rw [List.drop_eq_getElem_cons hj] at this
    rw [List.append_assoc]
    exact this.symm
  have h2 : L.set j x = L.take j ++ [x] ++ L.drop (j + 1) := by
    rw [List.set_eq_take_append_cons_drop, if_pos hj]
    simp
  have hl : (E.row (L.take j)).length = j * E.sz := by rw [E.row_length, List.length_take, Nat.min_eq_left (by omega)]
  have h3 := setAll_split (E.cl x) (E.row (L.take j)) (E.cl L[j]) (E.row (L.drop (j + 1))) (by rw [E.len, E.len])
  rw [hl] at h3
  rw [h2, E.row_append, E.row_append, E.row_one, ← h3]
  congr 1
  conv => rhs; rw [h1]
  rw [E.row_append, E.row_append, E.row_one]
def setCells : World → Nat → Nat → List Value → World
  | w, _, _, [] => w
  | w, g, i, u :: us => setCells (w.setCell ⟨g, i, none⟩ u) g (i + 1) us
theorem setCells_own {B : Nat} {e : TypeId} {sz g n c : Nat} (us : List Value) : ∀ (w : World) (i : Nat) (xs : List Value), w.ownsRow B e sz (.slice (some ⟨g, 0, none⟩) n c) n xs →
    (setCells w g i us).ownsRow B e sz (.slice (some ⟨g, 0, none⟩) n c) n (setAll xs i us) := by
  induction us with
  | nil => intro w i xs h; exact h
  | cons u us ih => intro w i xs h; exact ih _ _ _ (World.ownsRow.stored h i u).1
theorem setCells_grown {g : Nat} (us : List Value) : ∀ (w : World) (i : Nat), w.grownBy (setCells w g i us) (some g) := by
  induction us with
  | nil => intro w i; exact grefl w _
  | cons u us ih =>
    intro w i
    have h1 : w.grownBy (w.setCell ⟨g, i, none⟩ u) (some g) := only_setCell (grefl w _) (Or.inl rfl) u
    have h2 := ih (w.setCell ⟨g, i, none⟩ u) (i + 1)
    exact ⟨h2.os.trans h1.os, h2.tape.trans h1.tape, h2.output.trans h1.output, Nat.le_trans h1.size h2.size, fun k hk hne => (h2.block k (Nat.lt_of_lt_of_le hk h1.size) hne).trans (h1.block k hk hne)⟩

/-- One element stored into one of the rows. -/
theorem put_k {α : Type} {E : El α} {w : World} {B m k g n c j : Nat} {e : TypeId} {a : Nat → Value} {G : Nat → List α} {x : α} (hR : Rwk E w B e m a G) (hk : k < m) (hg : a k = .slice (some ⟨g, 0, none⟩) n c) (hj : j < (G k).length) :
    Rwk E (setCells w g (j * E.sz) (E.cl x)) B e m a (upk G k ((G k).set j x)) ∧ Tn B (cellsT e) w (setCells w g (j * E.sz) (E.cl x)) ∧
      (∀ v S M, Own E w S e v M → v.ownBlock ≠ some g → Own E (setCells w g (j * E.sz) (E.cl x)) S e v M) := by
  have hr := hR.each k hk
  have gr := setCells_grown (g := g) (E.cl x) w (j * E.sz)
  rw [hg] at hr
  obtain ⟨hnl, _, _⟩ := own_reads hr
  subst hnl
  have hst := setCells_own (g := g) (E.cl x) w (j * E.sz) _ hr
  rw [← E.row_set _ _ _ hj] at hst
  have other : ∀ v S M, Own E w S e v M → v.ownBlock ≠ some g → Own E (setCells w g (j * E.sz) (E.cl x)) S e v M := fun v S M h hne => World.ownsRow.kept h gr (Or.inr hne)
  refine ⟨⟨fun i hi => ?_, hR.apart⟩, (Tn.refl B _ w).grow hr gr, other⟩
  by_cases hik : i = k
  · subst hik
    rw [upk_at, hg]
    unfold Own
    rw [List.length_set]
    exact hst
  · rw [upk_ne _ _ hik]
    exact other _ _ _ (hR.each i hi) (fun h => hR.apart i k hi hk hik g h (by rw [hg]; rfl))
theorem Own.frozen_ {α : Type} {E : El α} {w : World} {B g n c : Nat} {e : TypeId} {L : List α} (h : Own E w B e (.slice (some ⟨g, 0, none⟩) n c) L) (j : Nat) : w.frozen? ⟨g, j, none⟩ = false := by
  obtain ⟨hn, _, _⟩ := own_reads h
  subst hn
  exact World.ownsRow.frozenAt h j
theorem Tn.fromDrew {B : Nat} {T : Obj → Bool} {w w' : World} (h : Tn B T w w') : Tn B T w.drew w'.drew := ⟨h.os, h.tape, h.output, h.size, h.block⟩
/-- A row that is new grew. -/
theorem Tn.growNew {B S : Nat} {T : Obj → Bool} {w w' w'' : World} {e : TypeId} {sz n : Nat} {v : Value} {xs : List Value} (h : Tn B T w w') (hown : w'.ownsRow S e sz v n xs) (hS : w.heap.size ≤ S) (g : w'.grownBy w'' v.ownBlock) : Tn B T w w'' :=
  h.row g (fun k hk => Or.inl (Nat.le_trans hS (World.ownsRow.lt hown k hk).1))
theorem Famk.marked2 {α : Type} {E : El α} {w w' : World} {B m k N p : Nat} {e : TypeId} {a b : Nat → Value} {F H : Nat → List α} {l l' : Value} (h : Famk E w B e m a (upk b k l) F (upk H k (E.marks k 0 N))) (hk : k < m)
    (hown : Own E w' B e l' (E.marks k 0 N ++ E.marks k N p)) (hgr : w.grownBy w' l.ownBlock) (hold : Own E w' B e l (E.marks k 0 N)) (hblk : l'.ownBlock = l.ownBlock ∨ ∀ g, l'.ownBlock = some g → w.heap.size ≤ g) :
    Famk E w' B e m a (upk b k l') F (upk H k (E.marks k 0 (N + p))) := by
  refine Famk.marked h hk ?_ hgr ?_ hblk
  · unfold Own at hown
    rw [List.length_append, E.marks_length, E.marks_length, E.row_append] at hown
    exact hown
  · unfold Own at hold
    rw [E.marks_length] at hold
    exact hold
theorem app_srow {P : Program} (tte te : TypeId) (ht : P.underlying tte = some (.slice te)) (hinfo : (P.info? te).map (fun i => (i.zero, i.size, i.bytes)) = some (some (.slice none 0 0), 1, 24))
    (w : World) (base : Nat) (v : Value) (n : Nat) (xs : List Value) (hown : w.ownsRow base te 1 v n xs) (u : Value) (hu : u.oneCell' = true) (g c : Nat) (hc : w.cell? ⟨g, 0, none⟩ = some u) (hn : n ≤ 100000) (hbase : base ≤ w.heap.size) :
    ∃ v' w', (∀ ty, (Builtin.append_ #[tte, tte] ty #[v, .slice (some ⟨g, 0, none⟩) 1 c]).run P w = .ok v' w') ∧ w'.ownsRow base te 1 v' (n + 1) (xs ++ [u]) ∧ w.grownBy w' v.ownBlock ∧ w'.ownsRow base te 1 v n xs ∧ (v'.ownBlock = v.ownBlock ∨ ∀ g, v'.ownBlock = some g → w.heap.size ≤ g) := by
  obtain ⟨i0, hi, hz, hsize, hby⟩ := info_parts hinfo
  have hnews : ∀ j x, [u][j]? = some x → w.cell? ((⟨g, 0, none⟩ : Addr).add j) = some x := fun j x hx => by
    match j, hx with
    | 0, hx => simp at hx; subst hx; simpa [Addr.add] using hc
  have h1 : ∀ x ∈ [u], x.oneCell' = true := fun x hx => by simp at hx; subst hx; exact hu
  obtain ⟨v', w', hr, h2, h3, _⟩ := run_append_own (P := P) w base tte 0 te i0 (.slice none 0 0) 1 24 ht hi hz hsize hby rfl (by decide) v n xs hown ⟨g, 0, none⟩ 1 c [u] rfl hnews h1 (by unfold maxLen; omega) (by omega) hbase
  obtain ⟨h4, h5⟩ := append_keep w base tte 0 te i0 (.slice none 0 0) 1 24 ht hi hz hsize hby v n xs hown ⟨g, 0, none⟩ 1 c [u] rfl hnews h1 (by unfold maxLen; omega) (by omega) v' w' hr
  exact ⟨v', w', fun ty => by rw [← hr]; rfl, h2, h3, h4, h5⟩
end Go.Proofs.Yteackdafggomhaa

namespace Go.Proofs.Yteackdafggomhaa
open Go.RowKit

/-- The book's fields f and f + 1 keep the lists Z of a kind, and copies of them; each lies in a block of its own below S. -/
def KSt {α : Type} (E : El α) (ok : α → Prop) (e te : TypeId) (f : Nat) (w : World) (B : Nat) (bcs : Array Value) (Z : List (List α)) (S : Nat) : Prop :=
  ∃ v1 v2 a c, bcs[f]? = some v1 ∧ bcs[f + 1]? = some v2 ∧ w.ownsRow B te 1 v1 Z.length ((List.range Z.length).map a) ∧ w.ownsRow B te 1 v2 Z.length ((List.range Z.length).map c) ∧ Off v1 v2 ∧ Rwk E w B e Z.length a (fun i => Z.getD i []) ∧
    (∀ i, i < Z.length → Own E w B e (c i) (Z.getD i [])) ∧ (∀ i, i < Z.length → (Z.getD i []).length ≤ 100000 ∧ ∀ x ∈ Z.getD i [], ok x) ∧ (∀ i, i < Z.length → ∀ g, (a i).ownBlock = some g → g < S) ∧ Z.length ≤ 250
section
variable {α : Type} {E : El α} {ok : α → Prop} {e te tB : TypeId} {f : Nat} {w w' : World} {B bk S : Nat} {bcs : Array Value} {Z : List (List α)}
theorem KSt.tn (h : KSt E ok e te f w B bcs Z S) {B' : Nat} {T : Obj → Bool} (g : Tn B' T w w') (h1 : ∀ cs fr, T (.cells cs e fr) = false) (h2 : ∀ cs fr, T (.cells cs te fr) = false) : KSt E ok e te f w' B bcs Z S := by
  obtain ⟨v1, v2, a, c, f1, f2, r1, r2, o, ra, rc, hz, hs, hm⟩ := h
  exact ⟨v1, v2, a, c, f1, f2, g.own r1 h2, g.own r2 h2, o, ra.tn g h1, fun i hi => (rc i hi).tn g h1, hz, hs, hm⟩
theorem KSt.below (h : KSt E ok e te f w B bcs Z S) (g : Below w.heap.size w w') : KSt E ok e te f w' B bcs Z S := h.tn (Tn.of_below (B := 0) (T := fun _ => false) g) (fun _ _ => rfl) (fun _ _ => rfl)
theorem KSt.fields (h : KSt E ok e te f w B bcs Z S) {bcs' : Array Value} (h1 : bcs'[f]? = bcs[f]?) (h2 : bcs'[f + 1]? = bcs[f + 1]?) : KSt E ok e te f w B bcs' Z S := by
  obtain ⟨v1, v2, a, c, f1, f2, r⟩ := h
  exact ⟨v1, v2, a, c, h1.trans f1, h2.trans f2, r⟩
theorem KSt.up (h : KSt E ok e te f w B bcs Z S) {S' : Nat} (hS : S ≤ S') : KSt E ok e te f w B bcs Z S' := by
  obtain ⟨v1, v2, a, c, f1, f2, r1, r2, o, ra, rc, hz, hs, hm⟩ := h
  exact ⟨v1, v2, a, c, f1, f2, r1, r2, o, ra, rc, hz, fun i hi g hg => Nat.lt_of_lt_of_le (hs i hi g hg) hS, hm⟩
theorem KSt.nil (h1 : bcs[f]? = some (.slice none 0 0)) (h2 : bcs[f + 1]? = some (.slice none 0 0)) : KSt E ok e te f w B bcs [] S :=
  ⟨_, _, fun _ => .slice none 0 0, fun _ => .slice none 0 0, h1, h2, World.ownsRow_nil _ _ _ _, World.ownsRow_nil _ _ _ _, fun g hg => by simp [Value.ownBlock] at hg, ⟨fun i hi => by simp at hi, fun i j hi => by simp at hi⟩, fun i hi => by simp at hi, fun i hi => by simp at hi, fun i hi => by simp at hi, Nat.zero_le _⟩
end

theorem own_ne_k {w : World} {B : Nat} {e t : TypeId} {sz : Nat} {v : Value} {n : Nat} {xs : List Value} {p : Nat} {cs : Array Value} (h : w.ownsRow B e sz v n xs) (hb : Blk w p t cs) (hne : e ≠ t) : v.ownBlock ≠ some p := by
  rcases h.2 with ⟨rfl, _⟩ | ⟨g, cap, cur, rfl, _, hg, _⟩
  · intro h; cases h
  · intro h
    cases h
    unfold Blk at hb
    rw [hg] at hb
    cases hb
    exact hne rfl
def twoT (te tB : TypeId) : Obj → Bool := fun o => cellsT te o || cellsT tB o
theorem twoT_ne {te tB t : TypeId} (h1 : t ≠ te) (h2 : t ≠ tB) (cs : Array Value) (fr : Nat × Nat) : twoT te tB (.cells cs t fr) = false := by
  unfold twoT
  rw [cellsT_ne h1, cellsT_ne h2]
  rfl
theorem Tn.two_l {B : Nat} {te tB : TypeId} {w w' : World} (h : Tn B (cellsT te) w w') : Tn B (twoT te tB) w w' := h.mono fun o ho => by unfold twoT at ho; rw [Bool.or_eq_false_iff] at ho; exact ho.1
theorem Tn.two_blk {B g : Nat} {te tB : TypeId} {w w' : World} {cs : Array Value} (h : Tn B (twoT te tB) w w') (hb : Blk w' g tB cs) (hB : B ≤ g) (i : Nat) (u : Value) : Tn B (twoT te tB) w (w'.setCell ⟨g, i, none⟩ u) :=
  h.setCell (p := ⟨g, i, none⟩) (Or.inr ⟨hB, _, hb, by unfold twoT; simp [cellsT]⟩) u

/-- A row of lists, one more at its end, and the field of the book that tells it. -/
theorem keep_row {P : Program} {tte te tB : TypeId} (ht : P.underlying tte = some (.slice te)) (hinfo : (P.info? te).map (fun i => (i.zero, i.size, i.bytes)) = some (some (.slice none 0 0), 1, 24)) (hne : te ≠ tB)
    {w : World} {B bk f m : Nat} {bcs : Array Value} {v u : Value} {xs : List Value} {r2 : Value} {m2 : Nat} {ys : List Value} (hb : Blk w bk tB bcs) (hB : B ≤ w.heap.size) (hBk : B ≤ bk) (hv : w.ownsRow B te 1 v m xs) (hr2 : w.ownsRow B te 1 r2 m2 ys) (hoff : Off v r2) (hm : m ≤ 250) (hu : u.oneCell' = true) :
    ∃ A d w1, (∀ ty, (Builtin.append_ #[tte, tte] ty #[v, .slice (some ⟨w.heap.size, 0, none⟩) 1 1]).run P (w.alloc (.cells #[u] te)) = .ok (.slice A (m + 1) d) w1) ∧ Blk w1 bk tB bcs ∧
      Blk (w1.setCell ⟨bk, f, none⟩ (.slice A (m + 1) d)) bk tB (bcs.setIfInBounds f (.slice A (m + 1) d)) ∧ (w1.setCell ⟨bk, f, none⟩ (.slice A (m + 1) d)).ownsRow B te 1 (.slice A (m + 1) d) (m + 1) (xs ++ [u]) ∧
      (w1.setCell ⟨bk, f, none⟩ (.slice A (m + 1) d)).ownsRow B te 1 r2 m2 ys ∧ Off (.slice A (m + 1) d) r2 ∧ Tn B (twoT te tB) w (w1.setCell ⟨bk, f, none⟩ (.slice A (m + 1) d)) := by
  have g0 : w.grownBy (w.alloc (.cells #[u] te)) none := World.grownBy_alloc _ _ _
  have hv0 := World.ownsRow.alloc hv (.cells #[u] te)
  have hr0 := World.ownsRow.alloc hr2 (.cells #[u] te)
  have hb0 := hb.alloc (.cells #[u] te)
  obtain ⟨v', w1, hr, hown, hgr, _, hblk⟩ := app_srow (P := P) tte te ht hinfo (w.alloc (.cells #[u] te)) B v m xs hv0 u hu w.heap.size 1 ((Blk.new w te #[u]).cell 0) (by omega) (Nat.le_trans hB (by simp))
  obtain ⟨A, d, rfl⟩ := srow_slice hown
  have hb1 : Blk w1 bk tB bcs := hb0.grown hgr (fun e => own_ne_k hv0 hb0 hne e.symm)
  have hr1 : w1.ownsRow B te 1 r2 m2 ys := World.ownsRow.kept hr0 hgr (offk_none hoff)
  have gs : ∀ u, w1.grownBy (w1.setCell ⟨bk, f, none⟩ u) (some bk) := fun u => only_setCell (grefl w1 _) (Or.inl rfl) u
  refine ⟨A, d, w1, hr, hb1, hb1.set_ f _, hown.kept (gs _) (Or.inr (own_ne_k hown hb1 hne)), hr1.kept (gs _) (Or.inr (own_ne_k hr1 hb1 hne)), fun g hg hv' => ?_, ?_⟩
  · rcases hblk with e | e
    · exact hoff g (e ▸ hg) hv'
    · have h1 := e g hg
      have h2 := (World.ownsRow.lt hr2 g hv').2
      simp at h1
      omega
  · exact Tn.two_blk ((Tn.two_l ((Tn.of_grown g0).grow hv0 hgr))) hb1 hBk f _

theorem getDk_lt {α : Type} (l : List α) (x d : α) {i : Nat} (h : i < l.length) : (l ++ [x]).getD i d = l.getD i d := by
  rw [List.getD_eq_getElem?_getD, List.getElem?_append_left h, ← List.getD_eq_getElem?_getD]
theorem getDk_eq {α : Type} (l : List α) (x d : α) {i : Nat} (h : i = l.length) : (l ++ [x]).getD i d = x := by
  subst h
  rw [List.getD_eq_getElem?_getD, List.getElem?_append_right (Nat.le_refl _)]
  simp
/-- One more is kept. -/
theorem KSt.add {α : Type} {E : El α} {ok : α → Prop} {e te : TypeId} {f : Nat} {w : World} {B S S' lo : Nat} {bcs : Array Value} {Z : List (List α)} {L : List α} {a c : Nat → Value} {v1 v2 x cp : Value}
    (f1 : bcs[f]? = some v1) (f2 : bcs[f + 1]? = some v2) (r1 : w.ownsRow B te 1 v1 (Z.length + 1) ((List.range Z.length).map a ++ [x])) (r2 : w.ownsRow B te 1 v2 (Z.length + 1) ((List.range Z.length).map c ++ [cp])) (o : Off v1 v2)
    (ra : Rwk E w B e Z.length a (fun i => Z.getD i [])) (rc : ∀ i, i < Z.length → Own E w B e (c i) (Z.getD i [])) (hz : ∀ i, i < Z.length → (Z.getD i []).length ≤ 100000 ∧ ∀ x ∈ Z.getD i [], ok x) (hs : ∀ i, i < Z.length → ∀ g, (a i).ownBlock = some g → g < S) (hm : Z.length < 250)
    (hx : Own E w lo e x L) (hc : Own E w B e cp L) (hSl : S ≤ lo) (hBl : B ≤ lo) (hL : L.length ≤ 100000 ∧ ∀ y ∈ L, ok y) (hS : ∀ g, x.ownBlock = some g → g < S') (hSS : S ≤ S') : KSt E ok e te f w B bcs (Z ++ [L]) S' := by
  rw [range_upk] at r1 r2
  have hl : (Z ++ [L]).length = Z.length + 1 := by simp
  have key : ∀ i, i < Z.length → Off (a i) x := fun i hi g hg hv => by
    have h1 := hs i hi g hg
    have h2 := (hx.lt hv).1
    omega
  refine ⟨v1, v2, upk a Z.length x, upk c Z.length cp, f1, f2, by rw [hl]; exact r1, by rw [hl]; exact r2, o, ⟨fun i hi => ?_, fun i j hi hj hij => ?_⟩, fun i hi => ?_, fun i hi => ?_, fun i hi g hg => ?_, by omega⟩
  · rw [hl] at hi
    by_cases hil : i < Z.length
    · rw [upk_ne _ _ (by omega), getDk_lt _ _ _ hil]
      exact ra.each i hil
    · obtain rfl : i = Z.length := by omega
      rw [upk_at, getDk_eq _ _ _ rfl]
      exact hx.low hBl
  · rw [hl] at hi hj
    by_cases hil : i < Z.length
    · rw [upk_ne _ _ (show i ≠ Z.length by omega)]
      by_cases hjl : j < Z.length
      · rw [upk_ne _ _ (show j ≠ Z.length by omega)]
        exact ra.apart i j hil hjl hij
      · rw [show j = Z.length by omega, upk_at]
        exact key i hil
    · rw [show i = Z.length by omega, upk_at, upk_ne _ _ (show j ≠ Z.length by omega)]
      exact (key j (by omega)).symm
  · rw [hl] at hi
    by_cases hil : i < Z.length
    · rw [upk_ne _ _ (by omega), getDk_lt _ _ _ hil]
      exact rc i hil
    · obtain rfl : i = Z.length := by omega
      rw [upk_at, getDk_eq _ _ _ rfl]
      exact hc
  · rw [hl] at hi
    by_cases hil : i < Z.length
    · rw [getDk_lt _ _ _ hil]
      exact hz i hil
    · rw [getDk_eq _ _ _ (by omega)]
      exact hL
  · rw [hl] at hi
    by_cases hil : i < Z.length
    · rw [upk_ne _ _ (by omega)] at hg
      have := hs i hil g hg
      omega
    · rw [show i = Z.length by omega, upk_at] at hg
      exact hS g hg
/-- A kind's lists, while marks are put. -/
structure PSt {α : Type} (E : El α) (e te : TypeId) (w : World) (B : Nat) (v1 : Value) (a : Nat → Value) (m : Nat) (F : Nat → List α) : Prop where
  r1 : w.ownsRow B te 1 v1 m ((List.range m).map a)
  ra : Rwk E w B e m a F
theorem PSt.tn {α : Type} {E : El α} {e te : TypeId} {w w' : World} {B : Nat} {v1 : Value} {a : Nat → Value} {m : Nat} {F : Nat → List α} (h : PSt E e te w B v1 a m F) {B' : Nat} {T : Obj → Bool} (g : Tn B' T w w') (h1 : ∀ cs fr, T (.cells cs e fr) = false) (h2 : ∀ cs fr, T (.cells cs te fr) = false) : PSt E e te w' B v1 a m F := ⟨g.own h.r1 h2, h.ra.tn g h1⟩
end Go.Proofs.Yteackdafggomhaa

namespace Go.Proofs.Yteackdafggomhaa
open Go.RowKit

theorem u8info : (Try.prog.info? 5).map (fun i => (i.zero, i.size, i.bytes)) = some (some (.int .u8 0), 1, 1) := by kernel_rfl

/-- A number in groups of seven bits. -/
def pv (v : Nat) : List UInt8 := if v < 128 then [UInt8.ofNat v] else UInt8.ofNat (v % 128 + 128) :: pv (v / 128)
  termination_by v
  decreasing_by omega

theorem or_128 : ∀ c : Nat, c < 256 → bits .or .u8 (c : Int) 128 = ((c % 128 + 128 : Nat) : Int) := by decide +kernel

theorem u8_of (n : Nat) (h : n < 256) : (n : Int) = ((UInt8.ofNat n).toNat : Int) := by simp; omega

theorem pv_more (v : Nat) (h : 128 ≤ v) : pv v = UInt8.ofNat (v % 128 + 128) :: pv (v / 128) := by rw [pv, if_neg (by omega)]
theorem pv_last (v : Nat) (h : v < 128) : pv v = [UInt8.ofNat v] := by rw [pv, if_pos h]

end Go.Proofs.Yteackdafggomhaa

namespace Go.Proofs.Yteackdafggomhaa
open Go.RowKit

/-- A number as n bytes, the highest first. -/
def be (v n : Nat) : List UInt8 := (List.range n).map fun i => UInt8.ofNat (v / 2 ^ (8 * (n - 1 - i)) % 256)

theorem be_length (v n : Nat) : (be v n).length = n := by simp [be]
theorem be_get (v n k : Nat) (h : k < n) : (be v n)[k]? = some (UInt8.ofNat (v / 2 ^ (8 * (n - 1 - k)) % 256)) := by unfold be; rw [List.getElem?_map, List.getElem?_range h]; rfl
theorem be_step (v n k : Nat) (h : k < n) : (((be v n).take k ++ List.replicate (n - k) (0 : UInt8)).map b8).set k (.int .u8 ((v : Int) / 2 ^ (8 * (n - 1 - k)) % 256)) =
    ((be v n).take (k + 1) ++ List.replicate (n - (k + 1)) (0 : UInt8)).map b8 := by
  obtain ⟨c, hc⟩ : ∃ c, c = UInt8.ofNat (v / 2 ^ (8 * (n - 1 - k)) % 256) := ⟨_, rfl⟩
  have hb : Value.int .u8 ((v : Int) / 2 ^ (8 * (n - 1 - k)) % 256) = b8 c := by
    have e : (v : Int) / 2 ^ (8 * (n - 1 - k)) % 256 = ((v / 2 ^ (8 * (n - 1 - k)) % 256 : Nat) : Int) := by rw [Int.natCast_emod, Int.natCast_ediv, Int.natCast_pow]; rfl
    rw [e, u8_of _ (by omega), ← hc]
    rfl
  have hg := be_get v n k h
  rw [← hc] at hg
  have hl := be_length v n
  have hlt : (List.take k (be v n)).length = k := by simp; omega
  rw [hb, ← List.map_set, List.set_append_right _ _ (by omega), hlt, Nat.sub_self, show n - k = (n - (k + 1)) + 1 from by omega, List.replicate_succ, List.set_cons_zero]
  rw [List.take_add_one, hg]
  simp

end Go.Proofs.Yteackdafggomhaa

namespace Go.Proofs.Yteackdafggomhaa
open Go.RowKit

/-- What four of a sum's eight steps make of four bits. -/
def halvesL : List Int := [0, 274646895, 549293790, 820201905, 1098587580, 1361435347, 1640403810, 1905808397, 2197175160, 2460548119, 2722870694, 2987750089, 3280807620, 3553878443, 3811616794, 4084100981]

def halfN (i : Nat) : Nat := (halvesL.getD i 0).toNat
theorem halfN_lt : ∀ i < 16, halvesL.getD i 0 = (halfN i : Int) ∧ halfN i < 4294967296 := by decide

/-- Four bits of a sum. -/
def nib (b : Nat) : Nat := (b / 16) ^^^ halfN (b % 16)
theorem nib_lt (b : Nat) (hb : b < 4294967296) : nib b < 4294967296 := by
  have h1 := (halfN_lt (b % 16) (by omega)).2
  exact Nat.xor_lt_two_pow (n := 32) (by omega) (by omega)

/-- A sum goes on by a byte. -/
def sumStep (a : Nat) (c : UInt8) : Nat := nib (nib (a ^^^ c.toNat))
theorem sumStep_lt (a : Nat) (c : UInt8) (ha : a < 4294967296) : sumStep a c < 4294967296 :=
  nib_lt _ (nib_lt _ (Nat.xor_lt_two_pow (n := 32) ha (by have := UInt8.toNat_lt c; omega)))

def sumL (l : List UInt8) : Nat := l.foldl sumStep 4294967295
theorem foldl_sum_lt (l : List UInt8) (a : Nat) (ha : a < 4294967296) : l.foldl sumStep a < 4294967296 := by
  induction l generalizing a with
  | nil => exact ha
  | cons c r ih => exact ih _ (sumStep_lt a c ha)
theorem sumL_lt (l : List UInt8) : sumL l < 4294967296 := foldl_sum_lt l _ (by decide)

theorem sum_snoc (s : ByteArray) (k : Nat) (h : k < s.size) : sumL (s.data.toList.take (k + 1)) = sumStep (sumL (s.data.toList.take k)) s[k] := by
  unfold sumL
  rw [List.take_succ_eq_append_getElem (by simpa using h), List.foldl_append]
  rfl

theorem nib_walk (b : Nat) (hb : b < 4294967296) : bits .and .u32 (b : Int) 15 = ((b % 16 : Nat) : Int) ∧ bits .xor .u32 ((b : Int) / 16) (halvesL.getD (b % 16) 0) = (nib b : Int) := by
  have h1 := halfN_lt (b % 16) (by omega)
  constructor
  · have := u32_and_nat b 15 hb (by decide)
    rw [show b &&& 15 = b % 16 from Nat.and_two_pow_sub_one_eq_mod b 4] at this
    exact this
  · rw [h1.1, show (b : Int) / 16 = ((b / 16 : Nat) : Int) from by omega, u32_xor_nat _ _ (by omega) h1.2]
    rfl

/-- The check sum of some bytes. -/
def crc (l : List UInt8) : Nat := 4294967295 - sumL l

end Go.Proofs.Yteackdafggomhaa

namespace Go.Proofs.Yteackdafggomhaa
open Go.RowKit

/-! ### One byte changed changes the sum -/
theorem half_top : ∀ i < 16, halfN i / 268435456 = i := by decide
theorem nib_top (b : Nat) (hb : b < 4294967296) : nib b / 268435456 = b % 16 := by
  have h1 := half_top (b % 16) (by omega)
  have e : ∀ x : Nat, x / 268435456 = x >>> 28 := fun x => (Nat.shiftRight_eq_div_pow x 28).symm
  unfold nib
  rw [e] at h1 ⊢
  rw [Nat.shiftRight_xor_distrib, h1, Nat.shiftRight_eq_div_pow, show b / 16 / 2 ^ 28 = 0 from by omega, Nat.zero_xor]
theorem xor_cancel (a b c : Nat) (h : a ^^^ c = b ^^^ c) : a = b := by
  have := congrArg (· ^^^ c) h
  simp only [Nat.xor_assoc, Nat.xor_self, Nat.xor_zero] at this
  exact this
theorem nib_inj (b c : Nat) (hb : b < 4294967296) (hc : c < 4294967296) (h : nib b = nib c) : b = c := by
  have h1 := nib_top b hb
  have h2 := nib_top c hc
  rw [h, h2] at h1
  unfold nib at h
  rw [h1] at h
  have h3 := xor_cancel _ _ _ h
  omega
theorem xor_byte_lt (a : Nat) (c : UInt8) (ha : a < 4294967296) : a ^^^ c.toNat < 4294967296 := Nat.xor_lt_two_pow (n := 32) ha (by have := UInt8.toNat_lt c; omega)
theorem step_inj (a b : Nat) (c : UInt8) (ha : a < 4294967296) (hb : b < 4294967296) (h : sumStep a c = sumStep b c) : a = b := by
  have h1 := xor_byte_lt a c ha
  have h2 := xor_byte_lt b c hb
  exact xor_cancel _ _ _ (nib_inj _ _ h1 h2 (nib_inj _ _ (nib_lt _ h1) (nib_lt _ h2) h))
theorem step_inj_byte (a : Nat) (c d : UInt8) (ha : a < 4294967296) (h : sumStep a c = sumStep a d) : c = d := by
  have h1 := xor_byte_lt a c ha
  have h2 := xor_byte_lt a d ha
  have h3 := nib_inj _ _ h1 h2 (nib_inj _ _ (nib_lt _ h1) (nib_lt _ h2) h)
  rw [Nat.xor_comm a, Nat.xor_comm a] at h3
  exact UInt8.toNat_inj.1 (xor_cancel _ _ _ h3)
theorem foldl_inj (l : List UInt8) : ∀ a b, a < 4294967296 → b < 4294967296 → l.foldl sumStep a = l.foldl sumStep b → a = b := by
  induction l with
  | nil => intro a b _ _ h; exact h
  | cons c r ih => intro a b ha hb h; exact step_inj a b c ha hb (ih _ _ (sumStep_lt a c ha) (sumStep_lt b c hb) h)

theorem crc_changed (l : List UInt8) (k : Nat) (hk : k < l.length) (d : UInt8) (hd : l[k] ≠ d) : crc l ≠ crc (l.set k d) := by
  intro h
  have h1 := sumL_lt l
  have h2 := sumL_lt (l.set k d)
  have h3 : sumL l = sumL (l.set k d) := by unfold crc at h; omega
  have e1 : l = l.take k ++ l[k] :: l.drop (k + 1) := by rw [List.getElem_cons_drop, List.take_append_drop]
  have e2 : l.set k d = l.take k ++ d :: l.drop (k + 1) := List.set_eq_take_append_cons_drop.trans (by rw [if_pos hk])
  rw [e2] at h3
  conv at h3 => lhs; rw [e1]
  unfold sumL at h3
  rw [List.foldl_append, List.foldl_append, List.foldl_cons, List.foldl_cons] at h3
  have hp := foldl_sum_lt (l.take k) 4294967295 (by decide)
  have h4 := foldl_inj _ _ _ (sumStep_lt _ _ hp) (sumStep_lt _ _ hp) h3
  exact hd (step_inj_byte _ _ _ hp h4)

theorem ofInt_u8 (a : Nat) (ha : a < 256) : (BitVec.ofInt 8 (a : Int)).toNat = a := by
  rw [BitVec.ofInt_natCast, BitVec.toNat_ofNat]; exact Nat.mod_eq_of_lt (by omega)
theorem u8_xor (a : Nat) (ha : a < 256) (b : Nat) (hb : b < 256) : bits .xor .u8 (a : Int) (b : Int) = ((a ^^^ b : Nat) : Int) := by
  have hx : a ^^^ b < 2 ^ 8 := Nat.xor_lt_two_pow (by omega) (by omega)
  show IntKind.u8.wrap ((BitVec.ofInt 8 (a : Int) ^^^ BitVec.ofInt 8 (b : Int)).toNat : Int) = _
  rw [BitVec.toNat_xor, ofInt_u8 a ha, ofInt_u8 b hb, IntKind.wrap_u8]
  omega
end Go.Proofs.Yteackdafggomhaa

namespace Go.Proofs.Yteackdafggomhaa
open Go.RowKit

end Go.Proofs.Yteackdafggomhaa

namespace Go.Proofs.Yteackdafggomhaa
open Go.RowKit

inductive GV where
  | ok (v n : Nat)
  | err (e : Int)

/-- What GetVar makes of bytes: i groups are taken, v is what they say. -/
def gv : List UInt8 → Nat → Nat → GV
  | [], i, _ => if i < 9 then .err 3 else .err 4
  | c :: r, i, v => if 9 ≤ i then .err 4 else if 128 ≤ c.toNat then gv r (i + 1) (v + c.toNat % 128 * 2 ^ (7 * i)) else if c.toNat = 0 ∧ 0 < i then .err 4 else .ok (v + c.toNat % 128 * 2 ^ (7 * i)) (i + 1)

theorem gv_long (l : List UInt8) (i v : Nat) (h : 9 ≤ i) : gv l i v = .err 4 := by
  cases l with
  | nil => rw [gv, if_neg (by omega)]
  | cons c r => rw [gv, if_pos h]

theorem gv_short (l : List UInt8) (i v : Nat) (h : i < 9) (hl : l = []) : gv l i v = .err 3 := by
  subst hl; rw [gv, if_pos h]

theorem gv_more (s : ByteArray) (k a : Nat) (hl : k < s.size) (hk : k < 9) (h : 128 ≤ s[k].toNat) :
    gv (s.data.toList.drop k) k a = gv (s.data.toList.drop (k + 1)) (k + 1) (a + s[k].toNat % 128 * 2 ^ (7 * k)) := by
  rw [List.drop_eq_getElem_cons (by simpa using hl), gv, if_neg (by omega), if_pos (by exact h)]; rfl
theorem gv_zero (s : ByteArray) (k a : Nat) (hl : k < s.size) (hk : k < 9) (h : s[k].toNat = 0) (h0 : 0 < k) :
    gv (s.data.toList.drop k) k a = .err 4 := by
  have e : (s.data.toList[k]'(by simpa using hl)).toNat = 0 := h
  rw [List.drop_eq_getElem_cons (by simpa using hl), gv, if_neg (by omega), if_neg (by omega), if_pos ⟨e, h0⟩]
theorem gv_last (s : ByteArray) (k a : Nat) (hl : k < s.size) (hk : k < 9) (h : s[k].toNat < 128) (h0 : ¬ (s[k].toNat = 0 ∧ 0 < k)) :
    gv (s.data.toList.drop k) k a = .ok (a + s[k].toNat % 128 * 2 ^ (7 * k)) (k + 1) := by
  have h' : (s.data.toList[k]'(by simpa using hl)).toNat < 128 := h
  have h0' : ¬ ((s.data.toList[k]'(by simpa using hl)).toNat = 0 ∧ 0 < k) := h0
  rw [List.drop_eq_getElem_cons (by simpa using hl), gv, if_neg (by omega), if_neg (by omega), if_neg h0']; rfl

def VarPost (p : Nat) (w : World) : GV → Ending → World → Prop
  | .ok v n, e, w' => e = .returned (.int .i64 (v : Int)) ∧ w'.cell? ⟨p, 1, none⟩ = some (.int .i64 (n : Int)) ∧ w.grownBy w' (some p)
  | .err er, e, w' => e = .panicked [{ v := .iface 26 (.int .i64 er), recovered := false }] ∧ w.grownBy w' (some p)

end Go.Proofs.Yteackdafggomhaa

namespace Go.Proofs.Yteackdafggomhaa
open Go.RowKit

theorem run_assert_errno (n : Int) (w : World) : (Instr.typeAssert (.iface 26 (.int .i64 n)) 20 26 true).run Try.prog w = .ok (.tuple #[.int .i64 n, .bool true]) w := by kernel_rfl

set_option maxHeartbeats 400000 in
theorem told_errno (er : Int) (w : World) :
    Calls Try.prog 17 #[.iface 26 (.int .i64 er)] w fun e w' => e = .returned (.int .i64 er) ∧ w = w' := by
  have hta := run_assert_errno er
  go_enter Try.func17, Try.ntmps17
  go_wp2
  go_ret
  exact ⟨rfl, rfl⟩

end Go.Proofs.Yteackdafggomhaa

namespace Go.Proofs
open Go.Shelf
def Try.lays213_ren : Go.Shelf.Ren := ⟨fun | 213 => 32 | 265 => 37 | n => n, fun | 9 => 9 | 3 => 3 | n => n, fun | n => n⟩
theorem Try.lays213 : Go.Proofs.Lays.n213 Try.prog Try.lays213_ren := {
  mixed := by kernel_rfl
  f213 := Try.func32.trans (congrArg some (by kernel_rfl))
  f265 := Try.func37.trans (congrArg some (by kernel_rfl))
  t3 := Try.underlying3
  a3 := Try.isAgg3
  z3 := Try.sizeOf3
  v3 := Try.zeroValue3
  t9 := Try.underlying9
  a9 := Try.isAgg9
  z9 := Try.sizeOf9
  v9 := Try.zeroValue9 }
open Go.RowKit in
/-- internal/bytealg.CompareString (what strings.Compare calls): IT RETURNS 'Lib.compareBytes a b'; the world is as it was. (LAID: no walk: one application.) -/
theorem Try.bytealg_CompareString (a b : ByteArray) (w : World) :
    Calls Try.prog 32 #[.string a, .string b] w fun e w' => e = .returned (.int .i64 (Lib.compareBytes a.data.toList b.data.toList)) ∧ w' = w := Any.bytealg_CompareString Try.lays213 a b w
def Try.lays106_ren : Go.Shelf.Ren := ⟨fun | 106 => 30 | 213 => 32 | 265 => 37 | n => n, fun | 9 => 9 | 3 => 3 | n => n, fun | n => n⟩
theorem Try.lays106 : Go.Proofs.Lays.n106 Try.prog Try.lays106_ren := {
  mixed := by kernel_rfl
  f106 := Try.func30.trans (congrArg some (by kernel_rfl))
  f213 := Try.func32.trans (congrArg some (by kernel_rfl))
  f265 := Try.func37.trans (congrArg some (by kernel_rfl))
  t3 := Try.underlying3
  a3 := Try.isAgg3
  z3 := Try.sizeOf3
  v3 := Try.zeroValue3
  t9 := Try.underlying9
  a9 := Try.isAgg9
  z9 := Try.sizeOf9
  v9 := Try.zeroValue9 }
open Go.RowKit in
/-- strings.Compare: "Compare returns an integer comparing two strings lexicographically. The result will be 0 if a == b, -1 if a < b, and +1 if a > b.": IT RETURNS 'Lib.compareBytes a b'; the world is as it was. (LAID: no walk: one application.) -/
theorem Try.strings_Compare (a b : ByteArray) (w : World) :
    Calls Try.prog 30 #[.string a, .string b] w fun e w' => e = .returned (.int .i64 (Lib.compareBytes a.data.toList b.data.toList)) ∧ w' = w := Any.strings_Compare Try.lays106 a b w
def Try.lays217_ren : Go.Shelf.Ren := ⟨fun | 217 => 33 | 266 => 38 | n => n, fun | 9 => 9 | 5 => 5 | 3 => 3 | n => n, fun | n => n⟩
theorem Try.lays217 : Go.Proofs.Lays.n217 Try.prog Try.lays217_ren := {
  mixed := by kernel_rfl
  f217 := Try.func33.trans (congrArg some (by kernel_rfl))
  f266 := Try.func38.trans (congrArg some (by kernel_rfl))
  t3 := Try.underlying3
  a3 := Try.isAgg3
  z3 := Try.sizeOf3
  v3 := Try.zeroValue3
  t5 := Try.underlying5
  a5 := Try.isAgg5
  z5 := Try.sizeOf5
  v5 := Try.zeroValue5
  t9 := Try.underlying9
  a9 := Try.isAgg9
  z9 := Try.sizeOf9
  v9 := Try.zeroValue9 }
open Go.RowKit Go.Lib in
/-- internal/stringslite.IndexByte (what strings.IndexByte calls): IT RETURNS 'Lib.indexByte s c'; the world is as it was. (LAID: no walk: one application.) -/
theorem Try.stringslite_IndexByte (s : ByteArray) (c : Int) (w : World) :
    Calls Try.prog 33 #[.string s, .int .u8 c] w fun e w' => e = .returned (.int .i64 (Lib.indexByte s.data.toList c.toNat.toUInt8)) ∧ w' = w := Any.stringslite_IndexByte Try.lays217 s c w
def Try.lays224_ren : Go.Shelf.Ren := ⟨fun | 224 => 35 | n => n, fun | 3 => 3 | n => n, fun | n => n⟩
theorem Try.lays224 : Go.Proofs.Lays.n224 Try.prog Try.lays224_ren := {
  mixed := by kernel_rfl
  f224 := Try.func35.trans (congrArg some (by kernel_rfl))
  t3 := Try.underlying3
  a3 := Try.isAgg3
  z3 := Try.sizeOf3
  v3 := Try.zeroValue3 }
open Go.RowKit Go.Lib in
/-- internal/bytealg.Cutover: "Cutover reports the number of failures of IndexByte we should tolerate before switching over to Index. n is the number of bytes processed so far.": on amd64: (n + 16) / 8. (LAID: no walk: one application.) -/
theorem Try.bytealg_Cutover (n : Int) (h0 : 0 ≤ n) (h1 : n < 4611686018427387904) (w : World) :
    Calls Try.prog 35 #[.int .i64 n] w fun e w' => e = .returned (.int .i64 ((n + 16) / 8)) ∧ w' = w := Any.bytealg_Cutover Try.lays224 n h0 h1 w
def Try.lays314_ren : Go.Shelf.Ren := ⟨fun | 314 => 39 | n => n, fun | 9 => 9 | 51 => 64 | 3 => 3 | 4 => 4 | 5 => 5 | 46 => 63 | n => n, fun | n => n⟩
theorem Try.lays314 : Go.Proofs.Lays.n314 Try.prog Try.lays314_ren := {
  mixed := by kernel_rfl
  f314 := Try.func39.trans (congrArg some (by kernel_rfl))
  t3 := Try.underlying3
  a3 := Try.isAgg3
  z3 := Try.sizeOf3
  v3 := Try.zeroValue3
  t4 := Try.underlying4
  a4 := Try.isAgg4
  z4 := Try.sizeOf4
  v4 := Try.zeroValue4
  t5 := Try.underlying5
  a5 := Try.isAgg5
  z5 := Try.sizeOf5
  v5 := Try.zeroValue5
  t9 := Try.underlying9
  a9 := Try.isAgg9
  z9 := Try.sizeOf9
  v9 := Try.zeroValue9
  t46 := Try.underlying63
  a46 := Try.isAgg63
  z46 := Try.sizeOf63
  v46 := Try.zeroValue63
  t51 := Try.underlying64
  a51 := Try.isAgg64
  z51 := Try.sizeOf64
  v51 := Try.zeroValue64 }
open Go.RowKit Go.Lib in
/-- hashStr: "returns the hash and the appropriate multiplicative factor for use in Rabin-Karp algorithm": THE HASH OF ALL OF sep, AND 16777619 ^ len(sep), both in uint32. (LAID: no walk: one application.) -/
theorem Try.bytealg_hashStr (sep : ByteArray) (hs : sep.size < 4294967281) (w : World) :
    Calls Try.prog 39 #[.string sep] w fun e w' => e = .returned (.tuple #[.int .u32 (RK.H sep.data.toList % 4294967296), .int .u32 (16777619 ^ sep.size % 4294967296)]) ∧ w' = w := Any.bytealg_hashStr Try.lays314 sep hs w
def Try.lays267_ren : Go.Shelf.Ren := ⟨fun | 267 => 36 | 314 => 39 | n => n, fun | 9 => 9 | 3 => 3 | 146 => 65 | 51 => 64 | 4 => 4 | 5 => 5 | 46 => 63 | n => n, fun | n => n⟩
theorem Try.lays267 : Go.Proofs.Lays.n267 Try.prog Try.lays267_ren := {
  mixed := by kernel_rfl
  f267 := Try.func36.trans (congrArg some (by kernel_rfl))
  f314 := Try.func39.trans (congrArg some (by kernel_rfl))
  t3 := Try.underlying3
  a3 := Try.isAgg3
  z3 := Try.sizeOf3
  v3 := Try.zeroValue3
  t4 := Try.underlying4
  a4 := Try.isAgg4
  z4 := Try.sizeOf4
  v4 := Try.zeroValue4
  t5 := Try.underlying5
  a5 := Try.isAgg5
  z5 := Try.sizeOf5
  v5 := Try.zeroValue5
  t9 := Try.underlying9
  a9 := Try.isAgg9
  z9 := Try.sizeOf9
  v9 := Try.zeroValue9
  t46 := Try.underlying63
  a46 := Try.isAgg63
  z46 := Try.sizeOf63
  v46 := Try.zeroValue63
  t51 := Try.underlying64
  a51 := Try.isAgg64
  z51 := Try.sizeOf64
  v51 := Try.zeroValue64
  t146 := Try.underlying65
  a146 := Try.isAgg65
  z146 := Try.sizeOf65
  v146 := Try.zeroValue65 }
open Go.RowKit Go.Lib in
theorem Try.bytealg_IndexRabinKarp (s sep : ByteArray) (h1 : 1 ≤ sep.size) (h2 : sep.size ≤ s.size) (hs : s.size < 4294967281) (w : World) :
    Calls Try.prog 36 #[.string s, .string sep] w fun e w' => e = .returned (.int .i64 (Lib.index s.data.toList sep.data.toList)) ∧ w' = w := Any.bytealg_IndexRabinKarp Try.lays267 s sep h1 h2 hs w
def Try.lays219_ren : Go.Shelf.Ren := ⟨fun | 219 => 31 | 217 => 33 | 225 => 34 | 224 => 35 | 267 => 36 | 266 => 38 | 314 => 39 | n => n, fun | 9 => 9 | 3 => 3 | 4 => 4 | 5 => 5 | 46 => 63 | 146 => 65 | 51 => 64 | n => n, fun | 1 => 0 | n => n⟩
theorem Try.lays219 : Go.Proofs.Lays.n219 Try.prog Try.lays219_ren := {
  mixed := by kernel_rfl
  f217 := Try.func33.trans (congrArg some (by kernel_rfl))
  f219 := Try.func31.trans (congrArg some (by kernel_rfl))
  f224 := Try.func35.trans (congrArg some (by kernel_rfl))
  f225 := Try.func34.trans (congrArg some (by kernel_rfl))
  f266 := Try.func38.trans (congrArg some (by kernel_rfl))
  f267 := Try.func36.trans (congrArg some (by kernel_rfl))
  f314 := Try.func39.trans (congrArg some (by kernel_rfl))
  t3 := Try.underlying3
  a3 := Try.isAgg3
  z3 := Try.sizeOf3
  v3 := Try.zeroValue3
  t4 := Try.underlying4
  a4 := Try.isAgg4
  z4 := Try.sizeOf4
  v4 := Try.zeroValue4
  t5 := Try.underlying5
  a5 := Try.isAgg5
  z5 := Try.sizeOf5
  v5 := Try.zeroValue5
  t9 := Try.underlying9
  a9 := Try.isAgg9
  z9 := Try.sizeOf9
  v9 := Try.zeroValue9
  t46 := Try.underlying63
  a46 := Try.isAgg63
  z46 := Try.sizeOf63
  v46 := Try.zeroValue63
  t51 := Try.underlying64
  a51 := Try.isAgg64
  z51 := Try.sizeOf64
  v51 := Try.zeroValue64
  t146 := Try.underlying65
  a146 := Try.isAgg65
  z146 := Try.sizeOf65
  v146 := Try.zeroValue65
  g1 := by kernel_rfl }
open Go.RowKit Go.Lib in
/-- internal/stringslite.Index (what strings.Index calls) AT A substr OF ONE BYTE c: IT RETURNS 'Lib.indexByte s c'; the world is as it was. (LAID: no walk: one application.) -/
theorem Try.stringslite_Index_one (s : ByteArray) (c : UInt8) (w : World) :
    Calls Try.prog 31 #[.string s, .string ⟨#[c]⟩] w fun e w' => e = .returned (.int .i64 (Lib.indexByte s.data.toList c)) ∧ w' = w := Any.stringslite_Index_one Try.lays219 s c w
open Go.RowKit Go.Lib in
/-- internal/stringslite.Index (what strings.Index calls) AT A substr OF WHATEVER LENGTH: IT RETURNS 'Lib.index s substr'; the world is as it was. 'm': what internal/bytealg.MaxLen holds: whatever. (LAID: no walk: one application.) -/
theorem Try.stringslite_Index (s sub : ByteArray) (m : Int) (w : World) (hs : s.size < 4294967281) (hm : w.cell? ⟨0, 0, none⟩ = some (.int .i64 m)) :
    Calls Try.prog 31 #[.string s, .string sub] w fun e w' => e = .returned (.int .i64 (Lib.index s.data.toList sub.data.toList)) ∧ w' = w := Any.stringslite_Index Try.lays219 s sub m w hs hm
def Try.lays143_ren : Go.Shelf.Ren := ⟨fun | 143 => 27 | 219 => 31 | 217 => 33 | 225 => 34 | 224 => 35 | 267 => 36 | 266 => 38 | 314 => 39 | n => n, fun | 9 => 9 | 3 => 3 | 4 => 4 | 5 => 5 | 46 => 63 | 146 => 65 | 51 => 64 | n => n, fun | 1 => 0 | n => n⟩
theorem Try.lays143 : Go.Proofs.Lays.n143 Try.prog Try.lays143_ren := {
  mixed := by kernel_rfl
  f143 := Try.func27.trans (congrArg some (by kernel_rfl))
  f217 := Try.func33.trans (congrArg some (by kernel_rfl))
  f219 := Try.func31.trans (congrArg some (by kernel_rfl))
  f224 := Try.func35.trans (congrArg some (by kernel_rfl))
  f225 := Try.func34.trans (congrArg some (by kernel_rfl))
  f266 := Try.func38.trans (congrArg some (by kernel_rfl))
  f267 := Try.func36.trans (congrArg some (by kernel_rfl))
  f314 := Try.func39.trans (congrArg some (by kernel_rfl))
  t3 := Try.underlying3
  a3 := Try.isAgg3
  z3 := Try.sizeOf3
  v3 := Try.zeroValue3
  t4 := Try.underlying4
  a4 := Try.isAgg4
  z4 := Try.sizeOf4
  v4 := Try.zeroValue4
  t5 := Try.underlying5
  a5 := Try.isAgg5
  z5 := Try.sizeOf5
  v5 := Try.zeroValue5
  t9 := Try.underlying9
  a9 := Try.isAgg9
  z9 := Try.sizeOf9
  v9 := Try.zeroValue9
  t46 := Try.underlying63
  a46 := Try.isAgg63
  z46 := Try.sizeOf63
  v46 := Try.zeroValue63
  t51 := Try.underlying64
  a51 := Try.isAgg64
  z51 := Try.sizeOf64
  v51 := Try.zeroValue64
  t146 := Try.underlying65
  a146 := Try.isAgg65
  z146 := Try.sizeOf65
  v146 := Try.zeroValue65
  g1 := by kernel_rfl }
open Go.RowKit Go.Lib in
/-- strings.Index: "Index returns the index of the first instance of substr in s, or -1 if substr is not present in s.": AT A substr OF ONE BYTE c: IT RETURNS 'Lib.indexByte s c'; the world is as it was. (LAID: no walk: one application.) -/
theorem Try.strings_Index_one (s : ByteArray) (c : UInt8) (w : World) :
    Calls Try.prog 27 #[.string s, .string ⟨#[c]⟩] w fun e w' => e = .returned (.int .i64 (Lib.indexByte s.data.toList c)) ∧ w' = w := Any.strings_Index_one Try.lays143 s c w
open Go.RowKit Go.Lib in
/-- strings.Index: "Index returns the index of the first instance of substr in s, or -1 if substr is not present in s.": IT RETURNS 'Lib.index s substr'; the world is as it was. (LAID: no walk: one application.) -/
theorem Try.strings_Index (s sub : ByteArray) (m : Int) (w : World) (hs : s.size < 4294967281) (hm : w.cell? ⟨0, 0, none⟩ = some (.int .i64 m)) :
    Calls Try.prog 27 #[.string s, .string sub] w fun e w' => e = .returned (.int .i64 (Lib.index s.data.toList sub.data.toList)) ∧ w' = w := Any.strings_Index Try.lays143 s sub m w hs hm
def Try.laysM219_ren : Go.Shelf.Ren := ⟨fun | 219 => 31 | 217 => 33 | 225 => 34 | 224 => 35 | 267 => 36 | 266 => 38 | 314 => 39 | n => n, fun | 9 => 9 | 3 => 3 | 4 => 4 | 5 => 5 | 46 => 63 | 146 => 65 | 51 => 64 | n => n, fun | 1 => 0 | n => n⟩
theorem Try.laysM219 : Go.Proofs.LaysM.n219 Try.prog Try.laysM219_ren := {
  mixed := by kernel_rfl
  f217 := Try.func33.trans (congrArg some (by kernel_rfl))
  f219 := Try.func31.trans (congrArg some (by kernel_rfl))
  f224 := Try.func35.trans (congrArg some (by kernel_rfl))
  f225 := Try.func34.trans (congrArg some (by kernel_rfl))
  f266 := Try.func38.trans (congrArg some (by kernel_rfl))
  f267 := Try.func36.trans (congrArg some (by kernel_rfl))
  f314 := Try.func39.trans (congrArg some (by kernel_rfl))
  t3 := Try.underlying3
  a3 := Try.isAgg3
  z3 := Try.sizeOf3
  v3 := Try.zeroValue3
  t4 := Try.underlying4
  a4 := Try.isAgg4
  z4 := Try.sizeOf4
  v4 := Try.zeroValue4
  t5 := Try.underlying5
  a5 := Try.isAgg5
  z5 := Try.sizeOf5
  v5 := Try.zeroValue5
  t9 := Try.underlying9
  a9 := Try.isAgg9
  z9 := Try.sizeOf9
  v9 := Try.zeroValue9
  t46 := Try.underlying63
  a46 := Try.isAgg63
  z46 := Try.sizeOf63
  v46 := Try.zeroValue63
  t51 := Try.underlying64
  a51 := Try.isAgg64
  z51 := Try.sizeOf64
  v51 := Try.zeroValue64
  t146 := Try.underlying65
  a146 := Try.isAgg65
  z146 := Try.sizeOf65
  v146 := Try.zeroValue65
  g1 := by kernel_rfl
  i3 := by kernel_rfl
  i4 := by kernel_rfl
  i5 := by kernel_rfl
  i9 := by kernel_rfl
  i46 := by kernel_rfl
  i51 := by kernel_rfl
  i146 := by kernel_rfl
  m1 := by kernel_rfl
  s1_3 := fun w h => Go.Proofs.cell_of_shapedOpen_int (zero := #[.int .i64 0]) (t := 3) h (of_decide_eq_true (by kernel_rfl)) (by kernel_rfl) rfl (by kernel_rfl) (by kernel_rfl) Try.underlying3 }
open Go.RowKit Go.Lib in
theorem Try.stringslite_Index_shaped (s sub : ByteArray) (w : World) (h : w.ShapedOpen Try.prog) (hs : s.size < 4294967281) :
    Calls Try.prog 31 #[.string s, .string sub] w fun e w' => e = .returned (.int .i64 (Lib.index s.data.toList sub.data.toList)) ∧ w' = w := Any.stringslite_Index_shaped Try.laysM219 s sub w h hs
def Try.laysM143_ren : Go.Shelf.Ren := ⟨fun | 143 => 27 | 219 => 31 | 217 => 33 | 225 => 34 | 224 => 35 | 267 => 36 | 266 => 38 | 314 => 39 | n => n, fun | 9 => 9 | 3 => 3 | 4 => 4 | 5 => 5 | 46 => 63 | 146 => 65 | 51 => 64 | n => n, fun | 1 => 0 | n => n⟩
theorem Try.laysM143 : Go.Proofs.LaysM.n143 Try.prog Try.laysM143_ren := {
  mixed := by kernel_rfl
  f143 := Try.func27.trans (congrArg some (by kernel_rfl))
  f217 := Try.func33.trans (congrArg some (by kernel_rfl))
  f219 := Try.func31.trans (congrArg some (by kernel_rfl))
  f224 := Try.func35.trans (congrArg some (by kernel_rfl))
  f225 := Try.func34.trans (congrArg some (by kernel_rfl))
  f266 := Try.func38.trans (congrArg some (by kernel_rfl))
  f267 := Try.func36.trans (congrArg some (by kernel_rfl))
  f314 := Try.func39.trans (congrArg some (by kernel_rfl))
  t3 := Try.underlying3
  a3 := Try.isAgg3
  z3 := Try.sizeOf3
  v3 := Try.zeroValue3
  t4 := Try.underlying4
  a4 := Try.isAgg4
  z4 := Try.sizeOf4
  v4 := Try.zeroValue4
  t5 := Try.underlying5
  a5 := Try.isAgg5
  z5 := Try.sizeOf5
  v5 := Try.zeroValue5
  t9 := Try.underlying9
  a9 := Try.isAgg9
  z9 := Try.sizeOf9
  v9 := Try.zeroValue9
  t46 := Try.underlying63
  a46 := Try.isAgg63
  z46 := Try.sizeOf63
  v46 := Try.zeroValue63
  t51 := Try.underlying64
  a51 := Try.isAgg64
  z51 := Try.sizeOf64
  v51 := Try.zeroValue64
  t146 := Try.underlying65
  a146 := Try.isAgg65
  z146 := Try.sizeOf65
  v146 := Try.zeroValue65
  g1 := by kernel_rfl
  i3 := by kernel_rfl
  i4 := by kernel_rfl
  i5 := by kernel_rfl
  i9 := by kernel_rfl
  i46 := by kernel_rfl
  i51 := by kernel_rfl
  i146 := by kernel_rfl
  m1 := by kernel_rfl
  s1_3 := fun w h => Go.Proofs.cell_of_shapedOpen_int (zero := #[.int .i64 0]) (t := 3) h (of_decide_eq_true (by kernel_rfl)) (by kernel_rfl) rfl (by kernel_rfl) (by kernel_rfl) Try.underlying3 }
open Go.RowKit Go.Lib in
theorem Try.strings_Index_shaped (s sub : ByteArray) (w : World) (h : w.ShapedOpen Try.prog) (hs : s.size < 4294967281) :
    Calls Try.prog 27 #[.string s, .string sub] w fun e w' => e = .returned (.int .i64 (Lib.index s.data.toList sub.data.toList)) ∧ w' = w := Any.strings_Index_shaped Try.laysM143 s sub w h hs
end Go.Proofs

namespace Go.Proofs.Yteackdafggomhaa
open Go.RowKit

theorem lt_of_cell {w : World} {g i : Nat} {v : Value} (h : w.cell? ⟨g, i, none⟩ = some v) : g < w.heap.size := by
  rcases Nat.lt_or_ge g w.heap.size with hlt | hge
  · exact hlt
  · simp [World.cell?, Array.getElem?_eq_none hge] at h

theorem below_grow {B : Nat} {a w : World} (h : Below B a w) (hB : B ≤ w.heap.size) (os : Array Obj) : Below B a (Sort.grow w os) :=
  ⟨h.os, h.tape, h.output, by have := h.size; simp [Sort.grow]; omega, fun i hi => by
    rw [← h.block i hi]
    simp [Sort.grow, Array.getElem?_append, show i < w.heap.size from by omega]⟩

end Go.Proofs.Yteackdafggomhaa

namespace Go.Proofs.Yteackdafggomhaa
open Go.RowKit

/-- The tables that the laws' first call reads. -/
structure Laid (w : World) : Prop where
  halves : Lib.TabIs Try.prog w "bedrock/raw.halves" .u32 halvesL
  pow10 : Lib.TabIs Try.prog w "internal/strconv.uint64pow10" .u64 Lib.pow10Tab

theorem crc_9 : crc [49, 50, 51, 52, 53, 54, 55, 56, 57] = 3808858755 := by decide +kernel
theorem itoa_50 : Lib.itoa (-50) = [45, 53, 48] := by decide +kernel
theorem gv_300 : gv [172, 2, 120] 0 0 = .ok 300 2 := by rfl
theorem be_258 : be 258 2 = [1, 2] := by decide +kernel

end Go.Proofs.Yteackdafggomhaa

namespace Go.Proofs.Yteackdafggomhaa
open Go.RowKit

theorem gv_begin (l : List UInt8) : ∀ i v, (∀ c ∈ l, 128 ≤ c.toNat) → i + l.length < 9 → gv l i v = .err 3 := by
  induction l with
  | nil => intro i v _ h; exact gv_short _ _ _ (by simpa using h) rfl
  | cons c r ih =>
    intro i v hc hl
    rw [List.length_cons] at hl
    have hc' := hc c (by simp)
    rw [gv, if_neg (by omega), if_pos hc']
    exact ih _ _ (fun d hd => hc d (by simp [hd])) (by omega)

theorem pv_high (v : Nat) : ∀ i < (pv v).length, ∀ c ∈ (pv v).take i, 128 ≤ c.toNat := by
  induction v using Nat.strongRecOn with
  | _ v ih =>
    intro i hi c hc
    by_cases h : v < 128
    · rw [pv_last v h] at hi hc
      obtain rfl : i = 0 := by simpa using hi
      simp at hc
    · rw [pv_more v (by omega)] at hi hc
      match i, hc with
      | 0, hc => simp at hc
      | i + 1, hc =>
        rw [List.take_succ_cons, List.mem_cons] at hc
        rcases hc with rfl | hc
        · rw [UInt8.toNat_ofNat']; omega
        · exact ih (v / 128) (by omega) i (by simpa using hi) c hc

theorem pv_len (k v : Nat) (h : v < 2 ^ (7 * k)) (hk : 1 ≤ k) : (pv v).length ≤ k := by
  induction k generalizing v with
  | zero => omega
  | succ k ih =>
    by_cases hv : v < 128
    · rw [pv_last v hv]; simp
    · rw [pv_more v (by omega), List.length_cons]
      rcases Nat.eq_zero_or_pos k with h0 | h0
      · subst h0; simp at h; omega
      · have h2 : 2 ^ (7 * (k + 1)) = 128 * 2 ^ (7 * k) := by rw [Nat.mul_add, Nat.pow_add]; omega
        have := ih (v / 128) (by rw [Nat.div_lt_iff_lt_mul (by decide)]; omega) h0
        omega
theorem pv_pos (v : Nat) : 1 ≤ (pv v).length := by
  by_cases hv : v < 128
  · rw [pv_last v hv]; simp
  · rw [pv_more v (by omega)]; simp
theorem pv_len9 (v : Nat) (h : v < 9223372036854775808) : (pv v).length ≤ 9 := pv_len 9 v (by omega) (by decide)

theorem gv_pv (r : List UInt8) (u : Nat) : ∀ i a, i + (pv u).length ≤ 9 → (0 < i → 0 < u) → gv (pv u ++ r) i a = .ok (a + u * 2 ^ (7 * i)) (i + (pv u).length) := by
  induction u using Nat.strongRecOn with
  | _ u ih =>
    intro i a hi h0
    by_cases h : u < 128
    · rw [pv_last u h] at hi ⊢
      rw [List.length_singleton] at hi ⊢
      have e : (UInt8.ofNat u).toNat = u := by rw [UInt8.toNat_ofNat']; omega
      show gv (UInt8.ofNat u :: r) i a = _
      rw [gv, e, if_neg (by omega), if_neg (by omega), if_neg (by omega), Nat.mod_eq_of_lt h]
    · have hp := pv_more u (by omega)
      rw [hp] at hi ⊢
      rw [List.length_cons] at hi ⊢
      have hq := pv_pos (u / 128)
      have e : (UInt8.ofNat (u % 128 + 128)).toNat = u % 128 + 128 := by rw [UInt8.toNat_ofNat']; omega
      rw [List.cons_append, gv, e, if_neg (by omega), if_pos (by omega), ih (u / 128) (by omega) (i + 1) _ (by omega) (fun _ => by omega)]
      have e2 : (u % 128 + 128) % 128 = u % 128 := by omega
      have e3 : 2 ^ (7 * (i + 1)) = 128 * 2 ^ (7 * i) := by rw [Nat.mul_add, Nat.pow_add]; omega
      have e4 : u % 128 * 2 ^ (7 * i) + u / 128 * (128 * 2 ^ (7 * i)) = u * 2 ^ (7 * i) := by
        rw [← Nat.mul_assoc, ← Nat.add_mul]
        congr 1
        omega
      rw [e2, e3]
      congr 1
      · omega
      · omega



end Go.Proofs.Yteackdafggomhaa

namespace Go.Proofs.Yteackdafggomhaa
open Go.RowKit

set_option maxHeartbeats 400000 in
theorem compare_any (a b : ByteArray) (w : World) :
    Calls Try.prog 25 #[.string a, .string b] w fun e w' => e = .returned (.int .i64 (Lib.compareBytes a.data.toList b.data.toList)) ∧ w = w' := by
  go_enter Try.func25, Try.ntmps25
  go_wp2_with fail
  refine (Try.strings_Compare a b w).mono ?_
  rintro e w' ⟨rfl, rfl⟩
  go_wp2
  go_ret
  exact ⟨rfl, rfl⟩


/-! ### The order of bytes -/
theorem cmp_range (a b : List UInt8) : -1 ≤ Lib.compareBytes a b ∧ Lib.compareBytes a b ≤ 1 := by
  fun_induction Lib.compareBytes a b <;> first | omega | assumption
theorem cmp_swap (a b : List UInt8) : Lib.compareBytes b a = -Lib.compareBytes a b := by
  fun_induction Lib.compareBytes a b with
  | case1 => rfl
  | case2 => rfl
  | case3 => rfl
  | case4 x l y r h => rw [Lib.compareBytes, if_neg (by simp only [UInt8.lt_iff_toNat_lt] at *; omega), if_pos h]; rfl
  | case5 x l y r h h' => rw [Lib.compareBytes, if_pos h']
  | case6 x l y r h h' ih => rw [Lib.compareBytes, if_neg h', if_neg h, ih]
theorem cmp_eq (a b : List UInt8) : Lib.compareBytes a b = 0 ↔ a = b := by
  fun_induction Lib.compareBytes a b with
  | case1 => simp
  | case2 => simp
  | case3 => simp
  | case4 x l y r h => exact ⟨fun e => absurd e (by decide), fun e => by injection e with e1 _; subst e1; simp only [UInt8.lt_iff_toNat_lt] at h; omega⟩
  | case5 x l y r h h' => exact ⟨fun e => absurd e (by decide), fun e => by injection e with e1 _; subst e1; simp only [UInt8.lt_iff_toNat_lt] at h'; omega⟩
  | case6 x l y r h h' ih =>
    have e : x = y := by
      apply UInt8.toNat_inj.1
      simp only [UInt8.lt_iff_toNat_lt] at *
      omega
    rw [ih]; simp [e]
theorem cmp_trans (a b c : List UInt8) : Lib.compareBytes a b ≤ 0 → Lib.compareBytes b c ≤ 0 → Lib.compareBytes a c ≤ 0 ∧ (Lib.compareBytes a b < 0 → Lib.compareBytes a c < 0) := by
  fun_induction Lib.compareBytes a b generalizing c with
  | case1 => intro _ h; exact ⟨h, fun h => absurd h (by decide)⟩
  | case2 y bs =>
    intro _ h
    cases c with
    | nil => simp [Lib.compareBytes] at h
    | cons z cs => simp [Lib.compareBytes]
  | case3 => intro h; exact absurd h (by decide)
  | case4 x l y r h =>
    intro _ h2
    cases c with
    | nil => simp [Lib.compareBytes] at h2
    | cons z cs =>
      have hxz : x < z := by
        rw [Lib.compareBytes] at h2
        simp only [UInt8.lt_iff_toNat_lt] at *
        split at h2
        · omega
        · split at h2
          · exact absurd h2 (by decide)
          · omega
      rw [Lib.compareBytes, if_pos hxz]
      decide
  | case5 x l y r h h' => intro h; exact absurd h (by decide)
  | case6 x l y r h h' ih =>
    have e : x = y := by
      apply UInt8.toNat_inj.1
      simp only [UInt8.lt_iff_toNat_lt] at *
      omega
    subst e
    intro h1 h2
    cases c with
    | nil => simp [Lib.compareBytes] at h2
    | cons z cs =>
      rw [Lib.compareBytes] at h2 ⊢
      split
      · exact ⟨by decide, fun _ => by decide⟩
      · rename_i h3
        rw [if_neg h3] at h2
        split
        · rename_i h4; rw [if_pos h4] at h2; exact absurd h2 (by decide)
        · rename_i h4; rw [if_neg h4] at h2; exact ih cs h1 h2

theorem be_succ (v n : Nat) : be v (n + 1) = UInt8.ofNat (v / 2 ^ (8 * n) % 256) :: be v n := by
  unfold be
  rw [List.range_succ_eq_map, List.map_cons, List.map_map]
  congr 1
  apply List.map_congr_left
  intro i _
  simp only [Function.comp]
  rw [show n + 1 - 1 - i.succ = n - 1 - i from by omega]
theorem be_mod (v n : Nat) : be v n = be (v % 2 ^ (8 * n)) n := by
  unfold be
  apply List.map_congr_left
  intro i hi
  have hi : i < n := List.mem_range.1 hi
  have e : 2 ^ (8 * n) = 2 ^ (8 * (n - 1 - i)) * (256 * 2 ^ (8 * i)) := by
    rw [show (256 : Nat) = 2 ^ 8 from rfl, ← Nat.pow_add, ← Nat.pow_add]
    congr 1
    omega
  have e2 : v % 2 ^ (8 * n) / 2 ^ (8 * (n - 1 - i)) = v / 2 ^ (8 * (n - 1 - i)) % (256 * 2 ^ (8 * i)) := by rw [e, Nat.mod_mul_right_div_self]
  rw [e2, Nat.mod_mul_right_mod]
theorem be_cmp (n : Nat) : ∀ v u : Nat, v < 2 ^ (8 * n) → u < 2 ^ (8 * n) → Lib.compareBytes (be v n) (be u n) = if v < u then -1 else if v = u then 0 else 1 := by
  induction n with
  | zero =>
    intro v u hv hu
    have hv : v < 1 := hv
    have hu : u < 1 := hu
    obtain rfl : v = 0 := by omega
    obtain rfl : u = 0 := by omega
    rfl
  | succ n ih =>
    intro v u hv hu
    have hp : 2 ^ (8 * (n + 1)) = 256 * 2 ^ (8 * n) := by rw [Nat.mul_add, Nat.pow_add, Nat.mul_comm]
    have hv1 : v / 2 ^ (8 * n) < 256 := by rw [Nat.div_lt_iff_lt_mul (Nat.two_pow_pos _)]; omega
    have hu1 : u / 2 ^ (8 * n) < 256 := by rw [Nat.div_lt_iff_lt_mul (Nat.two_pow_pos _)]; omega
    have hm := ih (v % 2 ^ (8 * n)) (u % 2 ^ (8 * n)) (Nat.mod_lt _ (Nat.two_pow_pos _)) (Nat.mod_lt _ (Nat.two_pow_pos _))
    rw [← be_mod, ← be_mod] at hm
    rw [be_succ, be_succ, Lib.compareBytes, hm]
    have hvd := Nat.div_add_mod v (2 ^ (8 * n))
    have hud := Nat.div_add_mod u (2 ^ (8 * n))
    have hvl := Nat.mod_lt v (Nat.two_pow_pos (8 * n))
    have hul := Nat.mod_lt u (Nat.two_pow_pos (8 * n))
    generalize v / 2 ^ (8 * n) = A at *
    generalize u / 2 ^ (8 * n) = B at *
    generalize v % 2 ^ (8 * n) = C at *
    generalize u % 2 ^ (8 * n) = D at *
    generalize 2 ^ (8 * n) = M at *
    have hA : (UInt8.ofNat (A % 256)).toNat = A := by rw [UInt8.toNat_ofNat']; omega
    have hB : (UInt8.ofNat (B % 256)).toNat = B := by rw [UInt8.toNat_ofNat']; omega
    simp only [UInt8.lt_iff_toNat_lt, hA, hB]
    rcases Nat.lt_trichotomy A B with h | h | h
    · have h2 : M * A + M ≤ M * B := by rw [← Nat.mul_succ]; exact Nat.mul_le_mul_left _ h
      rw [if_pos h, if_pos (by omega)]
    · subst h
      rw [if_neg (by omega), if_neg (by omega)]
      by_cases h1 : C < D
      · rw [if_pos h1, if_pos (by omega)]
      · by_cases h2 : C = D
        · rw [if_neg h1, if_pos h2, if_neg (by omega), if_pos (by omega)]
        · rw [if_neg h1, if_neg h2, if_neg (by omega), if_neg (by omega)]
    · have h2 : M * B + M ≤ M * A := by rw [← Nat.mul_succ]; exact Nat.mul_le_mul_left _ h
      rw [if_neg (by omega), if_pos h, if_neg (by omega), if_neg (by omega)]

/-- What Put answers. -/
def PutIs (v n : Int) (s : ByteArray) (er : Int) : Prop :=
  (er = 0 ∧ 1 ≤ n ∧ n ≤ 7 ∧ 0 ≤ v ∧ v < 2 ^ (8 * n.toNat) ∧ s = ⟨(be v.toNat n.toNat).toArray⟩) ∨ (er = 1 ∧ s = ByteArray.empty ∧ (n < 1 ∨ 7 < n ∨ v < 0 ∨ 2 ^ (8 * n.toNat) ≤ v))

theorem put_cmp {v u n : Int} {s t : ByteArray} (hs : PutIs v n s 0) (ht : PutIs u n t 0) :
    (v < u ∧ Lib.compareBytes s.data.toList t.data.toList = -1) ∨ (v = u ∧ Lib.compareBytes s.data.toList t.data.toList = 0) ∨ (u < v ∧ Lib.compareBytes s.data.toList t.data.toList = 1) := by
  rcases hs with ⟨_, h1, h2, h3, h4, rfl⟩ | ⟨h, _⟩
  · rcases ht with ⟨_, _, _, g3, g4, rfl⟩ | ⟨h, _⟩
    · obtain ⟨v, rfl⟩ := Int.eq_ofNat_of_zero_le h3
      obtain ⟨u, rfl⟩ := Int.eq_ofNat_of_zero_le g3
      have a4 : v < 2 ^ (8 * n.toNat) := by exact_mod_cast h4
      have b4 : u < 2 ^ (8 * n.toNat) := by exact_mod_cast g4
      have := be_cmp n.toNat v u a4 b4
      simp only [Int.toNat_natCast]
      rw [this]
      rcases Nat.lt_trichotomy v u with h | h | h
      · exact .inl ⟨by omega, by rw [if_pos h]⟩
      · exact .inr (.inl ⟨by omega, by rw [if_neg (by omega), if_pos h]⟩)
      · exact .inr (.inr ⟨by omega, by rw [if_neg (by omega), if_neg (by omega)]⟩)
    · exact absurd h (by decide)
  · exact absurd h (by decide)

end Go.Proofs.Yteackdafggomhaa

namespace Go.Proofs.Yteackdafggomhaa
open Go.RowKit

theorem cmp9_cons (a b : UInt8) (r t : List UInt8) : Lib.compareBytes (a :: r) (b :: t) = if a.toNat < b.toNat then -1 else if b.toNat < a.toNat then 1 else Lib.compareBytes r t := by
  rw [Lib.compareBytes]
  simp only [UInt8.lt_iff_toNat_lt]
/-- The order of two texts, by their bytes. -/
def cmpT (a b : ByteArray) : Int := Lib.compareBytes a.data.toList b.data.toList

theorem cmpT_range (a b : ByteArray) : -1 ≤ cmpT a b ∧ cmpT a b ≤ 1 := cmp_range _ _
theorem cmpT_swap (a b : ByteArray) : cmpT b a = -cmpT a b := cmp_swap _ _
theorem cmpT_eq (a b : ByteArray) : cmpT a b = 0 ↔ a = b := by
  unfold cmpT
  rw [cmp_eq]
  exact ⟨fun h => ByteArray.ext (Array.toList_inj.1 h), fun h => by rw [h]⟩
theorem cmpT_trans {a b c : ByteArray} (h : cmpT a b < 0) (h' : cmpT b c < 0) : cmpT a c < 0 := (cmp_trans _ _ _ (by unfold cmpT at h; omega) (by unfold cmpT at h'; omega)).2 h
theorem cmpT_le_lt {a b c : ByteArray} (h : cmpT a b ≤ 0) (h' : cmpT b c < 0) : cmpT a c < 0 := by
  by_cases e : cmpT a b = 0
  · rw [(cmpT_eq a b).1 e]; exact h'
  · exact cmpT_trans (by omega) h'
theorem cmpT_ge_gt {a b c : ByteArray} (h : 0 ≤ cmpT a c) (h' : cmpT a b < 0) : 0 < cmpT b c := by
  have h1 := cmpT_swap a c
  have h2 := cmpT_swap b c
  have h3 : cmpT c b < 0 := cmpT_le_lt (by omega) h'
  omega
end Go.Proofs.Yteackdafggomhaa

namespace Go.Proofs.Yteackdafggomhaa
open Go.RowKit

/-- A pair. -/
abbrev KV := ByteArray × ByteArray
abbrev bl (s : ByteArray) : List UInt8 := s.data.toList
theorem bl_len (s : ByteArray) : (bl s).length = s.size := rfl
theorem bl_mk (l : List UInt8) : bl ⟨l.toArray⟩ = l := rfl
theorem bl_inj {a b : ByteArray} (h : bl a = bl b) : a = b := by
  cases a; cases b
  have := Array.toList_inj.1 h
  simpa using this

/-- How many bytes two texts have in common at their beginnings. -/
def comL : List UInt8 → List UInt8 → Nat
  | a :: x, b :: y => if a = b then comL x y + 1 else 0
  | _, _ => 0
theorem comL_le : ∀ a b : List UInt8, comL a b ≤ a.length ∧ comL a b ≤ b.length
  | [], b => by cases b <;> simp [comL]
  | a :: x, [] => by simp [comL]
  | a :: x, b :: y => by
    have := comL_le x y
    rw [comL]
    split <;> simp <;> omega
theorem comL_take : ∀ a b : List UInt8, a.take (comL a b) = b.take (comL a b)
  | [], b => by cases b <;> simp [comL]
  | a :: x, [] => by simp [comL]
  | a :: x, b :: y => by
    rw [comL]
    split
    · rename_i h
      rw [List.take_succ_cons, List.take_succ_cons, comL_take x y, h]
    · simp
theorem comL_step (a b : List UInt8) (k : Nat) (ha : k < a.length) (hb : k < b.length) (h : a[k] = b[k]) : comL (a.drop k) (b.drop k) = comL (a.drop (k + 1)) (b.drop (k + 1)) + 1 := by
  rw [List.drop_eq_getElem_cons ha, List.drop_eq_getElem_cons hb, comL, if_pos h]
theorem comL_stop (a b : List UInt8) (k : Nat) (h : a.length ≤ k ∨ b.length ≤ k ∨ ∃ (ha : k < a.length) (hb : k < b.length), a[k] ≠ b[k]) : comL (a.drop k) (b.drop k) = 0 := by
  rcases h with h | h | ⟨ha, hb, h⟩
  · rw [List.drop_eq_nil_of_le h]; cases b.drop k <;> simp [comL]
  · rw [List.drop_eq_nil_of_le h]; cases a.drop k <;> simp [comL]
  · rw [List.drop_eq_getElem_cons ha, List.drop_eq_getElem_cons hb, comL, if_neg h]

/-- How many bytes the pair number i takes from the key ahead. -/
def comI (i : Nat) (prev k : List UInt8) : Nat := if i % 8 = 0 then 0 else comL k prev
theorem comI_le (i : Nat) (prev k : List UInt8) : comI i prev k ≤ k.length ∧ comI i prev k ≤ prev.length := by
  unfold comI
  split
  · exact ⟨Nat.zero_le _, Nat.zero_le _⟩
  · exact comL_le k prev
theorem comI_take (i : Nat) (prev k : List UInt8) : prev.take (comI i prev k) ++ k.drop (comI i prev k) = k := by
  unfold comI
  split
  · simp
  · rw [← comL_take k prev]; exact List.take_append_drop _ _
/-- The bytes of the pair number i. -/
def onePair (i : Nat) (prev k v : List UInt8) : List UInt8 :=
  pv (comI i prev k) ++ (pv (k.length - comI i prev k) ++ (pv v.length ++ (k.drop (comI i prev k) ++ v)))
/-- The bytes of pairs, from number i on. -/
def bodyL : Nat → List UInt8 → List KV → List UInt8
  | _, _, [] => []
  | i, prev, m :: r => onePair i prev (bl m.1) (bl m.2) ++ bodyL (i + 1) (bl m.1) r
/-- The last key. -/
def lastK (prev : List UInt8) : List KV → List UInt8
  | [] => prev
  | m :: r => lastK (bl m.1) r
theorem lastK_snoc (l : List KV) (m : KV) : ∀ prev, lastK prev (l ++ [m]) = bl m.1 := by
  induction l with
  | nil => intro prev; rfl
  | cons x r ih => intro prev; exact ih _
theorem bodyL_snoc (l : List KV) (m : KV) : ∀ i prev, bodyL i prev (l ++ [m]) = bodyL i prev l ++ onePair (i + l.length) (lastK prev l) (bl m.1) (bl m.2) := by
  induction l with
  | nil => intro i prev; simp [bodyL, lastK]
  | cons x r ih =>
    intro i prev
    rw [List.cons_append, bodyL, ih, bodyL, List.append_assoc, lastK, List.length_cons]
    rw [show i + 1 + r.length = i + (r.length + 1) from by omega]

/-- The pairs that bytes tell, from the last key on. -/
def readL : Nat → List UInt8 → List UInt8 → Option (List KV)
  | _, _, [] => some []
  | 0, _, _ :: _ => none
  | f + 1, last, c :: r =>
    match gv (c :: r) 0 0 with
    | .err _ => none
    | .ok x n1 => match gv ((c :: r).drop n1) 0 0 with
      | .err _ => none
      | .ok y n2 => match gv (((c :: r).drop n1).drop n2) 0 0 with
        | .err _ => none
        | .ok z n3 =>
          if last.length < x ∨ ((((c :: r).drop n1).drop n2).drop n3).length < y ∨ ((((c :: r).drop n1).drop n2).drop n3).length - y < z then none
          else (readL f (last.take x ++ ((((c :: r).drop n1).drop n2).drop n3).take y) (((((c :: r).drop n1).drop n2).drop n3).drop (y + z))).map
            fun q => (⟨(last.take x ++ ((((c :: r).drop n1).drop n2).drop n3).take y).toArray⟩, ⟨(((((c :: r).drop n1).drop n2).drop n3).drop y |>.take z).toArray⟩) :: q
theorem gv_pv0 (r : List UInt8) (u : Nat) (h : u < 9223372036854775808) : gv (pv u ++ r) 0 0 = .ok u (pv u).length := by
  have := gv_pv r u 0 0 (by have := pv_len9 u h; omega) (by omega)
  rw [this]
  congr 1 <;> omega
/-- Pairs whose sizes Go can hold. -/
def okP (l : List KV) : Prop := ∀ m ∈ l, m.1.size < 9223372036854775808 ∧ m.2.size < 9223372036854775808
/-- What pairs are as bytes is read as these pairs. -/
theorem readL_body : ∀ (l : List KV) (i f : Nat) (prev : List UInt8), okP l → l.length ≤ f → prev.length < 9223372036854775808 → readL f prev (bodyL i prev l) = some l := by
  intro l
  induction l with
  | nil => intro i f prev _ _ _; cases f <;> rfl
  | cons m l ih =>
    intro i f prev hok hf hp
    obtain ⟨f, rfl⟩ : ∃ g, f = g + 1 := ⟨f - 1, by simp at hf; omega⟩
    obtain ⟨h1, h2⟩ := hok m (List.mem_cons_self ..)
    obtain ⟨c1, c2⟩ := comI_le i prev (bl m.1)
    have ht := comI_take i prev (bl m.1)
    have hl1 : (bl m.1).length = m.1.size := rfl
    have hl2 : (bl m.2).length = m.2.size := rfl
    obtain ⟨n, hn⟩ : ∃ n, comI i prev (bl m.1) = n := ⟨_, rfl⟩
    obtain ⟨R, hR⟩ : ∃ R, bodyL (i + 1) (bl m.1) l = R := ⟨_, rfl⟩
    have hih := ih (i + 1) f (bl m.1) (fun x hx => hok x (List.mem_cons_of_mem _ hx)) (by simpa using hf) (by omega)
    rw [hR] at hih
    rw [bodyL, hR, onePair, hn]
    rw [hn] at c1 c2 ht
    have hpos := pv_pos n
    obtain ⟨B, hB⟩ : ∃ B, pv n ++ (pv ((bl m.1).length - n) ++ (pv (bl m.2).length ++ ((bl m.1).drop n ++ bl m.2))) ++ R = B := ⟨_, rfl⟩
    have g1 : gv B 0 0 = .ok n (pv n).length := by rw [← hB, List.append_assoc]; exact gv_pv0 _ n (by omega)
    have e1 : B.drop (pv n).length = pv ((bl m.1).length - n) ++ (pv (bl m.2).length ++ ((bl m.1).drop n ++ (bl m.2 ++ R))) := by
      rw [← hB, List.append_assoc, List.drop_append_of_le_length (Nat.le_refl _), List.drop_length]; simp
    have g2 : gv (B.drop (pv n).length) 0 0 = .ok ((bl m.1).length - n) (pv ((bl m.1).length - n)).length := by rw [e1]; exact gv_pv0 _ _ (by omega)
    have e2 : (B.drop (pv n).length).drop (pv ((bl m.1).length - n)).length = pv (bl m.2).length ++ ((bl m.1).drop n ++ (bl m.2 ++ R)) := by
      rw [e1, List.drop_append_of_le_length (Nat.le_refl _), List.drop_length]; simp
    have g3 : gv ((B.drop (pv n).length).drop (pv ((bl m.1).length - n)).length) 0 0 = .ok (bl m.2).length (pv (bl m.2).length).length := by rw [e2]; exact gv_pv0 _ _ (by omega)
    have e3 : ((B.drop (pv n).length).drop (pv ((bl m.1).length - n)).length).drop (pv (bl m.2).length).length = (bl m.1).drop n ++ (bl m.2 ++ R) := by
      rw [e2, List.drop_append_of_le_length (Nat.le_refl _), List.drop_length]; simp
    have hBne : B ≠ [] := by
      intro h
      have := congrArg List.length hB
      rw [h] at this
      simp only [List.length_append, List.length_nil] at this
      omega
    rw [hB]
    obtain ⟨c, r, rfl⟩ := List.exists_cons_of_ne_nil hBne
    rw [readL, g1]
    dsimp only
    rw [g2]
    dsimp only
    rw [g3]
    dsimp only
    rw [e3]
    have hd : ((bl m.1).drop n).length = (bl m.1).length - n := List.length_drop ..
    rw [if_neg (by simp; omega)]
    have t1 : ((bl m.1).drop n ++ (bl m.2 ++ R)).take ((bl m.1).length - n) = (bl m.1).drop n := by rw [← hd]; exact List.take_left
    have t2 : ((bl m.1).drop n ++ (bl m.2 ++ R)).drop ((bl m.1).length - n) = bl m.2 ++ R := by rw [← hd]; exact List.drop_left
    have t3 : ((bl m.1).drop n ++ (bl m.2 ++ R)).drop ((bl m.1).length - n + (bl m.2).length) = R := by
      rw [← List.drop_drop, t2]; exact List.drop_left
    rw [t1, t2, t3, ht, hih, List.take_left]
    rfl

/-- The bytes of a block. -/
def blkL (l : List KV) : List UInt8 := (bodyL 0 [] l ++ be l.length 4) ++ be (crc (bodyL 0 [] l ++ be l.length 4)) 4
theorem blkL_length (l : List KV) : (blkL l).length = (bodyL 0 [] l).length + 8 := by
  unfold blkL
  rw [List.length_append, List.length_append, be_length, be_length]
theorem blkL_body (l : List KV) : (blkL l).take ((blkL l).length - 8) = bodyL 0 [] l := by
  rw [blkL_length, Nat.add_sub_cancel]
  unfold blkL
  rw [List.append_assoc]
  exact List.take_left
/-- Do the keys rise? -/
def risesK : List KV → Bool
  | a :: b :: r => decide (cmpT a.1 b.1 < 0) && risesK (b :: r)
  | _ => true
/-- Is a key or a value too long? -/
def longK (l : List KV) : Bool := l.any fun m => decide (65536 < m.1.size) || decide (65536 < m.2.size)
/-- What Build answers. -/
def buildP (l : List KV) : ByteArray × Int :=
  if risesK l = false then (ByteArray.empty, 32) else if longK l = true then (ByteArray.empty, 2) else if 524288 < (blkL l).length then (ByteArray.empty, 2) else (⟨(blkL l).toArray⟩, 0)
theorem buildP_ok {l : List KV} {b : ByteArray} (h : buildP l = (b, 0)) : risesK l = true ∧ longK l = false ∧ (blkL l).length ≤ 524288 ∧ b = ⟨(blkL l).toArray⟩ := by
  unfold buildP at h
  split at h
  · simp at h
  · split at h
    · simp at h
    · split at h
      · simp at h
      · rename_i h1 h2 h3
        exact ⟨by simpa using h1, by simpa using h2, by omega, (congrArg Prod.fst h).symm⟩
theorem longK_ok {l : List KV} (h : longK l = false) : ∀ m ∈ l, m.1.size ≤ 65536 ∧ m.2.size ≤ 65536 := by
  intro m hm
  unfold longK at h
  rw [List.any_eq_false] at h
  have := h m hm
  simp at this
  exact this
/-- What Parse answers. -/
def parseP (b : ByteArray) : List KV × Int :=
  if b.size < 8 then ([], 31) else match readL b.size [] ((bl b).take (b.size - 8)) with
    | none => ([], 31)
    | some l => if buildP l = (b, 0) then (l, 0) else ([], 31)
theorem body_count : ∀ (l : List KV) (i : Nat) (prev : List UInt8), l.length ≤ (bodyL i prev l).length := by
  intro l
  induction l with
  | nil => intro i prev; exact Nat.zero_le _
  | cons m l ih =>
    intro i prev
    have h1 := ih (i + 1) (bl m.1)
    have h2 := pv_pos (comI i prev (bl m.1))
    rw [bodyL, onePair]
    simp only [List.length_append, List.length_cons]
    omega
theorem parse_build {l : List KV} {b : ByteArray} (h : buildP l = (b, 0)) : parseP b = (l, 0) := by
  obtain ⟨h1, h2, h3, h4⟩ := buildP_ok h
  have hb : bl b = blkL l := by rw [h4]
  have hs : b.size = (blkL l).length := by rw [← hb]; rfl
  have h8 := blkL_length l
  have hc := body_count l 0 []
  have hr : readL b.size [] ((bl b).take (b.size - 8)) = some l := by
    rw [hs, hb, blkL_body]
    refine readL_body l 0 _ [] (fun m hm => ?_) (by omega) (by decide)
    have := longK_ok h2 m hm
    omega
  unfold parseP
  rw [if_neg (by omega), hr]
  dsimp only
  rw [if_pos h]
theorem parse_ok {l : List KV} {b : ByteArray} {e : Int} (h : parseP b = (l, e)) : (e = 0 ∧ buildP l = (b, 0)) ∨ (e = 31 ∧ l = []) := by
  unfold parseP at h
  split at h
  · exact Or.inr ⟨(congrArg Prod.snd h).symm, (congrArg Prod.fst h).symm⟩
  · split at h
    · exact Or.inr ⟨(congrArg Prod.snd h).symm, (congrArg Prod.fst h).symm⟩
    · split at h
      · rename_i h1
        obtain rfl := (congrArg Prod.fst h)
        exact Or.inl ⟨(congrArg Prod.snd h).symm, h1⟩
      · exact Or.inr ⟨(congrArg Prod.snd h).symm, (congrArg Prod.fst h).symm⟩
theorem parse_no {b : ByteArray} (h : ∀ l, buildP l ≠ (b, 0)) : parseP b = ([], 31) := by
  obtain ⟨l, e, hp⟩ : ∃ l e, parseP b = (l, e) := ⟨_, _, rfl⟩
  rcases parse_ok hp with ⟨_, h1⟩ | ⟨h1, h2⟩
  · exact absurd h1 (h l)
  · rw [hp, h1, h2]
/-- What Seek answers. -/
def seekL : List KV → ByteArray → ByteArray × ByteArray × Int
  | [], _ => (ByteArray.empty, ByteArray.empty, 22)
  | m :: r, key => if cmpT m.1 key < 0 then seekL r key else (m.1, m.2, 0)
def seekP (b key : ByteArray) : ByteArray × ByteArray × Int := if (parseP b).2 = 0 then seekL (parseP b).1 key else (ByteArray.empty, ByteArray.empty, (parseP b).2)
end Go.Proofs.Yteackdafggomhaa

namespace Go.Proofs.Yteackdafggomhaa
open Go.RowKit

theorem be4_inj {v u : Nat} (hv : v < 4294967296) (hu : u < 4294967296) (h : be v 4 = be u 4) : v = u := by
  have g : ∀ k, k < 4 → v / 2 ^ (8 * (4 - 1 - k)) % 256 = u / 2 ^ (8 * (4 - 1 - k)) % 256 := by
    intro k hk
    have := (be_get v 4 k hk).symm.trans ((congrArg (·[k]?) h).trans (be_get u 4 k hk))
    have := congrArg UInt8.toNat (Option.some.inj this)
    rw [UInt8.toNat_ofNat', UInt8.toNat_ofNat'] at this
    omega
  have g0 : v / 16777216 % 256 = u / 16777216 % 256 := g 0 (by decide)
  have g1 : v / 65536 % 256 = u / 65536 % 256 := g 1 (by decide)
  have g2 : v / 256 % 256 = u / 256 % 256 := g 2 (by decide)
  have g3 : v / 1 % 256 = u / 1 % 256 := g 3 (by decide)
  omega
theorem crc_lt (l : List UInt8) : crc l < 4294967296 := by unfold crc; omega
/-- Of bytes of which one is changed Parse tells that they are none. -/
theorem parse_changed {l : List KV} {b b' : ByteArray} (h : buildP l = (b, 0)) {k : Nat} {c : UInt8} (hk : k < (bl b).length) (hc : (bl b)[k] ≠ c) (hb' : bl b' = (bl b).set k c) : parseP b' = ([], 31) := by
  refine parse_no fun l' h' => ?_
  obtain ⟨_, _, _, e1⟩ := buildP_ok h
  obtain ⟨_, _, _, e2⟩ := buildP_ok h'
  have f1 : bl b = blkL l := by rw [e1]
  have f2 : bl b' = blkL l' := by rw [e2]
  obtain ⟨P, hP⟩ : ∃ P, bodyL 0 [] l ++ be l.length 4 = P := ⟨_, rfl⟩
  obtain ⟨Q, hQ⟩ : ∃ Q, bodyL 0 [] l' ++ be l'.length 4 = Q := ⟨_, rfl⟩
  unfold blkL at f1 f2
  rw [hP] at f1
  rw [hQ, hb'] at f2
  have hl := congrArg List.length f2
  have hl1 := congrArg List.length f1
  rw [List.length_set] at hl
  rw [List.length_append, be_length] at hl hl1
  have hPQ : Q.length = P.length := by omega
  by_cases hkP : k < P.length
  · have g : (P ++ be (crc P) 4).set k c = P.set k c ++ be (crc P) 4 := List.set_append_left _ _ hkP
    rw [f1, g] at f2
    obtain ⟨q1, q2⟩ := List.append_inj f2 (by rw [List.length_set]; omega)
    have hcr := be4_inj (crc_lt _) (crc_lt _) q2
    have hne : P[k] ≠ c := by
      intro e
      refine hc ?_
      rw [← e]
      have : (bl b)[k]? = P[k]? := by rw [f1, List.getElem?_append_left hkP]
      rw [List.getElem?_eq_getElem hk, List.getElem?_eq_getElem hkP] at this
      exact Option.some.inj this
    rw [← q1] at hcr
    exact crc_changed P k hkP c hne hcr
  · have g : (P ++ be (crc P) 4).set k c = P ++ (be (crc P) 4).set (k - P.length) c := List.set_append_right _ _ (by omega)
    rw [f1, g] at f2
    obtain ⟨q1, q2⟩ := List.append_inj f2 hPQ.symm
    rw [← q1] at q2
    have hk2 : k - P.length < (be (crc P) 4).length := by rw [be_length]; omega
    have e1 : (bl b)[k]? = (be (crc P) 4)[k - P.length]? := by rw [f1, List.getElem?_append_right (by omega)]
    have e2 : (be (crc P) 4)[k - P.length]? = some c := by rw [← q2, List.getElem?_set_self (by rw [be_length]; rw [be_length] at hk2; exact hk2)]
    rw [e2, List.getElem?_eq_getElem hk] at e1
    exact hc (Option.some.inj e1)

/-! ### What is sought -/
theorem rises_tail {a : KV} {l : List KV} (h : risesK (a :: l) = true) : risesK l = true ∧ ∀ m ∈ l, cmpT a.1 m.1 < 0 := by
  induction l generalizing a with
  | nil => exact ⟨rfl, fun m hm => by cases hm⟩
  | cons b r ih =>
    rw [risesK, Bool.and_eq_true, decide_eq_true_eq] at h
    obtain ⟨h1, h2⟩ := ih h.2
    refine ⟨h.2, fun m hm => ?_⟩
    rcases List.mem_cons.1 hm with rfl | hm
    · exact h.1
    · exact cmpT_trans h.1 (h2 m hm)
theorem rises_get : ∀ {l : List KV} {i j : Nat} {a b : KV}, risesK l = true → i < j → l[i]? = some a → l[j]? = some b → cmpT a.1 b.1 < 0
  | [], _, _, _, _, _, _, ha, _ => by simp at ha
  | x :: r, 0, j + 1, a, b, h, _, ha, hb => by
    simp at ha hb
    subst ha
    exact (rises_tail h).2 b (List.mem_of_getElem? hb)
  | x :: r, i + 1, j + 1, a, b, h, hij, ha, hb => rises_get (l := r) (i := i) (j := j) (rises_tail h).1 (by omega) (by simpa using ha) (by simpa using hb)
theorem seek_at : ∀ {l : List KV} {i : Nat} {a : KV} {key : ByteArray}, l[i]? = some a → (∀ j m, j < i → l[j]? = some m → cmpT m.1 key < 0) → ¬ cmpT a.1 key < 0 → seekL l key = (a.1, a.2, 0)
  | [], _, _, _, h, _, _ => by simp at h
  | x :: r, 0, a, key, h, _, hn => by
    simp at h
    subst h
    rw [seekL, if_neg hn]
  | x :: r, i + 1, a, key, h, hj, hn => by
    rw [seekL, if_pos (hj 0 x (by omega) rfl)]
    exact seek_at (l := r) (i := i) (by simpa using h) (fun j m hjm hm => hj (j + 1) m (by omega) (by simpa using hm)) hn
theorem seek_none : ∀ {l : List KV} {key : ByteArray}, (∀ m ∈ l, cmpT m.1 key < 0) → seekL l key = (ByteArray.empty, ByteArray.empty, 22)
  | [], _, _ => rfl
  | x :: r, key, h => by
    rw [seekL, if_pos (h x (List.mem_cons_self ..))]
    exact seek_none fun m hm => h m (List.mem_cons_of_mem _ hm)
theorem seek_cases : ∀ (l : List KV) (key : ByteArray), (∃ (i : Nat) (a : KV), l[i]? = some a ∧ seekL l key = (a.1, a.2, 0) ∧ 0 ≤ cmpT a.1 key) ∨ (seekL l key = (ByteArray.empty, ByteArray.empty, 22) ∧ ∀ m ∈ l, cmpT m.1 key < 0)
  | [], key => Or.inr ⟨rfl, fun m hm => by cases hm⟩
  | x :: r, key => by
    by_cases h : cmpT x.1 key < 0
    · rcases seek_cases r key with ⟨i, a, h1, h2, h3⟩ | ⟨h1, h2⟩
      · exact Or.inl ⟨i + 1, a, by simpa using h1, by rw [seekL, if_pos h]; exact h2, h3⟩
      · refine Or.inr ⟨by rw [seekL, if_pos h]; exact h1, fun m hm => ?_⟩
        rcases List.mem_cons.1 hm with rfl | hm
        · exact h
        · exact h2 m hm
    · exact Or.inl ⟨0, x, rfl, by rw [seekL, if_neg h], by omega⟩
/-- A key with a zero byte behind it stands just behind the key. -/
theorem cmp_zero_lt : ∀ a : List UInt8, Lib.compareBytes a (a ++ [0]) < 0
  | [] => by decide
  | a :: r => by
    rw [List.cons_append, cmp9_cons, if_neg (by omega), if_neg (by omega)]
    exact cmp_zero_lt r
theorem cmp_zero_le : ∀ a b : List UInt8, Lib.compareBytes a b < 0 → Lib.compareBytes (a ++ [0]) b ≤ 0
  | [], [], h => absurd h (by decide)
  | [], c :: r, _ => by
    rw [List.nil_append, cmp9_cons]
    split
    · decide
    · split
      · rename_i h2; exact absurd h2 (by simp)
      · cases r <;> simp [Lib.compareBytes]
  | a :: x, [], h => absurd h (by simp [Lib.compareBytes])
  | a :: x, b :: y, h => by
    rw [cmp9_cons] at h
    rw [List.cons_append, cmp9_cons]
    split
    · decide
    · rename_i h1
      rw [if_neg h1] at h
      split
      · rename_i h2; rw [if_pos h2] at h; exact absurd h (by decide)
      · rename_i h2; rw [if_neg h2] at h; exact cmp_zero_le x y h
theorem cmpT_zero {a z : ByteArray} (hz : bl z = bl a ++ [0]) : cmpT a z < 0 ∧ ∀ b, cmpT a b < 0 → cmpT z b ≤ 0 := by
  unfold cmpT
  rw [show z.data.toList = a.data.toList ++ [0] from hz]
  exact ⟨cmp_zero_lt _, fun b h => cmp_zero_le _ _ h⟩
/-- What BlockSeeks asks of each key. -/
theorem seeks_at {l : List KV} (hR : risesK l = true) {i : Nat} {a : KV} (ha : l[i]? = some a) {z : ByteArray} (hz : bl z = bl a.1 ++ [0]) :
    seekL l a.1 = (a.1, a.2, 0) ∧ (∀ b, l[i + 1]? = some b → seekL l z = (b.1, b.2, 0)) ∧ (l.length = i + 1 → seekL l z = (ByteArray.empty, ByteArray.empty, 22)) := by
  obtain ⟨z1, z2⟩ := cmpT_zero hz
  have hself : ¬ cmpT a.1 a.1 < 0 := by rw [(cmpT_eq _ _).2 rfl]; decide
  refine ⟨seek_at ha (fun j m hj hm => rises_get hR hj hm ha) hself, fun b hb => ?_, fun hl => ?_⟩
  · refine seek_at hb (fun j m hj hm => ?_) ?_
    · rcases Nat.lt_or_ge j i with h | h
      · exact cmpT_trans (rises_get hR h hm ha) z1
      · obtain rfl : j = i := by omega
        rw [ha] at hm
        cases hm
        exact z1
    · have h1 := z2 b.1 (rises_get hR (Nat.lt_succ_self i) ha hb)
      have h2 := cmpT_swap z b.1
      omega
  · refine seek_none fun m hm => ?_
    obtain ⟨j, hj⟩ := List.mem_iff_getElem?.1 hm
    have hjl := (List.getElem?_eq_some_iff.1 hj).1
    rcases Nat.lt_or_ge j i with h | h
    · exact cmpT_trans (rises_get hR h hj ha) z1
    · obtain rfl : j = i := by omega
      rw [ha] at hj
      cases hj
      exact z1

/-! ### How long a block is -/
theorem pv_three (n : Nat) (h : n < 2097152) : 1 ≤ (pv n).length ∧ (pv n).length ≤ 3 := ⟨pv_pos n, pv_len 3 n (by omega) (by decide)⟩
/-- What keys and values have together, with nine bytes for each pair. -/
def sumK : List KV → Nat
  | [] => 0
  | m :: r => 9 + m.1.size + m.2.size + sumK r
/-- What keys have in common with those ahead. -/
def comK : Nat → List UInt8 → List KV → Nat
  | _, _, [] => 0
  | i, prev, m :: r => comI i prev (bl m.1) + comK (i + 1) (bl m.1) r
theorem body_bounds : ∀ (l : List KV) (i : Nat) (prev : List UInt8), (∀ m ∈ l, m.1.size ≤ 65536 ∧ m.2.size ≤ 65536) → (bodyL i prev l).length + comK i prev l ≤ sumK l ∧ 3 * l.length ≤ (bodyL i prev l).length
  | [], _, _, _ => ⟨Nat.zero_le _, Nat.zero_le _⟩
  | m :: r, i, prev, h => by
    obtain ⟨h1, h2⟩ := body_bounds r (i + 1) (bl m.1) fun x hx => h x (List.mem_cons_of_mem _ hx)
    obtain ⟨s1, s2⟩ := h m (List.mem_cons_self ..)
    have c1 := (comI_le i prev (bl m.1)).1
    have l1 : (bl m.1).length = m.1.size := rfl
    have l2 : (bl m.2).length = m.2.size := rfl
    have p1 := pv_three (comI i prev (bl m.1)) (by omega)
    have p2 := pv_three ((bl m.1).length - comI i prev (bl m.1)) (by omega)
    have p3 := pv_three (bl m.2).length (by omega)
    rw [bodyL, onePair, comK, sumK]
    simp only [List.length_append, List.length_cons, List.length_drop]
    omega
theorem blk_bounds {l : List KV} (h : longK l = false) : (blkL l).length + comK 0 [] l ≤ 8 + sumK l ∧ 8 + 3 * l.length ≤ (blkL l).length := by
  have := body_bounds l 0 [] (longK_ok h)
  rw [blkL_length]
  omega
theorem sumK_snoc (l : List KV) (m : KV) : sumK (l ++ [m]) = sumK l + (9 + m.1.size + m.2.size) := by
  induction l with
  | nil => simp [sumK]
  | cons x r ih => rw [List.cons_append, sumK, sumK, ih]; omega
theorem comK_snoc (l : List KV) (m : KV) : ∀ i prev, comK i prev (l ++ [m]) = comK i prev l + comI (i + l.length) (lastK prev l) (bl m.1) := by
  induction l with
  | nil => intro i prev; simp [comK, lastK]
  | cons x r ih =>
    intro i prev
    rw [List.cons_append, comK, ih, comK, lastK, List.length_cons]
    rw [show i + 1 + r.length = i + (r.length + 1) from by omega]
    omega
end Go.Proofs.Yteackdafggomhaa

namespace Go.Proofs.Yteackdafggomhaa
open Go.RowKit

/-- The pairs L can be read at the slice A of length n. -/
structure KeysAt (w : World) (A : Option Addr) (n : Nat) (L : List KV) : Prop where
  len : n = L.length
  at_ : ∀ (i : Nat) (m : KV), L[i]? = some m → ∃ g off, A = some ⟨g, off, none⟩ ∧ g < w.heap.size ∧ w.cell? ⟨g, off + i * 2, none⟩ = some (.string m.1) ∧ w.cell? ⟨g, off + i * 2 + 1, none⟩ = some (.string m.2)
theorem KeysAt.below {w w' : World} {A : Option Addr} {n : Nat} {L : List KV} (h : KeysAt w A n L) (hb : Below w.heap.size w w') : KeysAt w' A n L :=
  ⟨h.len, fun i m hm => by
    obtain ⟨g, off, e, hg, h1, h2⟩ := h.at_ i m hm
    exact ⟨g, off, e, Nat.lt_of_lt_of_le hg hb.size, (hb.cell (p := ⟨g, off + i * 2, none⟩) hg).trans h1, (hb.cell (p := ⟨g, off + i * 2 + 1, none⟩) hg).trans h2⟩⟩
/-- Two of them, at one address. -/
theorem KeysAt.two {w : World} {A : Option Addr} {n : Nat} {L : List KV} (h : KeysAt w A n L) {i j : Nat} {a b : KV} (ha : L[i]? = some a) (hb : L[j]? = some b) :
    ∃ g off, A = some ⟨g, off, none⟩ ∧ g < w.heap.size ∧ w.cell? ⟨g, off + i * 2, none⟩ = some (.string a.1) ∧ w.cell? ⟨g, off + i * 2 + 1, none⟩ = some (.string a.2) ∧ w.cell? ⟨g, off + j * 2, none⟩ = some (.string b.1) ∧ w.cell? ⟨g, off + j * 2 + 1, none⟩ = some (.string b.2) := by
  obtain ⟨g, off, e, hg, h1, h2⟩ := h.at_ i a ha
  obtain ⟨g', off', e', _, h3, h4⟩ := h.at_ j b hb
  rw [e] at e'
  cases e'
  exact ⟨g, off, e, hg, h1, h2, h3, h4⟩
theorem rises_iff : ∀ (L : List KV), (∀ (i : Nat) (a b : KV), L[i]? = some a → L[i + 1]? = some b → cmpT a.1 b.1 < 0) → risesK L = true
  | [], _ => rfl
  | [_], _ => rfl
  | a :: b :: r, h => by
    rw [risesK, Bool.and_eq_true, decide_eq_true_eq]
    exact ⟨h 0 a b rfl rfl, rises_iff (b :: r) fun i x y hx hy => h (i + 1) x y (by simpa using hx) (by simpa using hy)⟩
theorem rises_not {L : List KV} {i : Nat} {a b : KV} (ha : L[i]? = some a) (hb : L[i + 1]? = some b) (h : ¬ cmpT a.1 b.1 < 0) : risesK L = false := by
  cases hr : risesK L with
  | false => rfl
  | true => exact absurd (rises_get hr (Nat.lt_succ_self i) ha hb) h
end Go.Proofs.Yteackdafggomhaa
