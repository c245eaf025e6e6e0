/-
  Several texts in one: Plain lemmas on numbers, bits and worlds. No program is named.
  Walks over package raw, part 4: PutVar.
  Walks over package raw, part 5: Put and Get.
  DERIVED: THE SHELF's CONTRACTS AT THIS DUMP, IN PLAIN WORDS (tools/lay-plain.mjs out of 'TrydShelf.lean', which tools/lay-shelf.mjs wrote): THE SAME DECLARATIONS UNDER THE SAME NAMES: 'import', 'namespace', 'open', 'def', 'theorem' AND NOTHING ELSE: no command of the shelf's: FOR A HAND-IN. Each laying: the table of numbers ('.._ren') and one theorem, a field a fact of the dump's own or the kernel's comparison; each contract: ONE APPLICATION.
  The order of bytes; what Compare and Put answer.
  Walks over package raw, part 1: the reader's steps.
  Walks over package raw, part 2: a number in groups of seven bits.
  Walks over package raw, part 3: GetVar, with its deferred closure.
  Walks over package raw: Quote.
  Walks over package raw: what stands in quotes is read.
  Walks over package raw: Get, Number.
  Slices of numbers and of texts that came in: what a walk asks of them, out of how they read. No program is named.
  Walks over package vec, part 1: Leq, Same, isCount, Valid.
  Walks over package vec, part 2: slices of numbers that a call makes: Clone, With, each, Join, Meet.
  strings.Builder: a byte and a text more, at this program.
  Digits, over the table of the powers of ten that the laws lay.
  Walks over package vec, part 4: Put, Text.
  Plain lemmas on the keys under which versions are kept: heads, their order, the bytes of a version. No program is named.
  Walks over package vec, part 5: Get.
  Walks over package raw: Number, with its deferred closure.
  Digits, without the program: what is told in digits is read as it was.
  Plain lemmas on the bytes of vectors. No program is named.
  Plain lemmas on versions: which are valid, their time, their bytes; the bytes tell the version; their order. No program is named.
  Arrays of three numbers, and slices of structs of two whole numbers and a float64, that came in: what a walk asks of them, out of how they read. No program is named.
  Versions (api.Version) that came in as values: what a walk asks of them, out of how they read. No program is named.
  What a law on versions meets: a version in a block of the call's own; texts by their bytes.
  Walks over the document's own answer to chapter 3: the order of vectors.
-/
import Derived.WalkKit
import Derived.WalkSpells
import Derived.WalkLawsBesides
import Derived.Below
import Derived.Deep.Draws
import Derived.Deep.OwnRows
import Derived.OwnWalk
import Derived.Laws.AppendOwn
import Derived.Laws.BitsAllLaws
import Derived.Laws.BitsLemmas
import Derived.Lib.Hide
import Derived.Test.YthacdegaeokgnaaDoorRows
import Derived.Shelf.Small.Wraps
import Derived.Shelf.Strconv.Itoa0
import Derived.Shelf.Strconv.Itoa1
import Derived.Shelf.LaysM
import Derived.Shelf.Strconv.Itoa2
import Derived.Shelf.Strconv.Itoa3
import Derived.Ground.Names2Prog
import Derived.Shelf.Slices.SearchI
import Derived.Test.YthacdegaeokgnaaDoorProg
import Derived.Lib.Strings
import Derived.Lib.Bytealg
import Derived.Deep.QuietTactic
import Derived.BigQuiet
import Derived.Defers
import Derived.Recover
import Derived.Deep.RegionLaw
import Derived.ChangeSame
import Derived.ProofKit
import Derived.OpenShut
import Derived.SliceStrings
import Derived.Lib.Builder
import Derived.Sort.Grow
import Derived.Lib.LaidTab
import Derived.Lib.ItoaNum
import Derived.Lib.Join
import Derived.Lib.ItoaLen
import Derived.Deep.RegionWith
import Derived.Deep.RegionHeld3
import Derived.Laws.IdiomArrays
import Derived.Laws.Cover2
import Derived.Lib.SmallJoins
import Derived.Deep.Slices
import Derived.Deep.Strs
import Derived.LoopTactic
namespace Go.Proofs.YthacdegaeokgnaaDoor
open Go.RowKit

theorem ofInt_i64 (a : Nat) (ha : a < 9223372036854775808) : (BitVec.ofInt 64 (a : Int)).toNat = a := by
  rw [BitVec.ofInt_natCast, BitVec.toNat_ofNat]; exact Nat.mod_eq_of_lt (by omega)
theorem i64_or_nat (a b : Nat) (ha : a < 9223372036854775808) (hb : b < 9223372036854775808) : bits .or .i64 (a : Int) (b : Int) = ((a ||| b : Nat) : Int) := by
  have hx : a ||| b < 2 ^ 63 := Nat.or_lt_two_pow (by omega) (by omega)
  show IntKind.i64.wrap ((BitVec.ofInt 64 (a : Int) ||| BitVec.ofInt 64 (b : Int)).toNat : Int) = _
  rw [BitVec.toNat_or, ofInt_i64 a ha, ofInt_i64 b hb, IntKind.wrap_i64]
  omega

theorem size_mk (l : List UInt8) : (⟨l.toArray⟩ : ByteArray).size = l.length := by simp [ByteArray.size]
theorem ret_int {k : IntKind} {a b : Int} (h : a = b) : Ending.returned (.int k a) = .returned (.int k b) := by rw [h]
theorem only_drewN {a w : World} {row : Option Nat} (h : a.grownBy w row) (n : Nat) : a.grownBy (w.drewN n) row := ⟨h.os, h.tape, h.output, h.size, h.block⟩
theorem only_drew {a w : World} {row : Option Nat} (h : a.grownBy w row) : a.grownBy w.drew row := ⟨h.os, h.tape, h.output, h.size, h.block⟩
theorem only_alloc {a w : World} {row : Option Nat} (h : a.grownBy w row) (o : Obj) : a.grownBy (w.alloc o) row :=
  ⟨h.os, h.tape, h.output, Nat.le_trans h.size (by simp), fun i hi hne => (Below.heap_alloc w o i (Nat.lt_of_lt_of_le hi h.size)).trans (h.block i hi hne)⟩
theorem only_setCell {a w : World} {g : Nat} (h : a.grownBy w (some g)) {p : Addr} (hp : p.block = g ∨ a.heap.size ≤ p.block) (u : Value) : a.grownBy (w.setCell p u) (some g) :=
  ⟨h.os, h.tape, h.output, by simpa [World.setCell] using h.size, fun i hi hne => (Below.heap_setCell w p u i (by
    rintro rfl
    rcases hp with hp | hp
    · exact hne (by rw [hp])
    · omega)).trans (h.block i hi hne)⟩

/-- Block g is just the cells cs, of element type t, none of them frozen. -/
def Blk (w : World) (g : Nat) (t : TypeId) (cs : Array Value) : Prop := w.heap[g]? = some (.cells cs t (0, 0))

section
variable {w w' : World} {g : Nat} {t : TypeId} {cs : Array Value}
theorem Blk.lt (h : Blk w g t cs) : g < w.heap.size := by
  rcases Nat.lt_or_ge g w.heap.size with hlt | hge
  · exact hlt
  · unfold Blk at h; rw [Array.getElem?_eq_none hge] at h; cases h
theorem Blk.cell (h : Blk w g t cs) (i : Nat) : w.cell? ⟨g, i, none⟩ = cs[i]? := cell_of_row w g i cs t (0, 0) h
theorem Blk.frozen (h : Blk w g t cs) (i : Nat) : w.frozen? ⟨g, i, none⟩ = false := by
  unfold Blk at h
  simp [World.frozen?, h]
theorem Blk.new (w : World) (t : TypeId) (cs : Array Value) : Blk (w.alloc (.cells cs t)) w.heap.size t cs := heap_alloc_new w _
theorem Blk.new' {w : World} {g : Nat} (h : w.heap.size = g) (t : TypeId) (cs : Array Value) : Blk (w.alloc (.cells cs t)) g t cs := h ▸ heap_alloc_new w _
theorem Blk.drew (h : Blk w g t cs) : Blk w.drew g t cs := h
theorem Blk.drewN (h : Blk w g t cs) (n : Nat) : Blk (w.drewN n) g t cs := h
theorem Blk.alloc (h : Blk w g t cs) (o : Obj) : Blk (w.alloc o) g t cs := (Below.heap_alloc w o g h.lt).trans h
theorem Blk.set_ (h : Blk w g t cs) (i : Nat) (u : Value) : Blk (w.setCell ⟨g, i, none⟩ u) g t (cs.setIfInBounds i u) := by
  unfold Blk at h ⊢
  simp [World.setCell, Array.getElem?_modify, h]
theorem Blk.far (h : Blk w g t cs) {p : Addr} (hp : g ≠ p.block) (u : Value) : Blk (w.setCell p u) g t cs := (Below.heap_setCell w p u g hp).trans h
theorem Blk.below {B : Nat} (h : Blk w g t cs) (hb : Below B w w') (hg : g < B) : Blk w' g t cs := (hb.block g hg).trans h
theorem Blk.grown {row : Option Nat} (h : Blk w g t cs) (hb : w.grownBy w' row) (hg : some g ≠ row) : Blk w' g t cs := (hb.block g h.lt hg).trans h
theorem Blk.ne_ {g' : Nat} {t' : TypeId} {cs' : Array Value} (h : Blk w g t cs) (h' : Blk w g' t' cs') (hne : t ≠ t') : g ≠ g' := by
  rintro rfl
  unfold Blk at h h'
  rw [h] at h'
  injection h' with h'
  injection h' with _ ht
  exact hne ht
end

theorem obj_set {w : World} {g : Nat} {cs : Array Value} {t : TypeId} {fr : Nat × Nat} (h : w.heap[g]? = some (.cells cs t fr)) (i : Nat) (u : Value) : (w.setCell ⟨g, i, none⟩ u).heap[g]? = some (.cells (cs.setIfInBounds i u) t fr) := by
  simp [World.setCell, Array.getElem?_modify, h]

theorem below_drewN {B : Nat} {a w : World} (h : Below B a w) (n : Nat) : Below B a (w.drewN n) := ⟨h.os, h.tape, h.output, h.size, h.block⟩
theorem below_of_only {a w : World} {B g : Nat} (h : a.grownBy w (some g)) (hB : B ≤ a.heap.size) (hg : B ≤ g) : Below B a w :=
  ⟨h.os, h.tape, h.output, h.size, fun i hi => h.block i (by omega) (fun e => by injection e with e; omega)⟩
theorem below_alloc {B : Nat} {a w : World} (h : Below B a w) (hB : B ≤ a.heap.size) (o : Obj) : Below B a (w.alloc o) := h.alloc (Nat.le_trans hB h.size) o
theorem below_setCell {B : Nat} {a w : World} (h : Below B a w) {p : Addr} (hp : B ≤ p.block) (u : Value) : Below B a (w.setCell p u) :=
  ⟨h.os, h.tape, h.output, by simpa [World.setCell] using h.size, fun i hi => (Below.heap_setCell w p u i (by omega)).trans (h.block i hi)⟩

theorem cell_new (w : World) (t : TypeId) (x : Value) : (w.alloc (.cells #[x] t)).cell? ⟨w.heap.size, 0, none⟩ = some x := (Blk.new w t #[x]).cell 0

/-! ### Rows of bytes that the call itself made -/
def b8 (c : UInt8) : Value := .int .u8 (c.toNat : Int)

/-- v is a slice of the call's own (its block from B on) that holds the bytes l. -/
def Byt (w : World) (B : Nat) (e : TypeId) (v : Value) (l : List UInt8) : Prop := w.ownsRow B e 1 v l.length (l.map b8)

section
variable {P : Program} {w : World} {B : Nat} {e : TypeId} {v : Value} {l : List UInt8}
theorem Byt.nil (w : World) (B : Nat) (e : TypeId) : Byt w B e (.slice none 0 0) [] := World.ownsRow_nil _ _ _ _
theorem Byt.alloc (h : Byt w B e v l) (o : Obj) : Byt (w.alloc o) B e v l := World.ownsRow.alloc h o

theorem Byt.drew (h : Byt w B e v l) : Byt w.drew B e v l := h
theorem Byt.drewN (h : Byt w B e v l) (n : Nat) : Byt (w.drewN n) B e v l := h

/-- 'append(b, c)' of one byte. -/
theorem wpList_append_byte (w : World) {ops : Array Oper} {rest : List Oper} {o : Oper} {a : Act} {Q : Exit → Act → World → Prop} (hgd : o.guard = none) (s x : Operand) (t : TypeId)
    (ho : o.op = .call { callee := .builtin .append, args := #[s, x], argTypes := #[t, t] }) (ht : P.underlying t = some (.slice e)) (hi : (P.info? e).map (fun i => (i.zero, i.size, i.bytes)) = some (some (.int .u8 0), 1, 1))
    (hs : a.eval s = v) (hown : Byt w B e v l) (ad : Addr) (cp : Nat) (hx : a.eval x = .slice (some ad) 1 cp) (z : Int) (hcell : w.cell? ad = some (.int .u8 z)) (c : UInt8) (hc : z = (c.toNat : Int))
    (hl : l.length < 140737488355328) (hB : B ≤ w.heap.size)
    (h : ∀ v' w', Byt w' B e v' (l ++ [c]) → w.grownBy w' v.ownBlock → wpList P ops Q rest (a.put o.dst v') w') : wpList P ops Q (o :: rest) a w := by
  obtain ⟨i0, hi0, hz0, hz1, hz2⟩ := info_parts hi
  refine wpList_append_own w hgd s x t ho B e i0 (.int .u8 0) 1 1 ht hi0 hz0 hz1 hz2 rfl (by decide) v l.length (l.map b8) hs hown ad 1 cp [b8 c] hx rfl ?_ ?_ ?_ ?_ hB ?_
  · intro j u hj
    match j, hj with
    | 0, hj =>
      simp at hj
      subst hj
      subst hc
      exact hcell
  · intro u hu
    simp at hu
    subst hu
    rfl
  · unfold maxLen; omega
  · omega
  · intro v' w' h1 h2 _
    refine h v' w' ?_ h2
    unfold Byt
    simpa using h1

/-- 'append(b, c, d, ..)'. -/
theorem wpList_append_bytes (w : World) {ops : Array Oper} {rest : List Oper} {o : Oper} {a : Act} {Q : Exit → Act → World → Prop} (hgd : o.guard = none) (s x : Operand) (t : TypeId)
    (ho : o.op = .call { callee := .builtin .append, args := #[s, x], argTypes := #[t, t] }) (ht : P.underlying t = some (.slice e)) (hi : (P.info? e).map (fun i => (i.zero, i.size, i.bytes)) = some (some (.int .u8 0), 1, 1))
    (hs : a.eval s = v) (hown : Byt w B e v l) (ad : Addr) (m cp : Nat) (hx : a.eval x = .slice (some ad) m cp) (cs : List UInt8) (hm : cs.length = m) (hcell : ∀ j u, (cs.map b8)[j]? = some u → w.cell? (ad.add j) = some u)
    (hl : l.length + m < 140737488355328) (hB : B ≤ w.heap.size)
    (h : ∀ v' w', Byt w' B e v' (l ++ cs) → w.grownBy w' v.ownBlock → wpList P ops Q rest (a.put o.dst v') w') : wpList P ops Q (o :: rest) a w := by
  obtain ⟨i0, hi0, hz0, hz1, hz2⟩ := info_parts hi
  refine wpList_append_own w hgd s x t ho B e i0 (.int .u8 0) 1 1 ht hi0 hz0 hz1 hz2 rfl (by decide) v l.length (l.map b8) hs hown ad m cp (cs.map b8) hx (by simp [hm]) hcell ?_ ?_ ?_ hB ?_
  · intro u hu
    obtain ⟨c, _, rfl⟩ := List.mem_map.1 hu
    rfl
  · unfold maxLen; omega
  · omega
  · intro v' w' h1 h2 _
    refine h v' w' ?_ h2
    unfold Byt
    rw [List.length_append, List.map_append, hm]
    exact h1
theorem step_append_bytes {ops : Array Oper} {o : Oper} {a : Act} {K : Act → World → Prop} {Q : Exit → Act → World → Prop} {E : Prop} (hgd : o.guard = none) (s x : Operand) (t : TypeId)
    (ho : o.op = .call { callee := .builtin .append, args := #[s, x], argTypes := #[t, t] }) (ht : P.underlying t = some (.slice e)) (hi : (P.info? e).map (fun i => (i.zero, i.size, i.bytes)) = some (some (.int .u8 0), 1, 1))
    (hs : a.eval s = v) (hown : Byt w B e v l) (ad : Addr) (m cp : Nat) (hx : a.eval x = .slice (some ad) m cp) (cs : List UInt8) (hm : cs.length = m) (hcell : ∀ j u, (cs.map b8)[j]? = some u → w.cell? (ad.add j) = some u)
    (hl : l.length + m < 140737488355328) (hB : B ≤ w.heap.size)
    (h : ∀ v' w', Byt w' B e v' (l ++ cs) → w.grownBy w' v.ownBlock → K (a.put o.dst v') w') : if Region.wanted o (yielded ops a.tmps) = true then Oper.wp P o a w K Q else E := by
  have hw : Region.wanted o (yielded ops a.tmps) = true := by simp [Region.wanted, hgd]
  rw [if_pos hw]
  obtain ⟨i0, hi0, hz0, hz1, hz2⟩ := info_parts hi
  refine wp_append_own w s x t ho B e i0 (.int .u8 0) 1 1 ht hi0 hz0 hz1 hz2 rfl (by decide) v l.length (l.map b8) hs hown ad m cp (cs.map b8) hx (by simp [hm]) hcell ?_ ?_ ?_ hB ?_
  · intro u hu
    obtain ⟨c, _, rfl⟩ := List.mem_map.1 hu
    rfl
  · unfold maxLen; omega
  · omega
  · intro v' w' h1 h2 _
    refine h v' w' ?_ h2
    unfold Byt
    rw [List.length_append, List.map_append, hm]
    exact h1
/-- The cells of a block that was just made. -/
theorem cells_new (w : World) (t : TypeId) (xs : List Value) : ∀ j u, xs[j]? = some u → (w.alloc (.cells xs.toArray t)).cell? (({ block := w.heap.size, off := 0, spot := none } : Addr).add j) = some u := by
  intro j u hu
  have e : ({ block := w.heap.size, off := 0, spot := none } : Addr).add j = ⟨w.heap.size, j, none⟩ := by simp [Addr.add]; intro h; exact h.symm
  rw [e, (Blk.new w t xs.toArray).cell j]
  simpa using hu

/-- What a byte more leaves of the memory that was there. -/
theorem Byt.grown {a w' : World} (h : Byt w B e v l) (hb : Below B a w) (hB : B ≤ w.heap.size) (hg : w.grownBy w' v.ownBlock) : Below B a w' := hb.grown hg hB (fun k hk => (World.ownsRow.lt h k hk).1)

/-- 'string(b)'. -/
theorem Byt.string (h : Byt w B e v l) {src dst : TypeId} (hs : P.underlying src = some (.slice e)) (he : P.underlying e = some (.int .u8)) (hd : P.underlying dst = some .string) :
    (convert src dst v).run P w = .ok (.string ⟨l.toArray⟩) w := by
  rcases h.2 with ⟨rfl, hn⟩ | ⟨g, cap, cur, rfl, h2⟩
  · have hl : l = [] := by simpa using hn
    subst hl
    exact run_convert_bytes_nil w src e hs he _ _ dst hd
  · refine run_convert_bytes_back w src dst e ⟨g, 0, none⟩ cap l hs he hd fun j hj => ?_
    have := World.ownsRow.cells (g := g) h rfl j (b8 l[j]) (by simp [hj])
    simpa [b8] using this
end

theorem ofInt_u32 (a : Nat) (ha : a < 4294967296) : (BitVec.ofInt 32 (a : Int)).toNat = a := by
  rw [BitVec.ofInt_natCast, BitVec.toNat_ofNat]; exact Nat.mod_eq_of_lt (by omega)
theorem u32_xor_nat (a b : Nat) (ha : a < 4294967296) (hb : b < 4294967296) : bits .xor .u32 (a : Int) (b : Int) = ((a ^^^ b : Nat) : Int) := by
  have hx : a ^^^ b < 2 ^ 32 := Nat.xor_lt_two_pow (by omega) (by omega)
  show IntKind.u32.wrap ((BitVec.ofInt 32 (a : Int) ^^^ BitVec.ofInt 32 (b : Int)).toNat : Int) = _
  rw [BitVec.toNat_xor, ofInt_u32 a ha, ofInt_u32 b hb, IntKind.wrap_u32]
  omega
theorem u32_and_nat (a b : Nat) (ha : a < 4294967296) (hb : b < 4294967296) : bits .and .u32 (a : Int) (b : Int) = ((a &&& b : Nat) : Int) := by
  have hx : a &&& b < 2 ^ 32 := Nat.and_lt_two_pow _ (by omega)
  show IntKind.u32.wrap ((BitVec.ofInt 32 (a : Int) &&& BitVec.ofInt 32 (b : Int)).toNat : Int) = _
  rw [BitVec.toNat_and, ofInt_u32 a ha, ofInt_u32 b hb, IntKind.wrap_u32]
  omega

theorem u32_not_nat (a : Nat) (ha : a < 4294967296) : bits .xor .u32 IntKind.u32.max (a : Int) = ((4294967295 - a : Nat) : Int) := by
  have hm : IntKind.u32.max = ((4294967295 : Nat) : Int) := by decide
  have e : (4294967295 ^^^ a : Nat) = 4294967295 - a := by
    have h1 : (BitVec.allOnes 32 ^^^ BitVec.ofNat 32 a) = ~~~ BitVec.ofNat 32 a := BitVec.allOnes_xor
    have h2 := congrArg BitVec.toNat h1
    rw [BitVec.toNat_xor, BitVec.toNat_not, BitVec.toNat_ofNat, Nat.mod_eq_of_lt (show a < 2 ^ 32 from by omega), BitVec.toNat_allOnes] at h2
    have h3 : (2 : Nat) ^ 32 - 1 = 4294967295 := by decide
    rw [h3] at h2
    exact h2
  rw [hm, u32_xor_nat _ _ (by decide) ha, e]

/-- Seven bits of a byte. -/
theorem andNot_128 : ∀ c : Nat, c < 256 → bits .andNot .u8 (c : Int) 128 = ((c % 128 : Nat) : Int) := by decide +kernel

/-- One group of seven bits more. -/
theorem vstep (a k c : Nat) (ha : a < 2 ^ (7 * k)) (hk : k < 9) (hc : c < 256) :
    bits .or .i64 (a : Int) (wrap64 (wrap64 (bits .andNot .u8 (c : Int) 128) * 2 ^ (7 * k))) = ((a + c % 128 * 2 ^ (7 * k) : Nat) : Int) ∧ a + c % 128 * 2 ^ (7 * k) < 2 ^ (7 * (k + 1)) := by
  have hm : c % 128 < 128 := Nat.mod_lt _ (by decide)
  have hp : 2 ^ (7 * (k + 1)) = 128 * 2 ^ (7 * k) := by rw [Nat.mul_add, Nat.pow_add]; omega
  have h1 : c % 128 * 2 ^ (7 * k) + 2 ^ (7 * k) ≤ 128 * 2 ^ (7 * k) := by
    have : (c % 128 + 1) * 2 ^ (7 * k) ≤ 128 * 2 ^ (7 * k) := Nat.mul_le_mul_right _ (by omega)
    rwa [Nat.add_mul, Nat.one_mul] at this
  have h2 : 2 ^ (7 * (k + 1)) ≤ 2 ^ 63 := Nat.pow_le_pow_right (by decide) (by omega)
  have h63 : (2 : Nat) ^ 63 = 9223372036854775808 := by decide
  refine ⟨?_, by omega⟩
  rw [andNot_128 c hc]
  have e1 : wrap64 ((c % 128 : Nat) : Int) = ((c % 128 : Nat) : Int) := IntWalk.wrap64_in _ (by omega)
  rw [e1]
  have e2 : (((c % 128 : Nat) : Int) * 2 ^ (7 * k)) = ((c % 128 * 2 ^ (7 * k) : Nat) : Int) := by push_cast; rfl
  rw [e2]
  have e3 : wrap64 ((c % 128 * 2 ^ (7 * k) : Nat) : Int) = ((c % 128 * 2 ^ (7 * k) : Nat) : Int) := IntWalk.wrap64_in _ (by omega)
  rw [e3, i64_or_nat _ _ (by omega) (by omega)]
  congr 1
  rw [Nat.or_comm, Nat.mul_comm, ← Nat.two_pow_add_eq_or_of_lt ha, Nat.add_comm]
end Go.Proofs.YthacdegaeokgnaaDoor

namespace Go.Proofs.YthacdegaeokgnaaDoor
open Go.RowKit

theorem u8info : (Tryd.prog.info? 5).map (fun i => (i.zero, i.size, i.bytes)) = some (some (.int .u8 0), 1, 1) := by kernel_rfl

/-- A number in groups of seven bits. -/
def pv (v : Nat) : List UInt8 := if v < 128 then [UInt8.ofNat v] else UInt8.ofNat (v % 128 + 128) :: pv (v / 128)
  termination_by v
  decreasing_by omega

theorem or_128 : ∀ c : Nat, c < 256 → bits .or .u8 (c : Int) 128 = ((c % 128 + 128 : Nat) : Int) := by decide +kernel

theorem u8_of (n : Nat) (h : n < 256) : (n : Int) = ((UInt8.ofNat n).toNat : Int) := by simp; omega

theorem pv_more (v : Nat) (h : 128 ≤ v) : pv v = UInt8.ofNat (v % 128 + 128) :: pv (v / 128) := by rw [pv, if_neg (by omega)]
theorem pv_last (v : Nat) (h : v < 128) : pv v = [UInt8.ofNat v] := by rw [pv, if_pos h]

end Go.Proofs.YthacdegaeokgnaaDoor

namespace Go.Proofs.YthacdegaeokgnaaDoor
open Go.RowKit

/-- A number as n bytes, the highest first. -/
def be (v n : Nat) : List UInt8 := (List.range n).map fun i => UInt8.ofNat (v / 2 ^ (8 * (n - 1 - i)) % 256)

theorem be_length (v n : Nat) : (be v n).length = n := by simp [be]
theorem be_get (v n k : Nat) (h : k < n) : (be v n)[k]? = some (UInt8.ofNat (v / 2 ^ (8 * (n - 1 - k)) % 256)) := by unfold be; rw [List.getElem?_map, List.getElem?_range h]; rfl
theorem be_step (v n k : Nat) (h : k < n) : (((be v n).take k ++ List.replicate (n - k) (0 : UInt8)).map b8).set k (.int .u8 ((v : Int) / 2 ^ (8 * (n - 1 - k)) % 256)) =
    ((be v n).take (k + 1) ++ List.replicate (n - (k + 1)) (0 : UInt8)).map b8 := by
  obtain ⟨c, hc⟩ : ∃ c, c = UInt8.ofNat (v / 2 ^ (8 * (n - 1 - k)) % 256) := ⟨_, rfl⟩
  have hb : Value.int .u8 ((v : Int) / 2 ^ (8 * (n - 1 - k)) % 256) = b8 c := by
    have e : (v : Int) / 2 ^ (8 * (n - 1 - k)) % 256 = ((v / 2 ^ (8 * (n - 1 - k)) % 256 : Nat) : Int) := by rw [Int.natCast_emod, Int.natCast_ediv, Int.natCast_pow]; rfl
    rw [e, u8_of _ (by omega), ← hc]
    rfl
  have hg := be_get v n k h
  rw [← hc] at hg
  have hl := be_length v n
  have hlt : (List.take k (be v n)).length = k := by simp; omega
  rw [hb, ← List.map_set, List.set_append_right _ _ (by omega), hlt, Nat.sub_self, show n - k = (n - (k + 1)) + 1 from by omega, List.replicate_succ, List.set_cons_zero]
  rw [List.take_add_one, hg]
  simp

end Go.Proofs.YthacdegaeokgnaaDoor

namespace Go.Proofs
open Go.Shelf
def Tryd.lays215_ren : Go.Shelf.Ren := ⟨fun | 215 => 112 | n => n, fun | 3 => 3 | 4 => 4 | n => n, fun | n => n⟩
theorem Tryd.lays215 : Go.Proofs.Lays.n215 Tryd.prog Tryd.lays215_ren := {
  mixed := by kernel_rfl
  f215 := Tryd.func112.trans (congrArg some (by kernel_rfl))
  t3 := Tryd.underlying3
  a3 := Tryd.isAgg3
  z3 := Tryd.sizeOf3
  v3 := Tryd.zeroValue3
  t4 := Tryd.underlying4
  a4 := Tryd.isAgg4
  z4 := Tryd.sizeOf4
  v4 := Tryd.zeroValue4 }
open Go.RowKit in
/-- cmp.isNaN at int: 'x != x': false. (LAID: no walk: one application.) -/
theorem Tryd.cmp_isNaN_int (x : Int) (w : World) :
    Calls Tryd.prog 112 #[.int .i64 x] w fun e w' => e = .returned (.bool false) ∧ w' = w := Any.cmp_isNaN_int Tryd.lays215 x w
def Tryd.lays122_ren : Go.Shelf.Ren := ⟨fun | 122 => 106 | 215 => 112 | n => n, fun | 3 => 3 | 4 => 4 | n => n, fun | n => n⟩
theorem Tryd.lays122 : Go.Proofs.Lays.n122 Tryd.prog Tryd.lays122_ren := {
  mixed := by kernel_rfl
  f122 := Tryd.func106.trans (congrArg some (by kernel_rfl))
  f215 := Tryd.func112.trans (congrArg some (by kernel_rfl))
  t3 := Tryd.underlying3
  a3 := Tryd.isAgg3
  z3 := Tryd.sizeOf3
  v3 := Tryd.zeroValue3
  t4 := Tryd.underlying4
  a4 := Tryd.isAgg4
  z4 := Tryd.sizeOf4
  v4 := Tryd.zeroValue4 }
open Go.RowKit in
/-- cmp.Compare at int: "Compare returns -1 if x is less than y, 0 if x equals y, +1 if x is greater than y.": IT RETURNS 'Lib.compareInt x y'; the world is as it was. (LAID: no walk: one application.) -/
theorem Tryd.cmp_Compare_int (x y : Int) (w : World) :
    Calls Tryd.prog 106 #[.int .i64 x, .int .i64 y] w fun e w' => e = .returned (.int .i64 (Lib.compareInt x y)) ∧ w' = w := Any.cmp_Compare_int Tryd.lays122 x y w
def Tryd.lays129_ren : Go.Shelf.Ren := ⟨fun | 129 => 96 | n => n, fun | 53 => 81 | 3 => 3 | 4 => 4 | 46 => 68 | 5 => 5 | 9 => 9 | n => n, fun | n => n⟩
theorem Tryd.lays129 : Go.Proofs.Lays.n129 Tryd.prog Tryd.lays129_ren := {
  mixed := by kernel_rfl
  f129 := Tryd.func96.trans (congrArg some (by kernel_rfl))
  t3 := Tryd.underlying3
  a3 := Tryd.isAgg3
  z3 := Tryd.sizeOf3
  v3 := Tryd.zeroValue3
  t4 := Tryd.underlying4
  a4 := Tryd.isAgg4
  z4 := Tryd.sizeOf4
  v4 := Tryd.zeroValue4
  t5 := Tryd.underlying5
  a5 := Tryd.isAgg5
  z5 := Tryd.sizeOf5
  v5 := Tryd.zeroValue5
  t9 := Tryd.underlying9
  a9 := Tryd.isAgg9
  z9 := Tryd.sizeOf9
  v9 := Tryd.zeroValue9
  t46 := Tryd.underlying68
  a46 := Tryd.isAgg68
  z46 := Tryd.sizeOf68
  v46 := Tryd.zeroValue68
  t53 := Tryd.underlying81
  a53 := Tryd.isAgg81
  z53 := Tryd.sizeOf81
  v53 := Tryd.zeroValue81 }
/-- bits.Len64: "Len64 returns the minimum number of bits required to represent x; the result is 0 for x == 0.": IT RETURNS 'Lib.bitLen x'; the world is as it was. ('h0', 'h1': x is a uint64.) (LAID: no walk: one application.) -/
theorem Tryd.bits_Len64 (x : Int) (w : World) (h0 : 0 ≤ x) (h1 : x ≤ 18446744073709551615) :
    Calls Tryd.prog 96 #[.int .u64 x] w fun e w' => e = .returned (.int .i64 (Lib.bitLen x.toNat)) ∧ w' = w := Any.bits_Len64 Tryd.lays129 x w h0 h1
def Tryd.lays317_ren : Go.Shelf.Ren := ⟨fun | 317 => 113 | n => n, fun | 3 => 3 | 46 => 68 | n => n, fun | n => n⟩
theorem Tryd.lays317 : Go.Proofs.Lays.n317 Tryd.prog Tryd.lays317_ren := {
  mixed := by kernel_rfl
  f317 := Tryd.func113.trans (congrArg some (by kernel_rfl))
  t3 := Tryd.underlying3
  a3 := Tryd.isAgg3
  z3 := Tryd.sizeOf3
  v3 := Tryd.zeroValue3
  t46 := Tryd.underlying68
  a46 := Tryd.isAgg68
  z46 := Tryd.sizeOf68
  v46 := Tryd.zeroValue68 }
open Go.Lib in
/-- internal/strconv.log10Pow2: "log10Pow2(x) returns ⌊log₁₀ 2**x⌋ = ⌊x * log₁₀ 2⌋.": '(x * 78913) >> 18', at an x up to 64 (a length in bits). The world is as it was. (LAID: no walk: one application.) -/
theorem Tryd.internal_strconv_log10Pow2 (x : Nat) (h : x ≤ 64) (w : World) :
    Calls Tryd.prog 113 #[.int .i64 x] w fun e w' => e = .returned (.int .i64 (Lib.l10 x)) ∧ w' = w := Any.internal_strconv_log10Pow2 Tryd.lays317 x h w
def Tryd.lays318_ren : Go.Shelf.Ren := ⟨fun | 318 => 114 | n => n, fun | 3 => 3 | 4 => 4 | n => n, fun | n => n⟩
theorem Tryd.lays318 : Go.Proofs.Lays.n318 Tryd.prog Tryd.lays318_ren := {
  mixed := by kernel_rfl
  f318 := Tryd.func114.trans (congrArg some (by kernel_rfl))
  t3 := Tryd.underlying3
  a3 := Tryd.isAgg3
  z3 := Tryd.sizeOf3
  v3 := Tryd.zeroValue3
  t4 := Tryd.underlying4
  a4 := Tryd.isAgg4
  z4 := Tryd.sizeOf4
  v4 := Tryd.zeroValue4 }
open Go.Lib in
/-- internal/strconv.bool2: "bool2 converts b to an integer: 1 for true, 0 for false." The world is as it was. (LAID: no walk: one application.) -/
theorem Tryd.internal_strconv_bool2_int (b : Bool) (w : World) :
    Calls Tryd.prog 114 #[.bool b] w fun e w' => e = .returned (.int .i64 (if b then 1 else 0)) ∧ w' = w := Any.internal_strconv_bool2_int Tryd.lays318 b w
def Tryd.lays283_ren : Go.Shelf.Ren := ⟨fun | 283 => 108 | n => n, fun | 3 => 3 | 9 => 9 | 4 => 4 | n => n, fun | n => n⟩
theorem Tryd.lays283 : Go.Proofs.Lays.n283 Tryd.prog Tryd.lays283_ren := {
  mixed := by kernel_rfl
  f283 := Tryd.func108.trans (congrArg some (by kernel_rfl))
  t3 := Tryd.underlying3
  a3 := Tryd.isAgg3
  z3 := Tryd.sizeOf3
  v3 := Tryd.zeroValue3
  t4 := Tryd.underlying4
  a4 := Tryd.isAgg4
  z4 := Tryd.sizeOf4
  v4 := Tryd.zeroValue4
  t9 := Tryd.underlying9
  a9 := Tryd.isAgg9
  z9 := Tryd.sizeOf9
  v9 := Tryd.zeroValue9 }
open Go.Lib in
/-- internal/strconv.small: "small returns the string for an i with 0 <= i < nSmalls.": i's decimal numeral. The world is as it was. (LAID: no walk: one application.) -/
theorem Tryd.internal_strconv_small (i : Nat) (h : i < 100) (w : World) :
    Calls Tryd.prog 108 #[.int .i64 i] w fun e w' => e = .returned (.string ⟨(Lib.decDigits i).toArray⟩) ∧ w' = w := Any.internal_strconv_small Tryd.lays283 i h w
def Tryd.laysM284_ren : Go.Shelf.Ren := ⟨fun | 284 => 109 | 129 => 96 | 317 => 113 | 318 => 114 | n => n, fun | 53 => 81 | 3 => 3 | 212 => 117 | 0 => 0 | 4 => 4 | 46 => 68 | 5 => 5 | 9 => 9 | n => n, fun | 17 => 2 | n => n⟩
theorem Tryd.laysM284 : Go.Proofs.LaysM.n284 Tryd.prog Tryd.laysM284_ren := {
  mixed := by kernel_rfl
  f129 := Tryd.func96.trans (congrArg some (by kernel_rfl))
  f284 := Tryd.func109.trans (congrArg some (by kernel_rfl))
  f317 := Tryd.func113.trans (congrArg some (by kernel_rfl))
  f318 := Tryd.func114.trans (congrArg some (by kernel_rfl))
  t0 := Tryd.underlying0
  a0 := Tryd.isAgg0
  z0 := Tryd.sizeOf0
  v0 := Tryd.zeroValue0
  t3 := Tryd.underlying3
  a3 := Tryd.isAgg3
  z3 := Tryd.sizeOf3
  v3 := Tryd.zeroValue3
  t4 := Tryd.underlying4
  a4 := Tryd.isAgg4
  z4 := Tryd.sizeOf4
  v4 := Tryd.zeroValue4
  t5 := Tryd.underlying5
  a5 := Tryd.isAgg5
  z5 := Tryd.sizeOf5
  v5 := Tryd.zeroValue5
  t9 := Tryd.underlying9
  a9 := Tryd.isAgg9
  z9 := Tryd.sizeOf9
  v9 := Tryd.zeroValue9
  t46 := Tryd.underlying68
  a46 := Tryd.isAgg68
  z46 := Tryd.sizeOf68
  v46 := Tryd.zeroValue68
  t53 := Tryd.underlying81
  a53 := Tryd.isAgg81
  z53 := Tryd.sizeOf81
  v53 := Tryd.zeroValue81
  t212 := Tryd.underlying117
  a212 := Tryd.isAgg117
  z212 := Tryd.sizeOf117
  v212 := Tryd.zeroValue117
  g17 := by kernel_rfl
  i0 := by kernel_rfl
  i3 := by kernel_rfl
  i4 := by kernel_rfl
  i5 := by kernel_rfl
  i9 := by kernel_rfl
  i46 := by kernel_rfl
  i53 := by kernel_rfl
  i212 := by kernel_rfl
  m17 := by kernel_rfl }
open Go.Lib in
/-- internal/strconv.numDigits, at a d that is not 0: THE NUMBER OF d's DECIMAL DIGITS. The world is as it was. (LAID: no walk: one application.) -/
theorem Tryd.internal_strconv_numDigits (u : Nat) (h1 : 1 ≤ u) (h2 : u < 18446744073709551616) (w : World) (htab : Lib.TabIs Tryd.prog w "internal/strconv.uint64pow10" .u64 Lib.pow10Tab) :
    Calls Tryd.prog 109 #[.int .u64 u] w fun e w' => e = .returned (.int .i64 (Lib.nDigits u)) ∧ w' = w := Any.internal_strconv_numDigits Tryd.laysM284 u h1 h2 w htab
def Tryd.lays285_ren : Go.Shelf.Ren := ⟨fun | 285 => 110 | n => n, fun | 37 => 51 | 53 => 81 | 3 => 3 | 4 => 4 | 51 => 118 | 9 => 9 | 5 => 5 | 0 => 0 | n => n, fun | n => n⟩
theorem Tryd.lays285 : Go.Proofs.Lays.n285 Tryd.prog Tryd.lays285_ren := {
  mixed := by kernel_rfl
  f285 := Tryd.func110.trans (congrArg some (by kernel_rfl))
  t0 := Tryd.underlying0
  a0 := Tryd.isAgg0
  z0 := Tryd.sizeOf0
  v0 := Tryd.zeroValue0
  t3 := Tryd.underlying3
  a3 := Tryd.isAgg3
  z3 := Tryd.sizeOf3
  v3 := Tryd.zeroValue3
  t4 := Tryd.underlying4
  a4 := Tryd.isAgg4
  z4 := Tryd.sizeOf4
  v4 := Tryd.zeroValue4
  t5 := Tryd.underlying5
  a5 := Tryd.isAgg5
  z5 := Tryd.sizeOf5
  v5 := Tryd.zeroValue5
  t9 := Tryd.underlying9
  a9 := Tryd.isAgg9
  z9 := Tryd.sizeOf9
  v9 := Tryd.zeroValue9
  t37 := Tryd.underlying51
  a37 := Tryd.isAgg51
  z37 := Tryd.sizeOf51
  v37 := Tryd.zeroValue51
  t51 := Tryd.underlying118
  a51 := Tryd.isAgg118
  z51 := Tryd.sizeOf118
  v51 := Tryd.zeroValue118
  t53 := Tryd.underlying81
  a53 := Tryd.isAgg81
  z53 := Tryd.sizeOf81
  v53 := Tryd.zeroValue81 }
open Go.RowKit Go.Sort Go.Lib in
/-- internal/strconv.formatBase10: "formatBase10 formats the decimal representation of u into a. The caller is responsible for ensuring that a is big enough to hold u. If a is too big, leading zeros will be filled in as needed.": THE ROW HOLDS u's DIGITS ('FmtInv .. 0 ..': every place t holds 'dg u (len - 1 - t)'); all else is as it was but for the count of draws. (LAID: no walk: one application.) -/
theorem Tryd.internal_strconv_formatBase10 (blk off cap : Nat) (u : Nat) (d : Array UInt8) (w : World) (hH : Holds (fun (b : UInt8) => Value.int .u8 (b.toNat : Int)) w blk off d) (hu : u < 10 ^ d.size) (hu64 : u < 18446744073709551616) (hsz : d.size < 4611686018427387904) :
    Calls Tryd.prog 110 #[.slice (some ⟨blk, off, none⟩) d.size cap, .int .u64 u] w fun e w' =>
      e = .returned (.tuple #[]) ∧ ∃ (n v' : Nat) (dk : Array UInt8), w' = (putRow (fun (b : UInt8) => Value.int .u8 (b.toNat : Int)) w blk off dk).drewN n ∧ FmtInv d.size u 0 v' dk := Any.internal_strconv_formatBase10 Tryd.lays285 blk off cap u d w hH hu hu64 hsz
def Tryd.laysM246_ren : Go.Shelf.Ren := ⟨fun | 246 => 104 | 283 => 108 | 284 => 109 | 285 => 110 | 286 => 111 | 129 => 96 | 317 => 113 | 318 => 114 | 319 => 115 | 320 => 116 | 337 => 117 | 338 => 107 | n => n, fun | 2 => 2 | 3 => 3 | 9 => 9 | 4 => 4 | 171 => 109 | 0 => 0 | 53 => 81 | 37 => 51 | 5 => 5 | 173 => 111 | 212 => 117 | 51 => 118 | 20 => 20 | 213 => 119 | 46 => 68 | 232 => 122 | 233 => 114 | n => n, fun | 17 => 2 | 18 => 3 | 19 => 1 | n => n⟩
theorem Tryd.laysM246 : Go.Proofs.LaysM.n246 Tryd.prog Tryd.laysM246_ren := {
  mixed := by kernel_rfl
  f129 := Tryd.func96.trans (congrArg some (by kernel_rfl))
  f246 := Tryd.func104.trans (congrArg some (by kernel_rfl))
  f283 := Tryd.func108.trans (congrArg some (by kernel_rfl))
  f284 := Tryd.func109.trans (congrArg some (by kernel_rfl))
  f285 := Tryd.func110.trans (congrArg some (by kernel_rfl))
  f286 := Tryd.func111.trans (congrArg some (by kernel_rfl))
  f317 := Tryd.func113.trans (congrArg some (by kernel_rfl))
  f318 := Tryd.func114.trans (congrArg some (by kernel_rfl))
  f319 := Tryd.func115.trans (congrArg some (by kernel_rfl))
  f320 := Tryd.func116.trans (congrArg some (by kernel_rfl))
  f337 := Tryd.func117.trans (congrArg some (by kernel_rfl))
  f338 := Tryd.func107.trans (congrArg some (by kernel_rfl))
  t0 := Tryd.underlying0
  a0 := Tryd.isAgg0
  z0 := Tryd.sizeOf0
  v0 := Tryd.zeroValue0
  t2 := Tryd.underlying2
  a2 := Tryd.isAgg2
  z2 := Tryd.sizeOf2
  v2 := Tryd.zeroValue2
  t3 := Tryd.underlying3
  a3 := Tryd.isAgg3
  z3 := Tryd.sizeOf3
  v3 := Tryd.zeroValue3
  t4 := Tryd.underlying4
  a4 := Tryd.isAgg4
  z4 := Tryd.sizeOf4
  v4 := Tryd.zeroValue4
  t5 := Tryd.underlying5
  a5 := Tryd.isAgg5
  z5 := Tryd.sizeOf5
  v5 := Tryd.zeroValue5
  t9 := Tryd.underlying9
  a9 := Tryd.isAgg9
  z9 := Tryd.sizeOf9
  v9 := Tryd.zeroValue9
  t20 := Tryd.underlying20
  a20 := Tryd.isAgg20
  z20 := Tryd.sizeOf20
  v20 := Tryd.zeroValue20
  t37 := Tryd.underlying51
  a37 := Tryd.isAgg51
  z37 := Tryd.sizeOf51
  v37 := Tryd.zeroValue51
  t46 := Tryd.underlying68
  a46 := Tryd.isAgg68
  z46 := Tryd.sizeOf68
  v46 := Tryd.zeroValue68
  t51 := Tryd.underlying118
  a51 := Tryd.isAgg118
  z51 := Tryd.sizeOf118
  v51 := Tryd.zeroValue118
  t53 := Tryd.underlying81
  a53 := Tryd.isAgg81
  z53 := Tryd.sizeOf81
  v53 := Tryd.zeroValue81
  t171 := Tryd.underlying109
  a171 := Tryd.isAgg109
  z171 := Tryd.sizeOf109
  v171 := Tryd.zeroValue109
  t173 := Tryd.underlying111
  a173 := Tryd.isAgg111
  z173 := Tryd.sizeOf111
  v173 := Tryd.zeroValue111
  t212 := Tryd.underlying117
  a212 := Tryd.isAgg117
  z212 := Tryd.sizeOf117
  v212 := Tryd.zeroValue117
  t213 := Tryd.underlying119
  a213 := Tryd.isAgg119
  z213 := Tryd.sizeOf119
  t232 := Tryd.underlying122
  a232 := Tryd.isAgg122
  z232 := Tryd.sizeOf122
  v232 := Tryd.zeroValue122
  t233 := Tryd.underlying114
  a233 := Tryd.isAgg114
  z233 := Tryd.sizeOf114
  v233 := Tryd.zeroValue114
  g17 := by kernel_rfl
  g18 := by kernel_rfl
  g19 := by kernel_rfl
  i0 := by kernel_rfl
  i2 := by kernel_rfl
  i3 := by kernel_rfl
  i4 := by kernel_rfl
  i5 := by kernel_rfl
  i9 := by kernel_rfl
  i20 := by kernel_rfl
  i37 := by kernel_rfl
  i46 := by kernel_rfl
  i51 := by kernel_rfl
  i53 := by kernel_rfl
  i171 := by kernel_rfl
  i173 := by kernel_rfl
  i212 := by kernel_rfl
  i232 := by kernel_rfl
  i233 := by kernel_rfl
  m17 := by kernel_rfl
  m18 := by kernel_rfl
  m19 := by kernel_rfl }
open Go.RowKit Go.Sort Go.Lib in
/-- internal/strconv.FormatInt: "FormatInt returns the string representation of i in the given base": AT BASE 10: i's decimal numeral, for every int64. The world behind the call: the world before it, new blocks behind the heap, draws. (LAID: no walk: one application.) -/
theorem Tryd.internal_strconv_FormatInt_10 (n : Int) (h0 : -9223372036854775808 ≤ n) (h1 : n ≤ 9223372036854775807) (w : World) (htab : Lib.TabIs Tryd.prog w "internal/strconv.uint64pow10" .u64 Lib.pow10Tab) :
    Calls Tryd.prog 104 #[.int .i64 n, .int .i64 10] w fun e w' => e = .returned (.string ⟨(Lib.itoa n).toArray⟩) ∧ ∃ k os, w' = grow (w.drewN k) os := Any.internal_strconv_FormatInt_10 Tryd.laysM246 n h0 h1 w htab
def Tryd.lays246_ren : Go.Shelf.Ren := ⟨fun | 246 => 104 | 283 => 108 | 284 => 109 | 285 => 110 | 286 => 111 | 129 => 96 | 317 => 113 | 318 => 114 | 319 => 115 | 320 => 116 | 337 => 117 | 338 => 107 | n => n, fun | 2 => 2 | 3 => 3 | 9 => 9 | 4 => 4 | 171 => 109 | 0 => 0 | 53 => 81 | 37 => 51 | 5 => 5 | 173 => 111 | 212 => 117 | 51 => 118 | 20 => 20 | 213 => 119 | 46 => 68 | 232 => 122 | 233 => 114 | n => n, fun | 17 => 2 | 18 => 3 | 19 => 1 | n => n⟩
theorem Tryd.lays246 : Go.Proofs.Lays.n246 Tryd.prog Tryd.lays246_ren := {
  mixed := by kernel_rfl
  f129 := Tryd.func96.trans (congrArg some (by kernel_rfl))
  f246 := Tryd.func104.trans (congrArg some (by kernel_rfl))
  f283 := Tryd.func108.trans (congrArg some (by kernel_rfl))
  f284 := Tryd.func109.trans (congrArg some (by kernel_rfl))
  f285 := Tryd.func110.trans (congrArg some (by kernel_rfl))
  f286 := Tryd.func111.trans (congrArg some (by kernel_rfl))
  f317 := Tryd.func113.trans (congrArg some (by kernel_rfl))
  f318 := Tryd.func114.trans (congrArg some (by kernel_rfl))
  f319 := Tryd.func115.trans (congrArg some (by kernel_rfl))
  f320 := Tryd.func116.trans (congrArg some (by kernel_rfl))
  f337 := Tryd.func117.trans (congrArg some (by kernel_rfl))
  f338 := Tryd.func107.trans (congrArg some (by kernel_rfl))
  t0 := Tryd.underlying0
  a0 := Tryd.isAgg0
  z0 := Tryd.sizeOf0
  v0 := Tryd.zeroValue0
  t2 := Tryd.underlying2
  a2 := Tryd.isAgg2
  z2 := Tryd.sizeOf2
  v2 := Tryd.zeroValue2
  t3 := Tryd.underlying3
  a3 := Tryd.isAgg3
  z3 := Tryd.sizeOf3
  v3 := Tryd.zeroValue3
  t4 := Tryd.underlying4
  a4 := Tryd.isAgg4
  z4 := Tryd.sizeOf4
  v4 := Tryd.zeroValue4
  t5 := Tryd.underlying5
  a5 := Tryd.isAgg5
  z5 := Tryd.sizeOf5
  v5 := Tryd.zeroValue5
  t9 := Tryd.underlying9
  a9 := Tryd.isAgg9
  z9 := Tryd.sizeOf9
  v9 := Tryd.zeroValue9
  t20 := Tryd.underlying20
  a20 := Tryd.isAgg20
  z20 := Tryd.sizeOf20
  v20 := Tryd.zeroValue20
  t37 := Tryd.underlying51
  a37 := Tryd.isAgg51
  z37 := Tryd.sizeOf51
  v37 := Tryd.zeroValue51
  t46 := Tryd.underlying68
  a46 := Tryd.isAgg68
  z46 := Tryd.sizeOf68
  v46 := Tryd.zeroValue68
  t51 := Tryd.underlying118
  a51 := Tryd.isAgg118
  z51 := Tryd.sizeOf118
  v51 := Tryd.zeroValue118
  t53 := Tryd.underlying81
  a53 := Tryd.isAgg81
  z53 := Tryd.sizeOf81
  v53 := Tryd.zeroValue81
  t171 := Tryd.underlying109
  a171 := Tryd.isAgg109
  z171 := Tryd.sizeOf109
  v171 := Tryd.zeroValue109
  t173 := Tryd.underlying111
  a173 := Tryd.isAgg111
  z173 := Tryd.sizeOf111
  v173 := Tryd.zeroValue111
  t212 := Tryd.underlying117
  a212 := Tryd.isAgg117
  z212 := Tryd.sizeOf117
  v212 := Tryd.zeroValue117
  t213 := Tryd.underlying119
  a213 := Tryd.isAgg119
  z213 := Tryd.sizeOf119
  t232 := Tryd.underlying122
  a232 := Tryd.isAgg122
  z232 := Tryd.sizeOf122
  v232 := Tryd.zeroValue122
  t233 := Tryd.underlying114
  a233 := Tryd.isAgg114
  z233 := Tryd.sizeOf114
  v233 := Tryd.zeroValue114
  g17 := by kernel_rfl
  g18 := by kernel_rfl
  g19 := by kernel_rfl }
open Go.RowKit Go.Sort Go.Lib in
/-- THE ROAD WITHOUT THE TABLE: 0 <= i < 100: two constants are read, nothing is laid: no premise on the world, and the world is as it was. (LAID: no walk: one application.) -/
theorem Tryd.internal_strconv_FormatInt_10_small (i : Nat) (hi : i < 100) (w : World) :
    Calls Tryd.prog 104 #[.int .i64 i, .int .i64 10] w fun e w' => e = .returned (.string ⟨(Lib.decDigits i).toArray⟩) ∧ w' = w := Any.internal_strconv_FormatInt_10_small Tryd.lays246 i hi w
def Tryd.laysM243_ren : Go.Shelf.Ren := ⟨fun | 243 => 97 | 246 => 104 | 283 => 108 | 284 => 109 | 285 => 110 | 286 => 111 | 129 => 96 | 317 => 113 | 318 => 114 | 319 => 115 | 320 => 116 | 337 => 117 | 338 => 107 | n => n, fun | 3 => 3 | 9 => 9 | 2 => 2 | 4 => 4 | 171 => 109 | 0 => 0 | 53 => 81 | 37 => 51 | 5 => 5 | 173 => 111 | 212 => 117 | 51 => 118 | 20 => 20 | 213 => 119 | 46 => 68 | 232 => 122 | 233 => 114 | n => n, fun | 17 => 2 | 18 => 3 | 19 => 1 | n => n⟩
theorem Tryd.laysM243 : Go.Proofs.LaysM.n243 Tryd.prog Tryd.laysM243_ren := {
  mixed := by kernel_rfl
  f129 := Tryd.func96.trans (congrArg some (by kernel_rfl))
  f243 := Tryd.func97.trans (congrArg some (by kernel_rfl))
  f246 := Tryd.func104.trans (congrArg some (by kernel_rfl))
  f283 := Tryd.func108.trans (congrArg some (by kernel_rfl))
  f284 := Tryd.func109.trans (congrArg some (by kernel_rfl))
  f285 := Tryd.func110.trans (congrArg some (by kernel_rfl))
  f286 := Tryd.func111.trans (congrArg some (by kernel_rfl))
  f317 := Tryd.func113.trans (congrArg some (by kernel_rfl))
  f318 := Tryd.func114.trans (congrArg some (by kernel_rfl))
  f319 := Tryd.func115.trans (congrArg some (by kernel_rfl))
  f320 := Tryd.func116.trans (congrArg some (by kernel_rfl))
  f337 := Tryd.func117.trans (congrArg some (by kernel_rfl))
  f338 := Tryd.func107.trans (congrArg some (by kernel_rfl))
  t0 := Tryd.underlying0
  a0 := Tryd.isAgg0
  z0 := Tryd.sizeOf0
  v0 := Tryd.zeroValue0
  t2 := Tryd.underlying2
  a2 := Tryd.isAgg2
  z2 := Tryd.sizeOf2
  v2 := Tryd.zeroValue2
  t3 := Tryd.underlying3
  a3 := Tryd.isAgg3
  z3 := Tryd.sizeOf3
  v3 := Tryd.zeroValue3
  t4 := Tryd.underlying4
  a4 := Tryd.isAgg4
  z4 := Tryd.sizeOf4
  v4 := Tryd.zeroValue4
  t5 := Tryd.underlying5
  a5 := Tryd.isAgg5
  z5 := Tryd.sizeOf5
  v5 := Tryd.zeroValue5
  t9 := Tryd.underlying9
  a9 := Tryd.isAgg9
  z9 := Tryd.sizeOf9
  v9 := Tryd.zeroValue9
  t20 := Tryd.underlying20
  a20 := Tryd.isAgg20
  z20 := Tryd.sizeOf20
  v20 := Tryd.zeroValue20
  t37 := Tryd.underlying51
  a37 := Tryd.isAgg51
  z37 := Tryd.sizeOf51
  v37 := Tryd.zeroValue51
  t46 := Tryd.underlying68
  a46 := Tryd.isAgg68
  z46 := Tryd.sizeOf68
  v46 := Tryd.zeroValue68
  t51 := Tryd.underlying118
  a51 := Tryd.isAgg118
  z51 := Tryd.sizeOf118
  v51 := Tryd.zeroValue118
  t53 := Tryd.underlying81
  a53 := Tryd.isAgg81
  z53 := Tryd.sizeOf81
  v53 := Tryd.zeroValue81
  t171 := Tryd.underlying109
  a171 := Tryd.isAgg109
  z171 := Tryd.sizeOf109
  v171 := Tryd.zeroValue109
  t173 := Tryd.underlying111
  a173 := Tryd.isAgg111
  z173 := Tryd.sizeOf111
  v173 := Tryd.zeroValue111
  t212 := Tryd.underlying117
  a212 := Tryd.isAgg117
  z212 := Tryd.sizeOf117
  v212 := Tryd.zeroValue117
  t213 := Tryd.underlying119
  a213 := Tryd.isAgg119
  z213 := Tryd.sizeOf119
  t232 := Tryd.underlying122
  a232 := Tryd.isAgg122
  z232 := Tryd.sizeOf122
  v232 := Tryd.zeroValue122
  t233 := Tryd.underlying114
  a233 := Tryd.isAgg114
  z233 := Tryd.sizeOf114
  v233 := Tryd.zeroValue114
  g17 := by kernel_rfl
  g18 := by kernel_rfl
  g19 := by kernel_rfl
  i0 := by kernel_rfl
  i2 := by kernel_rfl
  i3 := by kernel_rfl
  i4 := by kernel_rfl
  i5 := by kernel_rfl
  i9 := by kernel_rfl
  i20 := by kernel_rfl
  i37 := by kernel_rfl
  i46 := by kernel_rfl
  i51 := by kernel_rfl
  i53 := by kernel_rfl
  i171 := by kernel_rfl
  i173 := by kernel_rfl
  i212 := by kernel_rfl
  i232 := by kernel_rfl
  i233 := by kernel_rfl
  m17 := by kernel_rfl
  m18 := by kernel_rfl
  m19 := by kernel_rfl }
open Go.RowKit Go.Sort Go.Lib in
/-- internal/strconv.Itoa: "Itoa is equivalent to FormatInt(int64(i), 10).": i's decimal numeral, for every int. (LAID: no walk: one application.) -/
theorem Tryd.internal_strconv_Itoa (n : Int) (h0 : -9223372036854775808 ≤ n) (h1 : n ≤ 9223372036854775807) (w : World) (htab : Lib.TabIs Tryd.prog w "internal/strconv.uint64pow10" .u64 Lib.pow10Tab) :
    Calls Tryd.prog 97 #[.int .i64 n] w fun e w' => e = .returned (.string ⟨(Lib.itoa n).toArray⟩) ∧ ∃ k os, w' = grow (w.drewN k) os := Any.internal_strconv_Itoa Tryd.laysM243 n h0 h1 w htab
def Tryd.lays243_ren : Go.Shelf.Ren := ⟨fun | 243 => 97 | 246 => 104 | 283 => 108 | 284 => 109 | 285 => 110 | 286 => 111 | 129 => 96 | 317 => 113 | 318 => 114 | 319 => 115 | 320 => 116 | 337 => 117 | 338 => 107 | n => n, fun | 3 => 3 | 9 => 9 | 2 => 2 | 4 => 4 | 171 => 109 | 0 => 0 | 53 => 81 | 37 => 51 | 5 => 5 | 173 => 111 | 212 => 117 | 51 => 118 | 20 => 20 | 213 => 119 | 46 => 68 | 232 => 122 | 233 => 114 | n => n, fun | 17 => 2 | 18 => 3 | 19 => 1 | n => n⟩
theorem Tryd.lays243 : Go.Proofs.Lays.n243 Tryd.prog Tryd.lays243_ren := {
  mixed := by kernel_rfl
  f129 := Tryd.func96.trans (congrArg some (by kernel_rfl))
  f243 := Tryd.func97.trans (congrArg some (by kernel_rfl))
  f246 := Tryd.func104.trans (congrArg some (by kernel_rfl))
  f283 := Tryd.func108.trans (congrArg some (by kernel_rfl))
  f284 := Tryd.func109.trans (congrArg some (by kernel_rfl))
  f285 := Tryd.func110.trans (congrArg some (by kernel_rfl))
  f286 := Tryd.func111.trans (congrArg some (by kernel_rfl))
  f317 := Tryd.func113.trans (congrArg some (by kernel_rfl))
  f318 := Tryd.func114.trans (congrArg some (by kernel_rfl))
  f319 := Tryd.func115.trans (congrArg some (by kernel_rfl))
  f320 := Tryd.func116.trans (congrArg some (by kernel_rfl))
  f337 := Tryd.func117.trans (congrArg some (by kernel_rfl))
  f338 := Tryd.func107.trans (congrArg some (by kernel_rfl))
  t0 := Tryd.underlying0
  a0 := Tryd.isAgg0
  z0 := Tryd.sizeOf0
  v0 := Tryd.zeroValue0
  t2 := Tryd.underlying2
  a2 := Tryd.isAgg2
  z2 := Tryd.sizeOf2
  v2 := Tryd.zeroValue2
  t3 := Tryd.underlying3
  a3 := Tryd.isAgg3
  z3 := Tryd.sizeOf3
  v3 := Tryd.zeroValue3
  t4 := Tryd.underlying4
  a4 := Tryd.isAgg4
  z4 := Tryd.sizeOf4
  v4 := Tryd.zeroValue4
  t5 := Tryd.underlying5
  a5 := Tryd.isAgg5
  z5 := Tryd.sizeOf5
  v5 := Tryd.zeroValue5
  t9 := Tryd.underlying9
  a9 := Tryd.isAgg9
  z9 := Tryd.sizeOf9
  v9 := Tryd.zeroValue9
  t20 := Tryd.underlying20
  a20 := Tryd.isAgg20
  z20 := Tryd.sizeOf20
  v20 := Tryd.zeroValue20
  t37 := Tryd.underlying51
  a37 := Tryd.isAgg51
  z37 := Tryd.sizeOf51
  v37 := Tryd.zeroValue51
  t46 := Tryd.underlying68
  a46 := Tryd.isAgg68
  z46 := Tryd.sizeOf68
  v46 := Tryd.zeroValue68
  t51 := Tryd.underlying118
  a51 := Tryd.isAgg118
  z51 := Tryd.sizeOf118
  v51 := Tryd.zeroValue118
  t53 := Tryd.underlying81
  a53 := Tryd.isAgg81
  z53 := Tryd.sizeOf81
  v53 := Tryd.zeroValue81
  t171 := Tryd.underlying109
  a171 := Tryd.isAgg109
  z171 := Tryd.sizeOf109
  v171 := Tryd.zeroValue109
  t173 := Tryd.underlying111
  a173 := Tryd.isAgg111
  z173 := Tryd.sizeOf111
  v173 := Tryd.zeroValue111
  t212 := Tryd.underlying117
  a212 := Tryd.isAgg117
  z212 := Tryd.sizeOf117
  v212 := Tryd.zeroValue117
  t213 := Tryd.underlying119
  a213 := Tryd.isAgg119
  z213 := Tryd.sizeOf119
  t232 := Tryd.underlying122
  a232 := Tryd.isAgg122
  z232 := Tryd.sizeOf122
  v232 := Tryd.zeroValue122
  t233 := Tryd.underlying114
  a233 := Tryd.isAgg114
  z233 := Tryd.sizeOf114
  v233 := Tryd.zeroValue114
  g17 := by kernel_rfl
  g18 := by kernel_rfl
  g19 := by kernel_rfl }
open Go.RowKit Go.Sort Go.Lib in
/-- THE ROAD WITHOUT THE TABLE: 0 <= i < 100. (LAID: no walk: one application.) -/
theorem Tryd.internal_strconv_Itoa_small (i : Nat) (hi : i < 100) (w : World) :
    Calls Tryd.prog 97 #[.int .i64 i] w fun e w' => e = .returned (.string ⟨(Lib.decDigits i).toArray⟩) ∧ w' = w := Any.internal_strconv_Itoa_small Tryd.lays243 i hi w
def Tryd.laysM171_ren : Go.Shelf.Ren := ⟨fun | 171 => 82 | 243 => 97 | 246 => 104 | 283 => 108 | 284 => 109 | 285 => 110 | 286 => 111 | 129 => 96 | 317 => 113 | 318 => 114 | 319 => 115 | 320 => 116 | 337 => 117 | 338 => 107 | n => n, fun | 3 => 3 | 9 => 9 | 2 => 2 | 4 => 4 | 171 => 109 | 0 => 0 | 53 => 81 | 37 => 51 | 5 => 5 | 173 => 111 | 212 => 117 | 51 => 118 | 20 => 20 | 213 => 119 | 46 => 68 | 232 => 122 | 233 => 114 | n => n, fun | 17 => 2 | 18 => 3 | 19 => 1 | n => n⟩
theorem Tryd.laysM171 : Go.Proofs.LaysM.n171 Tryd.prog Tryd.laysM171_ren := {
  mixed := by kernel_rfl
  f129 := Tryd.func96.trans (congrArg some (by kernel_rfl))
  f171 := Tryd.func82.trans (congrArg some (by kernel_rfl))
  f243 := Tryd.func97.trans (congrArg some (by kernel_rfl))
  f246 := Tryd.func104.trans (congrArg some (by kernel_rfl))
  f283 := Tryd.func108.trans (congrArg some (by kernel_rfl))
  f284 := Tryd.func109.trans (congrArg some (by kernel_rfl))
  f285 := Tryd.func110.trans (congrArg some (by kernel_rfl))
  f286 := Tryd.func111.trans (congrArg some (by kernel_rfl))
  f317 := Tryd.func113.trans (congrArg some (by kernel_rfl))
  f318 := Tryd.func114.trans (congrArg some (by kernel_rfl))
  f319 := Tryd.func115.trans (congrArg some (by kernel_rfl))
  f320 := Tryd.func116.trans (congrArg some (by kernel_rfl))
  f337 := Tryd.func117.trans (congrArg some (by kernel_rfl))
  f338 := Tryd.func107.trans (congrArg some (by kernel_rfl))
  t0 := Tryd.underlying0
  a0 := Tryd.isAgg0
  z0 := Tryd.sizeOf0
  v0 := Tryd.zeroValue0
  t2 := Tryd.underlying2
  a2 := Tryd.isAgg2
  z2 := Tryd.sizeOf2
  v2 := Tryd.zeroValue2
  t3 := Tryd.underlying3
  a3 := Tryd.isAgg3
  z3 := Tryd.sizeOf3
  v3 := Tryd.zeroValue3
  t4 := Tryd.underlying4
  a4 := Tryd.isAgg4
  z4 := Tryd.sizeOf4
  v4 := Tryd.zeroValue4
  t5 := Tryd.underlying5
  a5 := Tryd.isAgg5
  z5 := Tryd.sizeOf5
  v5 := Tryd.zeroValue5
  t9 := Tryd.underlying9
  a9 := Tryd.isAgg9
  z9 := Tryd.sizeOf9
  v9 := Tryd.zeroValue9
  t20 := Tryd.underlying20
  a20 := Tryd.isAgg20
  z20 := Tryd.sizeOf20
  v20 := Tryd.zeroValue20
  t37 := Tryd.underlying51
  a37 := Tryd.isAgg51
  z37 := Tryd.sizeOf51
  v37 := Tryd.zeroValue51
  t46 := Tryd.underlying68
  a46 := Tryd.isAgg68
  z46 := Tryd.sizeOf68
  v46 := Tryd.zeroValue68
  t51 := Tryd.underlying118
  a51 := Tryd.isAgg118
  z51 := Tryd.sizeOf118
  v51 := Tryd.zeroValue118
  t53 := Tryd.underlying81
  a53 := Tryd.isAgg81
  z53 := Tryd.sizeOf81
  v53 := Tryd.zeroValue81
  t171 := Tryd.underlying109
  a171 := Tryd.isAgg109
  z171 := Tryd.sizeOf109
  v171 := Tryd.zeroValue109
  t173 := Tryd.underlying111
  a173 := Tryd.isAgg111
  z173 := Tryd.sizeOf111
  v173 := Tryd.zeroValue111
  t212 := Tryd.underlying117
  a212 := Tryd.isAgg117
  z212 := Tryd.sizeOf117
  v212 := Tryd.zeroValue117
  t213 := Tryd.underlying119
  a213 := Tryd.isAgg119
  z213 := Tryd.sizeOf119
  t232 := Tryd.underlying122
  a232 := Tryd.isAgg122
  z232 := Tryd.sizeOf122
  v232 := Tryd.zeroValue122
  t233 := Tryd.underlying114
  a233 := Tryd.isAgg114
  z233 := Tryd.sizeOf114
  v233 := Tryd.zeroValue114
  g17 := by kernel_rfl
  g18 := by kernel_rfl
  g19 := by kernel_rfl
  i0 := by kernel_rfl
  i2 := by kernel_rfl
  i3 := by kernel_rfl
  i4 := by kernel_rfl
  i5 := by kernel_rfl
  i9 := by kernel_rfl
  i20 := by kernel_rfl
  i37 := by kernel_rfl
  i46 := by kernel_rfl
  i51 := by kernel_rfl
  i53 := by kernel_rfl
  i171 := by kernel_rfl
  i173 := by kernel_rfl
  i212 := by kernel_rfl
  i232 := by kernel_rfl
  i233 := by kernel_rfl
  m17 := by kernel_rfl
  m18 := by kernel_rfl
  m19 := by kernel_rfl }
open Go.RowKit Go.Sort Go.Lib in
/-- strconv.Itoa: "Itoa is equivalent to FormatInt(int64(i), 10).": i's DECIMAL NUMERAL ('Lib.itoa': a '-' where i is negative, then the digits), FOR EVERY int. The world behind the call: the world before it, new blocks behind the heap (the library's 'var a [24]byte'), draws. (LAID: no walk: one application.) -/
theorem Tryd.strconv_Itoa (n : Int) (h0 : -9223372036854775808 ≤ n) (h1 : n ≤ 9223372036854775807) (w : World) (htab : Lib.TabIs Tryd.prog w "internal/strconv.uint64pow10" .u64 Lib.pow10Tab) :
    Calls Tryd.prog 82 #[.int .i64 n] w fun e w' => e = .returned (.string ⟨(Lib.itoa n).toArray⟩) ∧ ∃ k os, w' = grow (w.drewN k) os := Any.strconv_Itoa Tryd.laysM171 n h0 h1 w htab
def Tryd.lays171_ren : Go.Shelf.Ren := ⟨fun | 171 => 82 | 243 => 97 | 246 => 104 | 283 => 108 | 284 => 109 | 285 => 110 | 286 => 111 | 129 => 96 | 317 => 113 | 318 => 114 | 319 => 115 | 320 => 116 | 337 => 117 | 338 => 107 | n => n, fun | 3 => 3 | 9 => 9 | 2 => 2 | 4 => 4 | 171 => 109 | 0 => 0 | 53 => 81 | 37 => 51 | 5 => 5 | 173 => 111 | 212 => 117 | 51 => 118 | 20 => 20 | 213 => 119 | 46 => 68 | 232 => 122 | 233 => 114 | n => n, fun | 17 => 2 | 18 => 3 | 19 => 1 | n => n⟩
theorem Tryd.lays171 : Go.Proofs.Lays.n171 Tryd.prog Tryd.lays171_ren := {
  mixed := by kernel_rfl
  f129 := Tryd.func96.trans (congrArg some (by kernel_rfl))
  f171 := Tryd.func82.trans (congrArg some (by kernel_rfl))
  f243 := Tryd.func97.trans (congrArg some (by kernel_rfl))
  f246 := Tryd.func104.trans (congrArg some (by kernel_rfl))
  f283 := Tryd.func108.trans (congrArg some (by kernel_rfl))
  f284 := Tryd.func109.trans (congrArg some (by kernel_rfl))
  f285 := Tryd.func110.trans (congrArg some (by kernel_rfl))
  f286 := Tryd.func111.trans (congrArg some (by kernel_rfl))
  f317 := Tryd.func113.trans (congrArg some (by kernel_rfl))
  f318 := Tryd.func114.trans (congrArg some (by kernel_rfl))
  f319 := Tryd.func115.trans (congrArg some (by kernel_rfl))
  f320 := Tryd.func116.trans (congrArg some (by kernel_rfl))
  f337 := Tryd.func117.trans (congrArg some (by kernel_rfl))
  f338 := Tryd.func107.trans (congrArg some (by kernel_rfl))
  t0 := Tryd.underlying0
  a0 := Tryd.isAgg0
  z0 := Tryd.sizeOf0
  v0 := Tryd.zeroValue0
  t2 := Tryd.underlying2
  a2 := Tryd.isAgg2
  z2 := Tryd.sizeOf2
  v2 := Tryd.zeroValue2
  t3 := Tryd.underlying3
  a3 := Tryd.isAgg3
  z3 := Tryd.sizeOf3
  v3 := Tryd.zeroValue3
  t4 := Tryd.underlying4
  a4 := Tryd.isAgg4
  z4 := Tryd.sizeOf4
  v4 := Tryd.zeroValue4
  t5 := Tryd.underlying5
  a5 := Tryd.isAgg5
  z5 := Tryd.sizeOf5
  v5 := Tryd.zeroValue5
  t9 := Tryd.underlying9
  a9 := Tryd.isAgg9
  z9 := Tryd.sizeOf9
  v9 := Tryd.zeroValue9
  t20 := Tryd.underlying20
  a20 := Tryd.isAgg20
  z20 := Tryd.sizeOf20
  v20 := Tryd.zeroValue20
  t37 := Tryd.underlying51
  a37 := Tryd.isAgg51
  z37 := Tryd.sizeOf51
  v37 := Tryd.zeroValue51
  t46 := Tryd.underlying68
  a46 := Tryd.isAgg68
  z46 := Tryd.sizeOf68
  v46 := Tryd.zeroValue68
  t51 := Tryd.underlying118
  a51 := Tryd.isAgg118
  z51 := Tryd.sizeOf118
  v51 := Tryd.zeroValue118
  t53 := Tryd.underlying81
  a53 := Tryd.isAgg81
  z53 := Tryd.sizeOf81
  v53 := Tryd.zeroValue81
  t171 := Tryd.underlying109
  a171 := Tryd.isAgg109
  z171 := Tryd.sizeOf109
  v171 := Tryd.zeroValue109
  t173 := Tryd.underlying111
  a173 := Tryd.isAgg111
  z173 := Tryd.sizeOf111
  v173 := Tryd.zeroValue111
  t212 := Tryd.underlying117
  a212 := Tryd.isAgg117
  z212 := Tryd.sizeOf117
  v212 := Tryd.zeroValue117
  t213 := Tryd.underlying119
  a213 := Tryd.isAgg119
  z213 := Tryd.sizeOf119
  t232 := Tryd.underlying122
  a232 := Tryd.isAgg122
  z232 := Tryd.sizeOf122
  v232 := Tryd.zeroValue122
  t233 := Tryd.underlying114
  a233 := Tryd.isAgg114
  z233 := Tryd.sizeOf114
  v233 := Tryd.zeroValue114
  g17 := by kernel_rfl
  g18 := by kernel_rfl
  g19 := by kernel_rfl }
open Go.RowKit Go.Sort Go.Lib in
/-- THE ROAD WITHOUT THE TABLE: 0 <= i < 100: NO PREMISE ON THE WORLD, AND THE WORLD IS AS IT WAS: a row that keeps its argument in that range need list no table ('laid = []'). (LAID: no walk: one application.) -/
theorem Tryd.strconv_Itoa_small (i : Nat) (hi : i < 100) (w : World) :
    Calls Tryd.prog 82 #[.int .i64 i] w fun e w' => e = .returned (.string ⟨(Lib.decDigits i).toArray⟩) ∧ w' = w := Any.strconv_Itoa_small Tryd.lays171 i hi w
def Tryd.laysNm237_ren : Go.Shelf.Ren := ⟨fun | 37 => 112 | n => n, fun | 3 => 3 | 4 => 4 | n => n, fun | n => n⟩
theorem Tryd.laysNm237 : Go.Proofs.Lays2.n37 Tryd.prog Tryd.laysNm237_ren := {
  mixed := by kernel_rfl
  f37 := Tryd.func112.trans (congrArg some (by kernel_rfl))
  t3 := Tryd.underlying3
  a3 := Tryd.isAgg3
  z3 := Tryd.sizeOf3
  v3 := Tryd.zeroValue3
  t4 := Tryd.underlying4
  a4 := Tryd.isAgg4
  z4 := Tryd.sizeOf4
  v4 := Tryd.zeroValue4 }
open Go.RowKit Go.Lib in
/-- cmp.isNaN[int]: 'x != x': false. (LAID: no walk: one application.) -/
theorem Tryd.cmp_isNaN_int2 (x : Int) (w : World) :
    Calls Tryd.prog 112 #[.int .i64 x] w fun e w' => e = .returned (.bool false) ∧ w' = w := Any.cmp_isNaN_int2 Tryd.laysNm237 x w
end Go.Proofs

namespace Go.Proofs.YthacdegaeokgnaaDoor
open Go.RowKit

/-! ### The order of bytes -/
theorem cmp_range (a b : List UInt8) : -1 ≤ Lib.compareBytes a b ∧ Lib.compareBytes a b ≤ 1 := by
  fun_induction Lib.compareBytes a b <;> first | omega | assumption
theorem cmp_swap (a b : List UInt8) : Lib.compareBytes b a = -Lib.compareBytes a b := by
  fun_induction Lib.compareBytes a b with
  | case1 => rfl
  | case2 => rfl
  | case3 => rfl
  | case4 x l y r h => rw [Lib.compareBytes, if_neg (by simp only [UInt8.lt_iff_toNat_lt] at *; omega), if_pos h]; rfl
  | case5 x l y r h h' => rw [Lib.compareBytes, if_pos h']
  | case6 x l y r h h' ih => rw [Lib.compareBytes, if_neg h', if_neg h, ih]
theorem cmp_eq (a b : List UInt8) : Lib.compareBytes a b = 0 ↔ a = b := by
  fun_induction Lib.compareBytes a b with
  | case1 => simp
  | case2 => simp
  | case3 => simp
  | case4 x l y r h => exact ⟨fun e => absurd e (by decide), fun e => by injection e with e1 _; subst e1; simp only [UInt8.lt_iff_toNat_lt] at h; omega⟩
  | case5 x l y r h h' => exact ⟨fun e => absurd e (by decide), fun e => by injection e with e1 _; subst e1; simp only [UInt8.lt_iff_toNat_lt] at h'; omega⟩
  | case6 x l y r h h' ih =>
    have e : x = y := by
      apply UInt8.toNat_inj.1
      simp only [UInt8.lt_iff_toNat_lt] at *
      omega
    rw [ih]; simp [e]
theorem cmp_trans (a b c : List UInt8) : Lib.compareBytes a b ≤ 0 → Lib.compareBytes b c ≤ 0 → Lib.compareBytes a c ≤ 0 ∧ (Lib.compareBytes a b < 0 → Lib.compareBytes a c < 0) := by
  fun_induction Lib.compareBytes a b generalizing c with
  | case1 => intro _ h; exact ⟨h, fun h => absurd h (by decide)⟩
  | case2 y bs =>
    intro _ h
    cases c with
    | nil => simp [Lib.compareBytes] at h
    | cons z cs => simp [Lib.compareBytes]
  | case3 => intro h; exact absurd h (by decide)
  | case4 x l y r h =>
    intro _ h2
    cases c with
    | nil => simp [Lib.compareBytes] at h2
    | cons z cs =>
      have hxz : x < z := by
        rw [Lib.compareBytes] at h2
        simp only [UInt8.lt_iff_toNat_lt] at *
        split at h2
        · omega
        · split at h2
          · exact absurd h2 (by decide)
          · omega
      rw [Lib.compareBytes, if_pos hxz]
      decide
  | case5 x l y r h h' => intro h; exact absurd h (by decide)
  | case6 x l y r h h' ih =>
    have e : x = y := by
      apply UInt8.toNat_inj.1
      simp only [UInt8.lt_iff_toNat_lt] at *
      omega
    subst e
    intro h1 h2
    cases c with
    | nil => simp [Lib.compareBytes] at h2
    | cons z cs =>
      rw [Lib.compareBytes] at h2 ⊢
      split
      · exact ⟨by decide, fun _ => by decide⟩
      · rename_i h3
        rw [if_neg h3] at h2
        split
        · rename_i h4; rw [if_pos h4] at h2; exact absurd h2 (by decide)
        · rename_i h4; rw [if_neg h4] at h2; exact ih cs h1 h2

theorem be_succ (v n : Nat) : be v (n + 1) = UInt8.ofNat (v / 2 ^ (8 * n) % 256) :: be v n := by
  unfold be
  rw [List.range_succ_eq_map, List.map_cons, List.map_map]
  congr 1
  apply List.map_congr_left
  intro i _
  simp only [Function.comp]
  rw [show n + 1 - 1 - i.succ = n - 1 - i from by omega]
theorem be_mod (v n : Nat) : be v n = be (v % 2 ^ (8 * n)) n := by
  unfold be
  apply List.map_congr_left
  intro i hi
  have hi : i < n := List.mem_range.1 hi
  have e : 2 ^ (8 * n) = 2 ^ (8 * (n - 1 - i)) * (256 * 2 ^ (8 * i)) := by
    rw [show (256 : Nat) = 2 ^ 8 from rfl, ← Nat.pow_add, ← Nat.pow_add]
    congr 1
    omega
  have e2 : v % 2 ^ (8 * n) / 2 ^ (8 * (n - 1 - i)) = v / 2 ^ (8 * (n - 1 - i)) % (256 * 2 ^ (8 * i)) := by rw [e, Nat.mod_mul_right_div_self]
  rw [e2, Nat.mod_mul_right_mod]
theorem be_cmp (n : Nat) : ∀ v u : Nat, v < 2 ^ (8 * n) → u < 2 ^ (8 * n) → Lib.compareBytes (be v n) (be u n) = if v < u then -1 else if v = u then 0 else 1 := by
  induction n with
  | zero =>
    intro v u hv hu
    have hv : v < 1 := hv
    have hu : u < 1 := hu
    obtain rfl : v = 0 := by omega
    obtain rfl : u = 0 := by omega
    rfl
  | succ n ih =>
    intro v u hv hu
    have hp : 2 ^ (8 * (n + 1)) = 256 * 2 ^ (8 * n) := by rw [Nat.mul_add, Nat.pow_add, Nat.mul_comm]
    have hv1 : v / 2 ^ (8 * n) < 256 := by rw [Nat.div_lt_iff_lt_mul (Nat.two_pow_pos _)]; omega
    have hu1 : u / 2 ^ (8 * n) < 256 := by rw [Nat.div_lt_iff_lt_mul (Nat.two_pow_pos _)]; omega
    have hm := ih (v % 2 ^ (8 * n)) (u % 2 ^ (8 * n)) (Nat.mod_lt _ (Nat.two_pow_pos _)) (Nat.mod_lt _ (Nat.two_pow_pos _))
    rw [← be_mod, ← be_mod] at hm
    rw [be_succ, be_succ, Lib.compareBytes, hm]
    have hvd := Nat.div_add_mod v (2 ^ (8 * n))
    have hud := Nat.div_add_mod u (2 ^ (8 * n))
    have hvl := Nat.mod_lt v (Nat.two_pow_pos (8 * n))
    have hul := Nat.mod_lt u (Nat.two_pow_pos (8 * n))
    generalize v / 2 ^ (8 * n) = A at *
    generalize u / 2 ^ (8 * n) = B at *
    generalize v % 2 ^ (8 * n) = C at *
    generalize u % 2 ^ (8 * n) = D at *
    generalize 2 ^ (8 * n) = M at *
    have hA : (UInt8.ofNat (A % 256)).toNat = A := by rw [UInt8.toNat_ofNat']; omega
    have hB : (UInt8.ofNat (B % 256)).toNat = B := by rw [UInt8.toNat_ofNat']; omega
    simp only [UInt8.lt_iff_toNat_lt, hA, hB]
    rcases Nat.lt_trichotomy A B with h | h | h
    · have h2 : M * A + M ≤ M * B := by rw [← Nat.mul_succ]; exact Nat.mul_le_mul_left _ h
      rw [if_pos h, if_pos (by omega)]
    · subst h
      rw [if_neg (by omega), if_neg (by omega)]
      by_cases h1 : C < D
      · rw [if_pos h1, if_pos (by omega)]
      · by_cases h2 : C = D
        · rw [if_neg h1, if_pos h2, if_neg (by omega), if_pos (by omega)]
        · rw [if_neg h1, if_neg h2, if_neg (by omega), if_neg (by omega)]
    · have h2 : M * B + M ≤ M * A := by rw [← Nat.mul_succ]; exact Nat.mul_le_mul_left _ h
      rw [if_neg (by omega), if_pos h, if_neg (by omega), if_neg (by omega)]

/-- What Put answers. -/
def PutIs (v n : Int) (s : ByteArray) (er : Int) : Prop :=
  (er = 0 ∧ 1 ≤ n ∧ n ≤ 7 ∧ 0 ≤ v ∧ v < 2 ^ (8 * n.toNat) ∧ s = ⟨(be v.toNat n.toNat).toArray⟩) ∨ (er = 1 ∧ s = ByteArray.empty ∧ (n < 1 ∨ 7 < n ∨ v < 0 ∨ 2 ^ (8 * n.toNat) ≤ v))

theorem put_cmp {v u n : Int} {s t : ByteArray} (hs : PutIs v n s 0) (ht : PutIs u n t 0) :
    (v < u ∧ Lib.compareBytes s.data.toList t.data.toList = -1) ∨ (v = u ∧ Lib.compareBytes s.data.toList t.data.toList = 0) ∨ (u < v ∧ Lib.compareBytes s.data.toList t.data.toList = 1) := by
  rcases hs with ⟨_, h1, h2, h3, h4, rfl⟩ | ⟨h, _⟩
  · rcases ht with ⟨_, _, _, g3, g4, rfl⟩ | ⟨h, _⟩
    · obtain ⟨v, rfl⟩ := Int.eq_ofNat_of_zero_le h3
      obtain ⟨u, rfl⟩ := Int.eq_ofNat_of_zero_le g3
      have a4 : v < 2 ^ (8 * n.toNat) := by exact_mod_cast h4
      have b4 : u < 2 ^ (8 * n.toNat) := by exact_mod_cast g4
      have := be_cmp n.toNat v u a4 b4
      simp only [Int.toNat_natCast]
      rw [this]
      rcases Nat.lt_trichotomy v u with h | h | h
      · exact .inl ⟨by omega, by rw [if_pos h]⟩
      · exact .inr (.inl ⟨by omega, by rw [if_neg (by omega), if_pos h]⟩)
      · exact .inr (.inr ⟨by omega, by rw [if_neg (by omega), if_neg (by omega)]⟩)
    · exact absurd h (by decide)
  · exact absurd h (by decide)

end Go.Proofs.YthacdegaeokgnaaDoor

namespace Go.Proofs.YthacdegaeokgnaaDoor
open Go.RowKit

end Go.Proofs.YthacdegaeokgnaaDoor

namespace Go.Proofs.YthacdegaeokgnaaDoor
open Go.RowKit

inductive GV where
  | ok (v n : Nat)
  | err (e : Int)

/-- What GetVar makes of bytes: i groups are taken, v is what they say. -/
def gv : List UInt8 → Nat → Nat → GV
  | [], i, _ => if i < 9 then .err 3 else .err 4
  | c :: r, i, v => if 9 ≤ i then .err 4 else if 128 ≤ c.toNat then gv r (i + 1) (v + c.toNat % 128 * 2 ^ (7 * i)) else if c.toNat = 0 ∧ 0 < i then .err 4 else .ok (v + c.toNat % 128 * 2 ^ (7 * i)) (i + 1)

theorem gv_long (l : List UInt8) (i v : Nat) (h : 9 ≤ i) : gv l i v = .err 4 := by
  cases l with
  | nil => rw [gv, if_neg (by omega)]
  | cons c r => rw [gv, if_pos h]

theorem gv_short (l : List UInt8) (i v : Nat) (h : i < 9) (hl : l = []) : gv l i v = .err 3 := by
  subst hl; rw [gv, if_pos h]

theorem gv_more (s : ByteArray) (k a : Nat) (hl : k < s.size) (hk : k < 9) (h : 128 ≤ s[k].toNat) :
    gv (s.data.toList.drop k) k a = gv (s.data.toList.drop (k + 1)) (k + 1) (a + s[k].toNat % 128 * 2 ^ (7 * k)) := by
  rw [List.drop_eq_getElem_cons (by simpa using hl), gv, if_neg (by omega), if_pos (by exact h)]; rfl
theorem gv_zero (s : ByteArray) (k a : Nat) (hl : k < s.size) (hk : k < 9) (h : s[k].toNat = 0) (h0 : 0 < k) :
    gv (s.data.toList.drop k) k a = .err 4 := by
  have e : (s.data.toList[k]'(by simpa using hl)).toNat = 0 := h
  rw [List.drop_eq_getElem_cons (by simpa using hl), gv, if_neg (by omega), if_neg (by omega), if_pos ⟨e, h0⟩]
theorem gv_last (s : ByteArray) (k a : Nat) (hl : k < s.size) (hk : k < 9) (h : s[k].toNat < 128) (h0 : ¬ (s[k].toNat = 0 ∧ 0 < k)) :
    gv (s.data.toList.drop k) k a = .ok (a + s[k].toNat % 128 * 2 ^ (7 * k)) (k + 1) := by
  have h' : (s.data.toList[k]'(by simpa using hl)).toNat < 128 := h
  have h0' : ¬ ((s.data.toList[k]'(by simpa using hl)).toNat = 0 ∧ 0 < k) := h0
  rw [List.drop_eq_getElem_cons (by simpa using hl), gv, if_neg (by omega), if_neg (by omega), if_neg h0']; rfl

def VarPost (p : Nat) (w : World) : GV → Ending → World → Prop
  | .ok v n, e, w' => e = .returned (.int .i64 (v : Int)) ∧ w'.cell? ⟨p, 1, none⟩ = some (.int .i64 (n : Int)) ∧ w.grownBy w' (some p)
  | .err er, e, w' => e = .panicked [{ v := .iface 28 (.int .i64 er), recovered := false }] ∧ w.grownBy w' (some p)

end Go.Proofs.YthacdegaeokgnaaDoor

namespace Go.Proofs.YthacdegaeokgnaaDoor
open Go.RowKit

theorem run_assert_errno (n : Int) (w : World) : (Instr.typeAssert (.iface 28 (.int .i64 n)) 20 28 true).run Tryd.prog w = .ok (.tuple #[.int .i64 n, .bool true]) w := by kernel_rfl

set_option maxHeartbeats 400000 in
theorem told_errno (er : Int) (w : World) :
    Calls Tryd.prog 41 #[.iface 28 (.int .i64 er)] w fun e w' => e = .returned (.int .i64 er) ∧ w = w' := by
  have hta := run_assert_errno er
  go_enter Tryd.func41, Tryd.ntmps41
  go_wp2
  go_ret
  exact ⟨rfl, rfl⟩

end Go.Proofs.YthacdegaeokgnaaDoor

namespace Go.Proofs.YthacdegaeokgnaaDoor
open Go.RowKit

set_option maxHeartbeats 400000 in
theorem plain_yes (c : Int) (w : World) (h1 : 32 ≤ c) (h2 : c ≤ 126) :
    Calls Tryd.prog 83 #[.int .u8 c] w fun e w' => e = .returned (.bool true) ∧ w = w' := by
  go_enter Tryd.func83, Tryd.ntmps83
  go_wp2
  go_ret
  exact ⟨rfl, rfl⟩
set_option maxHeartbeats 400000 in
theorem plain_no (c : Int) (w : World) (h : c < 32 ∨ 126 < c) :
    Calls Tryd.prog 83 #[.int .u8 c] w fun e w' => e = .returned (.bool false) ∧ w = w' := by
  by_cases h1 : c < 32
  · clear h
    go_enter Tryd.func83, Tryd.ntmps83
    go_wp2
    go_ret
    exact ⟨rfl, rfl⟩
  · have h2 : 126 < c := by omega
    have h3 : decide (c ≤ 126) = false := decide_eq_false (by omega)
    clear h
    go_enter Tryd.func83, Tryd.ntmps83
    go_wp2
    go_ret
    exact ⟨rfl, rfl⟩

/-- A digit of sixteen. -/
def hx (n : Nat) : UInt8 := if n < 10 then UInt8.ofNat (48 + n) else UInt8.ofNat (87 + n)
/-- A byte in quotes. -/
def qb (c : UInt8) : List UInt8 :=
  if c.toNat < 32 ∨ 126 < c.toNat then [92, 120, hx (c.toNat / 16), hx (c.toNat % 16)] else if c.toNat = 34 ∨ c.toNat = 92 then [92, c] else [c]
def quoteL (l : List UInt8) : List UInt8 := 34 :: (l.map qb).flatten ++ [34]
theorem qb_len (c : UInt8) : 1 ≤ (qb c).length ∧ (qb c).length ≤ 4 := by
  unfold qb
  split
  · simp
  · split <;> simp
theorem flat_len (l : List UInt8) : (l.map qb).flatten.length ≤ 4 * l.length := by
  induction l with
  | nil => simp
  | cons c r ih =>
    have := (qb_len c).2
    rw [List.map_cons, List.flatten_cons, List.length_append, List.length_cons]
    omega
theorem flat_snoc (s : ByteArray) (k : Nat) (h : k < s.size) : ((s.data.toList.take (k + 1)).map qb).flatten = ((s.data.toList.take k).map qb).flatten ++ qb s[k] := by
  rw [List.take_succ_eq_append_getElem (by simpa using h), List.map_append, List.flatten_append]
  simp; rfl

theorem hexidx0 (W : World) : (Instr.index 9 (.string ⟨#[48, 49, 50, 51, 52, 53, 54, 55, 56, 57, 97, 98, 99, 100, 101, 102]⟩) (.int .u8 0)).run Tryd.prog W = .ok (.int .u8 48) W := by kernel_rfl
theorem hexidx1 (W : World) : (Instr.index 9 (.string ⟨#[48, 49, 50, 51, 52, 53, 54, 55, 56, 57, 97, 98, 99, 100, 101, 102]⟩) (.int .u8 1)).run Tryd.prog W = .ok (.int .u8 49) W := by kernel_rfl
theorem hexidx2 (W : World) : (Instr.index 9 (.string ⟨#[48, 49, 50, 51, 52, 53, 54, 55, 56, 57, 97, 98, 99, 100, 101, 102]⟩) (.int .u8 2)).run Tryd.prog W = .ok (.int .u8 50) W := by kernel_rfl
theorem hexidx3 (W : World) : (Instr.index 9 (.string ⟨#[48, 49, 50, 51, 52, 53, 54, 55, 56, 57, 97, 98, 99, 100, 101, 102]⟩) (.int .u8 3)).run Tryd.prog W = .ok (.int .u8 51) W := by kernel_rfl
theorem hexidx4 (W : World) : (Instr.index 9 (.string ⟨#[48, 49, 50, 51, 52, 53, 54, 55, 56, 57, 97, 98, 99, 100, 101, 102]⟩) (.int .u8 4)).run Tryd.prog W = .ok (.int .u8 52) W := by kernel_rfl
theorem hexidx5 (W : World) : (Instr.index 9 (.string ⟨#[48, 49, 50, 51, 52, 53, 54, 55, 56, 57, 97, 98, 99, 100, 101, 102]⟩) (.int .u8 5)).run Tryd.prog W = .ok (.int .u8 53) W := by kernel_rfl
theorem hexidx6 (W : World) : (Instr.index 9 (.string ⟨#[48, 49, 50, 51, 52, 53, 54, 55, 56, 57, 97, 98, 99, 100, 101, 102]⟩) (.int .u8 6)).run Tryd.prog W = .ok (.int .u8 54) W := by kernel_rfl
theorem hexidx7 (W : World) : (Instr.index 9 (.string ⟨#[48, 49, 50, 51, 52, 53, 54, 55, 56, 57, 97, 98, 99, 100, 101, 102]⟩) (.int .u8 7)).run Tryd.prog W = .ok (.int .u8 55) W := by kernel_rfl
theorem hexidx8 (W : World) : (Instr.index 9 (.string ⟨#[48, 49, 50, 51, 52, 53, 54, 55, 56, 57, 97, 98, 99, 100, 101, 102]⟩) (.int .u8 8)).run Tryd.prog W = .ok (.int .u8 56) W := by kernel_rfl
theorem hexidx9 (W : World) : (Instr.index 9 (.string ⟨#[48, 49, 50, 51, 52, 53, 54, 55, 56, 57, 97, 98, 99, 100, 101, 102]⟩) (.int .u8 9)).run Tryd.prog W = .ok (.int .u8 57) W := by kernel_rfl
theorem hexidx10 (W : World) : (Instr.index 9 (.string ⟨#[48, 49, 50, 51, 52, 53, 54, 55, 56, 57, 97, 98, 99, 100, 101, 102]⟩) (.int .u8 10)).run Tryd.prog W = .ok (.int .u8 97) W := by kernel_rfl
theorem hexidx11 (W : World) : (Instr.index 9 (.string ⟨#[48, 49, 50, 51, 52, 53, 54, 55, 56, 57, 97, 98, 99, 100, 101, 102]⟩) (.int .u8 11)).run Tryd.prog W = .ok (.int .u8 98) W := by kernel_rfl
theorem hexidx12 (W : World) : (Instr.index 9 (.string ⟨#[48, 49, 50, 51, 52, 53, 54, 55, 56, 57, 97, 98, 99, 100, 101, 102]⟩) (.int .u8 12)).run Tryd.prog W = .ok (.int .u8 99) W := by kernel_rfl
theorem hexidx13 (W : World) : (Instr.index 9 (.string ⟨#[48, 49, 50, 51, 52, 53, 54, 55, 56, 57, 97, 98, 99, 100, 101, 102]⟩) (.int .u8 13)).run Tryd.prog W = .ok (.int .u8 100) W := by kernel_rfl
theorem hexidx14 (W : World) : (Instr.index 9 (.string ⟨#[48, 49, 50, 51, 52, 53, 54, 55, 56, 57, 97, 98, 99, 100, 101, 102]⟩) (.int .u8 14)).run Tryd.prog W = .ok (.int .u8 101) W := by kernel_rfl
theorem hexidx15 (W : World) : (Instr.index 9 (.string ⟨#[48, 49, 50, 51, 52, 53, 54, 55, 56, 57, 97, 98, 99, 100, 101, 102]⟩) (.int .u8 15)).run Tryd.prog W = .ok (.int .u8 102) W := by kernel_rfl
theorem hexidx (n : Nat) (h : n < 16) (W : World) : (Instr.index 9 (.string ⟨#[48, 49, 50, 51, 52, 53, 54, 55, 56, 57, 97, 98, 99, 100, 101, 102]⟩) (.int .u8 (n : Int))).run Tryd.prog W = .ok (.int .u8 ((hx n).toNat : Int)) W := by
  match n, h with
  | 0, _ => exact hexidx0 W
  | 1, _ => exact hexidx1 W
  | 2, _ => exact hexidx2 W
  | 3, _ => exact hexidx3 W
  | 4, _ => exact hexidx4 W
  | 5, _ => exact hexidx5 W
  | 6, _ => exact hexidx6 W
  | 7, _ => exact hexidx7 W
  | 8, _ => exact hexidx8 W
  | 9, _ => exact hexidx9 W
  | 10, _ => exact hexidx10 W
  | 11, _ => exact hexidx11 W
  | 12, _ => exact hexidx12 W
  | 13, _ => exact hexidx13 W
  | 14, _ => exact hexidx14 W
  | 15, _ => exact hexidx15 W
  | n + 16, h => omega
theorem and_15 : ∀ c : Nat, c < 256 → bits .and .u8 (c : Int) 15 = ((c % 16 : Nat) : Int) := by decide +kernel

set_option maxRecDepth 100000 in
set_option maxHeartbeats 2000000 in
theorem quote_any (s : ByteArray) (w : World) (hs : s.size ≤ 30000000000000) :
    Calls Tryd.prog 54 #[.string s] w fun e w' => e = .returned (.string ⟨(quoteL s.data.toList).toArray⟩) ∧ Below w.heap.size w w' := by
  go_enter Tryd.func54, Tryd.ntmps54
  go_wp2_with fail
  go_loopw [3, 9] (fun q i wr => ∃ k : Nat, k ≤ s.size ∧ i = .int .i64 (k : Int) ∧ Byt wr w.heap.size 5 q (34 :: ((s.data.toList.take k).map qb).flatten) ∧ Below w.heap.size w wr)
    (fun _ i _ => s.size - (intOf i).toNat)
  case atStart =>
    refine ⟨0, by omega, rfl, ?_, below_alloc (Below.refl _ _) (Nat.le_refl _) _⟩
    have := World.ownsRow_lit (base := w.heap.size) (e := 5) (size := 1) w #[.int .u8 34] 1 (Nat.le_refl _) (by unfold maxLen; omega) rfl
    exact this
  case round =>
    obtain ⟨k, hk, rfl, hown, hbe⟩ := hrel
    by_cases hl : k < s.size
    · have hb8 := UInt8.toNat_lt s[k]
      by_cases hp : s[k].toNat < 32 ∨ 126 < s[k].toNat
      · obtain ⟨a1, ha1⟩ : ∃ a, a = s[k].toNat / 16 := ⟨_, rfl⟩
        obtain ⟨a2, ha2⟩ : ∃ a, a = s[k].toNat % 16 := ⟨_, rfl⟩
        have hq : qb s[k] = [92, 120, hx a1, hx a2] := by unfold qb; rw [if_pos hp, ha1, ha2]
        have e1 : ((s[k].toNat : Int) / 16) = (a1 : Int) := by omega
        have e2 : bits .and .u8 (s[k].toNat : Int) 15 = (a2 : Int) := by rw [and_15 _ hb8, ha2]
        have i1 := hexidx a1 (by omega)
        have i2 := hexidx a2 (by omega)
        have Hq := Lib.hid hq
        clear ha1 ha2 hq
        go_wp2_with fail
        refine (plain_no _ _ (by omega)).mono ?_
        rintro e w1 ⟨rfl, rfl⟩
        go_wp2_with fail
        have hlen : (34 :: ((s.data.toList.take k).map qb).flatten).length + 4 < 140737488355328 := by
          have h1 := flat_len (s.data.toList.take k)
          have h2 := List.length_take_le k s.data.toList
          rw [List.length_cons]
          omega
        go_region_law (refine step_append_bytes rfl (.tmp 23) (.tmp 30) 51 rfl Tryd.underlying51 u8info rfl (hown.alloc _).drew ⟨wr.heap.size, 0, none⟩ 4 4 rfl [92, 120, hx a1, hx a2] rfl (cells_new wr 5 ([92, 120, hx a1, hx a2].map b8)) hlen (Nat.le_trans hbe.size (by simp)) ?_; intro v' w' hown' hgr)
        all_goals
          have hb' := (hown.alloc (.cells #[.int .u8 92, .int .u8 120, .int .u8 ((hx a1).toNat : Int), .int .u8 ((hx a2).toNat : Int)] 5)).drew.grown (below_alloc hbe (Nat.le_refl _) _).drew (Nat.le_trans hbe.size (by simp)) hgr
          have Hb := Lib.hid hown'
          clear hown' hgr hlen
          go_wp2
          go_roundw
          case rel => exact ⟨k + 1, by omega, by go_num, by rw [flat_snoc s k hl, Hq.out]; exact Hb.out, hb'⟩
          case measure => simp [intOf]; omega
      · have hp1 : (32 : Int) ≤ (s[k].toNat : Int) := by omega
        have hp2 : (s[k].toNat : Int) ≤ 126 := by omega
        have hlen : (34 :: ((s.data.toList.take k).map qb).flatten).length + 2 < 140737488355328 := by
          have h1 := flat_len (s.data.toList.take k)
          have h2 := List.length_take_le k s.data.toList
          rw [List.length_cons]
          omega
        have Hlen := Lib.hid hlen
        clear hlen
        by_cases h34 : s[k].toNat = 34 ∨ s[k].toNat = 92
        · have hq : qb s[k] = [92, s[k]] := by unfold qb; rw [if_neg hp, if_pos h34]
          have Hq := Lib.hid hq
          clear hq hp
          rcases h34 with h34 | h34
          · have e1 : ((s[k].toNat : Int) == 34) = true := by rw [beq_iff_eq]; omega
            clear h34
            go_wp2_with fail
            refine (plain_yes _ _ hp1 hp2).mono ?_
            rintro e w1 ⟨rfl, rfl⟩
            go_wp2_with (at_builtin; refine wpList_append_bytes _ rfl (.tmp 39) (.tmp 41) 51 rfl Tryd.underlying51 u8info rfl (hown.alloc _) ⟨wr.heap.size, 0, none⟩ 2 2 rfl [92, s[k]] rfl (cells_new wr 5 ([92, s[k]].map b8)) Hlen.out (Nat.le_trans hbe.size (by simp)) ?_; intro v' w' hown' hgr; have hb' := (hown.alloc (.cells #[.int .u8 92, .int .u8 (s[k].toNat : Int)] 5)).grown (below_alloc hbe (Nat.le_refl _) _) (Nat.le_trans hbe.size (by simp)) hgr; have Hb := Lib.hid hown'; clear hown' hgr)
            go_roundw
            case rel => exact ⟨k + 1, by omega, by go_num, by rw [flat_snoc s k hl, Hq.out]; exact Hb.out, hb'⟩
            case measure => simp [intOf]; omega
          · have e1 : ((s[k].toNat : Int) == 34) = false := by rw [beq_eq_false_iff_ne]; omega
            have e2 : ((s[k].toNat : Int) == 92) = true := by rw [beq_iff_eq]; omega
            clear h34
            go_wp2_with fail
            refine (plain_yes _ _ hp1 hp2).mono ?_
            rintro e w1 ⟨rfl, rfl⟩
            go_wp2_with (at_builtin; refine wpList_append_bytes _ rfl (.tmp 39) (.tmp 41) 51 rfl Tryd.underlying51 u8info rfl (hown.alloc _) ⟨wr.heap.size, 0, none⟩ 2 2 rfl [92, s[k]] rfl (cells_new wr 5 ([92, s[k]].map b8)) Hlen.out (Nat.le_trans hbe.size (by simp)) ?_; intro v' w' hown' hgr; have hb' := (hown.alloc (.cells #[.int .u8 92, .int .u8 (s[k].toNat : Int)] 5)).grown (below_alloc hbe (Nat.le_refl _) _) (Nat.le_trans hbe.size (by simp)) hgr; have Hb := Lib.hid hown'; clear hown' hgr)
            go_roundw
            case rel => exact ⟨k + 1, by omega, by go_num, by rw [flat_snoc s k hl, Hq.out]; exact Hb.out, hb'⟩
            case measure => simp [intOf]; omega
        · have hq : qb s[k] = [s[k]] := by unfold qb; rw [if_neg hp, if_neg h34]
          have e1 : ((s[k].toNat : Int) == 34) = false := by rw [beq_eq_false_iff_ne]; omega
          have e2 : ((s[k].toNat : Int) == 92) = false := by rw [beq_eq_false_iff_ne]; omega
          have Hq := Lib.hid hq
          clear hq hp h34
          go_wp2_with fail
          refine (plain_yes _ _ hp1 hp2).mono ?_
          rintro e w1 ⟨rfl, rfl⟩
          go_wp2_with (at_builtin; refine wpList_append_byte _ rfl (.tmp 15) (.tmp 17) 51 rfl Tryd.underlying51 u8info rfl (hown.alloc _) ⟨wr.heap.size, 0, none⟩ 1 rfl _ (cell_new _ _ _) s[k] rfl (Nat.lt_of_le_of_lt (Nat.le_add_right _ _) Hlen.out) (Nat.le_trans hbe.size (by simp)) ?_; intro v' w' hown' hgr; have hb' := (hown.alloc (.cells #[.int .u8 (s[k].toNat : Int)] 5)).grown (below_alloc hbe (Nat.le_refl _) _) (Nat.le_trans hbe.size (by simp)) hgr; have Hb := Lib.hid hown'; clear hown' hgr)
          go_roundw
          case rel => exact ⟨k + 1, by omega, by go_num, by rw [flat_snoc s k hl, Hq.out]; exact Hb.out, hb'⟩
          case measure => simp [intOf]; omega
    · obtain rfl : k = s.size := by omega
      have hlen : (34 :: ((s.data.toList.take s.size).map qb).flatten).length < 140737488355328 := by
        have h1 := flat_len (s.data.toList.take s.size)
        have h2 := List.length_take_le s.size s.data.toList
        rw [List.length_cons]
        omega
      have Hlen := Lib.hid hlen
      clear hlen
      go_wp2_with (at_builtin; refine wpList_append_byte _ rfl (.tmp 44) (.tmp 45) 51 rfl Tryd.underlying51 u8info rfl (hown.alloc _) ⟨wr.heap.size, 0, none⟩ 1 rfl _ (cell_new _ _ _) 34 rfl Hlen.out (Nat.le_trans hbe.size (by simp)) ?_; intro v' w' hown' hgr; have hb' := (hown.alloc (.cells #[.int .u8 34] 5)).grown (below_alloc hbe (Nat.le_refl _) _) (Nat.le_trans hbe.size (by simp)) hgr; have hcv := hown'.string (src := 51) (dst := 9) Tryd.underlying51 Tryd.underlying5 Tryd.underlying9; clear hown' hgr)
      go_ret
      refine ⟨?_, hb'⟩
      rw [List.take_of_length_le (by simp)]
      rfl
end Go.Proofs.YthacdegaeokgnaaDoor

namespace Go.Proofs.YthacdegaeokgnaaDoor
open Go.RowKit

/-! ### The reader's steps, of its whole block -/
/-! ### Digits -/
/-- The worth of a digit of sixteen. -/
def hexv (c : Nat) : Option Nat := if 97 ≤ c ∧ c ≤ 102 then some (c - 87) else if 65 ≤ c ∧ c ≤ 70 then some (c - 55) else if 48 ≤ c ∧ c ≤ 57 then some (c - 48) else none

def HexPost (w : World) : Option Nat → Ending → World → Prop
  | some v, e, w' => e = .returned (.int .u8 (v : Int)) ∧ w = w'
  | none, e, w' => e = .panicked [{ v := .iface 28 (.int .i64 4), recovered := false }] ∧ w = w'

/-! ### What stands behind a backslash -/
def escx : List UInt8 → Option (UInt8 × Nat)
  | a :: b :: _ => (hexv a.toNat).bind fun x => (hexv b.toNat).map fun y => (UInt8.ofNat (16 * x + y), 3)
  | _ => none
def esc : List UInt8 → Option (UInt8 × Nat)
  | [] => none
  | c :: r => if c.toNat = 34 ∨ c.toNat = 92 then some (c, 1) else if c.toNat = 120 then escx r else none

theorem escx_cons (a b : UInt8) (t : List UInt8) : escx (a :: b :: t) = (hexv a.toNat).bind fun x => (hexv b.toNat).map fun y => (UInt8.ofNat (16 * x + y), 3) := rfl
theorem hexv_lt {c v : Nat} (h : hexv c = some v) : v < 16 := by
  unfold hexv at h
  split at h
  · injection h; omega
  · split at h
    · injection h; omega
    · split at h
      · injection h; omega
      · cases h

theorem grown_trans {a b c : World} {p : Nat} (h : a.grownBy b (some p)) (k : b.grownBy c (some p)) : a.grownBy c (some p) :=
  ⟨k.os.trans h.os, k.tape.trans h.tape, k.output.trans h.output, Nat.le_trans h.size k.size, fun i hi hne => (k.block i (Nat.lt_of_lt_of_le hi h.size) hne).trans (h.block i hi hne)⟩

theorem or_nib (x y : Nat) (hx : x < 16) (hy : y < 16) : bits .or .u8 ((x : Int) * 16) (y : Int) = ((UInt8.ofNat (16 * x + y)).toNat : Int) := by
  have h : ∀ x < 16, ∀ y < 16, bits .or .u8 (((x * 16 : Nat) : Int)) ((y : Nat) : Int) = ((16 * x + y : Nat) : Int) := by decide +kernel
  rw [show ((x : Int) * 16) = ((x * 16 : Nat) : Int) from by omega, h x hx y hy, u8_of _ (by omega)]

/-! ### What stands in quotes, behind the first of them -/
theorem esc_pos {l : List UInt8} {c : UInt8} {n : Nat} (h : esc l = some (c, n)) : 1 ≤ n ∧ n ≤ l.length := by
  cases l with
  | nil => cases h
  | cons a r =>
    rw [esc] at h
    split at h
    · injection h with h; injection h with _ h; subst h; simp
    · split at h
      · cases r with
        | nil => cases h
        | cons b t =>
          cases t with
          | nil => cases h
          | cons d t =>
            rw [escx_cons] at h
            cases hx : hexv b.toNat with
            | none => rw [hx] at h; cases h
            | some x =>
              cases hy : hexv d.toNat with
              | none => rw [hx, hy] at h; cases h
              | some y =>
                rw [hx, hy] at h
                injection h with h; injection h with _ h; subst h; simp
      · cases h

def uq (l : List UInt8) : Option (List UInt8 × Nat) :=
  match l with
  | [] => none
  | c :: r => if c.toNat = 34 then some ([], 1) else if c.toNat = 92 then
      match _h : esc r with
      | some (d, n) => (uq (r.drop n)).map fun x => (d :: x.1, x.2 + n + 1)
      | none => none
    else if 32 ≤ c.toNat ∧ c.toNat ≤ 126 then (uq r).map fun x => (c :: x.1, x.2 + 1) else none
  termination_by l.length
  decreasing_by
    · simp; omega
    · simp
/-- acc has been gathered out of n bytes; the rest says x. -/
def onto (acc : List UInt8) (n : Nat) (x : Option (List UInt8 × Nat)) : Option (List UInt8 × Nat) := x.map fun x => (acc ++ x.1, n + x.2)

theorem uq_end (c : UInt8) (r : List UInt8) (h : c.toNat = 34) : uq (c :: r) = some ([], 1) := by rw [uq, if_pos h]
theorem uq_esc (c : UInt8) (r : List UInt8) (d : UInt8) (n : Nat) (h : c.toNat = 92) (he : esc r = some (d, n)) (acc : List UInt8) (m : Nat) : onto acc m (uq (c :: r)) = onto (acc ++ [d]) (m + 1 + n) (uq (r.drop n)) := by
  rw [uq, if_neg (by omega), if_pos h]
  split
  · rename_i d' n' h'
    rw [he] at h'
    injection h' with h'
    injection h' with h1 h2
    subst h1; subst h2
    unfold onto
    cases uq (r.drop n) with
    | none => rfl
    | some x =>
      simp
      omega
  · rename_i h'
    rw [he] at h'
    cases h'
theorem uq_bad (c : UInt8) (r : List UInt8) (h : c.toNat = 92) (he : esc r = none) : uq (c :: r) = none := by
  rw [uq, if_neg (by omega), if_pos h]
  split
  · rename_i d' n' h'
    rw [he] at h'
    cases h'
  · rfl
theorem uq_plain (c : UInt8) (r : List UInt8) (h1 : c.toNat ≠ 34) (h2 : c.toNat ≠ 92) (h : 32 ≤ c.toNat ∧ c.toNat ≤ 126) (acc : List UInt8) (m : Nat) : onto acc m (uq (c :: r)) = onto (acc ++ [c]) (m + 1) (uq r) := by
  rw [uq, if_neg h1, if_neg h2, if_pos h]
  unfold onto
  cases uq r with
  | none => rfl
  | some x =>
    simp
    omega
theorem uq_not (c : UInt8) (r : List UInt8) (h1 : c.toNat ≠ 34) (h2 : c.toNat ≠ 92) (h : ¬ (32 ≤ c.toNat ∧ c.toNat ≤ 126)) : uq (c :: r) = none := by
  rw [uq, if_neg h1, if_neg h2, if_neg h]

def unq : List UInt8 → Option (List UInt8 × Nat)
  | [] => none
  | c :: r => if c.toNat = 34 then onto [] 1 (uq r) else none

end Go.Proofs.YthacdegaeokgnaaDoor

namespace Go.Proofs.YthacdegaeokgnaaDoor
open Go.RowKit

/-! ### Get -/
def getL (l : List UInt8) : Nat := l.foldl (fun a c => a * 256 + c.toNat) 0
theorem getL_snoc (s : ByteArray) (k : Nat) (h : k < s.size) : getL (s.data.toList.take (k + 1)) = getL (s.data.toList.take k) * 256 + s[k].toNat := by
  unfold getL
  rw [List.take_succ_eq_append_getElem (by simpa using h), List.foldl_append]
  rfl

/-! ### Number -/
def digs : List UInt8 → Nat → Option Nat
  | [], a => some a
  | c :: r, a => if 48 ≤ c.toNat ∧ c.toNat ≤ 57 then digs r (a * 10 + (c.toNat - 48)) else none
def natL (l : List UInt8) : Option Nat := if l.length < 1 ∨ 16 < l.length ∨ (l.headD 0).toNat = 48 then none else digs l 0

def NatPost (w : World) : Option Nat → Ending → World → Prop
  | some v, e, w' => e = .returned (.int .i64 (v : Int)) ∧ w = w'
  | none, e, w' => e = .panicked [{ v := .iface 28 (.int .i64 4), recovered := false }] ∧ w = w'

end Go.Proofs.YthacdegaeokgnaaDoor

namespace Go.Proofs.YthacdegaeokgnaaDoor
open Go.RowKit Go.WideShapes Go.ChangeShapes

theorem block_lt {w : World} {g i : Nat} {v : Value} (h : w.cell? ⟨g, i, none⟩ = some v) : g < w.heap.size := by
  rcases Nat.lt_or_ge g w.heap.size with hlt | hge
  · exact hlt
  · simp [World.cell?, Array.getElem?_eq_none hge] at h

/-- n numbers stand at A. -/
structure IntsIn (w : World) (A : Option Addr) (n : Nat) (zs : List Int) : Prop where
  len : zs.length = n
  max : n ≤ 9223372036854775807
  some : 0 < n → ∃ b off, A = .some ⟨b, off, none⟩ ∧ b < w.heap.size ∧ ∀ j, j < n → w.cell? ⟨b, off + j, none⟩ = .some (.int .i64 (zs.getD j 0))
  wf : ∀ z ∈ zs, (Lit.int .i64 z).wf = true

theorem IntsIn.below {w w' : World} {A : Option Addr} {n : Nat} {zs : List Int} (h : IntsIn w A n zs) (hb : Below w.heap.size w w') : IntsIn w' A n zs :=
  ⟨h.len, h.max, fun hn => by
    obtain ⟨b, off, rfl, hlt, hc⟩ := h.some hn
    exact ⟨b, off, rfl, Nat.lt_of_lt_of_le hlt hb.size, fun j hj => (hb.cell (p := ⟨b, off + j, none⟩) hlt).trans (hc j hj)⟩, h.wf⟩

/-- n texts stand at A. -/
structure StrsIn (w : World) (A : Option Addr) (n : Nat) (ss : List ByteArray) : Prop where
  len : ss.length = n
  max : n ≤ 9223372036854775807
  some : 0 < n → ∃ b off, A = .some ⟨b, off, none⟩ ∧ b < w.heap.size ∧ ∀ j, j < n → w.cell? ⟨b, off + j, none⟩ = .some (.string (ss.getD j ByteArray.empty))
  size : ∀ s ∈ ss, s.size ≤ 9223372036854775807

theorem StrsIn.below {w w' : World} {A : Option Addr} {n : Nat} {ss : List ByteArray} (h : StrsIn w A n ss) (hb : Below w.heap.size w w') : StrsIn w' A n ss :=
  ⟨h.len, h.max, fun hn => by
    obtain ⟨b, off, rfl, hlt, hc⟩ := h.some hn
    exact ⟨b, off, rfl, Nat.lt_of_lt_of_le hlt hb.size, fun j hj => (hb.cell (p := ⟨b, off + j, none⟩) hlt).trans (hc j hj)⟩, h.size⟩

section
variable {H : Type} {enc : TypeId × Value → H} {P : Program} {w : World} {t e : TypeId} {A : Option Addr} {n cp : Nat} {d : DataW H} {p : List MemPlace}
theorem ints_view (ht : P.underlying t = some (.slice e)) (he : P.underlying e = some (.int .i64)) (hc : P.cellsOf e = 1) (h : DataW.Trod enc P w 0 (fun _ => true) true t (.slice A n cp) d p) : ∃ zs, IntsIn w A n zs := by
  obtain ⟨fuel, hf⟩ := h
  rcases open_ints ht he hc hf with ⟨hcs, _⟩ | ⟨a, len', cap', zs, hcs, _, hl, hm, hz, _, hcell, hwz⟩
  · simp [Value.cells] at hcs
    obtain ⟨rfl, rfl, rfl⟩ := hcs
    exact ⟨[], rfl, by decide, fun h => absurd h (by decide), fun z hz => by cases hz⟩
  · simp [Value.cells] at hcs
    obtain ⟨rfl, rfl, rfl⟩ := hcs
    rw [if_pos rfl] at hz
    unfold maxLen at hm
    refine ⟨zs.take n, by simp; omega, by omega, fun hn => ?_, fun z hz' => hwz z (List.mem_of_mem_take hz')⟩
    obtain ⟨b, off, rfl, hcc⟩ := ints_at hcell (by omega)
    refine ⟨b, off, rfl, block_lt (hcc 0 (by omega)), fun j hj => ?_⟩
    rw [hcc j (by omega)]
    simp [List.getD, hj]
theorem strs_view (ht : P.underlying t = some (.slice e)) (he : P.underlying e = some .string) (hc : P.cellsOf e = 1) (h : DataW.Trod enc P w 0 (fun _ => true) true t (.slice A n cp) d p) : ∃ ss, StrsIn w A n ss := by
  obtain ⟨fuel, hf⟩ := h
  rcases open_strings ht he hc hf with ⟨hcs, _⟩ | ⟨a, len', cap', ss, hcs, _, hl, hm, hz, _, hcell, hwz⟩
  · simp [Value.cells] at hcs
    obtain ⟨rfl, rfl, rfl⟩ := hcs
    exact ⟨[], rfl, by decide, fun h => absurd h (by decide), fun z hz => by cases hz⟩
  · simp [Value.cells] at hcs
    obtain ⟨rfl, rfl, rfl⟩ := hcs
    rw [if_pos rfl] at hz
    unfold maxLen at hm
    refine ⟨ss.take n, by simp; omega, by omega, fun hn => ?_, fun z hz' => by have := hwz z (List.mem_of_mem_take hz'); unfold maxLen at this; omega⟩
    obtain ⟨b, off, spot⟩ := a
    have hspot : spot = none := by simpa [Addr.add] using World.cell?_spot (hcell 0 (by omega))
    subst hspot
    have hcc : ∀ j, j < ss.length → w.cell? ⟨b, off + j, none⟩ = some (.string (ss.getD j ByteArray.empty)) := fun j hj => by rw [← Go.WideShapes.add_plain]; exact hcell j hj
    refine ⟨b, off, rfl, block_lt (hcc 0 (by omega)), fun j hj => ?_⟩
    rw [hcc j (by omega)]
    simp [List.getD, hj]
/-- Numbers that came in lie within the reach. -/
theorem ints_size (ht : P.underlying t = some (.slice e)) (he : P.underlying e = some (.int .i64)) (hc : P.cellsOf e = 1) (h : DataW.Trod enc P w 0 (fun _ => true) true t (.slice A n cp) d p)
    (hs : ∀ elems spare, d = .slice elems spare → (elems.length + spare.length) * 8 ≤ reachBytes) : n ≤ 17592186043904 := by
  obtain ⟨fuel, hf⟩ := h
  rcases open_ints ht he hc hf with ⟨hcs, _⟩ | ⟨a, len', cap', zs, hcs, _, hl, hm, hz, hx, _, _⟩
  · simp [Value.cells] at hcs
    omega
  · simp [Value.cells] at hcs
    obtain ⟨rfl, rfl, rfl⟩ := hcs
    have := hs _ _ (congrArg Prod.fst hx)
    rw [if_pos rfl] at hz
    simp only [lits, List.length_map, List.length_take, List.length_drop] at this
    unfold reachBytes at this
    omega
end
end Go.Proofs.YthacdegaeokgnaaDoor

namespace Go.Proofs.YthacdegaeokgnaaDoor
open Go.RowKit

/-- Is no time of xs above that of ys? -/
def leqL (xs ys : List Int) : Bool := decide (xs.length = ys.length ∧ ∀ j, j < xs.length → xs.getD j 0 ≤ ys.getD j 0)

theorem IntsIn.drewN {w : World} {A : Option Addr} {n : Nat} {zs : List Int} (h : IntsIn w A n zs) (q : Nat) : IntsIn (w.drewN q) A n zs := ⟨h.len, h.max, h.some, h.wf⟩
theorem drewN_zero (w : World) : w = w.drewN 0 := rfl
theorem drewN_more {w w1 : World} {q : Nat} (h : w1 = w.drewN q) (p : Nat) : ∃ r, w1.drewN p = w.drewN r := ⟨q + p, by rw [h, World.drewN_drewN]⟩

theorem list_ext_getD {xs ys : List Int} (h : xs.length = ys.length) (he : ∀ j, j < xs.length → xs.getD j 0 = ys.getD j 0) : xs = ys := by
  refine List.ext_getElem h fun j h1 h2 => ?_
  have := he j h1
  rwa [List.getD_eq_getElem?_getD, List.getD_eq_getElem?_getD, List.getElem?_eq_getElem h1, List.getElem?_eq_getElem h2] at this

/-- Is it a vector? -/
def validL (xs : List Int) : Bool := decide ((1 ≤ xs.length ∧ xs.length ≤ 8) ∧ ∀ j, j < xs.length → 0 ≤ xs.getD j 0 ∧ xs.getD j 0 < 281474976710656)

end Go.Proofs.YthacdegaeokgnaaDoor

namespace Go.Proofs.YthacdegaeokgnaaDoor
open Go.RowKit

theorem i64info : (Tryd.prog.info? 3).map (fun i => (i.zero, i.size, i.bytes)) = some (some (.int .i64 0), 1, 8) := by kernel_rfl

/-- v is a slice of the call's own (its block from B on) that holds the numbers zs. -/
def Nums (w : World) (B : Nat) (e : TypeId) (v : Value) (zs : List Int) : Prop := w.ownsRow B e 1 v zs.length (zs.map (Value.int .i64))

section
variable {w w' : World} {B : Nat} {e : TypeId} {v : Value} {zs : List Int}
theorem Nums.drewN (h : Nums w B e v zs) (n : Nat) : Nums (w.drewN n) B e v zs := h
theorem Nums.drew (h : Nums w B e v zs) : Nums w.drew B e v zs := h
theorem Nums.alloc (h : Nums w B e v zs) (o : Obj) : Nums (w.alloc o) B e v zs := World.ownsRow.alloc h o
theorem Nums.low (h : Nums w B e v zs) {B' : Nat} (hB : B' ≤ B) : Nums w B' e v zs := by
  refine ⟨h.1, ?_⟩
  rcases h.2 with hn | ⟨g, cap, cur, hv, hb, r⟩
  · exact Or.inl hn
  · exact Or.inr ⟨g, cap, cur, hv, Nat.le_trans hB hb, r⟩
theorem Nums.below (h : Nums w B e v zs) {B' : Nat} (hb : Below B' w w') (hB : w.heap.size ≤ B') : Nums w' B e v zs := by
  refine ⟨h.1, ?_⟩
  rcases h.2 with hn | ⟨g, cap, cur, hv, hg, hh, r⟩
  · exact Or.inl hn
  · exact Or.inr ⟨g, cap, cur, hv, hg, (hb.block g (Nat.lt_of_lt_of_le (Array.getElem?_eq_some_iff.1 hh).1 hB)).trans hh, r⟩
/-- As a slice that is read. -/
theorem Nums.ints (h : Nums w B e v zs) (hwf : ∀ z ∈ zs, (Lit.int .i64 z).wf = true) : ∃ A cp, v = .slice A zs.length cp ∧ IntsIn w A zs.length zs ∧ (0 < zs.length → ∃ g, A = some ⟨g, 0, none⟩ ∧ B ≤ g) := by
  rcases h.2 with ⟨rfl, hn⟩ | ⟨g, cap, cur, rfl, hb, hg, hc, hm, hs, ht⟩
  · exact ⟨none, 0, by rw [hn], ⟨rfl, by omega, fun h => by omega, hwf⟩, fun h => by omega⟩
  · refine ⟨some ⟨g, 0, none⟩, cap, rfl, ⟨rfl, by unfold maxLen at hm; omega, fun hn => ⟨g, 0, rfl, (Array.getElem?_eq_some_iff.1 hg).1, fun j hj => ?_⟩, hwf⟩, fun _ => ⟨g, rfl, hb⟩⟩
    have := World.ownsRow.cellAt (g := g) (cap := cap) h j (by omega)
    rw [Nat.zero_add, this]
    simp [List.getD, hj]
end

theorem wf_getD {zs : List Int} (h : ∀ z ∈ zs, (Lit.int .i64 z).wf = true) {j : Nat} (hj : j < zs.length) : (Lit.int .i64 (zs.getD j 0)).wf = true := by
  rw [List.getD_eq_getElem?_getD, List.getElem?_eq_getElem hj]
  exact h _ (List.getElem_mem _)

end Go.Proofs.YthacdegaeokgnaaDoor

namespace Go.Proofs.YthacdegaeokgnaaDoor
open Go.RowKit Go.Shelf

theorem bu8 : (Tryd.prog.info? 5).map (fun i => (i.zero, i.size, i.bytes)) = some (some (.int .u8 0), 1, 1) := by kernel_rfl
end Go.Proofs.YthacdegaeokgnaaDoor

namespace Go.Proofs.YthacdegaeokgnaaDoor
open Go.RowKit

theorem lt_of_cell {w : World} {g i : Nat} {v : Value} (h : w.cell? ⟨g, i, none⟩ = some v) : g < w.heap.size := by
  rcases Nat.lt_or_ge g w.heap.size with hlt | hge
  · exact hlt
  · simp [World.cell?, Array.getElem?_eq_none hge] at h

theorem glob_pow10 : Tryd.prog.globalNamed "internal/strconv.uint64pow10" = some 2 := by kernel_rfl

theorem below_grow {B : Nat} {a w : World} (h : Below B a w) (hB : B ≤ w.heap.size) (os : Array Obj) : Below B a (Sort.grow w os) :=
  ⟨h.os, h.tape, h.output, by have := h.size; simp [Sort.grow]; omega, fun i hi => by
    rw [← h.block i hi]
    simp [Sort.grow, Array.getElem?_append, show i < w.heap.size from by omega]⟩

set_option maxHeartbeats 400000 in
theorem digits_any (v : Int) (w : World) (h0 : -9223372036854775808 ≤ v) (h1 : v ≤ 9223372036854775807) (hp : Lib.TabIs Tryd.prog w "internal/strconv.uint64pow10" .u64 Lib.pow10Tab) :
    Calls Tryd.prog 53 #[.int .i64 v] w fun e w' => e = .returned (.string ⟨(Lib.itoa v).toArray⟩) ∧ Below w.heap.size w w' := by
  go_enter Tryd.func53, Tryd.ntmps53
  go_wp2_with fail
  refine (Tryd.strconv_Itoa v h0 h1 w hp).mono ?_
  rintro e w' ⟨rfl, k, os, rfl⟩
  go_wp2
  go_ret
  exact ⟨rfl, below_grow (below_drewN (Below.refl _ _) _) (Nat.le_refl _) _⟩
end Go.Proofs.YthacdegaeokgnaaDoor

namespace Go.Proofs.YthacdegaeokgnaaDoor
open Go.RowKit

/-- A vector's bytes. -/
def vecB (xs : List Int) : List UInt8 := UInt8.ofNat xs.length :: (xs.map fun z => be z.toNat 6).flatten

theorem vecB_step (xs : List Int) (k : Nat) (hk : k < xs.length) :
    UInt8.ofNat xs.length :: ((xs.take (k + 1)).map fun z => be z.toNat 6).flatten = (UInt8.ofNat xs.length :: ((xs.take k).map fun z => be z.toNat 6).flatten) ++ be (xs.getD k 0).toNat 6 := by
  have e : xs.getD k 0 = xs[k] := by rw [List.getD_eq_getElem?_getD, List.getElem?_eq_getElem hk]; rfl
  rw [e, List.take_succ_eq_append_getElem hk, List.map_append, List.flatten_append]
  simp

theorem validL_of {xs : List Int} (h : validL xs = true) : (1 ≤ xs.length ∧ xs.length ≤ 8) ∧ ∀ j, j < xs.length → 0 ≤ xs.getD j 0 ∧ xs.getD j 0 < 281474976710656 := of_decide_eq_true h

/-- A vector's text. -/
def textL (xs : List Int) : List UInt8 := 91 :: (Lib.join (xs.map Lib.itoa) [44] ++ [93])

theorem strinfo : (Tryd.prog.info? 9).map (fun i => (i.zero, i.size, i.bytes)) = some (some (.string ⟨#[]⟩), 1, 16) := by kernel_rfl

theorem vcat (a b : List UInt8) (ha : a.length ≤ 4611686018427387903) (hb : b.length ≤ 4611686018427387903) (w : World) : (Op.stringOp .add ⟨a.toArray⟩ ⟨b.toArray⟩).run Tryd.prog w = .ok (.string ⟨(a ++ b).toArray⟩) w := by
  rw [run_string_add_sum _ _ _ (by rw [size_mk, size_mk]; omega), ByteArray.mk_append_mk]

theorem lens_le (ls : List (List UInt8)) (m : Nat) (h : ∀ l ∈ ls, l.length ≤ m) : Lib.lens ls ≤ m * ls.length := by
  induction ls with
  | nil => exact Nat.zero_le _
  | cons a r ih =>
    have h1 := h a (by simp)
    have h2 := ih (fun l hl => h l (by simp [hl]))
    show a.length + Lib.lens r ≤ m * (r.length + 1)
    rw [Nat.mul_add]
    omega
theorem join_le (ls : List (List UInt8)) (m : Nat) (h : ∀ l ∈ ls, l.length ≤ m) : (Lib.join ls [44]).length ≤ (m + 1) * ls.length := by
  cases ls with
  | nil => rw [Lib.join_nil]; exact Nat.zero_le _
  | cons a r =>
    have h1 := lens_le (a :: r) m h
    rw [Lib.join_length]
    show 1 * r.length + Lib.lens (a :: r) ≤ (m + 1) * (r.length + 1)
    have h2 : Lib.lens (a :: r) ≤ m * (r.length + 1) := h1
    rw [Nat.add_mul]
    omega

theorem itoas_step (xs : List Int) (n k : Nat) (hx : xs.length = n) (hk : k < n) :
    (((xs.take k).map fun z => Value.string ⟨(Lib.itoa z).toArray⟩) ++ List.replicate (n - k) (Value.string ⟨#[]⟩)).set k (.string ⟨(Lib.itoa (xs.getD k 0)).toArray⟩)
      = ((xs.take (k + 1)).map fun z => Value.string ⟨(Lib.itoa z).toArray⟩) ++ List.replicate (n - (k + 1)) (Value.string ⟨#[]⟩) := by
  have e : xs.getD k 0 = xs[k] := by rw [List.getD_eq_getElem?_getD, List.getElem?_eq_getElem (by omega)]; rfl
  have hlt : ((xs.take k).map fun z => Value.string ⟨(Lib.itoa z).toArray⟩).length = k := by simp; omega
  rw [e, List.set_append_right _ _ (by omega), hlt, Nat.sub_self, show n - k = (n - (k + 1)) + 1 from by omega, List.replicate_succ, List.set_cons_zero, List.take_succ_eq_append_getElem (by omega), List.map_append]
  simp

end Go.Proofs.YthacdegaeokgnaaDoor

namespace Go.Proofs.YthacdegaeokgnaaDoor
open Go.RowKit

/-- How all versions of a key begin. -/
def headL : List UInt8 → List UInt8
  | [] => [0, 1]
  | c :: l => if c = 0 then 0 :: 255 :: headL l else c :: headL l

theorem headL_two : ∀ a : List UInt8, 2 ≤ (headL a).length ∧ a.length ≤ (headL a).length ∧ (headL a).length ≤ 2 * a.length + 2
  | [] => by simp [headL]
  | c :: l => by
    have := headL_two l
    unfold headL
    split <;> simp <;> omega

/-- No head begins another one's. -/
theorem headL_apart : ∀ (a b s t : List UInt8), headL a ++ s = headL b ++ t → a = b ∧ s = t
  | [], [], s, t, h => by simpa [headL] using h
  | [], d :: m, s, t, h => by
    unfold headL at h
    by_cases hd : d = 0
    · subst hd; simp at h
    · rw [if_neg hd] at h
      simp at h
      exact absurd h.1.symm hd
  | c :: l, [], s, t, h => by
    unfold headL at h
    by_cases hc : c = 0
    · subst hc; simp at h
    · rw [if_neg hc] at h
      simp at h
      exact absurd h.1 hc
  | c :: l, d :: m, s, t, h => by
    unfold headL at h
    by_cases hc : c = 0
    · by_cases hd : d = 0
      · subst hc hd
        simp only [if_true, List.cons_append, List.cons.injEq, true_and] at h
        obtain ⟨rfl, rfl⟩ := headL_apart l m s t h
        exact ⟨rfl, rfl⟩
      · rw [if_pos hc, if_neg hd] at h
        simp at h
        exact absurd h.1.symm hd
    · by_cases hd : d = 0
      · rw [if_neg hc, if_pos hd] at h
        simp at h
        exact absurd h.1 hc
      · rw [if_neg hc, if_neg hd] at h
        simp only [List.cons_append, List.cons.injEq] at h
        obtain ⟨rfl, h⟩ := h
        obtain ⟨rfl, rfl⟩ := headL_apart l m s t h
        exact ⟨rfl, rfl⟩

theorem less_cons (a b : UInt8) (x y : List UInt8) : Op.bytesLess (a :: x) (b :: y) = (decide (a < b) || (a == b && Op.bytesLess x y)) := rfl
theorem less_same (a : UInt8) (x y : List UInt8) : Op.bytesLess (a :: x) (a :: y) = Op.bytesLess x y := by
  rw [less_cons]
  simp
theorem less_ne {a b : UInt8} (h : a ≠ b) (x y : List UInt8) : Op.bytesLess (a :: x) (b :: y) = decide (a < b) := by
  rw [less_cons]
  simp [h]
theorem less_app : ∀ (p x y : List UInt8), Op.bytesLess (p ++ x) (p ++ y) = Op.bytesLess x y
  | [], _, _ => rfl
  | a :: p, x, y => by rw [List.cons_append, List.cons_append, less_same]; exact less_app p x y
/-- Of two unlike rows of one length it doesn't matter what stands behind them. -/
theorem less_front : ∀ (p q x y : List UInt8), p.length = q.length → p ≠ q → Op.bytesLess (p ++ x) (q ++ y) = Op.bytesLess p q
  | [], [], _, _, _, h => absurd rfl h
  | a :: p, b :: q, x, y, hl, hn => by
    rw [List.cons_append, List.cons_append]
    by_cases hab : a = b
    · subst hab
      rw [less_same, less_same]
      exact less_front p q x y (by simpa using hl) (fun e => hn (by rw [e]))
    · rw [less_ne hab, less_ne hab]
theorem less_iff : ∀ (a b : List UInt8), Op.bytesLess a b = decide (Lib.compareBytes a b < 0)
  | [], [] => by simp [Op.bytesLess, Lib.compareBytes]
  | [], _ :: _ => by simp [Op.bytesLess, Lib.compareBytes]
  | _ :: _, [] => by simp [Op.bytesLess, Lib.compareBytes]
  | a :: x, b :: y => by
    unfold Lib.compareBytes
    by_cases h : a = b
    · subst h
      have hn : ¬ a < a := fun h => by simp at h
      rw [less_same, if_neg hn, if_neg hn]
      exact less_iff x y
    · rw [less_ne h]
      by_cases hl : a < b
      · simp [hl]
      · have hb : b < a := by
          rcases Nat.lt_trichotomy a.toNat b.toNat with g | g | g
          · exact absurd (UInt8.lt_iff_toNat_lt.2 g) hl
          · exact absurd (UInt8.toNat_inj.1 g) h
          · exact UInt8.lt_iff_toNat_lt.2 g
        simp [hl, hb]
theorem be_less (n v u : Nat) (hv : v < 2 ^ (8 * n)) (hu : u < 2 ^ (8 * n)) : Op.bytesLess (be v n) (be u n) = decide (v < u) := by
  rw [less_iff, be_cmp n v u hv hu]
  by_cases h : v < u
  · simp [h]
  · rw [if_neg h]
    by_cases g : v = u
    · simp [g]
    · rw [if_neg g]; simp [h]
theorem be_inj (n v u : Nat) (hv : v < 2 ^ (8 * n)) (hu : u < 2 ^ (8 * n)) (h : be v n = be u n) : v = u := by
  have h1 := be_less n v u hv hu
  have h2 := be_less n u v hu hv
  have h3 := be_less n u u hu hu
  rw [h] at h1
  rw [← h, h] at h2
  rw [h1] at h3
  have e1 : ¬ v < u := by
    intro g
    rw [decide_eq_true g, decide_eq_false (Nat.lt_irrefl u)] at h3
    cases h3
  have e2 : ¬ u < v := by
    intro g
    have h4 := be_less n u u hu hu
    rw [h2, decide_eq_true g, decide_eq_false (Nat.lt_irrefl u)] at h4
    cases h4
  omega

/-- Bytes of a lesser key come first, whatever stands behind. -/
theorem headL_less : ∀ (a b s t : List UInt8), a ≠ b → Op.bytesLess (headL a ++ s) (headL b ++ t) = Op.bytesLess a b
  | [], [], _, _, h => absurd rfl h
  | [], d :: m, s, t, _ => by
    unfold headL
    by_cases hd : d = 0
    · subst hd
      simp [Op.bytesLess]
    · rw [if_neg hd]
      have : (0 : UInt8) < d := by
        rcases Nat.eq_zero_or_pos d.toNat with g | g
        · exact absurd (UInt8.toNat_inj.1 (by simpa using g)) hd
        · exact UInt8.lt_iff_toNat_lt.2 (by simpa using g)
      simp [Op.bytesLess, this]
  | c :: l, [], s, t, _ => by
    unfold headL
    by_cases hc : c = 0
    · subst hc
      simp [Op.bytesLess]
    · rw [if_neg hc]
      have : ¬ c < 0 := by
        intro g
        have := UInt8.lt_iff_toNat_lt.1 g
        simp at this
      simp [Op.bytesLess, hc]
  | c :: l, d :: m, s, t, h => by
    unfold headL
    by_cases hcd : c = d
    · subst hcd
      have hn : l ≠ m := fun e => h (by rw [e])
      rw [less_same]
      by_cases hc : c = 0
      · rw [if_pos hc, if_pos hc]
        simp only [List.cons_append]
        rw [less_same, less_same]
        exact headL_less l m s t hn
      · rw [if_neg hc, if_neg hc]
        simp only [List.cons_append]
        rw [less_same]
        exact headL_less l m s t hn
    · rw [less_ne hcd]
      by_cases hc : c = 0
      · rw [if_pos hc, if_neg (fun e => hcd (hc.trans e.symm))]
        simp only [List.cons_append]
        subst hc
        rw [less_ne hcd]
      · by_cases hd : d = 0
        · rw [if_neg hc, if_pos hd]
          simp only [List.cons_append]
          subst hd
          rw [less_ne hcd]
        · rw [if_neg hc, if_neg hd]
          simp only [List.cons_append]
          rw [less_ne hcd]
theorem headL_only (a b : List UInt8) (h : a ≠ b) : Op.bytesLess (headL a) (headL b) = Op.bytesLess a b := by
  have := headL_less a b [] [] h
  simpa using this
theorem less_irrefl (a : List UInt8) : Op.bytesLess a a = false := by
  have := less_app a [] []
  rw [List.append_nil] at this
  rw [this]
  rfl

/-- The bytes behind a head: the time, the place and the number, from behind, and the vector. -/
def tailL (tm o x : Nat) (r : List UInt8) : List UInt8 := be (281474976710655 - tm) 6 ++ (be (255 - o) 1 ++ (be (281474976710655 - x) 6 ++ r))
/-- Of one key the bytes of the later stamp come first. -/
theorem tailL_less (tm o x tm' o' x' : Nat) (r r' : List UInt8) (h1 : tm ≤ 281474976710655) (h1' : tm' ≤ 281474976710655) (h2 : o ≤ 255) (h2' : o' ≤ 255) (h3 : x ≤ 281474976710655) (h3' : x' ≤ 281474976710655)
    (hn : ¬ (tm = tm' ∧ o = o' ∧ x = x')) :
    Op.bytesLess (tailL tm o x r) (tailL tm' o' x' r') = decide (tm' < tm ∨ (tm = tm' ∧ (o' < o ∨ (o = o' ∧ x' < x)))) := by
  unfold tailL
  by_cases e1 : tm = tm'
  · subst e1
    rw [less_app]
    by_cases e2 : o = o'
    · subst e2
      rw [less_app]
      have e3 : x ≠ x' := fun e => hn ⟨rfl, rfl, e⟩
      rw [less_front _ _ _ _ (by rw [be_length, be_length]) (fun e => e3 (by have := be_inj 6 _ _ (by omega) (by omega) e; omega)), be_less 6 _ _ (by omega) (by omega)]
      congr 1
      apply propext
      omega
    · rw [less_front _ _ _ _ (by rw [be_length, be_length]) (fun e => e2 (by have := be_inj 1 _ _ (by omega) (by omega) e; omega)), be_less 1 _ _ (by omega) (by omega)]
      congr 1
      apply propext
      omega
  · rw [less_front _ _ _ _ (by rw [be_length, be_length]) (fun e => e1 (by have := be_inj 6 _ _ (by omega) (by omega) e; omega)), be_less 6 _ _ (by omega) (by omega)]
    congr 1
    apply propext
    omega
end Go.Proofs.YthacdegaeokgnaaDoor

namespace Go.Proofs.YthacdegaeokgnaaDoor
open Go.RowKit

/-- The call's three results lie in blocks of their own. -/
structure Cells3 (w : World) (p : Nat) (x y z : Value) : Prop where
  b0 : Blk w p 42 #[x]
  b1 : Blk w (p + 1) 3 #[y]
  b2 : Blk w (p + 1 + 1) 28 #[z]

theorem Cells3.drewN {w : World} {p : Nat} {x y z : Value} (h : Cells3 w p x y z) (q : Nat) : Cells3 (w.drewN q) p x y z := ⟨h.b0, h.b1, h.b2⟩

/-- The times that stand in bytes. -/
def timesL (l : List UInt8) (n : Nat) : List Int := (List.range n).map fun i => ((getL ((l.drop (1 + 6 * i)).take 6) : Nat) : Int)
theorem timesL_length (l : List UInt8) (n : Nat) : (timesL l n).length = n := by simp [timesL]
theorem times_step (l : List UInt8) (n k : Nat) (hk : k < n) :
    (((timesL l n).take k ++ List.replicate (n - k) (0 : Int)).map (Value.int .i64)).set k (.int .i64 (getL ((l.drop (1 + 6 * k)).take 6) : Nat))
      = ((timesL l n).take (k + 1) ++ List.replicate (n - (k + 1)) (0 : Int)).map (Value.int .i64) := by
  have hl := timesL_length l n
  have hlt : (List.take k (timesL l n)).length = k := by simp; omega
  have hg : (timesL l n)[k]? = some ((getL ((l.drop (1 + 6 * k)).take 6) : Nat) : Int) := by
    unfold timesL
    rw [List.getElem?_map, List.getElem?_range hk]
    rfl
  have ht : (timesL l n).take (k + 1) = (timesL l n).take k ++ [((getL ((l.drop (1 + 6 * k)).take 6) : Nat) : Int)] := by
    rw [List.take_add_one, hg]
    rfl
  rw [← List.map_set, List.set_append_right _ _ (by omega), hlt, Nat.sub_self, show n - k = (n - (k + 1)) + 1 from by omega, List.replicate_succ, List.set_cons_zero, ht, List.append_assoc]
  rfl

theorem rest_step (s : ByteArray) (k : Nat) (r : ByteArray) (hr : r = s.extract (1 + 6 * k) s.size) (h : 1 + 6 * (k + 1) ≤ s.size) :
    r.data.toList.take 6 = (s.data.toList.drop (1 + 6 * k)).take 6 ∧ r.extract 6 r.size = s.extract (1 + 6 * (k + 1)) s.size ∧ 6 ≤ r.size := by
  have hrs : r.size = s.size - (1 + 6 * k) := by rw [hr]; simp
  refine ⟨?_, ?_, by omega⟩
  · rw [hr, Lib.extract_data, List.take_take, Nat.min_eq_left (by omega)]
  · apply ByteArray.ext
    apply Array.ext'
    rw [Lib.extract_data, Lib.extract_data, hr, Lib.extract_data]
    simp only [ByteArray.size_extract, List.drop_take, List.drop_drop, List.take_take]
    congr 1
    omega

theorem Cells3.setOther {w : World} {p g : Nat} {x y z : Value} (h : Cells3 w p x y z) (hg : p + 1 + 1 < g) (j : Nat) (u : Value) : Cells3 (w.setCell ⟨g, j, none⟩ u) p x y z :=
  ⟨h.b0.far (by dsimp only; omega) u, h.b1.far (by dsimp only; omega) u, h.b2.far (by dsimp only; omega) u⟩

end Go.Proofs.YthacdegaeokgnaaDoor

namespace Go.Proofs.YthacdegaeokgnaaDoor
open Go.RowKit

def numL (l : List UInt8) : Option Int := if l = [48] then some 0 else (natL (Lib.trimPrefix l [45])).map fun (v : Nat) => if Lib.hasPrefix l [45] then -(v : Int) else (v : Int)

theorem digs_lt (l : List UInt8) : ∀ a v, digs l a = some v → v < (a + 1) * 10 ^ l.length := by
  induction l with
  | nil => intro a v h; injection h with h; subst h; simp
  | cons c r ih =>
    intro a v h
    rw [digs] at h
    split at h
    · have := ih _ _ h
      rw [List.length_cons, Nat.pow_succ]
      have h2 : (a * 10 + (c.toNat - 48) + 1) * 10 ^ r.length ≤ ((a + 1) * 10) * 10 ^ r.length := Nat.mul_le_mul_right _ (by omega)
      rw [Nat.mul_assoc, Nat.mul_comm 10] at h2
      omega
    · cases h
theorem natL_lt {l : List UInt8} {v : Nat} (h : natL l = some v) : v < 10000000000000000 := by
  unfold natL at h
  split at h
  · cases h
  · rename_i hn
    have := digs_lt l 0 v h
    have h2 : (10 : Nat) ^ l.length ≤ 10 ^ 16 := Nat.pow_le_pow_right (by decide) (by omega)
    omega

end Go.Proofs.YthacdegaeokgnaaDoor

namespace Go.Proofs.YthacdegaeokgnaaDoor
open Go.RowKit

theorem foldl_get (l : List UInt8) : ∀ a, l.foldl (fun a c => a * 256 + c.toNat) a = a * 256 ^ l.length + getL l := by
  induction l with
  | nil => intro a; simp [getL]
  | cons c r ih =>
    intro a
    unfold getL
    rw [List.foldl_cons, List.foldl_cons, ih, ih (0 * 256 + c.toNat), List.length_cons, Nat.pow_succ, Nat.add_mul, Nat.zero_mul, Nat.zero_add, Nat.mul_assoc, Nat.mul_comm 256]
    omega
theorem getL_cons (c : UInt8) (r : List UInt8) : getL (c :: r) = c.toNat * 256 ^ r.length + getL r := by
  have := foldl_get r (0 * 256 + c.toNat)
  rw [Nat.zero_mul, Nat.zero_add] at this
  unfold getL
  rw [List.foldl_cons, Nat.zero_mul, Nat.zero_add, this]
  rfl
theorem getL_be (n : Nat) : ∀ v, v < 2 ^ (8 * n) → getL (be v n) = v := by
  induction n with
  | zero => intro v hv; have hv : v < 1 := hv; obtain rfl : v = 0 := by omega
            rfl
  | succ n ih =>
    intro v hv
    have hp : 2 ^ (8 * (n + 1)) = 256 * 2 ^ (8 * n) := by rw [Nat.mul_add, Nat.pow_add, Nat.mul_comm]
    have hq : 256 ^ n = 2 ^ (8 * n) := by rw [show (256 : Nat) = 2 ^ 8 from rfl, ← Nat.pow_mul]
    have hv1 : v / 2 ^ (8 * n) < 256 := by rw [Nat.div_lt_iff_lt_mul (Nat.two_pow_pos _)]; omega
    rw [be_succ, getL_cons, be_length, hq, be_mod, ih _ (Nat.mod_lt _ (Nat.two_pow_pos _)), UInt8.toNat_ofNat', Nat.mod_mod, Nat.mod_eq_of_lt hv1, Nat.mul_comm]
    exact Nat.div_add_mod v _
end Go.Proofs.YthacdegaeokgnaaDoor

namespace Go.Proofs.YthacdegaeokgnaaDoor
open Go.RowKit

theorem flat6_length (zs : List Int) : ((zs.map fun z => be z.toNat 6).flatten).length = 6 * zs.length := by
  induction zs with
  | nil => rfl
  | cons z r ih => rw [List.map_cons, List.flatten_cons, List.length_append, ih, be_length, List.length_cons]; omega
theorem vecB_length (xs : List Int) : (vecB xs).length = 1 + 6 * xs.length := by
  unfold vecB
  rw [List.length_cons, flat6_length]
  omega
theorem flat6_drop (zs : List Int) (more : List UInt8) : ∀ (k : Nat), k < zs.length → (((zs.map fun z => be z.toNat 6).flatten ++ more).drop (6 * k)).take 6 = be (zs.getD k 0).toNat 6 := by
  induction zs with
  | nil => intro k hk; simp at hk
  | cons z r ih =>
    intro k hk
    rw [List.map_cons, List.flatten_cons, List.append_assoc]
    cases k with
    | zero => rw [Nat.mul_zero, List.drop_zero, List.take_left' (be_length _ _)]; rfl
    | succ k =>
      rw [show 6 * (k + 1) = 6 + 6 * k from by omega, ← List.drop_drop, List.drop_left' (be_length _ _)]
      exact ih k (by simpa using hk)
theorem times_vecB (xs : List Int) (more : List UInt8) (h : validL xs = true) : timesL (vecB xs ++ more) xs.length = xs := by
  obtain ⟨_, hall⟩ := validL_of h
  refine list_ext_getD (by rw [timesL_length]) fun j hj => ?_
  rw [timesL_length] at hj
  unfold timesL
  rw [List.getD_eq_getElem?_getD, List.getElem?_map, List.getElem?_range hj]
  show ((getL _ : Nat) : Int) = _
  have e : ((vecB xs ++ more).drop (1 + 6 * j)).take 6 = be (xs.getD j 0).toNat 6 := by
    unfold vecB
    rw [List.cons_append, show 1 + 6 * j = 6 * j + 1 from by omega, List.drop_succ_cons, flat6_drop xs more j hj]
  have hz := hall j hj
  rw [e, getL_be 6 _ (by omega)]
  omega
theorem head_vecB (xs : List Int) (more : List UInt8) (h : validL xs = true) : getL ((vecB xs ++ more).take 1) = xs.length := by
  obtain ⟨⟨h1, h8⟩, _⟩ := validL_of h
  unfold vecB
  rw [List.cons_append, List.take_succ_cons, List.take_zero]
  show 0 * 256 + (UInt8.ofNat xs.length).toNat = xs.length
  rw [UInt8.toNat_ofNat']
  omega
theorem vecB_inj {xs ys : List Int} (hx : validL xs = true) (hy : validL ys = true) (h : vecB xs = vecB ys) : xs = ys := by
  have h1 := head_vecB xs [] hx
  have h2 := head_vecB ys [] hy
  rw [h] at h1
  have hl : xs.length = ys.length := h1.symm.trans h2
  have t1 := times_vecB xs [] hx
  have t2 := times_vecB ys [] hy
  rw [h, hl] at t1
  exact t1.symm.trans t2
end Go.Proofs.YthacdegaeokgnaaDoor

namespace Go.Proofs.YthacdegaeokgnaaDoor
open Go.RowKit

/-- Is it a key? -/
def isKeyL (k : List UInt8) : Bool := decide ((1 ≤ k.length ∧ k.length ≤ 64) ∧ (k.headD 0 = 114 ∨ k.headD 0 = 116 ∨ k.headD 0 = 99 ∨ k.headD 0 = 120 ∨ k.headD 0 = 110))
/-- The greatest time. -/
def mostL (xs : List Int) : Int := xs.foldl (fun a x => if a < x then x else a) 0
/-- A version's time. -/
def timeN (xs : List Int) (o : Int) : Int := if o = 254 then mostL xs else xs.getD o.toNat 0
/-- Can it be kept? -/
def okV (key : List UInt8) (xs : List Int) (o x : Int) : Bool := decide (isKeyL key = true ∧ validL xs = true ∧ (0 ≤ o ∧ (o < (xs.length : Int) ∨ o = 254)) ∧ 0 ≤ x ∧ x < 281474976710656)
/-- A version's bytes. -/
def putVL (key : List UInt8) (xs : List Int) (o x : Int) : List UInt8 := headL key ++ tailL (timeN xs o).toNat o.toNat x.toNat (vecB xs)

theorem mostL_from : ∀ (xs : List Int) (a : Int), a ≤ xs.foldl (fun a x => if a < x then x else a) a ∧ (∀ x ∈ xs, x ≤ xs.foldl (fun a x => if a < x then x else a) a) ∧ (∀ m, a ≤ m → (∀ x ∈ xs, x ≤ m) → xs.foldl (fun a x => if a < x then x else a) a ≤ m)
  | [], a => ⟨Int.le_refl _, fun x hx => absurd hx (by simp), fun m h _ => h⟩
  | y :: l, a => by
    obtain ⟨h1, h2, h3⟩ := mostL_from l (if a < y then y else a)
    simp only [List.foldl_cons]
    refine ⟨?_, fun x hx => ?_, fun m hm hall => ?_⟩
    · have : a ≤ (if a < y then y else a) := by split <;> omega
      omega
    · rcases List.mem_cons.1 hx with rfl | hx
      · have : x ≤ (if a < x then x else a) := by split <;> omega
        omega
      · exact h2 x hx
    · refine h3 m ?_ (fun x hx => hall x (List.mem_cons_of_mem _ hx))
      have := hall y List.mem_cons_self
      split <;> omega
theorem mostL_ge {xs : List Int} {x : Int} (h : x ∈ xs) : x ≤ mostL xs := (mostL_from xs 0).2.1 x h
theorem mostL_nonneg (xs : List Int) : 0 ≤ mostL xs := (mostL_from xs 0).1
theorem getD_mem {xs : List Int} {j : Nat} (h : j < xs.length) : xs.getD j 0 ∈ xs := by
  rw [List.getD_eq_getElem?_getD, List.getElem?_eq_getElem h]
  exact List.getElem_mem h
theorem valid_mem {xs : List Int} (h : validL xs = true) : ∀ x ∈ xs, 0 ≤ x ∧ x < 281474976710656 := by
  intro x hx
  obtain ⟨i, hi, rfl⟩ := List.getElem_of_mem hx
  have := (validL_of h).2 i hi
  rwa [List.getD_eq_getElem?_getD, List.getElem?_eq_getElem hi] at this
theorem mostL_lt {xs : List Int} (h : validL xs = true) : mostL xs < 281474976710656 := by
  have := (mostL_from xs 0).2.2 281474976710655 (by decide) (fun x hx => by have := valid_mem h x hx; omega)
  unfold mostL
  omega

structure OkV (key : List UInt8) (xs : List Int) (o x : Int) : Prop where
  key : isKeyL key = true
  at_ : validL xs = true
  o0 : 0 ≤ o
  o1 : o < (xs.length : Int) ∨ o = 254
  x0 : 0 ≤ x
  x1 : x < 281474976710656
theorem okV_of {key : List UInt8} {xs : List Int} {o x : Int} (h : okV key xs o x = true) : OkV key xs o x := by
  obtain ⟨h1, h2, ⟨h3, h4⟩, h5, h6⟩ := of_decide_eq_true h
  exact ⟨h1, h2, h3, h4, h5, h6⟩
theorem OkV.ok {key : List UInt8} {xs : List Int} {o x : Int} (h : OkV key xs o x) : okV key xs o x = true := decide_eq_true ⟨h.key, h.at_, ⟨h.o0, h.o1⟩, h.x0, h.x1⟩
theorem OkV.o255 {key : List UInt8} {xs : List Int} {o x : Int} (h : OkV key xs o x) : o ≤ 254 := by
  have := (validL_of h.at_).1
  rcases h.o1 with h | h <;> omega
theorem OkV.time {key : List UInt8} {xs : List Int} {o x : Int} (h : OkV key xs o x) : 0 ≤ timeN xs o ∧ timeN xs o < 281474976710656 := by
  unfold timeN
  split
  · exact ⟨mostL_nonneg xs, mostL_lt h.at_⟩
  · rename_i hne
    have ho : o < (xs.length : Int) := by rcases h.o1 with h | h; exact h; exact absurd h hne
    have h0 := h.o0
    exact valid_mem h.at_ _ (getD_mem (by omega))
theorem isKeyL_of {k : List UInt8} (h : isKeyL k = true) : 1 ≤ k.length ∧ k.length ≤ 64 := (of_decide_eq_true h).1

theorem tailL_length (tm o x : Nat) (r : List UInt8) : (tailL tm o x r).length = 13 + r.length := by
  unfold tailL
  simp [be_length]
  omega
theorem putVL_length {key : List UInt8} {xs : List Int} {o x : Int} (h : OkV key xs o x) : 2 ≤ (headL key).length ∧ (headL key).length < (putVL key xs o x).length ∧ (putVL key xs o x).length ≤ 300 := by
  have h1 := headL_two key
  have h2 := (isKeyL_of h.key).2
  have h3 := (validL_of h.at_).1
  unfold putVL
  rw [List.length_append, tailL_length, vecB_length]
  omega

/-- Bytes of a version tell the version. -/
theorem putVL_inj {key key' : List UInt8} {xs xs' : List Int} {o o' x x' : Int} (h : OkV key xs o x) (h' : OkV key' xs' o' x') (e : putVL key xs o x = putVL key' xs' o' x') : key = key' ∧ xs = xs' ∧ o = o' ∧ x = x' := by
  unfold putVL at e
  obtain ⟨hk, e0⟩ := headL_apart _ _ _ _ e
  clear e
  have e := e0
  clear e0
  subst hk
  unfold tailL at e
  have t := h.time
  have t' := h'.time
  have a1 := h.o0
  have a2 := h.o255
  have a3 := h'.o0
  have a4 := h'.o255
  have b1 := h.x0
  have b2 := h.x1
  have b3 := h'.x0
  have b4 := h'.x1
  obtain ⟨e1, e⟩ := List.append_inj e (by rw [be_length, be_length])
  obtain ⟨e2, e⟩ := List.append_inj e (by rw [be_length, be_length])
  obtain ⟨e3, e4⟩ := List.append_inj e (by rw [be_length, be_length])
  have c2 := be_inj 1 _ _ (by omega) (by omega) e2
  have c3 := be_inj 6 _ _ (by omega) (by omega) e3
  exact ⟨rfl, vecB_inj h.at_ h'.at_ e4, by omega, by omega⟩

/-- Bytes of a lesser key come first. -/
theorem putVL_key {key key' : List UInt8} (xs xs' : List Int) (o o' x x' : Int) (hn : key ≠ key') : Op.bytesLess (putVL key xs o x) (putVL key' xs' o' x') = Op.bytesLess key key' := headL_less key key' _ _ hn
/-- Of one key those of the later stamp. -/
theorem putVL_stamp {key : List UInt8} {xs xs' : List Int} {o o' x x' : Int} (h : OkV key xs o x) (h' : OkV key xs' o' x') (hn : ¬ (timeN xs o = timeN xs' o' ∧ o = o' ∧ x = x')) :
    Op.bytesLess (putVL key xs o x) (putVL key xs' o' x') = decide (timeN xs' o' < timeN xs o ∨ (timeN xs o = timeN xs' o' ∧ (o' < o ∨ (o = o' ∧ x' < x)))) := by
  have t := h.time
  have t' := h'.time
  have a1 := h.o0
  have a2 := h.o255
  have a3 := h'.o0
  have a4 := h'.o255
  have b1 := h.x0
  have b2 := h.x1
  have b3 := h'.x0
  have b4 := h'.x1
  unfold putVL
  rw [less_app, tailL_less _ _ _ _ _ _ _ _ (by omega) (by omega) (by omega) (by omega) (by omega) (by omega) (by omega)]
  congr 1
  apply propext
  omega
/-- What was folded together stands ahead of what was done at that time. -/
theorem putVL_folded {key : List UInt8} {xs : List Int} {o x : Int} (h : OkV key xs 254 x) (h0 : 0 ≤ o) (h1 : o < (xs.length : Int)) : OkV key xs o x ∧ Op.bytesLess (putVL key xs 254 x) (putVL key xs o x) = true ∧ xs.getD o.toNat 0 ≤ mostL xs := by
  have h' : OkV key xs o x := ⟨h.key, h.at_, h0, Or.inl h1, h.x0, h.x1⟩
  have hm := mostL_ge (getD_mem (xs := xs) (j := o.toNat) (by omega))
  have hl := (validL_of h.at_).1
  refine ⟨h', ?_, hm⟩
  have ht : timeN xs 254 = mostL xs := by unfold timeN; rw [if_pos rfl]
  have ht' : timeN xs o = xs.getD o.toNat 0 := by unfold timeN; rw [if_neg (by omega)]
  rw [putVL_stamp h h' (by omega), decide_eq_true_eq, ht, ht']
  omega
end Go.Proofs.YthacdegaeokgnaaDoor

namespace Go.Proofs.YthacdegaeokgnaaDoor
open Go.RowKit Go.WideShapes Go.ChangeShapes Go.Deep

section
variable {H : Type} {enc : TypeId × Value → H} {P : Program} {w : World} {base : Nat} {spare : Nat → Bool} {held : Bool} {fuel : Nat} {t e : TypeId} {cs : List Value} {x : DataW H × List MemPlace}
theorem trod_float_ {k : FloatKind} (ht : P.underlying t = some (.float k)) (h : DataW.trod enc P w base spare held fuel t cs = some x) : ∃ n, cs = [.float k n] ∧ x = (.lit (.float k n), []) ∧ (Lit.float k n).wf = true := by
  cases fuel with
  | zero => simp [DataW.trod] at h
  | succ n =>
    unfold DataW.trod at h
    rw [ht] at h
    split at h <;> simp_all

theorem open_arr3 {r : Reach} {b0 : Nat} {v : Value} {d : DataW H} {ps : List MemPlace} (ht : P.underlying t = some (.array 3 e)) (he : P.underlying e = some (.int .i64)) (hc : P.cellsOf e = 1) (hct : P.cellsOf t = 3) (hval : Value.okWide P w r b0 t v) (hd : DataW.Trod enc P w base spare held t v d ps) :
    ∃ a b c, v = .agg #[.int .i64 a, .int .i64 b, .int .i64 c] ∧ d = .agg [.lit (.int .i64 a), .lit (.int .i64 b), .lit (.int .i64 c)] ∧ ps = [] ∧ (Lit.int .i64 a).wf = true ∧ (Lit.int .i64 b).wf = true ∧ (Lit.int .i64 c).wf = true := by
  obtain ⟨cs, rfl, hsz, _⟩ : ∃ cs, v = .agg cs ∧ cs.size = P.cellsOf t ∧ Row.okWide P w r b0 t cs := by
    simpa [Value.okWide, ht] using hval
  rw [hct] at hsz
  obtain ⟨c0, c1, c2, rfl⟩ := Joins.array3 hsz
  obtain ⟨fuel, hf⟩ := hd
  obtain ⟨y0, y1, y2, m, hx, h0, h1, h2⟩ := trod_array3 ht hc hf
  obtain ⟨a, e0, rfl, w0⟩ := DataW.trod_int he h0
  obtain ⟨b, e1, rfl, w1⟩ := DataW.trod_int he h1
  obtain ⟨c, e2, rfl, w2⟩ := DataW.trod_int he h2
  simp at e0 e1 e2
  subst e0 e1 e2
  simp only [Prod.mk.injEq] at hx
  exact ⟨a, b, c, rfl, hx.1, by simpa using hx.2, w0, w1, w2⟩
theorem shut_arr3 {a b c : Int} (ht : P.underlying t = some (.array 3 e)) (he : P.underlying e = some (.int .i64)) (hc : P.cellsOf e = 1) (hct : P.cellsOf t = 3) (w0 : (Lit.int .i64 a).wf = true) (w1 : (Lit.int .i64 b).wf = true) (w2 : (Lit.int .i64 c).wf = true) :
    DataW.Trod enc P w base spare held t (.agg #[.int .i64 a, .int .i64 b, .int .i64 c]) (.agg [.lit (.int .i64 a), .lit (.int .i64 b), .lit (.int .i64 c)]) [] := by
  refine ⟨2, ?_⟩
  have r3 : List.range 3 = [0, 1, 2] := rfl
  unfold DataW.trod
  rw [ht]
  simp [Value.cells, r3, hc, hct, DataW.trod, he, w0, w1, w2]
end

/-- n structs of two whole numbers and a float64 stand at A. -/
structure OpsIn (w : World) (A : Option Addr) (n : Nat) (K N : Nat → Int) (F : Nat → Nat) : Prop where
  max : n ≤ 9223372036854775807
  some : 0 < n → ∃ b off, A = .some ⟨b, off, none⟩ ∧ b < w.heap.size ∧ ∀ j, j < n → w.cell? ⟨b, off + j * 3, none⟩ = .some (.int .i64 (K j)) ∧ w.cell? ⟨b, off + j * 3 + 1, none⟩ = .some (.int .i64 (N j)) ∧ w.cell? ⟨b, off + j * 3 + 2, none⟩ = .some (.float .f64 (F j))
  wf : ∀ j, j < n → (Lit.int .i64 (N j)).wf = true

theorem OpsIn.below {w w' : World} {A : Option Addr} {n : Nat} {K N : Nat → Int} {F : Nat → Nat} (h : OpsIn w A n K N F) (hb : Below w.heap.size w w') : OpsIn w' A n K N F :=
  ⟨h.max, fun hn => by
    obtain ⟨b, off, rfl, hlt, hc⟩ := h.some hn
    exact ⟨b, off, rfl, Nat.lt_of_lt_of_le hlt hb.size, fun j hj => ⟨(hb.cell (p := ⟨b, off + j * 3, none⟩) hlt).trans (hc j hj).1, (hb.cell (p := ⟨b, off + j * 3 + 1, none⟩) hlt).trans (hc j hj).2.1, (hb.cell (p := ⟨b, off + j * 3 + 2, none⟩) hlt).trans (hc j hj).2.2⟩⟩, h.wf⟩

section
variable {H : Type} {enc : TypeId × Value → H} {P : Program} {w : World} {t e : TypeId} {A : Option Addr} {n cp : Nat} {d : DataW H} {p : List MemPlace}
theorem ops_view {f0 f1 f2 : Field} (ht : P.underlying t = some (.slice e)) (he : P.underlying e = some (.struct #[f0, f1, f2])) (hc : P.cellsOf e = 3) (o0 : f0.offset = 0) (o1 : f1.offset = 1) (o2 : f2.offset = 2) (c0 : P.cellsOf f0.type = 1) (c1 : P.cellsOf f1.type = 1) (c2 : P.cellsOf f2.type = 1)
    (u0 : P.underlying f0.type = some (.int .i64)) (u1 : P.underlying f1.type = some (.int .i64)) (u2 : P.underlying f2.type = some (.float .f64))
    (h : DataW.Trod enc P w 0 (fun _ => true) true t (.slice A n cp) d p) : ∃ K N F, OpsIn w A n K N F := by
  obtain ⟨fuel, hf⟩ := h
  rcases open_slice ht hf with ⟨hcs, _⟩ | ⟨a, len', cap', m, k, D, Pl, hcs, _, hl, hm, hmm, _, hx⟩
  · simp [Value.cells] at hcs
    obtain ⟨rfl, rfl, rfl⟩ := hcs
    exact ⟨fun _ => 0, fun _ => 0, fun _ => 0, by decide, fun h => absurd h (by decide), fun j h => absurd h (by omega)⟩
  · simp [Value.cells] at hcs
    obtain ⟨rfl, rfl, rfl⟩ := hcs
    rw [if_pos rfl] at hmm
    unfold maxLen at hm
    have each : ∀ j, j < n → ∃ q : Int × Int × Nat, w.cell? (a.add (j * 3)) = some (.int .i64 q.1) ∧ w.cell? (a.add (j * 3 + 1)) = some (.int .i64 q.2.1) ∧ w.cell? (a.add (j * 3 + 2)) = some (.float .f64 q.2.2) ∧ (Lit.int .i64 q.2.1).wf = true := by
      intro j hj
      obtain ⟨cs', h1, h2⟩ := hx j (by omega)
      rw [hc] at h1
      obtain ⟨_, hlen, hcell⟩ := World.cells?_some h1
      obtain ⟨y0, y1, y2, g, _, _, g0, g1, g2⟩ := trod_struct3 he h2
      match cs', hlen, hcell, g0, g1, g2 with
      | [v0, v1, v2], _, hcell, g0, g1, g2 =>
        obtain ⟨k0, e0, _, _⟩ := DataW.trod_int u0 g0
        obtain ⟨k1, e1, _, w1⟩ := DataW.trod_int u1 g1
        obtain ⟨k2, e2, _, _⟩ := trod_float_ u2 g2
        simp [o0, o1, o2, c0, c1, c2] at e0 e1 e2
        subst e0 e1 e2
        refine ⟨(k0, k1, k2), ?_, ?_, ?_, w1⟩
        · have := hcell 0 (by simp)
          simpa [Go.Deep.add_add] using this
        · have := hcell 1 (by simp)
          simpa [Go.Deep.add_add] using this
        · have := hcell 2 (by simp)
          simpa [Go.Deep.add_add] using this
    obtain ⟨q, hq⟩ := choose_lt each
    refine ⟨fun j => (q j).1, fun j => (q j).2.1, fun j => (q j).2.2, by omega, fun hn => ?_, fun j hj => (hq j hj).2.2.2⟩
    obtain ⟨b, off, spot⟩ := a
    have hspot : spot = none := by simpa [Addr.add] using World.cell?_spot (hq 0 hn).1
    subst hspot
    refine ⟨b, off, rfl, ?_, fun j hj => ?_⟩
    · have := (hq 0 hn).1
      rw [Go.WideShapes.add_plain] at this
      exact block_lt this
    · have := hq j hj
      rw [Go.WideShapes.add_plain, Go.WideShapes.add_plain, Go.WideShapes.add_plain, ← Nat.add_assoc, ← Nat.add_assoc] at this
      exact ⟨this.1, this.2.1, this.2.2.1⟩
end
end Go.Proofs.YthacdegaeokgnaaDoor

namespace Go.Proofs.YthacdegaeokgnaaDoor
open Go.RowKit Go.WideShapes Go.ChangeShapes Go.Deep

/-- A version as a value: key, vector, place, number, act. -/
def verV (key : ByteArray) (A : Option Addr) (n c : Nat) (o x kd : Int) (nu : Nat) (it : Int) (tx : ByteArray) : Value :=
  .agg #[.string key, .slice A n c, .int .i64 o, .int .i64 x, .int .i64 kd, .float .f64 nu, .int .i64 it, .string tx]

theorem array8 {α : Type} {cs : Array α} (h : cs.size = 8) : ∃ c0 c1 c2 c3 c4 c5 c6 c7, cs = #[c0, c1, c2, c3, c4, c5, c6, c7] := by
  obtain ⟨l⟩ := cs
  match l, h with
  | [c0, c1, c2, c3, c4, c5, c6, c7], _ => exact ⟨c0, c1, c2, c3, c4, c5, c6, c7, rfl⟩

/-- What is known of a version that came in. -/
structure VerIn (w : World) (key : ByteArray) (A : Option Addr) (n : Nat) (xs : List Int) (o x kd : Int) (nu : Nat) (it : Int) (tx : ByteArray) : Prop where
  ints : IntsIn w A n xs
  ks : key.size ≤ 9223372036854775807
  ow : (Lit.int .i64 o).wf = true
  xw : (Lit.int .i64 x).wf = true
  kw : (Lit.int .i64 kd).wf = true
  nw : (Lit.float .f64 nu).wf = true
  iw : (Lit.int .i64 it).wf = true
  ts : tx.size ≤ 9223372036854775807

theorem VerIn.below {w w' : World} {key : ByteArray} {A : Option Addr} {n : Nat} {xs : List Int} {o x kd : Int} {nu : Nat} {it : Int} {tx : ByteArray} (h : VerIn w key A n xs o x kd nu it tx) (hb : Below w.heap.size w w') : VerIn w' key A n xs o x kd nu it tx :=
  ⟨h.ints.below hb, h.ks, h.ow, h.xw, h.kw, h.nw, h.iw, h.ts⟩

section
variable {H : Type} {enc : TypeId × Value → H} {P : Program} {w : World} {t e tv ta : TypeId} {d : DataW H} {p : List MemPlace} {v : Value} {f0 f1 f2 f3 f4 g0 g1 g2 g3 : Field}
theorem ver_view {r : Reach} {b0 : Nat} (ht : P.underlying t = some (.struct #[f0, f1, f2, f3, f4])) (hct : P.cellsOf t = 8) (hta : P.underlying f4.type = some (.struct #[g0, g1, g2, g3]))
    (offs : [f0.offset, f1.offset, f2.offset, f3.offset, f4.offset, g0.offset, g1.offset, g2.offset, g3.offset] = [0, 1, 2, 3, 4, 0, 1, 2, 3])
    (cells : [f0.type, f1.type, f2.type, f3.type, f4.type, g0.type, g1.type, g2.type, g3.type].map P.cellsOf = [1, 1, 1, 1, 4, 1, 1, 1, 1]) (ce : P.cellsOf e = 1)
    (u0 : P.underlying f0.type = some .string) (u1 : P.underlying f1.type = some (.slice e)) (ue : P.underlying e = some (.int .i64)) (u2 : P.underlying f2.type = some (.int .i64)) (u3 : P.underlying f3.type = some (.int .i64))
    (k0 : P.underlying g0.type = some (.int .i64)) (k1 : P.underlying g1.type = some (.float .f64)) (k2 : P.underlying g2.type = some (.int .i64)) (k3 : P.underlying g3.type = some .string)
    (hval : Value.okWide P w r b0 t v) (h : DataW.Trod enc P w 0 (fun _ => true) true t v d p) :
    ∃ key A n c o x kd nu it tx xs, v = verV key A n c o x kd nu it tx ∧ VerIn w key A n xs o x kd nu it tx := by
  simp only [List.cons.injEq, and_true, List.map_cons, List.map_nil] at offs cells
  obtain ⟨o0, o1, o2, o3, o4, q0, q1, q2, q3⟩ := offs
  obtain ⟨c0, c1, c2, c3, c4, d0, d1, d2, d3⟩ := cells
  obtain ⟨cs, rfl, hsz⟩ := okWide_struct ht hval
  obtain ⟨a0, a1, a2, a3, a4, a5, a6, a7, rfl⟩ := array8 (hsz.trans hct)
  obtain ⟨fuel, hf⟩ := h
  obtain ⟨ys, m, _, _, _, hlen, hg⟩ := DataW.trod_struct ht hf
  match ys, hlen, hg with
  | [y0, y1, y2, y3, y4], _, hg =>
    have h0 := hg 0 f0 rfl
    have h1 := hg 1 f1 rfl
    have h2 := hg 2 f2 rfl
    have h3 := hg 3 f3 rfl
    have h4 := hg 4 f4 rfl
    simp [Value.cells, o0, o1, o2, o3, o4, c0, c1, c2, c3, c4] at h0 h1 h2 h3 h4
    obtain ⟨key, e0, _, s0⟩ := DataW.trod_string u0 h0
    obtain ⟨o, e2, _, w2⟩ := DataW.trod_int u2 h2
    obtain ⟨x, e3, _, w3⟩ := DataW.trod_int u3 h3
    obtain ⟨A, n, c, e1⟩ : ∃ A n c, a1 = .slice A n c := by
      rcases DataW.trod_slice u1 h1 with ⟨hs, _⟩ | ⟨a, len, cap, _, _, _, _, hs, _⟩
      · exact ⟨none, 0, 0, by simpa using hs⟩
      · exact ⟨some a, len, cap, by simpa using hs⟩
    simp at e0 e2 e3
    subst e0 e1 e2 e3
    obtain ⟨xs, hI⟩ := ints_view (d := y1.1) (p := y1.2) u1 ue ce ⟨m, by simpa [Value.cells] using h1⟩
    obtain ⟨zs, l, _, _, _, hlen2, hk⟩ := DataW.trod_struct hta h4
    match zs, hlen2, hk with
    | [z0, z1, z2, z3], _, hk =>
      have t0 := hk 0 g0 rfl
      have t1 := hk 1 g1 rfl
      have t2 := hk 2 g2 rfl
      have t3 := hk 3 g3 rfl
      simp [q0, q1, q2, q3, d0, d1, d2, d3] at t0 t1 t2 t3
      obtain ⟨kd, r0, _, v0⟩ := DataW.trod_int k0 t0
      obtain ⟨nu, r1, _, v1⟩ := trod_float_ k1 t1
      obtain ⟨it, r2, _, v2⟩ := DataW.trod_int k2 t2
      obtain ⟨tx, r3, _, v3⟩ := DataW.trod_string k3 t3
      simp at r0 r1 r2 r3
      subst r0 r1 r2 r3
      unfold maxLen at s0 v3
      exact ⟨key, A, n, c, o, x, kd, nu, it, tx, xs, rfl, hI, by omega, w2, w3, v0, v1, v2, by omega⟩
end
end Go.Proofs.YthacdegaeokgnaaDoor

namespace Go.Proofs.YthacdegaeokgnaaDoor
open Go.RowKit

/-- The cells of a version. -/
def verC (key : ByteArray) (A : Option Addr) (n c : Nat) (o x kd : Int) (nu : Nat) (it : Int) (tx : ByteArray) : Array Value :=
  #[.string key, .slice A n c, .int .i64 o, .int .i64 x, .int .i64 kd, .float .f64 nu, .int .i64 it, .string tx]

theorem ver_cells {w : World} {p : Nat} {t : TypeId} {key : ByteArray} {A : Option Addr} {n c : Nat} {o x kd : Int} {nu : Nat} {it : Int} {tx : ByteArray} (h : Blk w p t (verC key A n c o x kd nu it tx)) :
    w.cell? ⟨p, 0, none⟩ = some (.string key) ∧ w.cell? ⟨p, 1, none⟩ = some (.slice A n c) ∧ w.cell? ⟨p, 2, none⟩ = some (.int .i64 o) ∧ w.cell? ⟨p, 3, none⟩ = some (.int .i64 x) ∧
    w.cell? ⟨p, 4, none⟩ = some (.int .i64 kd) ∧ w.cell? ⟨p, 5, none⟩ = some (.float .f64 nu) ∧ w.cell? ⟨p, 6, none⟩ = some (.int .i64 it) ∧ w.cell? ⟨p, 7, none⟩ = some (.string tx) :=
  ⟨h.cell 0, h.cell 1, h.cell 2, h.cell 3, h.cell 4, h.cell 5, h.cell 6, h.cell 7⟩

theorem run_sto_f64 (W : World) (ad : Addr) (v : Nat) : (store ad (.float .f64 v)).run Tryd.prog W = stored Tryd.prog W ad (.float .f64 v) .plain := run_store _ W ad _ _ rfl

/-! ### Texts by their bytes -/
theorem str_eq {X Y : ByteArray} : (X.toList == Y.toList) = decide (X.data.toList = Y.data.toList) := by
  rw [Lib.toList_data, Lib.toList_data]
  exact Bool.eq_iff_iff.2 (by rw [beq_iff_eq, decide_eq_true_eq])
theorem str_less {X Y : ByteArray} : Op.bytesLess X.toList Y.toList = Op.bytesLess X.data.toList Y.data.toList := by rw [Lib.toList_data, Lib.toList_data]
theorem str_take (X : ByteArray) (k : Nat) : (X.extract 0 k).data.toList = X.data.toList.take k := by simp [ByteArray.data_extract]
theorem str_size (X : ByteArray) : X.size = X.data.toList.length := by rw [Array.length_toList]; rfl
/-- X stands at the front of Y. -/
theorem str_front {X Y : ByteArray} (_h : X.size ≤ Y.size) : ((Y.extract 0 X.size).toList == X.toList) = true ↔ ∃ r, Y.data.toList = X.data.toList ++ r := by
  rw [str_eq, decide_eq_true_eq, str_take]
  constructor
  · intro e
    exact ⟨Y.data.toList.drop X.size, by rw [← e]; exact (List.take_append_drop _ _).symm⟩
  · rintro ⟨r, e⟩
    rw [e, str_size, List.take_left]
theorem str_not_front {X Y : ByteArray} (h : X.size ≤ Y.size) (hn : ∀ r, Y.data.toList ≠ X.data.toList ++ r) : ((Y.extract 0 X.size).toList == X.toList) = false := by
  cases e : ((Y.extract 0 X.size).toList == X.toList)
  · rfl
  · obtain ⟨r, hr⟩ := (str_front h).1 e
    exact absurd hr (hn r)
theorem mk_data (l : List UInt8) : (⟨l.toArray⟩ : ByteArray).data.toList = l := by simp
end Go.Proofs.YthacdegaeokgnaaDoor

namespace Go.Proofs.YthacdegaeokgnaaDoor
open Go.RowKit

set_option maxRecDepth 100000 in
set_option maxHeartbeats 1000000 in
theorem rleq_any (A1 : Option Addr) (n1 c1 : Nat) (xs : List Int) (A2 : Option Addr) (n2 c2 : Nat) (ys : List Int) (w : World) (I1 : IntsIn w A1 n1 xs) (I2 : IntsIn w A2 n2 ys) :
    Calls Tryd.prog 101 #[.slice A1 n1 c1, .slice A2 n2 c2] w fun e w' => e = .returned (.bool (leqL xs ys)) ∧ ∃ q, w' = w.drewN q := by
  have J1 := Lib.hid I1
  have J2 := Lib.hid I2
  have l1 := I1.len
  have l2 := I2.len
  have m1 := I1.max
  have m2 := I2.max
  clear I1 I2
  by_cases hne : n1 = n2
  · subst hne
    go_enter Tryd.func101, Tryd.ntmps101
    go_wp2_with fail
    go_loopw [5] (fun i wr => ∃ k q : Nat, k ≤ n1 ∧ i = .int .i64 (k : Int) ∧ Hid (wr = w.drewN q) ∧ Hid (∀ j, j < k → xs.getD j 0 ≤ ys.getD j 0)) (fun i _ => n1 - (intOf i).toNat)
    case atStart => exact ⟨0, 0, by omega, rfl, rfl, fun j hj => absurd hj (by omega)⟩
    case round =>
      obtain ⟨k, q, hk, rfl, Hw, Hle⟩ := hrel
      by_cases hl : k < n1
      · have K1 := J1.out.drewN q
        have K2 := J2.out.drewN q
        rw [← Hw.out] at K1 K2
        obtain ⟨b1, o1, rfl, _, hc1⟩ := K1.some (by omega)
        obtain ⟨b2, o2, rfl, _, hc2⟩ := K2.some (by omega)
        have d1 := hc1 k hl
        have d2 := hc2 k hl
        obtain ⟨x, hx⟩ : ∃ x, xs.getD k 0 = x := ⟨_, rfl⟩
        obtain ⟨y, hy⟩ : ∃ y, ys.getD k 0 = y := ⟨_, rfl⟩
        rw [hx] at d1
        rw [hy] at d2
        have Hx := Lib.hid hx
        have Hy := Lib.hid hy
        have hl1 : (k : Int) < (n1 : Int) := by omega
        clear hc1 hc2 hx hy K1 K2
        by_cases hg : y < x
        · go_wp2_with fail
          go_quiet (fail)
          go_wp2_with fail
          have : leqL xs ys = false := by
            unfold leqL
            refine decide_eq_false fun h => ?_
            have := h.2 k (by omega)
            rw [Hx.out, Hy.out] at this
            omega
          rw [this]
          go_ret
          exact ⟨rfl, drewN_more Hw.out _⟩
        · go_wp2_with fail
          go_quiet (fail)
          go_wp2_with fail
          go_roundw
          case rel =>
            refine ⟨k + 1, _, by omega, by go_num, (by rw [Hw.out, World.drewN_drewN]; rfl), fun j hj => ?_⟩
            by_cases hjk : j = k
            · subst hjk; rw [Hx.out, Hy.out]; omega
            · exact Hle.out j (by omega)
          case measure => simp [intOf]; omega
      · obtain rfl : k = n1 := by omega
        go_wp2_with fail
        have : leqL xs ys = true := by
          unfold leqL
          exact decide_eq_true ⟨by omega, fun j hj => Hle.out j (by omega)⟩
        rw [this]
        go_ret
        exact ⟨rfl, _, Hw.out⟩
  · go_enter Tryd.func101, Tryd.ntmps101
    go_wp2_with fail
    have : leqL xs ys = false := by
      unfold leqL
      exact decide_eq_false fun h => hne (by omega)
    rw [this]
    go_ret
    exact ⟨rfl, 0, rfl⟩

theorem leqL_both (xs ys : List Int) : (leqL xs ys && leqL ys xs) = decide (xs = ys) := by
  by_cases h : xs = ys
  · subst h
    have : leqL xs xs = true := by unfold leqL; exact decide_eq_true ⟨rfl, fun _ _ => Int.le_refl _⟩
    rw [this]; simp
  · rw [decide_eq_false h]
    rw [Bool.and_eq_false_iff]
    by_cases h1 : leqL xs ys = true
    · right
      refine Bool.eq_false_iff.2 fun h2 => h ?_
      unfold leqL at h1 h2
      have a := of_decide_eq_true h1
      have b := of_decide_eq_true h2
      exact list_ext_getD a.1 fun j hj => Int.le_antisymm (a.2 j hj) (b.2 j (by omega))
    · left
      exact Bool.eq_false_iff.2 h1

set_option maxRecDepth 100000 in
set_option maxHeartbeats 1000000 in
theorem rsame_any (A1 : Option Addr) (n1 c1 : Nat) (xs : List Int) (A2 : Option Addr) (n2 c2 : Nat) (ys : List Int) (w : World) (I1 : IntsIn w A1 n1 xs) (I2 : IntsIn w A2 n2 ys) :
    Calls Tryd.prog 89 #[.slice A1 n1 c1, .slice A2 n2 c2] w fun e w' => e = .returned (.bool (decide (xs = ys))) ∧ ∃ q, w' = w.drewN q := by
  rw [← leqL_both]
  have R1 : Hid (∀ q, Calls Tryd.prog 101 #[.slice A1 n1 c1, .slice A2 n2 c2] (w.drewN q) fun e w' => e = .returned (.bool (leqL xs ys)) ∧ ∃ q, w' = w.drewN q) :=
    fun q => (rleq_any A1 n1 c1 xs A2 n2 c2 ys _ (I1.drewN q) (I2.drewN q)).mono fun _ _ h => ⟨h.1, by obtain ⟨r, hr⟩ := h.2; exact ⟨q + r, by rw [hr, World.drewN_drewN]⟩⟩
  have R2 : Hid (∀ q, Calls Tryd.prog 101 #[.slice A2 n2 c2, .slice A1 n1 c1] (w.drewN q) fun e w' => e = .returned (.bool (leqL ys xs)) ∧ ∃ q, w' = w.drewN q) :=
    fun q => (rleq_any A2 n2 c2 ys A1 n1 c1 xs _ (I2.drewN q) (I1.drewN q)).mono fun _ _ h => ⟨h.1, by obtain ⟨r, hr⟩ := h.2; exact ⟨q + r, by rw [hr, World.drewN_drewN]⟩⟩
  clear I1 I2
  obtain ⟨x, hx⟩ : ∃ x, leqL xs ys = x := ⟨_, rfl⟩
  obtain ⟨y, hy⟩ : ∃ y, leqL ys xs = y := ⟨_, rfl⟩
  rw [hx] at R1 ⊢
  rw [hy] at R2 ⊢
  clear hx hy
  cases x with
  | false =>
    go_enter Tryd.func89, Tryd.ntmps89
    go_wp2_with fail
    refine (R1.out 0).mono ?_
    rintro e w1 ⟨rfl, q, hq⟩
    have Hq := Lib.hid hq
    clear hq
    go_wp2_with fail
    go_ret
    exact ⟨rfl, q, Hq.out⟩
  | true =>
    go_enter Tryd.func89, Tryd.ntmps89
    go_wp2_with fail
    refine (R1.out 0).mono ?_
    rintro e w1 ⟨rfl, q, rfl⟩
    go_wp2_with fail
    refine (R2.out q).mono ?_
    rintro e w1 ⟨rfl, q, hq⟩
    have Hq := Lib.hid hq
    clear hq
    cases y with
    | false =>
      go_wp2_with fail
      go_ret
      exact ⟨rfl, q, Hq.out⟩
    | true =>
      go_wp2_with fail
      go_ret
      exact ⟨rfl, q, Hq.out⟩
end Go.Proofs.YthacdegaeokgnaaDoor
