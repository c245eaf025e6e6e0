/-
  Several texts in one: Plain lemmas on numbers, bits and worlds. No program is named.
  The order of float64 numbers as words, by sign and rung (no program is named).
  The order of float64 numbers as ranks, and the bits that tell it (no program is named).
  Rounding to float64: it never turns the order round, and leaves what fits as it is (no program is named).
  Products and whole parts of float64 numbers (no program is named).
  float64(n) of an int; how far a clock goes (no program is named).
  Walks over package raw, part 1: the reader's steps.
  math.Floor, and the whole part of a float64 number that is not negative.
  How many bits and places a number of bits means, as plain values (no program is named).
  The document's own answer to chapter 12, part 1: Floor, Probes, Size.
  Quotients of ints as float64 numbers (no program is named).
  A product of float64 numbers and what it means for a filter (no program is named).
  A float64 number made whole, down or up, whatever it is (no program is named but for math.Floor and math.Ceil).
  The document's own answer to chapter 12, part 2: Probes, Size.
  Package bloom, part 1: within, Probes, Size; math.Floor and math.Ceil of any number.
  Slices of numbers and of texts that came in: what a walk asks of them, out of how they read. No program is named.
  Walks over package vec, part 1: Leq, Same, isCount, Valid.
  Walks over package vec, part 2: slices of numbers that a call makes: Clone, With, each, Join, Meet.
-/
import Derived.WalkKit
import Derived.WalkSpells
import Derived.WalkLawsBesides
import Derived.Below
import Derived.Deep.Draws
import Derived.Deep.OwnRows
import Derived.OwnWalk
import Derived.Laws.AppendOwn
import Derived.Laws.BitsAllLaws
import Derived.Laws.BitsLemmas
import Derived.Lib.Hide
import Ieee.Arith
import Derived.Laws.FloatArith
import Derived.Test.YtcbgflidlpmhcaaGreatDoorRows
import Derived.Deep.QuietTactic
import Derived.BigQuiet
import Derived.ChangeSame
import Derived.ProofKit
import Derived.OpenShut
import Derived.SliceStrings
namespace Go.Proofs.YtcbgflidlpmhcaaGreatDoor
open Go.RowKit

theorem ofInt_i64 (a : Nat) (ha : a < 9223372036854775808) : (BitVec.ofInt 64 (a : Int)).toNat = a := by
  rw [BitVec.ofInt_natCast, BitVec.toNat_ofNat]; exact Nat.mod_eq_of_lt (by omega)
theorem i64_or_nat (a b : Nat) (ha : a < 9223372036854775808) (hb : b < 9223372036854775808) : bits .or .i64 (a : Int) (b : Int) = ((a ||| b : Nat) : Int) := by
  have hx : a ||| b < 2 ^ 63 := Nat.or_lt_two_pow (by omega) (by omega)
  show IntKind.i64.wrap ((BitVec.ofInt 64 (a : Int) ||| BitVec.ofInt 64 (b : Int)).toNat : Int) = _
  rw [BitVec.toNat_or, ofInt_i64 a ha, ofInt_i64 b hb, IntKind.wrap_i64]
  omega

theorem size_mk (l : List UInt8) : (⟨l.toArray⟩ : ByteArray).size = l.length := by simp [ByteArray.size]
theorem ret_int {k : IntKind} {a b : Int} (h : a = b) : Ending.returned (.int k a) = .returned (.int k b) := by rw [h]
theorem only_drewN {a w : World} {row : Option Nat} (h : a.grownBy w row) (n : Nat) : a.grownBy (w.drewN n) row := ⟨h.os, h.tape, h.output, h.size, h.block⟩
theorem only_drew {a w : World} {row : Option Nat} (h : a.grownBy w row) : a.grownBy w.drew row := ⟨h.os, h.tape, h.output, h.size, h.block⟩
theorem only_alloc {a w : World} {row : Option Nat} (h : a.grownBy w row) (o : Obj) : a.grownBy (w.alloc o) row :=
  ⟨h.os, h.tape, h.output, Nat.le_trans h.size (by simp), fun i hi hne => (Below.heap_alloc w o i (Nat.lt_of_lt_of_le hi h.size)).trans (h.block i hi hne)⟩
theorem only_setCell {a w : World} {g : Nat} (h : a.grownBy w (some g)) {p : Addr} (hp : p.block = g ∨ a.heap.size ≤ p.block) (u : Value) : a.grownBy (w.setCell p u) (some g) :=
  ⟨h.os, h.tape, h.output, by simpa [World.setCell] using h.size, fun i hi hne => (Below.heap_setCell w p u i (by
    rintro rfl
    rcases hp with hp | hp
    · exact hne (by rw [hp])
    · omega)).trans (h.block i hi hne)⟩

/-- Block g is just the cells cs, of element type t, none of them frozen. -/
def Blk (w : World) (g : Nat) (t : TypeId) (cs : Array Value) : Prop := w.heap[g]? = some (.cells cs t (0, 0))

section
variable {w w' : World} {g : Nat} {t : TypeId} {cs : Array Value}
theorem Blk.lt (h : Blk w g t cs) : g < w.heap.size := by
  rcases Nat.lt_or_ge g w.heap.size with hlt | hge
  · exact hlt
  · unfold Blk at h; rw [Array.getElem?_eq_none hge] at h; cases h
theorem Blk.cell (h : Blk w g t cs) (i : Nat) : w.cell? ⟨g, i, none⟩ = cs[i]? := cell_of_row w g i cs t (0, 0) h
theorem Blk.frozen (h : Blk w g t cs) (i : Nat) : w.frozen? ⟨g, i, none⟩ = false := by
  unfold Blk at h
  simp [World.frozen?, h]
theorem Blk.new (w : World) (t : TypeId) (cs : Array Value) : Blk (w.alloc (.cells cs t)) w.heap.size t cs := heap_alloc_new w _
theorem Blk.new' {w : World} {g : Nat} (h : w.heap.size = g) (t : TypeId) (cs : Array Value) : Blk (w.alloc (.cells cs t)) g t cs := h ▸ heap_alloc_new w _
theorem Blk.drew (h : Blk w g t cs) : Blk w.drew g t cs := h
theorem Blk.drewN (h : Blk w g t cs) (n : Nat) : Blk (w.drewN n) g t cs := h
theorem Blk.alloc (h : Blk w g t cs) (o : Obj) : Blk (w.alloc o) g t cs := (Below.heap_alloc w o g h.lt).trans h
theorem Blk.set_ (h : Blk w g t cs) (i : Nat) (u : Value) : Blk (w.setCell ⟨g, i, none⟩ u) g t (cs.setIfInBounds i u) := by
  unfold Blk at h ⊢
  simp [World.setCell, Array.getElem?_modify, h]
theorem Blk.far (h : Blk w g t cs) {p : Addr} (hp : g ≠ p.block) (u : Value) : Blk (w.setCell p u) g t cs := (Below.heap_setCell w p u g hp).trans h
theorem Blk.below {B : Nat} (h : Blk w g t cs) (hb : Below B w w') (hg : g < B) : Blk w' g t cs := (hb.block g hg).trans h
theorem Blk.grown {row : Option Nat} (h : Blk w g t cs) (hb : w.grownBy w' row) (hg : some g ≠ row) : Blk w' g t cs := (hb.block g h.lt hg).trans h
theorem Blk.ne_ {g' : Nat} {t' : TypeId} {cs' : Array Value} (h : Blk w g t cs) (h' : Blk w g' t' cs') (hne : t ≠ t') : g ≠ g' := by
  rintro rfl
  unfold Blk at h h'
  rw [h] at h'
  injection h' with h'
  injection h' with _ ht
  exact hne ht
end

theorem obj_set {w : World} {g : Nat} {cs : Array Value} {t : TypeId} {fr : Nat × Nat} (h : w.heap[g]? = some (.cells cs t fr)) (i : Nat) (u : Value) : (w.setCell ⟨g, i, none⟩ u).heap[g]? = some (.cells (cs.setIfInBounds i u) t fr) := by
  simp [World.setCell, Array.getElem?_modify, h]

theorem below_drewN {B : Nat} {a w : World} (h : Below B a w) (n : Nat) : Below B a (w.drewN n) := ⟨h.os, h.tape, h.output, h.size, h.block⟩
theorem below_of_only {a w : World} {B g : Nat} (h : a.grownBy w (some g)) (hB : B ≤ a.heap.size) (hg : B ≤ g) : Below B a w :=
  ⟨h.os, h.tape, h.output, h.size, fun i hi => h.block i (by omega) (fun e => by injection e with e; omega)⟩
theorem below_alloc {B : Nat} {a w : World} (h : Below B a w) (hB : B ≤ a.heap.size) (o : Obj) : Below B a (w.alloc o) := h.alloc (Nat.le_trans hB h.size) o
theorem below_setCell {B : Nat} {a w : World} (h : Below B a w) {p : Addr} (hp : B ≤ p.block) (u : Value) : Below B a (w.setCell p u) :=
  ⟨h.os, h.tape, h.output, by simpa [World.setCell] using h.size, fun i hi => (Below.heap_setCell w p u i (by omega)).trans (h.block i hi)⟩

theorem cell_new (w : World) (t : TypeId) (x : Value) : (w.alloc (.cells #[x] t)).cell? ⟨w.heap.size, 0, none⟩ = some x := (Blk.new w t #[x]).cell 0

/-! ### Rows of bytes that the call itself made -/
def b8 (c : UInt8) : Value := .int .u8 (c.toNat : Int)

/-- v is a slice of the call's own (its block from B on) that holds the bytes l. -/
def Byt (w : World) (B : Nat) (e : TypeId) (v : Value) (l : List UInt8) : Prop := w.ownsRow B e 1 v l.length (l.map b8)

section
variable {P : Program} {w : World} {B : Nat} {e : TypeId} {v : Value} {l : List UInt8}
theorem Byt.nil (w : World) (B : Nat) (e : TypeId) : Byt w B e (.slice none 0 0) [] := World.ownsRow_nil _ _ _ _
theorem Byt.alloc (h : Byt w B e v l) (o : Obj) : Byt (w.alloc o) B e v l := World.ownsRow.alloc h o

theorem Byt.drew (h : Byt w B e v l) : Byt w.drew B e v l := h
theorem Byt.drewN (h : Byt w B e v l) (n : Nat) : Byt (w.drewN n) B e v l := h

/-- 'append(b, c)' of one byte. -/
theorem wpList_append_byte (w : World) {ops : Array Oper} {rest : List Oper} {o : Oper} {a : Act} {Q : Exit → Act → World → Prop} (hgd : o.guard = none) (s x : Operand) (t : TypeId)
    (ho : o.op = .call { callee := .builtin .append, args := #[s, x], argTypes := #[t, t] }) (ht : P.underlying t = some (.slice e)) (hi : (P.info? e).map (fun i => (i.zero, i.size, i.bytes)) = some (some (.int .u8 0), 1, 1))
    (hs : a.eval s = v) (hown : Byt w B e v l) (ad : Addr) (cp : Nat) (hx : a.eval x = .slice (some ad) 1 cp) (z : Int) (hcell : w.cell? ad = some (.int .u8 z)) (c : UInt8) (hc : z = (c.toNat : Int))
    (hl : l.length < 140737488355328) (hB : B ≤ w.heap.size)
    (h : ∀ v' w', Byt w' B e v' (l ++ [c]) → w.grownBy w' v.ownBlock → wpList P ops Q rest (a.put o.dst v') w') : wpList P ops Q (o :: rest) a w := by
  obtain ⟨i0, hi0, hz0, hz1, hz2⟩ := info_parts hi
  refine wpList_append_own w hgd s x t ho B e i0 (.int .u8 0) 1 1 ht hi0 hz0 hz1 hz2 rfl (by decide) v l.length (l.map b8) hs hown ad 1 cp [b8 c] hx rfl ?_ ?_ ?_ ?_ hB ?_
  · intro j u hj
    match j, hj with
    | 0, hj =>
      simp at hj
      subst hj
      subst hc
      exact hcell
  · intro u hu
    simp at hu
    subst hu
    rfl
  · unfold maxLen; omega
  · omega
  · intro v' w' h1 h2 _
    refine h v' w' ?_ h2
    unfold Byt
    simpa using h1

/-- 'append(b, c, d, ..)'. -/
theorem wpList_append_bytes (w : World) {ops : Array Oper} {rest : List Oper} {o : Oper} {a : Act} {Q : Exit → Act → World → Prop} (hgd : o.guard = none) (s x : Operand) (t : TypeId)
    (ho : o.op = .call { callee := .builtin .append, args := #[s, x], argTypes := #[t, t] }) (ht : P.underlying t = some (.slice e)) (hi : (P.info? e).map (fun i => (i.zero, i.size, i.bytes)) = some (some (.int .u8 0), 1, 1))
    (hs : a.eval s = v) (hown : Byt w B e v l) (ad : Addr) (m cp : Nat) (hx : a.eval x = .slice (some ad) m cp) (cs : List UInt8) (hm : cs.length = m) (hcell : ∀ j u, (cs.map b8)[j]? = some u → w.cell? (ad.add j) = some u)
    (hl : l.length + m < 140737488355328) (hB : B ≤ w.heap.size)
    (h : ∀ v' w', Byt w' B e v' (l ++ cs) → w.grownBy w' v.ownBlock → wpList P ops Q rest (a.put o.dst v') w') : wpList P ops Q (o :: rest) a w := by
  obtain ⟨i0, hi0, hz0, hz1, hz2⟩ := info_parts hi
  refine wpList_append_own w hgd s x t ho B e i0 (.int .u8 0) 1 1 ht hi0 hz0 hz1 hz2 rfl (by decide) v l.length (l.map b8) hs hown ad m cp (cs.map b8) hx (by simp [hm]) hcell ?_ ?_ ?_ hB ?_
  · intro u hu
    obtain ⟨c, _, rfl⟩ := List.mem_map.1 hu
    rfl
  · unfold maxLen; omega
  · omega
  · intro v' w' h1 h2 _
    refine h v' w' ?_ h2
    unfold Byt
    rw [List.length_append, List.map_append, hm]
    exact h1
theorem step_append_bytes {ops : Array Oper} {o : Oper} {a : Act} {K : Act → World → Prop} {Q : Exit → Act → World → Prop} {E : Prop} (hgd : o.guard = none) (s x : Operand) (t : TypeId)
    (ho : o.op = .call { callee := .builtin .append, args := #[s, x], argTypes := #[t, t] }) (ht : P.underlying t = some (.slice e)) (hi : (P.info? e).map (fun i => (i.zero, i.size, i.bytes)) = some (some (.int .u8 0), 1, 1))
    (hs : a.eval s = v) (hown : Byt w B e v l) (ad : Addr) (m cp : Nat) (hx : a.eval x = .slice (some ad) m cp) (cs : List UInt8) (hm : cs.length = m) (hcell : ∀ j u, (cs.map b8)[j]? = some u → w.cell? (ad.add j) = some u)
    (hl : l.length + m < 140737488355328) (hB : B ≤ w.heap.size)
    (h : ∀ v' w', Byt w' B e v' (l ++ cs) → w.grownBy w' v.ownBlock → K (a.put o.dst v') w') : if Region.wanted o (yielded ops a.tmps) = true then Oper.wp P o a w K Q else E := by
  have hw : Region.wanted o (yielded ops a.tmps) = true := by simp [Region.wanted, hgd]
  rw [if_pos hw]
  obtain ⟨i0, hi0, hz0, hz1, hz2⟩ := info_parts hi
  refine wp_append_own w s x t ho B e i0 (.int .u8 0) 1 1 ht hi0 hz0 hz1 hz2 rfl (by decide) v l.length (l.map b8) hs hown ad m cp (cs.map b8) hx (by simp [hm]) hcell ?_ ?_ ?_ hB ?_
  · intro u hu
    obtain ⟨c, _, rfl⟩ := List.mem_map.1 hu
    rfl
  · unfold maxLen; omega
  · omega
  · intro v' w' h1 h2 _
    refine h v' w' ?_ h2
    unfold Byt
    rw [List.length_append, List.map_append, hm]
    exact h1
/-- The cells of a block that was just made. -/
theorem cells_new (w : World) (t : TypeId) (xs : List Value) : ∀ j u, xs[j]? = some u → (w.alloc (.cells xs.toArray t)).cell? (({ block := w.heap.size, off := 0, spot := none } : Addr).add j) = some u := by
  intro j u hu
  have e : ({ block := w.heap.size, off := 0, spot := none } : Addr).add j = ⟨w.heap.size, j, none⟩ := by simp [Addr.add]; intro h; exact h.symm
  rw [e, (Blk.new w t xs.toArray).cell j]
  simpa using hu

/-- What a byte more leaves of the memory that was there. -/
theorem Byt.grown {a w' : World} (h : Byt w B e v l) (hb : Below B a w) (hB : B ≤ w.heap.size) (hg : w.grownBy w' v.ownBlock) : Below B a w' := hb.grown hg hB (fun k hk => (World.ownsRow.lt h k hk).1)

/-- 'string(b)'. -/
theorem Byt.string (h : Byt w B e v l) {src dst : TypeId} (hs : P.underlying src = some (.slice e)) (he : P.underlying e = some (.int .u8)) (hd : P.underlying dst = some .string) :
    (convert src dst v).run P w = .ok (.string ⟨l.toArray⟩) w := by
  rcases h.2 with ⟨rfl, hn⟩ | ⟨g, cap, cur, rfl, h2⟩
  · have hl : l = [] := by simpa using hn
    subst hl
    exact run_convert_bytes_nil w src e hs he _ _ dst hd
  · refine run_convert_bytes_back w src dst e ⟨g, 0, none⟩ cap l hs he hd fun j hj => ?_
    have := World.ownsRow.cells (g := g) h rfl j (b8 l[j]) (by simp [hj])
    simpa [b8] using this
end

theorem ofInt_u32 (a : Nat) (ha : a < 4294967296) : (BitVec.ofInt 32 (a : Int)).toNat = a := by
  rw [BitVec.ofInt_natCast, BitVec.toNat_ofNat]; exact Nat.mod_eq_of_lt (by omega)
theorem u32_xor_nat (a b : Nat) (ha : a < 4294967296) (hb : b < 4294967296) : bits .xor .u32 (a : Int) (b : Int) = ((a ^^^ b : Nat) : Int) := by
  have hx : a ^^^ b < 2 ^ 32 := Nat.xor_lt_two_pow (by omega) (by omega)
  show IntKind.u32.wrap ((BitVec.ofInt 32 (a : Int) ^^^ BitVec.ofInt 32 (b : Int)).toNat : Int) = _
  rw [BitVec.toNat_xor, ofInt_u32 a ha, ofInt_u32 b hb, IntKind.wrap_u32]
  omega
theorem u32_and_nat (a b : Nat) (ha : a < 4294967296) (hb : b < 4294967296) : bits .and .u32 (a : Int) (b : Int) = ((a &&& b : Nat) : Int) := by
  have hx : a &&& b < 2 ^ 32 := Nat.and_lt_two_pow _ (by omega)
  show IntKind.u32.wrap ((BitVec.ofInt 32 (a : Int) &&& BitVec.ofInt 32 (b : Int)).toNat : Int) = _
  rw [BitVec.toNat_and, ofInt_u32 a ha, ofInt_u32 b hb, IntKind.wrap_u32]
  omega

theorem u32_not_nat (a : Nat) (ha : a < 4294967296) : bits .xor .u32 IntKind.u32.max (a : Int) = ((4294967295 - a : Nat) : Int) := by
  have hm : IntKind.u32.max = ((4294967295 : Nat) : Int) := by decide
  have e : (4294967295 ^^^ a : Nat) = 4294967295 - a := by
    have h1 : (BitVec.allOnes 32 ^^^ BitVec.ofNat 32 a) = ~~~ BitVec.ofNat 32 a := BitVec.allOnes_xor
    have h2 := congrArg BitVec.toNat h1
    rw [BitVec.toNat_xor, BitVec.toNat_not, BitVec.toNat_ofNat, Nat.mod_eq_of_lt (show a < 2 ^ 32 from by omega), BitVec.toNat_allOnes] at h2
    have h3 : (2 : Nat) ^ 32 - 1 = 4294967295 := by decide
    rw [h3] at h2
    exact h2
  rw [hm, u32_xor_nat _ _ (by decide) ha, e]

/-- Seven bits of a byte. -/
theorem andNot_128 : ∀ c : Nat, c < 256 → bits .andNot .u8 (c : Int) 128 = ((c % 128 : Nat) : Int) := by decide +kernel

/-- One group of seven bits more. -/
theorem vstep (a k c : Nat) (ha : a < 2 ^ (7 * k)) (hk : k < 9) (hc : c < 256) :
    bits .or .i64 (a : Int) (wrap64 (wrap64 (bits .andNot .u8 (c : Int) 128) * 2 ^ (7 * k))) = ((a + c % 128 * 2 ^ (7 * k) : Nat) : Int) ∧ a + c % 128 * 2 ^ (7 * k) < 2 ^ (7 * (k + 1)) := by
  have hm : c % 128 < 128 := Nat.mod_lt _ (by decide)
  have hp : 2 ^ (7 * (k + 1)) = 128 * 2 ^ (7 * k) := by rw [Nat.mul_add, Nat.pow_add]; omega
  have h1 : c % 128 * 2 ^ (7 * k) + 2 ^ (7 * k) ≤ 128 * 2 ^ (7 * k) := by
    have : (c % 128 + 1) * 2 ^ (7 * k) ≤ 128 * 2 ^ (7 * k) := Nat.mul_le_mul_right _ (by omega)
    rwa [Nat.add_mul, Nat.one_mul] at this
  have h2 : 2 ^ (7 * (k + 1)) ≤ 2 ^ 63 := Nat.pow_le_pow_right (by decide) (by omega)
  have h63 : (2 : Nat) ^ 63 = 9223372036854775808 := by decide
  refine ⟨?_, by omega⟩
  rw [andNot_128 c hc]
  have e1 : wrap64 ((c % 128 : Nat) : Int) = ((c % 128 : Nat) : Int) := IntWalk.wrap64_in _ (by omega)
  rw [e1]
  have e2 : (((c % 128 : Nat) : Int) * 2 ^ (7 * k)) = ((c % 128 * 2 ^ (7 * k) : Nat) : Int) := by push_cast; rfl
  rw [e2]
  have e3 : wrap64 ((c % 128 * 2 ^ (7 * k) : Nat) : Int) = ((c % 128 * 2 ^ (7 * k) : Nat) : Int) := IntWalk.wrap64_in _ (by omega)
  rw [e3, i64_or_nat _ _ (by omega) (by omega)]
  congr 1
  rw [Nat.or_comm, Nat.mul_comm, ← Nat.two_pow_add_eq_or_of_lt ha, Nat.add_comm]
end Go.Proofs.YtcbgflidlpmhcaaGreatDoor

namespace Go.Proofs.YtcbgflidlpmhcaaGreatDoor
open Ieee

/-- A word's lower 63 bits. -/
def rung (x : Nat) : Nat := x % 9223372036854775808
def isNeg (x : Nat) : Bool := x / 9223372036854775808 % 2 == 1
/-- A magnitude in units of the least one. -/
def magOf (r : Nat) : Nat := if r < 4503599627370496 then r else (4503599627370496 + r % 4503599627370496) * 2 ^ (r / 4503599627370496 - 1)
/-- A word's place in the order of numbers, nan aside. -/
def nkey (x : Nat) : Int := if isNeg x then -(rung x : Int) else (rung x : Int)
def infR : Nat := 9218868437227405312

theorem magOf_step (r : Nat) : magOf r < magOf (r + 1) := by
  unfold magOf
  by_cases h1 : r + 1 < 4503599627370496
  · rw [if_pos (by omega), if_pos h1]; omega
  · rw [if_neg h1]
    by_cases h2 : r < 4503599627370496
    · rw [if_pos h2, show (r + 1) / 4503599627370496 - 1 = 0 from by omega]
      omega
    · rw [if_neg h2]
      by_cases h3 : (r + 1) % 4503599627370496 = 0
      · have e1 : (r + 1) / 4503599627370496 = r / 4503599627370496 + 1 := by omega
        have e2 : r % 4503599627370496 = 4503599627370495 := by omega
        rw [h3, e1, e2, show r / 4503599627370496 + 1 - 1 = (r / 4503599627370496 - 1) + 1 from by omega, Nat.pow_succ]
        have := Nat.two_pow_pos (r / 4503599627370496 - 1)
        omega
      · have e1 : (r + 1) / 4503599627370496 = r / 4503599627370496 := by omega
        have e2 : (r + 1) % 4503599627370496 = r % 4503599627370496 + 1 := by omega
        rw [e1, e2]
        exact Nat.mul_lt_mul_of_pos_right (by omega) (Nat.two_pow_pos _)
theorem magOf_mono {a b : Nat} (h : a < b) : magOf a < magOf b := by
  induction b with
  | zero => omega
  | succ b ih =>
    rcases Nat.lt_or_ge a b with h1 | h1
    · exact Nat.lt_trans (ih h1) (magOf_step b)
    · obtain rfl : a = b := by omega
      exact magOf_step a
theorem magOf_lt (a b : Nat) : magOf a < magOf b ↔ a < b := by
  constructor
  · intro h
    rcases Nat.lt_trichotomy a b with h1 | h1 | h1
    · exact h1
    · subst h1; omega
    · have := magOf_mono h1; omega
  · exact magOf_mono
theorem magOf_eq (a b : Nat) : magOf a = magOf b ↔ a = b := by
  constructor
  · intro h
    rcases Nat.lt_trichotomy a b with h1 | h1 | h1
    · have := magOf_mono h1; omega
    · exact h1
    · have := magOf_mono h1; omega
  · rintro rfl; rfl

theorem f64_sign : Ieee.double.signWeight = 9223372036854775808 := by decide
theorem f64_binade : Ieee.double.binade = 4503599627370496 := by decide
theorem f64_inf : Ieee.double.infRung = infR := by decide
theorem f64_least : Ieee.double.leastPlace = -1074 := by decide

theorem read_fin (x : Nat) (h : rung x < infR) : ∃ m k : Nat, Ieee.double.read x = .number (isNeg x) m (-1074 + (k : Int)) ∧ m * 2 ^ k = magOf (rung x) := by
  unfold Format.read
  rw [f64_sign, f64_binade, f64_inf, f64_least]
  show ∃ m k : Nat, (if rung x < 4503599627370496 then _ else _) = _ ∧ _
  by_cases h1 : rung x < 4503599627370496
  · rw [if_pos h1]
    refine ⟨rung x, 0, rfl, ?_⟩
    unfold magOf
    rw [if_pos h1]
    omega
  · rw [if_neg h1]
    show ∃ m k : Nat, (if rung x < infR then _ else _) = _ ∧ _
    rw [if_pos h]
    refine ⟨4503599627370496 + rung x % 4503599627370496, rung x / 4503599627370496 - 1, rfl, ?_⟩
    unfold magOf
    rw [if_neg h1]
theorem read_inf (x : Nat) (h : rung x = infR) : Ieee.double.read x = .infinity (isNeg x) := by
  unfold Format.read
  rw [f64_sign, f64_binade, f64_inf, f64_least]
  show (if rung x < 4503599627370496 then _ else if rung x < infR then _ else if rung x = infR then _ else _) = _
  rw [if_neg (by rw [h]; decide), if_neg (by omega), if_pos h]
  rfl
theorem read_nan (x : Nat) (h : infR < rung x) : ∃ f, Ieee.double.read x = .nan (isNeg x) f := by
  unfold Format.read
  rw [f64_sign, f64_binade, f64_inf, f64_least]
  refine ⟨rung x - infR, ?_⟩
  show (if rung x < 4503599627370496 then _ else if rung x < infR then _ else if rung x = infR then _ else _) = _
  have : (4503599627370496 : Nat) < infR := by decide
  rw [if_neg (by omega), if_neg (by omega), if_neg (by omega)]
  rfl

theorem cmp_of {a b a' b' : Int} (h1 : a < b ↔ a' < b') (h2 : a = b ↔ a' = b') : compare a b = compare a' b' := by
  show compareOfLessAndEq a b = compareOfLessAndEq a' b'
  unfold compareOfLessAndEq
  simp only [h1, h2]

theorem scale_mag (m k l : Nat) : (m <<< (k - min k l)) * 2 ^ min k l = m * 2 ^ k := by
  rw [Nat.shiftLeft_eq, Nat.mul_assoc, ← Nat.pow_add]
  congr 2
  omega

theorem signed_cmp (s t : Bool) (a b A B c : Nat) (hc : 0 < c) (ha : a * c = A) (hb : b * c = B) (x y : Nat) (h1 : A < B ↔ x < y) (h1' : B < A ↔ y < x) (hx : A = 0 ↔ x = 0) (hy : B = 0 ↔ y = 0) :
    compare (if s then -((a : Nat) : Int) else ((a : Nat) : Int)) (if t then -((b : Nat) : Int) else ((b : Nat) : Int)) = compare (if s then -(x : Int) else (x : Int)) (if t then -(y : Int) else (y : Int)) := by
  have g1 : a < b ↔ A < B := by rw [← ha, ← hb]; exact (Nat.mul_lt_mul_right hc).symm
  have g2 : b < a ↔ B < A := by rw [← ha, ← hb]; exact (Nat.mul_lt_mul_right hc).symm
  have g3 : a = 0 ↔ A = 0 := by
    rw [← ha]
    constructor
    · rintro rfl; simp
    · intro h; rcases Nat.mul_eq_zero.1 h with h | h <;> omega
  have g4 : b = 0 ↔ B = 0 := by
    rw [← hb]
    constructor
    · rintro rfl; simp
    · intro h; rcases Nat.mul_eq_zero.1 h with h | h <;> omega
  clear ha hb
  cases s <;> cases t <;> apply cmp_of <;> simp only [if_true, Bool.false_eq_true, if_false] <;> omega

theorem magOf_zero (a : Nat) : magOf a = 0 ↔ a = 0 := by
  have := magOf_eq a 0
  rw [show magOf 0 = 0 from by decide] at this
  exact this

theorem order_key (x y : Nat) (hx : rung x ≤ infR) (hy : rung y ≤ infR) : Ieee.double.order x y = some (compare (nkey x) (nkey y)) := by
  unfold Format.order
  rcases Nat.lt_or_ge (rung x) infR with h1 | h1
  · obtain ⟨m, k, e1, f1⟩ := read_fin x h1
    rcases Nat.lt_or_ge (rung y) infR with h2 | h2
    · obtain ⟨n, l, e2, f2⟩ := read_fin y h2
      rw [e1, e2]
      show some (compare (signed _ m _) (signed _ n _)) = _
      have p1 : ((-1074 + (k : Int)) - min (-1074 + (k : Int)) (-1074 + (l : Int))).toNat = k - min k l := by omega
      have p2 : ((-1074 + (l : Int)) - min (-1074 + (k : Int)) (-1074 + (l : Int))).toNat = l - min k l := by omega
      rw [p1, p2]
      unfold signed nkey
      congr 1
      refine signed_cmp (isNeg x) (isNeg y) _ _ (magOf (rung x)) (magOf (rung y)) (2 ^ min k l) (Nat.two_pow_pos _) ?_ ?_ (rung x) (rung y) (magOf_lt _ _) (magOf_lt _ _) (magOf_zero _) (magOf_zero _)
      · rw [scale_mag, f1]
      · have h3 := scale_mag n l k
        rw [Nat.min_comm l k] at h3
        rw [h3, f2]
    · have h2' : rung y = infR := by omega
      rw [e1, read_inf y h2']
      show some (if isNeg y then Ordering.gt else Ordering.lt) = _
      congr 1
      unfold nkey
      rw [h2']
      generalize infR = r at *
      have hlt : rung x < r := h1
      cases isNeg y <;> cases isNeg x <;> simp only [if_true, Bool.false_eq_true, if_false] <;> symm <;> first
        | (apply Int.compare_eq_lt.2; omega)
        | (apply Int.compare_eq_gt.2; omega)
  · have h1' : rung x = infR := by omega
    rcases Nat.lt_or_ge (rung y) infR with h2 | h2
    · obtain ⟨n, l, e2, f2⟩ := read_fin y h2
      rw [read_inf x h1', e2]
      show some (if isNeg x then Ordering.lt else Ordering.gt) = _
      congr 1
      unfold nkey
      rw [h1']
      generalize infR = r at *
      have hlt : rung y < r := h2
      cases isNeg x <;> cases isNeg y <;> simp only [if_true, Bool.false_eq_true, if_false] <;> symm <;> first
        | (apply Int.compare_eq_lt.2; omega)
        | (apply Int.compare_eq_gt.2; omega)
    · have h2' : rung y = infR := by omega
      rw [read_inf x h1', read_inf y h2']
      show some (compare (isNeg y).toNat (isNeg x).toNat) = _
      unfold nkey
      rw [h1', h2']
      cases isNeg x <;> cases isNeg y <;> rfl
end Go.Proofs.YtcbgflidlpmhcaaGreatDoor

namespace Go.Proofs.YtcbgflidlpmhcaaGreatDoor
open Go.RowKit Ieee

def isN (x : Nat) : Bool := decide (infR < rung x)
def rankN (x : Nat) : Nat := if isN x then 0 else if isNeg x then 18446744073709551615 - x else x + 9223372036854775808
def cmpN (a b : Nat) : Int := if rankN a < rankN b then -1 else if rankN b < rankN a then 1 else 0

theorem order_nan (x y : Nat) (h : isN x = true ∨ isN y = true) : Ieee.double.order x y = none := by
  unfold Format.order
  rcases h with h | h
  · obtain ⟨f, e⟩ := read_nan x (by simpa [isN] using h)
    rw [e]; rfl
  · obtain ⟨f, e⟩ := read_nan y (by simpa [isN] using h)
    rw [e]
    cases Ieee.double.read x <;> rfl

theorem order_num (x y : Nat) (hx : isN x = false) (hy : isN y = false) : Ieee.double.order x y = some (compare (nkey x) (nkey y)) :=
  order_key x y (by simpa [isN] using hx) (by simpa [isN] using hy)

theorem lss_eq (x y : Nat) : (FloatKind.f64.format.order x y == some .lt) = (!isN x && !isN y && decide (nkey x < nkey y)) := by
  show (Ieee.double.order x y == some .lt) = _
  cases hx : isN x
  · cases hy : isN y
    · rw [order_num x y hx hy]
      rcases Int.lt_trichotomy (nkey x) (nkey y) with h | h | h
      · rw [Int.compare_eq_lt.2 h, decide_eq_true h]; rfl
      · rw [Int.compare_eq_eq.2 h, decide_eq_false (by omega)]; rfl
      · rw [Int.compare_eq_gt.2 h, decide_eq_false (by omega)]; rfl
    · rw [order_nan x y (Or.inr hy)]; rfl
  · rw [order_nan x y (Or.inl hx)]; rfl
theorem gtr_eq (x y : Nat) : (FloatKind.f64.format.order x y == some .gt) = (!isN x && !isN y && decide (nkey y < nkey x)) := by
  show (Ieee.double.order x y == some .gt) = _
  cases hx : isN x
  · cases hy : isN y
    · rw [order_num x y hx hy]
      rcases Int.lt_trichotomy (nkey x) (nkey y) with h | h | h
      · rw [Int.compare_eq_lt.2 h, decide_eq_false (by omega)]; rfl
      · rw [Int.compare_eq_eq.2 h, decide_eq_false (by omega)]; rfl
      · rw [Int.compare_eq_gt.2 h, decide_eq_true h]; rfl
    · rw [order_nan x y (Or.inr hy)]; rfl
  · rw [order_nan x y (Or.inl hx)]; rfl
theorem eql_eq (x y : Nat) : (FloatKind.f64.format.order x y == some .eq) = (!isN x && !isN y && decide (nkey x = nkey y)) := by
  show (Ieee.double.order x y == some .eq) = _
  cases hx : isN x
  · cases hy : isN y
    · rw [order_num x y hx hy]
      rcases Int.lt_trichotomy (nkey x) (nkey y) with h | h | h
      · rw [Int.compare_eq_lt.2 h, decide_eq_false (by omega)]; rfl
      · rw [Int.compare_eq_eq.2 h, decide_eq_true h]; rfl
      · rw [Int.compare_eq_gt.2 h, decide_eq_false (by omega)]; rfl
    · rw [order_nan x y (Or.inr hy)]; rfl
  · rw [order_nan x y (Or.inl hx)]; rfl
theorem neq_self (x : Nat) : (FloatKind.f64.format.order x x != some .eq) = isN x := by
  show (!(FloatKind.f64.format.order x x == some .eq)) = _
  rw [eql_eq, decide_eq_true rfl]
  cases isN x <;> rfl
theorem eql_self (x : Nat) : (FloatKind.f64.format.order x x == some .eq) = !isN x := by
  rw [eql_eq, decide_eq_true rfl]
  cases isN x <;> rfl

/-! ### Words below 2^64 -/
theorem word_neg (x : Nat) (hx : x < 18446744073709551616) : isNeg x = decide (9223372036854775808 ≤ x) := by
  unfold isNeg
  rcases Nat.lt_or_ge x 9223372036854775808 with h | h
  · rw [decide_eq_false (by omega), show x / 9223372036854775808 % 2 = 0 from by omega]; rfl
  · rw [decide_eq_true h, show x / 9223372036854775808 % 2 = 1 from by omega]; rfl
/-- A word's parts. -/
theorem word_parts (x : Nat) (hx : x < 18446744073709551616) : (isNeg x = true ∧ x = 9223372036854775808 + rung x ∧ rung x < 9223372036854775808) ∨ (isNeg x = false ∧ x = rung x ∧ rung x < 9223372036854775808) := by
  rw [word_neg x hx]
  unfold rung
  rcases Nat.lt_or_ge x 9223372036854775808 with h | h
  · exact Or.inr ⟨decide_eq_false (by omega), by omega, by omega⟩
  · exact Or.inl ⟨decide_eq_true h, by omega, by omega⟩
theorem rung_lt (x : Nat) : rung x < 9223372036854775808 := Nat.mod_lt _ (by decide)

theorem rankN_lt (x : Nat) (hx : x < 18446744073709551616) : rankN x < 18446744073709551616 := by
  unfold rankN
  rcases word_parts x hx with ⟨h1, h2, h3⟩ | ⟨h1, h2, h3⟩ <;> rw [h1] <;> cases isN x <;> simp <;> omega

/-- Of numbers that are no nan the rank tells what the order and the signs tell. -/
theorem rank_cases (x y : Nat) (hx : x < 18446744073709551616) (hy : y < 18446744073709551616) (nx : isN x = false) (ny : isN y = false) :
    (nkey x < nkey y → rankN x < rankN y) ∧ (nkey y < nkey x → rankN y < rankN x) ∧ (nkey x = nkey y → isNeg x = isNeg y → rankN x = rankN y) ∧ (nkey x = nkey y → isNeg x = true → isNeg y = false → rankN x < rankN y) := by
  unfold rankN nkey
  rw [nx, ny]
  rcases word_parts x hx with ⟨h1, h2, h3⟩ | ⟨h1, h2, h3⟩ <;> rcases word_parts y hy with ⟨k1, k2, k3⟩ | ⟨k1, k2, k3⟩ <;> rw [h1, k1] <;> simp <;> omega

theorem rank_nan (x : Nat) (h : isN x = true) : rankN x = 0 := by unfold rankN; rw [h]; rfl
theorem rank_pos (x : Nat) (hx : x < 18446744073709551616) (h : isN x = false) : 0 < rankN x := by
  have hi : rung x ≤ infR := by simpa [isN] using h
  have hc : infR = 9218868437227405312 := rfl
  unfold rankN
  rw [h]
  rcases word_parts x hx with ⟨h1, h2, h3⟩ | ⟨h1, h2, h3⟩ <;> rw [h1] <;> simp <;> omega
theorem rank_inj (x y : Nat) (hx : x < 18446744073709551616) (hy : y < 18446744073709551616) (nx : isN x = false) (h : rankN x = rankN y) : x = y := by
  have ny : isN y = false := by
    cases e : isN y
    · rfl
    · have := rank_pos x hx nx
      rw [rank_nan y e] at h
      omega
  unfold rankN at h
  rw [nx, ny] at h
  rcases word_parts x hx with ⟨h1, h2, h3⟩ | ⟨h1, h2, h3⟩ <;> rcases word_parts y hy with ⟨k1, k2, k3⟩ | ⟨k1, k2, k3⟩ <;> rw [h1, k1] at h <;> simp at h <;> omega

theorem cmpN_self (a : Nat) : cmpN a a = 0 := by unfold cmpN; rw [if_neg (by omega), if_neg (by omega)]
theorem cmpN_lt {a b : Nat} (h : rankN a < rankN b) : cmpN a b = -1 := by unfold cmpN; rw [if_pos h]
theorem cmpN_gt {a b : Nat} (h : rankN b < rankN a) : cmpN a b = 1 := by unfold cmpN; rw [if_neg (by omega), if_pos h]
theorem cmpN_eq {a b : Nat} (h : rankN a = rankN b) : cmpN a b = 0 := by unfold cmpN; rw [if_neg (by omega), if_neg (by omega)]
theorem cmpN_zero (a b : Nat) : cmpN a b = 0 ↔ rankN a = rankN b := by unfold cmpN; split <;> (try split) <;> omega
theorem cmpN_swap (a b : Nat) : cmpN b a = -cmpN a b := by unfold cmpN; split <;> split <;> (try split) <;> omega

/-! ### Bits of words -/
theorem ofInt_u64 (a : Nat) (ha : a < 18446744073709551616) : (BitVec.ofInt 64 (a : Int)).toNat = a := by
  rw [BitVec.ofInt_natCast, BitVec.toNat_ofNat]; exact Nat.mod_eq_of_lt (by omega)
theorem wrap_u64_nat (a : Nat) (ha : a < 18446744073709551616) : IntKind.u64.wrap ((a : Nat) : Int) = (a : Int) := by
  rw [IntKind.wrap_u64]; omega
theorem u64_and_nat (a b : Nat) (ha : a < 18446744073709551616) (hb : b < 18446744073709551616) : bits .and .u64 (a : Int) (b : Int) = ((a &&& b : Nat) : Int) := by
  have hx : a &&& b < 2 ^ 64 := Nat.and_lt_two_pow _ (by omega)
  show IntKind.u64.wrap ((BitVec.ofInt 64 (a : Int) &&& BitVec.ofInt 64 (b : Int)).toNat : Int) = _
  rw [BitVec.toNat_and, ofInt_u64 a ha, ofInt_u64 b hb, wrap_u64_nat _ (by omega)]
theorem u64_or_nat (a b : Nat) (ha : a < 18446744073709551616) (hb : b < 18446744073709551616) : bits .or .u64 (a : Int) (b : Int) = ((a ||| b : Nat) : Int) := by
  have hx : a ||| b < 2 ^ 64 := Nat.or_lt_two_pow (by omega) (by omega)
  show IntKind.u64.wrap ((BitVec.ofInt 64 (a : Int) ||| BitVec.ofInt 64 (b : Int)).toNat : Int) = _
  rw [BitVec.toNat_or, ofInt_u64 a ha, ofInt_u64 b hb, wrap_u64_nat _ (by omega)]
theorem u64_xor_nat (a b : Nat) (ha : a < 18446744073709551616) (hb : b < 18446744073709551616) : bits .xor .u64 (a : Int) (b : Int) = ((a ^^^ b : Nat) : Int) := by
  have hx : a ^^^ b < 2 ^ 64 := Nat.xor_lt_two_pow (by omega) (by omega)
  show IntKind.u64.wrap ((BitVec.ofInt 64 (a : Int) ^^^ BitVec.ofInt 64 (b : Int)).toNat : Int) = _
  rw [BitVec.toNat_xor, ofInt_u64 a ha, ofInt_u64 b hb, wrap_u64_nat _ (by omega)]
theorem u64_not_nat (a : Nat) (ha : a < 18446744073709551616) : bits .xor .u64 IntKind.u64.max (a : Int) = ((18446744073709551615 - a : Nat) : Int) := by
  have hm : IntKind.u64.max = ((18446744073709551615 : Nat) : Int) := by decide
  have e : (18446744073709551615 ^^^ a : Nat) = 18446744073709551615 - a := by
    have h1 : (BitVec.allOnes 64 ^^^ BitVec.ofNat 64 a) = ~~~ BitVec.ofNat 64 a := BitVec.allOnes_xor
    have h2 := congrArg BitVec.toNat h1
    rw [BitVec.toNat_xor, BitVec.toNat_not, BitVec.toNat_ofNat, Nat.mod_eq_of_lt (show a < 2 ^ 64 from by omega), BitVec.toNat_allOnes] at h2
    have h3 : (2 : Nat) ^ 64 - 1 = 18446744073709551615 := by decide
    rw [h3] at h2
    exact h2
  rw [hm, u64_xor_nat _ _ (by decide) ha, e]

theorem and_sign (x : Nat) (hx : x < 18446744073709551616) : x &&& 9223372036854775808 = if isNeg x then 9223372036854775808 else 0 := by
  have h1 : x &&& 9223372036854775808 = x / 2 ^ 63 % 2 * 2 ^ 63 := by
    apply Nat.eq_of_testBit_eq
    intro i
    rw [Nat.testBit_and, show (9223372036854775808 : Nat) = 2 ^ 63 from rfl, Nat.testBit_two_pow, Nat.testBit_mul_two_pow]
    by_cases hi : 63 = i
    · subst hi
      simp [Nat.testBit, Nat.shiftRight_eq_div_pow]
    · rw [decide_eq_false hi, Bool.and_false]
      symm
      by_cases h3 : 63 ≤ i
      · rw [decide_eq_true h3, Bool.true_and]
        apply Nat.testBit_lt_two_pow
        have : 2 ^ 1 ≤ 2 ^ (i - 63) := Nat.pow_le_pow_right (by decide) (by omega)
        have := Nat.mod_lt (x / 2 ^ 63) (show 2 > 0 by decide)
        omega
      · rw [decide_eq_false h3, Bool.false_and]
  rw [h1]
  rcases word_parts x hx with ⟨h1, h2, h3⟩ | ⟨h1, h2, h3⟩ <;> rw [h1] <;> simp <;> omega
theorem or_sign (x : Nat) (hx : x < 9223372036854775808) : x ||| 9223372036854775808 = x + 9223372036854775808 := by
  have := Nat.two_pow_add_eq_or_of_lt (i := 63) (b := x) hx 1
  rw [show 2 ^ 63 * 1 = 9223372036854775808 from by decide] at this
  rw [Nat.or_comm]
  omega
theorem xor_sign (x : Nat) (hx : x < 9223372036854775808) : x ^^^ 9223372036854775808 = x + 9223372036854775808 := by
  rw [← or_sign x hx]
  apply Nat.eq_of_testBit_eq
  intro i
  rw [Nat.testBit_xor, Nat.testBit_or, show (9223372036854775808 : Nat) = 2 ^ 63 from rfl, Nat.testBit_two_pow]
  by_cases hi : 63 = i
  · subst hi
    rw [Nat.testBit_lt_two_pow hx]
    rfl
  · rw [decide_eq_false hi, Bool.xor_false, Bool.or_false]

theorem and_sign_int (x : Nat) (hx : x < 18446744073709551616) : (bits .and .u64 (x : Int) 9223372036854775808 != 0) = isNeg x := by
  have := u64_and_nat x 9223372036854775808 hx (by decide)
  rw [and_sign x hx] at this
  rw [show ((9223372036854775808 : Int)) = ((9223372036854775808 : Nat) : Int) from rfl, this]
  cases isNeg x <;> rfl
theorem or_sign_int (x : Nat) (hx : x < 9223372036854775808) : bits .or .u64 (x : Int) 9223372036854775808 = ((x + 9223372036854775808 : Nat) : Int) := by
  have := u64_or_nat x 9223372036854775808 (by omega) (by decide)
  rw [or_sign x hx] at this
  exact this

/-- '-f': the sign is turned. -/
theorem neg_word (x : Nat) (hx : x < 18446744073709551616) : Op.negFloat .f64 x = if isNeg x then x - 9223372036854775808 else x + 9223372036854775808 := by
  show x ^^^ 9223372036854775808 = _
  rcases word_parts x hx with ⟨h1, h2, h3⟩ | ⟨h1, h2, h3⟩
  · rw [h1, if_pos rfl]
    have e : x = rung x ^^^ 9223372036854775808 := by rw [xor_sign _ h3]; omega
    have e2 : x ^^^ 9223372036854775808 = rung x := by
      conv => lhs; rw [e]
      rw [Nat.xor_assoc, Nat.xor_self, Nat.xor_zero]
    rw [e2]; omega
  · rw [h1, if_neg (by decide)]
    exact xor_sign x (by omega)

/-- The number that stands at a rank. -/
def unrankN (r : Nat) : Nat := if isNeg r then r - 9223372036854775808 else 18446744073709551615 - r
theorem unrankN_lt (r : Nat) (h : r < 18446744073709551616) : unrankN r < 18446744073709551616 := by unfold unrankN; split <;> omega
theorem unrank_rank (x : Nat) (hx : x < 18446744073709551616) (h : isN x = false) : unrankN (rankN x) = x := by
  unfold unrankN rankN
  rw [h]
  rcases word_parts x hx with ⟨h1, h2, h3⟩ | ⟨h1, h2, h3⟩ <;> rw [h1] <;> simp only [Bool.false_eq_true, if_false, if_true]
  · rw [word_neg _ (by omega), decide_eq_false (by omega)]
    simp only [Bool.false_eq_true, if_false]
    omega
  · rw [word_neg _ (by omega), decide_eq_true (by omega)]
    simp only [if_true]
    omega
theorem andNot_rung (x : Nat) (hx : x < 18446744073709551616) : bits .andNot .u64 (x : Int) 9223372036854775808 = (rung x : Int) := by
  show IntKind.u64.wrap ((BitVec.ofInt 64 (x : Int) &&& ~~~ BitVec.ofInt 64 ((9223372036854775808 : Nat) : Int)).toNat : Int) = _
  have hm := Nat.and_two_pow_sub_one_eq_mod x 63
  rw [BitVec.toNat_and, BitVec.toNat_not, ofInt_u64 x hx, ofInt_u64 _ (by decide), show (2 ^ 64 - 1 - 9223372036854775808 : Nat) = 2 ^ 63 - 1 from by decide, hm]
  have hd : (2 : Nat) ^ 63 = 9223372036854775808 := by decide
  rw [hd, wrap_u64_nat _ (by omega)]
  rfl
theorem and_sign_eq (x : Nat) (hx : x < 18446744073709551616) : bits .and .u64 (x : Int) 9223372036854775808 = ((if isNeg x then 9223372036854775808 else 0 : Nat) : Int) := by
  have := u64_and_nat x 9223372036854775808 hx (by decide)
  rw [and_sign x hx] at this
  exact this
theorem andNot_sign (x : Nat) (hx : x < 18446744073709551616) (h : isNeg x = true) : bits .andNot .u64 (x : Int) 9223372036854775808 = ((x - 9223372036854775808 : Nat) : Int) := by
  show IntKind.u64.wrap ((BitVec.ofInt 64 (x : Int) &&& ~~~ BitVec.ofInt 64 ((9223372036854775808 : Nat) : Int)).toNat : Int) = _
  have hm := Nat.and_two_pow_sub_one_eq_mod x 63
  rw [BitVec.toNat_and, BitVec.toNat_not, ofInt_u64 x hx, ofInt_u64 _ (by decide), show (2 ^ 64 - 1 - 9223372036854775808 : Nat) = 2 ^ 63 - 1 from by decide, hm]
  have hd : (2 : Nat) ^ 63 = 9223372036854775808 := by decide
  rw [hd, wrap_u64_nat _ (by omega)]
  rcases word_parts x hx with ⟨h1, h2, h3⟩ | ⟨h1, h2, h3⟩
  · have e : x % 9223372036854775808 = x - 9223372036854775808 := by omega
    rw [e]
  · rw [h] at h1; cases h1
end Go.Proofs.YtcbgflidlpmhcaaGreatDoor

namespace Go.Proofs.YtcbgflidlpmhcaaGreatDoor
open Ieee

/-- To the nearest whole number; between two, the even one. -/
def hround (n g : Nat) : Nat := n / g + if g < 2 * (n % g) ∨ (g = 2 * (n % g) ∧ n / g % 2 = 1) then 1 else 0

theorem hround_mono {n m g : Nat} (_hg : 0 < g) (h : n ≤ m) : hround n g ≤ hround m g := by
  unfold hround
  have hd : n / g ≤ m / g := Nat.div_le_div_right h
  rcases Nat.lt_or_ge (n / g) (m / g) with h1 | h1
  · split <;> split <;> omega
  · have he : n / g = m / g := by omega
    have e1 := Nat.div_add_mod n g
    have e2 := Nat.div_add_mod m g
    rw [he] at e1 ⊢
    have hr : n % g ≤ m % g := by omega
    split
    · rename_i hc
      rw [if_pos (by omega)]
      exact Nat.le_refl _
    · omega
theorem hround_mul (n g : Nat) (hg : 0 < g) : hround (n * g) g = n := by
  unfold hround
  rw [Nat.mul_div_cancel _ hg, Nat.mul_mod_left, if_neg (by omega)]
  rfl
theorem hround_small (n g : Nat) (h : 2 * n < g) : hround n g = 0 := by
  unfold hround
  rw [Nat.div_eq_of_lt (by omega), Nat.mod_eq_of_lt (by omega), if_neg (by omega)]

theorem cut_even (neg : Bool) (n d : Nat) : Toward.even.cut neg n d = hround n (2 ^ d) := by
  have key : ∀ g, n / g + (decide (g < 2 * (n % g)) || (g == 2 * (n % g) && n / g % 2 == 1)).toNat = hround n g := by
    intro g
    unfold hround
    congr 1
    by_cases h1 : g < 2 * (n % g)
    · simp [h1]
    · by_cases h2 : g = 2 * (n % g) ∧ n / g % 2 = 1
      · rw [if_pos (Or.inr h2)]
        have a1 : (g == 2 * (n % g)) = true := by rw [beq_iff_eq]; exact h2.1
        have a2 : (n / g % 2 == 1) = true := by rw [beq_iff_eq]; exact h2.2
        rw [a1, a2]
        simp
      · rw [if_neg (by omega)]
        have a : (g == 2 * (n % g) && n / g % 2 == 1) = false := by
          rw [Bool.eq_false_iff]
          intro e
          rw [Bool.and_eq_true, beq_iff_eq, beq_iff_eq] at e
          exact h2 e
        rw [a, decide_eq_false h1]
        rfl
  have hc : Toward.even.cut neg n d = hround n (1 <<< min d (n.log2 + 2)) := key _
  rw [hc, Nat.one_shiftLeft]
  rcases Nat.le_total d (n.log2 + 2) with h | h
  · rw [Nat.min_eq_left h]
  · rw [Nat.min_eq_right h]
    have h1 : n < 2 ^ (n.log2 + 1) := Nat.lt_log2_self
    have h2 : 2 ^ (n.log2 + 2) = 2 * 2 ^ (n.log2 + 1) := by rw [Nat.pow_succ]; omega
    have h3 : 2 ^ (n.log2 + 2) ≤ 2 ^ d := Nat.pow_le_pow_right (by decide) h
    rw [hround_small _ _ (by omega), hround_small _ _ (by omega)]

/-- The place of the last digit that is kept, and what is kept. -/
def lastP (m : Nat) (p : Int) : Int := max (p + (m.log2 : Int) - 52) (-1074)
def keptN (m : Nat) (p L : Int) : Nat := hround (m * 2 ^ (p - L).toNat) (2 ^ (L - p).toNat)
def rungOf (m : Nat) (p : Int) : Nat := (lastP m p + 1074).toNat * 4503599627370496 + keptN m p (lastP m p)

theorem nearest_eq (neg : Bool) (m : Nat) (p : Int) (h : m ≠ 0) : Ieee.double.nearest neg m p = Ieee.double.word neg (min (rungOf m p) infR) := by
  unfold Format.nearest
  rw [if_neg h, f64_least, f64_binade, f64_inf]
  show Ieee.double.word neg (min ((lastP m p - -1074).toNat * 4503599627370496 + Toward.even.cut neg (m <<< (p - lastP m p).toNat) (lastP m p - p).toNat) infR) = _
  rw [cut_even, Nat.shiftLeft_eq, show lastP m p - -1074 = lastP m p + 1074 from by omega]
  rfl

theorem kept_le (m : Nat) (p L : Int) (h : p + (m.log2 : Int) - 52 ≤ L) : keptN m p L ≤ 9007199254740992 := by
  have hg := Nat.two_pow_pos (L - p).toNat
  have h1 : m ≤ 2 ^ (m.log2 + 1) := Nat.le_of_lt Nat.lt_log2_self
  have h2 : m * 2 ^ (p - L).toNat ≤ 9007199254740992 * 2 ^ (L - p).toNat := by
    refine Nat.le_trans (Nat.mul_le_mul_right _ h1) ?_
    rw [← Nat.pow_add, show (9007199254740992 : Nat) = 2 ^ 53 from rfl, ← Nat.pow_add]
    exact Nat.pow_le_pow_right (by decide) (by omega)
  have := hround_mono hg h2
  rwa [hround_mul _ _ hg] at this
theorem kept_ge (m : Nat) (p L : Int) (hm : m ≠ 0) (h : L ≤ p + (m.log2 : Int) - 52) : 4503599627370496 ≤ keptN m p L := by
  have hg := Nat.two_pow_pos (L - p).toNat
  have h1 : 2 ^ m.log2 ≤ m := Nat.log2_self_le hm
  have h2 : 4503599627370496 * 2 ^ (L - p).toNat ≤ m * 2 ^ (p - L).toNat := by
    refine Nat.le_trans ?_ (Nat.mul_le_mul_right _ h1)
    rw [← Nat.pow_add, show (4503599627370496 : Nat) = 2 ^ 52 from rfl, ← Nat.pow_add]
    exact Nat.pow_le_pow_right (by decide) (by omega)
  have := hround_mono hg h2
  rwa [hround_mul _ _ hg] at this

theorem log2_mono {m n : Nat} (hm : m ≠ 0) (h : m ≤ n) : m.log2 ≤ n.log2 := by
  have h1 : 2 ^ m.log2 ≤ m := Nat.log2_self_le hm
  have h2 : n < 2 ^ (n.log2 + 1) := Nat.lt_log2_self
  rcases Nat.lt_or_ge n.log2 m.log2 with h3 | h3
  · have : 2 ^ (n.log2 + 1) ≤ 2 ^ m.log2 := Nat.pow_le_pow_right (by decide) (by omega)
    omega
  · exact h3

/-- Rounding never turns the order round (one place for both). -/
theorem rungOf_mono (m n : Nat) (p : Int) (hm : m ≠ 0) (h : m ≤ n) : rungOf m p ≤ rungOf n p := by
  have hl := log2_mono hm h
  have hL : lastP m p ≤ lastP n p := by unfold lastP; omega
  have hb : -1074 ≤ lastP m p := by unfold lastP; omega
  unfold rungOf
  by_cases he : lastP m p = lastP n p
  · rw [he]
    have : keptN m p (lastP n p) ≤ keptN n p (lastP n p) := hround_mono (Nat.two_pow_pos _) (Nat.mul_le_mul_right _ h)
    omega
  · have h1 := kept_le m p (lastP m p) (by unfold lastP; omega)
    have h2 : lastP n p = p + (n.log2 : Int) - 52 := by unfold lastP at *; omega
    have h3 := kept_ge n p (lastP n p) (by omega) (by omega)
    omega

/-- What fits stays as it is. -/
theorem rungOf_exact (m : Nat) (p : Int) (hm : m ≠ 0) (h : m < 9007199254740992) (hp : -1074 ≤ p) : magOf (rungOf m p) = m * 2 ^ (p + 1074).toNat := by
  have hlog : m.log2 ≤ 52 := by
    have h1 : 2 ^ m.log2 ≤ m := Nat.log2_self_le hm
    rcases Nat.lt_or_ge 52 m.log2 with h2 | h2
    · have : 2 ^ 53 ≤ 2 ^ m.log2 := Nat.pow_le_pow_right (by decide) h2
      omega
    · exact h2
  have hLp : lastP m p ≤ p := by unfold lastP; omega
  have hb : -1074 ≤ lastP m p := by unfold lastP; omega
  have hk : keptN m p (lastP m p) = m * 2 ^ (p - lastP m p).toNat := by
    unfold keptN
    have := hround_mul (m * 2 ^ (p - lastP m p).toNat) 1 (by decide)
    rw [Nat.mul_one] at this
    rw [show (lastP m p - p).toNat = 0 from by omega]
    exact this
  have hlt : m < 2 ^ (m.log2 + 1) := Nat.lt_log2_self
  have hlt2 : m * 2 ^ (p - lastP m p).toNat < 9007199254740992 := by
    have h1 : m * 2 ^ (p - lastP m p).toNat < 2 ^ (m.log2 + 1) * 2 ^ (p - lastP m p).toNat := Nat.mul_lt_mul_of_pos_right hlt (Nat.two_pow_pos _)
    rw [← Nat.pow_add] at h1
    have h2 : 2 ^ (m.log2 + 1 + (p - lastP m p).toNat) ≤ 2 ^ 53 := Nat.pow_le_pow_right (by decide) (by unfold lastP; omega)
    omega
  unfold rungOf
  rw [hk]
  by_cases hL : lastP m p = -1074
  · rw [hL] at hlt2 ⊢
    rw [show (-1074 + 1074 : Int).toNat = 0 from rfl, Nat.zero_mul, Nat.zero_add, show p - -1074 = p + 1074 from by omega] at *
    unfold magOf
    split
    · rfl
    · rw [show m * 2 ^ (p + 1074).toNat / 4503599627370496 - 1 = 0 from by omega]
      omega
  · have hLe : lastP m p = p + (m.log2 : Int) - 52 := by unfold lastP at *; omega
    have hge := kept_ge m p (lastP m p) hm (by omega)
    rw [hk] at hge
    obtain ⟨x, hx⟩ : ∃ x, x = m * 2 ^ (p - lastP m p).toNat := ⟨_, rfl⟩
    obtain ⟨a, ha⟩ : ∃ a, a = (lastP m p + 1074).toNat := ⟨_, rfl⟩
    have hsum : m * 2 ^ (p + 1074).toNat = x * 2 ^ a := by
      rw [hx, Nat.mul_assoc, ← Nat.pow_add, show (p + 1074).toNat = (p - lastP m p).toNat + a from by omega]
    rw [hsum, ← ha, ← hx]
    rw [← hx] at hge hlt2
    unfold magOf
    rw [if_neg (by omega), show (a * 4503599627370496 + x) / 4503599627370496 - 1 = a from by omega, show 4503599627370496 + (a * 4503599627370496 + x) % 4503599627370496 = x from by omega]

theorem hround_scale (n g c : Nat) (hc : 0 < c) : hround (n * c) (g * c) = hround n g := by
  unfold hround
  rw [Nat.mul_div_mul_right _ _ hc, Nat.mul_mod_mul_right]
  have e1 : g * c < 2 * (n % g * c) ↔ g < 2 * (n % g) := by rw [← Nat.mul_assoc]; exact Nat.mul_lt_mul_right hc
  have e2 : g * c = 2 * (n % g * c) ↔ g = 2 * (n % g) := by
    rw [← Nat.mul_assoc]
    exact ⟨fun h => Nat.eq_of_mul_eq_mul_right hc h, fun h => by rw [← h]⟩
  simp only [e1, e2]

/-- The same value at another place is rounded the same. -/
theorem rungOf_scale (m k : Nat) (p : Int) (hm : m ≠ 0) : rungOf (m * 2 ^ k) p = rungOf m (p + (k : Int)) := by
  have hm2 : m * 2 ^ k ≠ 0 := Nat.mul_ne_zero hm (Nat.ne_of_gt (Nat.two_pow_pos _))
  have hlog : (m * 2 ^ k).log2 = m.log2 + k := by
    rw [Nat.log2_eq_iff hm2]
    have h1 : 2 ^ m.log2 ≤ m := Nat.log2_self_le hm
    have h2 : m < 2 ^ (m.log2 + 1) := Nat.lt_log2_self
    constructor
    · rw [Nat.pow_add]; exact Nat.mul_le_mul_right _ h1
    · rw [show m.log2 + k + 1 = (m.log2 + 1) + k from by omega, Nat.pow_add]
      exact Nat.mul_lt_mul_of_pos_right h2 (Nat.two_pow_pos _)
  have hL : lastP (m * 2 ^ k) p = lastP m (p + (k : Int)) := by unfold lastP; rw [hlog]; omega
  unfold rungOf
  rw [hL]
  congr 1
  generalize lastP m (p + (k : Int)) = L
  unfold keptN
  obtain ⟨c, h1, h2⟩ : ∃ c : Nat, k + (p - L).toNat = (p + (k : Int) - L).toNat + c ∧ (L - p).toNat = (L - (p + (k : Int))).toNat + c := ⟨(L - p).toNat - (L - (p + (k : Int))).toNat, by omega, by omega⟩
  rw [Nat.mul_assoc, ← Nat.pow_add, h1, h2, Nat.pow_add, Nat.pow_add, ← Nat.mul_assoc]
  exact hround_scale _ _ _ (Nat.two_pow_pos _)
end Go.Proofs.YtcbgflidlpmhcaaGreatDoor

namespace Go.Proofs.YtcbgflidlpmhcaaGreatDoor
open Ieee

/-- The rung of a product of two magnitudes (in units of the least one). -/
def mulR (a b : Nat) : Nat := if a * b = 0 then 0 else min (rungOf (a * b) (-2148)) infR

theorem mulR_mono {a b c d : Nat} (h1 : a ≤ c) (h2 : b ≤ d) : mulR a b ≤ mulR c d := by
  have h := Nat.mul_le_mul h1 h2
  unfold mulR
  by_cases h0 : a * b = 0
  · rw [if_pos h0]; exact Nat.zero_le _
  · have := rungOf_mono (a * b) (c * d) (-2148) h0 h
    rw [if_neg h0, if_neg (by omega)]
    omega

theorem mul_fin (x y : Nat) (hx : rung x < infR) (hy : rung y < infR) :
    Ieee.double.mul x y = some (Ieee.double.word (isNeg x ^^ isNeg y) (mulR (magOf (rung x)) (magOf (rung y)))) := by
  obtain ⟨m, k, e1, f1⟩ := read_fin x hx
  obtain ⟨n, l, e2, f2⟩ := read_fin y hy
  unfold Format.mul
  rw [e1, e2]
  show some (Ieee.double.nearest (isNeg x ^^ isNeg y) (m * n) ((-1074 + (k : Int)) + (-1074 + (l : Int)))) = _
  congr 1
  have hp : magOf (rung x) * magOf (rung y) = (m * n) * 2 ^ (k + l) := by
    rw [← f1, ← f2, Nat.pow_add]
    rw [Nat.mul_assoc, Nat.mul_assoc, Nat.mul_left_comm (2 ^ k)]
  unfold mulR
  by_cases h0 : m * n = 0
  · rw [h0, hp, h0, Nat.zero_mul, if_pos rfl]
    unfold Format.nearest
    rw [if_pos rfl]
  · rw [nearest_eq _ _ _ h0, hp, if_neg (Nat.mul_ne_zero h0 (Nat.ne_of_gt (Nat.two_pow_pos _))), rungOf_scale _ _ _ h0]
    congr 3
    omega

theorem cut_down (way : Toward) (hw : way = .zero ∨ way = .down) (n d : Nat) : way.cut false n d = n / 2 ^ d := by
  have key : way.cut false n d = n / (1 <<< min d (n.log2 + 2)) := by
    rcases hw with rfl | rfl
    · rfl
    · show n / _ + ((false && _ : Bool)).toNat = _
      rw [Bool.false_and]
      rfl
  rw [key, Nat.one_shiftLeft]
  rcases Nat.le_total d (n.log2 + 2) with h | h
  · rw [Nat.min_eq_left h]
  · rw [Nat.min_eq_right h]
    have h1 : n < 2 ^ (n.log2 + 1) := Nat.lt_log2_self
    have h2 : 2 ^ (n.log2 + 2) = 2 * 2 ^ (n.log2 + 1) := by rw [Nat.pow_succ]; omega
    have h3 : 2 ^ (n.log2 + 2) ≤ 2 ^ d := Nat.pow_le_pow_right (by decide) h
    rw [Nat.div_eq_of_lt (by omega), Nat.div_eq_of_lt (by omega)]

/-- The whole part of a number that is not negative. -/
theorem whole_fin (way : Toward) (hw : way = .zero ∨ way = .down) (x : Nat) (hx : rung x < infR) (h0 : isNeg x = false) :
    (Ieee.double.read x).toInt way = some ((magOf (rung x) / 2 ^ 1074 : Nat) : Int) := by
  obtain ⟨m, k, e, f⟩ := read_fin x hx
  rw [e, h0, ← f]
  show some (signed false (way.cut false (m <<< (-1074 + (k : Int)).toNat) (-(-1074 + (k : Int))).toNat) 0) = _
  rw [cut_down way hw, Nat.shiftLeft_eq]
  have h : m * 2 ^ (-1074 + (k : Int)).toNat / 2 ^ (-(-1074 + (k : Int))).toNat = m * 2 ^ k / 2 ^ 1074 := by
    rcases Nat.le_total k 1074 with h1 | h1
    · rw [show (-1074 + (k : Int)).toNat = 0 from by omega, show (-(-1074 + (k : Int))).toNat = 1074 - k from by omega, Nat.pow_zero, Nat.mul_one]
      have : (2 : Nat) ^ 1074 = 2 ^ (1074 - k) * 2 ^ k := by rw [← Nat.pow_add, show 1074 - k + k = 1074 from by omega]
      rw [this, Nat.mul_div_mul_right _ _ (Nat.two_pow_pos _)]
    · rw [show (-1074 + (k : Int)).toNat = k - 1074 from by omega, show (-(-1074 + (k : Int))).toNat = 0 from by omega, Nat.pow_zero, Nat.div_one]
      have h5 := Nat.pow_add 2 (k - 1074) 1074
      rw [show k - 1074 + 1074 = k from by omega] at h5
      have h6 := Nat.two_pow_pos 1074
      rw [h5]
      generalize 2 ^ 1074 = c at *
      rw [← Nat.mul_assoc, Nat.mul_div_cancel _ h6]
  rw [h]
  unfold signed
  simp only [Bool.false_eq_true, if_false, Nat.shiftLeft_zero]
end Go.Proofs.YtcbgflidlpmhcaaGreatDoor

namespace Go.Proofs.YtcbgflidlpmhcaaGreatDoor
open Go.RowKit Ieee

theorem leq_eq (x y : Nat) : (FloatKind.f64.format.order x y == some .lt || FloatKind.f64.format.order x y == some .eq) = (!isN x && !isN y && decide (nkey x ≤ nkey y)) := by
  rw [lss_eq, eql_eq]
  cases isN x <;> cases isN y <;> simp
  rw [Bool.eq_iff_iff]
  simp
  omega
theorem geq_eq (x y : Nat) : (FloatKind.f64.format.order x y == some .gt || FloatKind.f64.format.order x y == some .eq) = (!isN x && !isN y && decide (nkey y ≤ nkey x)) := by
  rw [gtr_eq, eql_eq]
  cases isN x <;> cases isN y <;> simp
  rw [Bool.eq_iff_iff]
  simp
  omega

/-- The rung of float64(m) of a natural number. -/
def fltR (m : Nat) : Nat := if m = 0 then 0 else rungOf m 0
theorem rungOf_top : rungOf 9223372036854775808 0 = 4890909195324358656 := by decide +kernel
theorem fltR_le (m : Nat) (h : m ≤ 9223372036854775808) : fltR m ≤ 4890909195324358656 := by
  unfold fltR
  split
  · omega
  · rename_i h0
    rw [← rungOf_top]
    exact rungOf_mono m _ 0 h0 h
theorem fltR_mono {m n : Nat} (h : m ≤ n) : fltR m ≤ fltR n := by
  unfold fltR
  by_cases h0 : m = 0
  · rw [if_pos h0]; exact Nat.zero_le _
  · rw [if_neg h0, if_neg (by omega)]
    exact rungOf_mono m n 0 h0 h
theorem fltR_mag (m : Nat) (h : m < 9007199254740992) : magOf (fltR m) = m * 2 ^ 1074 := by
  unfold fltR
  by_cases h0 : m = 0
  · generalize 2 ^ 1074 = U
    rw [if_pos h0, h0, Nat.zero_mul]; exact (magOf_zero 0).2 rfl
  · rw [if_neg h0, rungOf_exact m 0 h0 h (by decide), show ((0 : Int) + 1074).toNat = 1074 from rfl]
theorem floatOfInt_nat (m : Nat) (h : m ≤ 9223372036854775808) : floatOfInt .f64 (m : Int) = fltR m := by
  have hl := fltR_le m h
  show Ieee.double.nearest (decide ((m : Int) < 0)) (m : Int).natAbs 0 = _
  rw [decide_eq_false (by omega), Int.natAbs_natCast]
  by_cases h0 : m = 0
  · subst h0; rfl
  · unfold fltR at hl ⊢
    rw [if_neg h0] at hl ⊢
    rw [nearest_eq _ _ _ h0, Nat.min_eq_left (by unfold infR; omega)]
    rfl
theorem floatOfInt_neg (m : Nat) (h : m ≤ 9223372036854775808) (h0 : m ≠ 0) : floatOfInt .f64 (-(m : Int)) = 9223372036854775808 + fltR m := by
  have hl := fltR_le m h
  show Ieee.double.nearest (decide (-(m : Int) < 0)) (-(m : Int)).natAbs 0 = _
  rw [decide_eq_true (by omega), Int.natAbs_neg, Int.natAbs_natCast]
  unfold fltR at hl ⊢
  rw [if_neg h0] at hl ⊢
  rw [nearest_eq _ _ _ h0, Nat.min_eq_left (by unfold infR; omega)]
  rfl
theorem fltR_pos (m : Nat) (h : m ≤ 9223372036854775808) (h0 : m ≠ 0) : 4607182418800017408 ≤ fltR m := by
  have h1 : fltR 1 = 4607182418800017408 := by decide +kernel
  rw [← h1]
  exact fltR_mono (by omega)

theorem small_parts (r : Nat) (h : r < 9223372036854775808) : isNeg r = false ∧ rung r = r := by
  unfold isNeg rung
  rw [show r / 9223372036854775808 % 2 = 0 from by omega]
  exact ⟨rfl, by omega⟩
theorem isN_small (r : Nat) (h : r ≤ infR) : isN r = false := by
  have hc : infR = 9218868437227405312 := rfl
  unfold isN
  rw [(small_parts r (by omega)).2]
  exact decide_eq_false (by omega)
theorem nkey_small (r : Nat) (h : r < 9223372036854775808) : nkey r = (r : Int) := by
  unfold nkey
  rw [(small_parts r h).1, (small_parts r h).2]
  rfl

/-- The rung of float64(m) times x (m above 0, x above 0). -/
def farR (m x : Nat) : Nat := if rung x = infR then infR else mulR (m * 2 ^ 1074) (magOf (rung x))
theorem farR_le (m x : Nat) : farR m x ≤ infR := by
  unfold farR
  split
  · exact Nat.le_refl _
  · unfold mulR; split
    · exact Nat.zero_le _
    · exact Nat.min_le_right _ _
theorem word_pp (r : Nat) : Ieee.double.word (false ^^ false) r = r := rfl
theorem mul_far (m x : Nat) (h0 : m ≠ 0) (hm : m ≤ 281474976710656) (hx : isN x = false) (hs : isNeg x = false) :
    floatBits .mul .f64 (fltR m) x = some (farR m x) := by
  show Ieee.double.mul (fltR m) x = _
  have hc : infR = 9218868437227405312 := rfl
  have hi : rung x ≤ infR := by simpa [isN] using hx
  have hl := fltR_le m (by omega)
  obtain ⟨p1, p2⟩ := small_parts (fltR m) (by omega)
  have hmag := fltR_mag m (by omega)
  unfold farR
  by_cases h : rung x = infR
  · rw [if_pos h]
    obtain ⟨a, k, e1, f1⟩ := read_fin (fltR m) (by omega)
    have ha : a ≠ 0 := by
      rintro rfl
      rw [p2, hmag, Nat.zero_mul] at f1
      have hp := Nat.two_pow_pos 1074
      have := Nat.mul_ne_zero h0 (Nat.ne_of_gt hp)
      generalize m * 2 ^ 1074 = z at *
      exact this f1.symm
    unfold Format.mul
    rw [e1, read_inf x h, p1, hs]
    show Option.map _ (if a = 0 then none else some (Datum.infinity (false ^^ false))) = _
    rw [if_neg ha]
    show some (Ieee.double.word (false ^^ false) Ieee.double.infRung) = _
    rw [word_pp, f64_inf]
  · rw [if_neg h, mul_fin (fltR m) x (by omega) (by omega), p1, p2, hs, hmag, word_pp]

theorem int_far (r : Nat) (h : r < 4823355200913801216) : floatToIntVal .f64 r .i64 = some ((magOf r / 2 ^ 1074 : Nat) : Int) ∧ magOf r / 2 ^ 1074 < 281474976710656 := by
  have hlt : magOf r / 2 ^ 1074 < 281474976710656 := by
    have h1 : magOf r < magOf 4823355200913801216 := (magOf_lt _ _).2 h
    have h2 : magOf 4823355200913801216 = 281474976710656 * 2 ^ 1074 := by decide +kernel
    rw [h2] at h1
    have hp := Nat.two_pow_pos 1074
    clear h2
    generalize 2 ^ 1074 = U at *
    exact (Nat.div_lt_iff_lt_mul hp).2 h1
  refine ⟨?_, hlt⟩
  obtain ⟨p1, p2⟩ := small_parts r (by omega)
  have hw := whole_fin .zero (Or.inl rfl) r (by unfold infR; omega) p1
  rw [p2] at hw
  unfold floatToIntVal
  show (match (Ieee.double.read r).toInt .zero with | some n => _ | none => _) = _
  rw [hw]
  generalize magOf r / 2 ^ 1074 = q at *
  show (if IntKind.i64.min ≤ (q : Int) ∧ (q : Int) ≤ IntKind.i64.max then some (q : Int) else none) = _
  have e1 : IntKind.i64.min = -9223372036854775808 := by decide
  have e2 : IntKind.i64.max = 9223372036854775807 := by decide
  rw [e1, e2, if_pos ⟨by omega, by omega⟩]

/-- How far a clock goes. -/
def capN (n : Int) : Nat := if n < 0 then 0 else if 281474976710656 < n then 281474976710656 else n.toNat
def goesN (m x : Nat) : Nat := if 4823355200913801216 ≤ farR m x then 281474976710656 else magOf (farR m x) / 2 ^ 1074
def scaleN (m x : Nat) : Nat := if isN x then m else if m = 0 then 0 else if nkey x ≤ 0 then 0 else goesN m x

theorem goesN_le (m x : Nat) : goesN m x ≤ 281474976710656 := by
  unfold goesN
  split
  · exact Nat.le_refl _
  · rename_i h
    exact Nat.le_of_lt (int_far _ (by omega)).2
theorem farR_mono {m n x y : Nat} (h : m ≤ n) (_hx : rung x ≤ infR) (hy : rung y ≤ infR) (hxy : rung x ≤ rung y) : farR m x ≤ farR n y := by
  by_cases h1 : rung y = infR
  · have : farR n y = infR := by unfold farR; rw [if_pos h1]
    rw [this]
    exact farR_le m x
  · unfold farR
    rw [if_neg h1, if_neg (by omega)]
    refine mulR_mono (Nat.mul_le_mul_right _ h) ?_
    rcases Nat.lt_or_ge (rung x) (rung y) with h2 | h2
    · exact Nat.le_of_lt (magOf_mono h2)
    · rw [show rung x = rung y from by omega]; exact Nat.le_refl _
theorem goesN_mono {m n x y : Nat} (h : farR m x ≤ farR n y) : goesN m x ≤ goesN n y := by
  by_cases h1 : 4823355200913801216 ≤ farR n y
  · have : goesN n y = 281474976710656 := by unfold goesN; rw [if_pos h1]
    rw [this]
    exact goesN_le m x
  · unfold goesN
    rw [if_neg h1, if_neg (by omega)]
    refine Nat.div_le_div_right ?_
    rcases Nat.lt_or_ge (farR m x) (farR n y) with h2 | h2
    · exact Nat.le_of_lt (magOf_mono h2)
    · rw [show farR m x = farR n y from by omega]; exact Nat.le_refl _
theorem scaleN_le (m x : Nat) (h : m ≤ 281474976710656) : scaleN m x ≤ 281474976710656 := by
  unfold scaleN
  split
  · exact h
  · split
    · omega
    · split
      · omega
      · exact goesN_le m x

/-- A longer time goes further. -/
theorem scaleN_longer {m n : Nat} (x : Nat) (h : m ≤ n) : scaleN m x ≤ scaleN n x := by
  unfold scaleN
  cases hx : isN x
  · simp only [Bool.false_eq_true, if_false]
    by_cases h0 : m = 0
    · rw [if_pos h0]; exact Nat.zero_le _
    · rw [if_neg h0, if_neg (show ¬ n = 0 by omega)]
      split
      · exact Nat.le_refl _
      · have hi : rung x ≤ infR := by simpa [isN] using hx
        exact goesN_mono (farR_mono h hi hi (Nat.le_refl _))
  · simp only [if_true]; exact h
/-- A faster clock goes further. -/
theorem scaleN_faster (m : Nat) {x y : Nat} (hx : isN x = false) (hy : isN y = false) (h : nkey x ≤ nkey y) : scaleN m x ≤ scaleN m y := by
  unfold scaleN
  rw [hx, hy]
  simp only [Bool.false_eq_true, if_false]
  by_cases h0 : m = 0
  · rw [if_pos h0]; exact Nat.zero_le _
  · rw [if_neg h0, if_neg h0]
    by_cases h1 : nkey x ≤ 0
    · rw [if_pos h1]; exact Nat.zero_le _
    · rw [if_neg h1, if_neg (by omega)]
      have hi : rung x ≤ infR := by simpa [isN] using hx
      have hj : rung y ≤ infR := by simpa [isN] using hy
      refine goesN_mono (farR_mono (Nat.le_refl _) hi hj ?_)
      unfold nkey at h h1
      cases hs : isNeg x <;> rw [hs] at h h1 <;> cases ht : isNeg y <;> rw [ht] at h <;> simp at h h1 <;> omega
/-- At the speed 1 as far as time goes. -/
theorem scaleN_one (m : Nat) (h : m ≤ 281474976710656) : scaleN m 4607182418800017408 = m := by
  have h1 : isN 4607182418800017408 = false := by decide
  have h2 : ¬ nkey 4607182418800017408 ≤ 0 := by decide
  have h3 : rung 4607182418800017408 = 4607182418800017408 := by decide
  have h4 : magOf 4607182418800017408 = 2 ^ 1074 := by decide +kernel
  unfold scaleN
  rw [h1, if_neg h2]
  simp only [Bool.false_eq_true, if_false]
  by_cases h0 : m = 0
  · rw [if_pos h0, h0]
  · rw [if_neg h0]
    have hf : farR m 4607182418800017408 = fltR m := by
      have hl := fltR_le m (by omega)
      unfold farR mulR
      rw [h3, if_neg (by decide), h4]
      have hp : (2 : Nat) ^ 1074 ≠ 0 := Nat.ne_of_gt (Nat.two_pow_pos 1074)
      have ea : ∀ U : Nat, m * U * U = m * (U * U) := fun U => Nat.mul_assoc _ _ _
      have eb := (Nat.pow_add 2 1074 1074).symm
      rw [if_neg (Nat.mul_ne_zero (Nat.mul_ne_zero h0 hp) hp), ea, eb, rungOf_scale m (1074 + 1074) (-2148) h0]
      unfold fltR at hl ⊢
      rw [if_neg h0] at hl ⊢
      have hz : (-2148 + ((1074 + 1074 : Nat) : Int)) = 0 := by decide
      rw [hz]
      exact Nat.min_eq_left (by unfold infR; omega)
    have hmag := fltR_mag m (by omega)
    have h48 : fltR 281474976710656 = 4823355200913801216 := by decide +kernel
    have ed : ∀ U : Nat, 0 < U → m * U / U = m := fun U hU => Nat.mul_div_cancel m hU
    unfold goesN
    rw [hf, hmag, ed _ (Nat.two_pow_pos 1074)]
    split
    · rename_i hg
      rcases Nat.lt_or_ge m 281474976710656 with h5 | h5
      · have : magOf (fltR m) < magOf (fltR 281474976710656) := by
          have hp := Nat.two_pow_pos 1074
          have h6 := fltR_mag 281474976710656 (by decide)
          clear ed hf
          rw [hmag, h6]
          have hp := Nat.two_pow_pos 1074
          clear hmag h6
          generalize 2 ^ 1074 = U at *
          exact Nat.mul_lt_mul_of_pos_right h5 hp
        have := (magOf_lt _ _).1 this
        omega
      · omega
    · rfl
end Go.Proofs.YtcbgflidlpmhcaaGreatDoor

namespace Go.Proofs.YtcbgflidlpmhcaaGreatDoor
open Go.RowKit

set_option maxHeartbeats 400000 in
theorem next_some (p k : Nat) (s : ByteArray) (er : Int) (w : World) (h0 : w.cell? ⟨p, 0, none⟩ = some (.string s)) (h1 : w.cell? ⟨p, 1, none⟩ = some (.int .i64 k))
    (hz : w.frozen? ⟨p, 1, none⟩ = false) (hk : k < s.size) (hs : s.size ≤ 9223372036854775807) :
    Calls Tryz.prog 219 #[.pointer (some ⟨p, 0, none⟩), .int .i64 er] w fun e w' => e = .returned (.int .u8 (s[k]'hk).toNat) ∧ ∃ n, w' = (w.setCell ⟨p, 1, none⟩ (.int .i64 ((k : Int) + 1))).drewN n := by
  have hne : ((k : Int) == (s.size : Int)) = false := by simp; omega
  have hlt : (k : Int) < (s.size : Int) := by omega
  go_enter Tryz.func219, Tryz.ntmps219
  go_wp2
  go_quiet (fail)
  go_wp2
  go_quiet (fail)
  go_wp2
  go_ret
  exact ⟨rfl, _, rfl⟩

set_option maxHeartbeats 400000 in
theorem next_end (p : Nat) (s : ByteArray) (er : Int) (w : World) (h0 : w.cell? ⟨p, 0, none⟩ = some (.string s)) (h1 : w.cell? ⟨p, 1, none⟩ = some (.int .i64 (s.size : Int)))
    (_hs : s.size ≤ 9223372036854775807) :
    Calls Tryz.prog 219 #[.pointer (some ⟨p, 0, none⟩), .int .i64 er] w fun e w' => e = .panicked [{ v := .iface 27 (.int .i64 er), recovered := false }] ∧ ∃ n, w' = w.drewN n := by
  have hne : ((s.size : Int) == (s.size : Int)) = true := by simp
  go_enter Tryz.func219, Tryz.ntmps219
  go_wp2
  go_quiet (fail)
  go_wp2
  exact ⟨rfl, rfl, _, rfl⟩
end Go.Proofs.YtcbgflidlpmhcaaGreatDoor

namespace Go.Proofs.YtcbgflidlpmhcaaGreatDoor
open Go.RowKit Ieee

theorem integral_far (r : Nat) (h : r < 4823355200913801216) : (Ieee.double.read r).integral .down = .number false (magOf r / 2 ^ 1074) 0 := by
  obtain ⟨p1, p2⟩ := small_parts r (by omega)
  have hw := whole_fin .down (Or.inr rfl) r (by unfold infR; omega) p1
  obtain ⟨m, k, e, _⟩ := read_fin r (by rw [p2]; unfold infR; omega)
  rw [p2] at hw
  rw [e, p1] at hw ⊢
  unfold Datum.toInt at hw
  unfold Datum.integral at hw ⊢
  generalize magOf r / 2 ^ 1074 = q at *
  dsimp only at hw ⊢
  generalize Toward.down.cut false (m <<< (-1074 + (k : Int)).toNat) (-(-1074 + (k : Int))).toNat = c at *
  have hw := Option.some.inj hw
  unfold signed at hw
  simp only [Bool.false_eq_true, if_false, Nat.shiftLeft_zero] at hw
  have : c = q := by omega
  rw [this]

theorem floor_word (r : Nat) (h : r < 4823355200913801216) : FloatKind.f64.encode ((FloatKind.f64.decode r).integral .down) = fltR (magOf r / 2 ^ 1074) := by
  have hl := (int_far r h).2
  have h1 : FloatKind.f64.encode ((FloatKind.f64.decode r).integral .down) = Ieee.double.write ((Ieee.double.read r).integral .down) := rfl
  rw [h1, integral_far r h]
  generalize magOf r / 2 ^ 1074 = q at *
  have h2 := floatOfInt_nat q (by omega)
  rw [← h2]
  show Ieee.double.nearest false q 0 = Ieee.double.nearest (decide ((q : Int) < 0)) (q : Int).natAbs 0
  rw [decide_eq_false (by omega), Int.natAbs_natCast]

theorem run_archFloor (r : Nat) (h : r < 4823355200913801216) (w : World) : (callFunc 181 #[.float .f64 r]).run Tryz.prog w = .ok (.value (.float .f64 (fltR (magOf r / 2 ^ 1074)))) w := by
  rw [run_callFunc_extern (e := Extern.MathFloor.toIntegral "math.archFloor" .down) Tryz.func181 (by kernel_rfl) (by kernel_rfl) (by kernel_rfl) (by kernel_rfl)]
  obtain ⟨p1, p2⟩ := small_parts r (by omega)
  obtain ⟨m, k, e, _⟩ := read_fin r (by rw [p2]; unfold infR; omega)
  have hd : FloatKind.f64.decode r = .number (isNeg r) m (-1074 + (k : Int)) := e
  have hf := floor_word r h
  generalize fltR (magOf r / 2 ^ 1074) = z at *
  rw [hd] at hf
  have key : ∀ d : Datum, d.isNaN = false → FloatKind.f64.decode r = d → Extern.MathFloor.toIntegral "math.archFloor" .down #[.float .f64 r] = pure (.float .f64 (FloatKind.f64.encode (d.integral .down))) := by
    intro d hn hdd
    subst hdd
    show (match FloatKind.f64.decode r with | .nan s t => _ | d => (pure (.float .f64 (FloatKind.f64.encode (d.integral .down))) : Sem Value)) = _
    generalize FloatKind.f64.decode r = d at *
    cases d with
    | nan s t => cases hn
    | number s m i => rfl
    | infinity s => rfl
  rw [key _ rfl hd, hf]
  rfl

set_option maxRecDepth 100000 in
theorem floor_any (r : Nat) (h : r < 4823355200913801216) (w : World) :
    Calls Tryz.prog 166 #[.float .f64 r] w fun e w' => e = .returned (.float .f64 (fltR (magOf r / 2 ^ 1074))) ∧ w = w' := by
  have hr := run_archFloor r h
  generalize fltR (magOf r / 2 ^ 1074) = z at *
  clear h
  go_enter Tryz.func166, Tryz.ntmps166
  go_wp2_with fail
  go_ret
  exact ⟨rfl, rfl⟩

theorem int_floor (q : Nat) (h : q < 281474976710656) : floatToIntVal .f64 (fltR q) .i64 = some (q : Int) := by
  have hmag := fltR_mag q (by omega)
  have h48 : fltR 281474976710656 = 4823355200913801216 := by decide +kernel
  have hlt : fltR q < 4823355200913801216 := by
    rw [← h48, ← magOf_lt, hmag, fltR_mag 281474976710656 (by decide)]
    have hp := Nat.two_pow_pos 1074
    clear hmag
    generalize 2 ^ 1074 = U at *
    exact Nat.mul_lt_mul_of_pos_right h hp
  have hi := (int_far (fltR q) hlt).1
  rw [hmag] at hi
  have ed : ∀ U : Nat, 0 < U → q * U / U = q := fun U hU => Nat.mul_div_cancel q hU
  rw [ed _ (Nat.two_pow_pos 1074)] at hi
  exact hi
end Go.Proofs.YtcbgflidlpmhcaaGreatDoor

namespace Go.Proofs.YtcbgflidlpmhcaaGreatDoor
open Go.RowKit

/-- The rung of a product of a number above 0 (its rung a) and x, its sign aside. -/
def farG (a x : Nat) : Nat := if rung x = infR then infR else mulR (magOf a) (magOf (rung x))
theorem farG_le (a x : Nat) : farG a x ≤ infR := by
  unfold farG
  split
  · exact Nat.le_refl _
  · unfold mulR; split
    · exact Nat.zero_le _
    · exact Nat.min_le_right _ _
theorem magOf_le {a b : Nat} (h : a ≤ b) : magOf a ≤ magOf b := by
  rcases Nat.lt_or_ge a b with h2 | h2
  · exact Nat.le_of_lt (magOf_mono h2)
  · rw [show a = b from by omega]; exact Nat.le_refl _
theorem farG_mono {a b x y : Nat} (h : a ≤ b) (_hx : rung x ≤ infR) (hy : rung y ≤ infR) (hxy : rung x ≤ rung y) : farG a x ≤ farG b y := by
  by_cases h1 : rung y = infR
  · have : farG b y = infR := by unfold farG; rw [if_pos h1]
    rw [this]
    exact farG_le a x
  · unfold farG
    rw [if_neg h1, if_neg (by omega)]
    exact mulR_mono (magOf_le h) (magOf_le hxy)
theorem fltR_inf (m : Nat) (h : m ≤ 9223372036854775808) : fltR m < infR := by
  have hc : infR = 9218868437227405312 := rfl
  have := fltR_le m h
  omega
theorem magOf_pos {a : Nat} (h : a ≠ 0) : magOf a ≠ 0 := fun e => h ((magOf_zero a).1 e)
/-- A number above 0 times what is a number. -/
theorem mul_sign (a x : Nat) (h0 : a ≠ 0) (ha : a < infR) (hx : isN x = false) :
    floatBits .mul .f64 a x = some (Ieee.double.word (isNeg x) (farG a x)) := by
  show Ieee.double.mul a x = _
  have hc : infR = 9218868437227405312 := rfl
  have hi : rung x ≤ infR := by simpa [isN] using hx
  obtain ⟨p1, p2⟩ := small_parts a (by omega)
  unfold farG
  by_cases h : rung x = infR
  · rw [if_pos h]
    obtain ⟨m, k, e1, f1⟩ := read_fin a (by omega)
    have hm : m ≠ 0 := by
      rintro rfl
      rw [p2, Nat.zero_mul] at f1
      exact magOf_pos h0 f1.symm
    unfold Ieee.Format.mul
    rw [e1, read_inf x h, p1]
    show Option.map _ (if m = 0 then none else some (Ieee.Datum.infinity (isNeg x ^^ false))) = _
    rw [if_neg hm, Bool.xor_false]
    show some (Ieee.double.word (isNeg x) Ieee.double.infRung) = _
    rw [f64_inf]
  · rw [if_neg h, mul_fin a x (by omega) (by omega), p1, p2, Bool.false_xor]
/-- 0 times what is finite. -/
theorem mul_zero_fin (x : Nat) (hx : rung x < infR) : floatBits .mul .f64 0 x = some (Ieee.double.word (isNeg x) 0) := by
  show Ieee.double.mul 0 x = _
  have hc : infR = 9218868437227405312 := rfl
  obtain ⟨p1, p2⟩ := small_parts 0 (by omega)
  rw [mul_fin 0 x (by omega) hx, p1, p2, Bool.false_xor]
  have h0 : magOf 0 = 0 := (magOf_zero 0).2 rfl
  have : mulR (magOf 0) (magOf (rung x)) = 0 := by unfold mulR; rw [h0, Nat.zero_mul, if_pos rfl]
  rw [this]
/-- 0 times what is without end. -/
theorem mul_zero_inf (x : Nat) (hx : rung x = infR) : floatBits .mul .f64 0 x = none := by
  show Ieee.double.mul 0 x = _
  obtain ⟨m, k, e1, f1⟩ := read_fin 0 (by decide)
  have hm : m = 0 := by
    have h0 : magOf (rung 0) = 0 := (magOf_zero _).2 rfl
    rw [h0] at f1
    rcases Nat.mul_eq_zero.1 f1 with h | h
    · exact h
    · exact absurd h (Nat.ne_of_gt (Nat.two_pow_pos _))
  unfold Ieee.Format.mul
  rw [e1, read_inf x hx, hm]
  rfl
/-- A number above 0 rounded up. -/
def ceilR (r : Nat) : Nat := (magOf r + (2 ^ 1074 - 1)) / 2 ^ 1074
theorem ceilR_mono {r s : Nat} (h : r ≤ s) : ceilR r ≤ ceilR s := by
  have hm := magOf_le h
  unfold ceilR
  generalize 2 ^ 1074 = U
  exact Nat.div_le_div_right (Nat.add_le_add_right hm _)
theorem ceilR_mag (r n : Nat) (h : magOf r = n * 2 ^ 1074) : ceilR r = n := by
  unfold ceilR
  rw [h]
  have hp := Nat.two_pow_pos 1074
  generalize 2 ^ 1074 = U at *
  rw [Nat.add_comm, Nat.add_mul_div_right _ _ hp, Nat.div_eq_of_lt (Nat.sub_lt hp Nat.one_pos), Nat.zero_add]
theorem ceilR_64 : ceilR 4634204016564240384 = 64 := ceilR_mag _ _ (by decide +kernel)
theorem ceilR_top : ceilR 4692750811720056832 = 524288 := ceilR_mag _ _ (by decide +kernel)
/-- Of a product above 0 how many bits. -/
def bitsR (r : Nat) : Nat := if r ≤ 4634204016564240384 then 64 else if 4692750811720056832 ≤ r then 524288 else ceilR r
theorem bitsR_mono {r s : Nat} (h : r ≤ s) : bitsR r ≤ bitsR s := by
  have h1 := ceilR_mono h
  unfold bitsR
  by_cases a : s ≤ 4634204016564240384
  · rw [if_pos a, if_pos (by omega)]; exact Nat.le_refl _
  · rw [if_neg a]
    have hs : 64 ≤ ceilR s := by rw [← ceilR_64]; exact ceilR_mono (by omega)
    by_cases b : r ≤ 4634204016564240384
    · rw [if_pos b]; split <;> omega
    · rw [if_neg b]
      by_cases c : 4692750811720056832 ≤ r
      · rw [if_pos c, if_pos (by omega)]; exact Nat.le_refl _
      · rw [if_neg c]
        split
        · rw [← ceilR_top]; exact ceilR_mono (by omega)
        · exact h1
theorem bitsR_ge (r : Nat) : 64 ≤ bitsR r := by
  have h : bitsR 0 = 64 := by unfold bitsR; rw [if_pos (by omega)]
  rw [← h]
  exact bitsR_mono (Nat.zero_le _)
theorem bitsR_le (r : Nat) : bitsR r ≤ 524288 := by
  unfold bitsR
  split
  · omega
  · split
    · omega
    · rw [← ceilR_top]; exact ceilR_mono (by omega)
/-- How many bytes n keys take. -/
def bitsN (n : Int) (x : Nat) : Nat := if isN x then 64 else if n ≤ 0 then 64 else if nkey x ≤ 0 then 64 else bitsR (farG (fltR n.toNat) x)
def sizeN (n : Int) (x : Nat) : Nat := (bitsN n x + 7) / 8
theorem bitsN_low {n : Int} {x : Nat} (h : isN x = true ∨ n ≤ 0 ∨ nkey x ≤ 0) : bitsN n x = 64 := by
  unfold bitsN
  rcases h with h | h | h <;> simp [h]
theorem bitsN_ge (n : Int) (x : Nat) : 64 ≤ bitsN n x := by
  unfold bitsN
  split <;> (try split) <;> (try split) <;> first | exact Nat.le_refl _ | exact bitsR_ge _
theorem bitsN_le (n : Int) (x : Nat) : bitsN n x ≤ 524288 := by
  unfold bitsN
  split <;> (try split) <;> (try split) <;> first | omega | exact bitsR_le _
theorem sizeN_ge (n : Int) (x : Nat) : 8 ≤ sizeN n x := by have := bitsN_ge n x; unfold sizeN; omega
theorem sizeN_le (n : Int) (x : Nat) : sizeN n x ≤ 65536 := by have := bitsN_le n x; unfold sizeN; omega
/-- More keys take no fewer bytes. -/
theorem sizeN_more {n m : Int} (x : Nat) (h : n ≤ m) : sizeN n x ≤ sizeN m x := by
  have key : bitsN n x ≤ bitsN m x := by
    by_cases h1 : isN x = true ∨ n ≤ 0 ∨ nkey x ≤ 0
    · rw [bitsN_low h1]
      exact bitsN_ge m x
    · have a1 : ¬ isN x = true := fun h => h1 (Or.inl h)
      have a2 : ¬ n ≤ 0 := fun h => h1 (Or.inr (Or.inl h))
      have a3 : ¬ nkey x ≤ 0 := fun h => h1 (Or.inr (Or.inr h))
      have hi : rung x ≤ infR := by simpa [isN] using a1
      unfold bitsN
      rw [if_neg a1, if_neg a2, if_neg a3, if_neg a1, if_neg (by omega), if_neg a3]
      exact bitsR_mono (farG_mono (fltR_mono (by omega)) hi hi (Nat.le_refl _))
  unfold sizeN; omega
theorem rung_le_of {x y : Nat} (h0 : ¬ nkey x ≤ 0) (h : nkey x ≤ nkey y) : rung x ≤ rung y := by
  unfold nkey at h h0
  cases hs : isNeg x <;> rw [hs] at h h0 <;> cases ht : isNeg y <;> rw [ht] at h <;> simp at h h0 <;> omega
/-- More bits each take no fewer bytes. -/
theorem sizeN_longer (n : Int) {x y : Nat} (hy : isN y = false) (h : nkey x ≤ nkey y) : sizeN n x ≤ sizeN n y := by
  have key : bitsN n x ≤ bitsN n y := by
    by_cases h1 : isN x = true ∨ n ≤ 0 ∨ nkey x ≤ 0
    · rw [bitsN_low h1]
      exact bitsN_ge n y
    · have a1 : ¬ isN x = true := fun h => h1 (Or.inl h)
      have a2 : ¬ n ≤ 0 := fun h => h1 (Or.inr (Or.inl h))
      have a3 : ¬ nkey x ≤ 0 := fun h => h1 (Or.inr (Or.inr h))
      have hi : rung x ≤ infR := by simpa [isN] using a1
      have hj : rung y ≤ infR := by simpa [isN] using hy
      unfold bitsN
      rw [if_neg a1, if_neg a2, if_neg a3, hy, if_neg (by decide), if_neg a2, if_neg (by omega)]
      exact bitsR_mono (farG_mono (Nat.le_refl _) hi hj (rung_le_of a3 h))
  unfold sizeN; omega
theorem sizeN_nan (n : Int) (x : Nat) (h : isN x = true) : sizeN n x = 8 := by unfold sizeN bitsN; rw [if_pos h]
theorem sizeN_nul (n : Int) (x : Nat) (h : nkey x ≤ 0) : sizeN n x = 8 := by unfold sizeN; rw [bitsN_low (Or.inr (Or.inr h))]
/-- A product above 0 rounded down, 1 to 30. -/
def timesR (r : Nat) : Nat := if r ≤ 4607182418800017408 then 1 else if 4629137466983448576 ≤ r then 30 else magOf r / 2 ^ 1074
theorem magOf_one : magOf 4607182418800017408 / 2 ^ 1074 = 1 := by decide +kernel
theorem magOf_30 : magOf 4629137466983448576 / 2 ^ 1074 = 30 := by decide +kernel
theorem whole_mono {r s : Nat} (h : r ≤ s) : magOf r / 2 ^ 1074 ≤ magOf s / 2 ^ 1074 := Nat.div_le_div_right (magOf_le h)
theorem timesR_mono {r s : Nat} (h : r ≤ s) : timesR r ≤ timesR s := by
  have h1 := whole_mono h
  unfold timesR
  by_cases a : s ≤ 4607182418800017408
  · rw [if_pos a, if_pos (by omega)]; exact Nat.le_refl _
  · rw [if_neg a]
    have hs : 1 ≤ magOf s / 2 ^ 1074 := by rw [← magOf_one]; exact whole_mono (by omega)
    by_cases b : r ≤ 4607182418800017408
    · rw [if_pos b]
      split
      · omega
      · exact hs
    · rw [if_neg b]
      by_cases c : 4629137466983448576 ≤ r
      · rw [if_pos c, if_pos (by omega)]; exact Nat.le_refl _
      · rw [if_neg c]
        split
        · rw [← magOf_30]; exact whole_mono (by omega)
        · exact h1
theorem timesR_ge (r : Nat) : 1 ≤ timesR r := by
  have h : timesR 0 = 1 := by unfold timesR; rw [if_pos (by omega)]
  rw [← h]
  exact timesR_mono (Nat.zero_le _)
theorem timesR_le (r : Nat) : timesR r ≤ 30 := by
  unfold timesR
  split
  · omega
  · split
    · omega
    · rw [← magOf_30]; exact whole_mono (by omega)
/-- How many places each key marks. -/
def probesN (x : Nat) : Nat := if isN x then 1 else if nkey x ≤ 0 then 1 else timesR (farG 4604480259023595110 x)
theorem probesN_ge (x : Nat) : 1 ≤ probesN x := by
  unfold probesN
  split <;> (try split) <;> first | exact Nat.le_refl _ | exact timesR_ge _
theorem probesN_le (x : Nat) : probesN x ≤ 30 := by
  unfold probesN
  split <;> (try split) <;> first | omega | exact timesR_le _
theorem probesN_mono {x y : Nat} (hy : isN y = false) (h : nkey x ≤ nkey y) : probesN x ≤ probesN y := by
  by_cases h1 : isN x = true ∨ nkey x ≤ 0
  · have : probesN x = 1 := by
      unfold probesN
      rcases h1 with h1 | h1 <;> simp [h1]
    rw [this]
    exact probesN_ge y
  · have a1 : ¬ isN x = true := fun h => h1 (Or.inl h)
    have a3 : ¬ nkey x ≤ 0 := fun h => h1 (Or.inr h)
    have hi : rung x ≤ infR := by simpa [isN] using a1
    have hj : rung y ≤ infR := by simpa [isN] using hy
    unfold probesN
    rw [if_neg a1, if_neg a3, hy, if_neg (by decide), if_neg (by omega)]
    exact timesR_mono (farG_mono (Nat.le_refl _) hi hj (rung_le_of a3 h))
end Go.Proofs.YtcbgflidlpmhcaaGreatDoor

namespace Go.Proofs.YtcbgflidlpmhcaaGreatDoor
open Go.RowKit Ieee

/-- A number rounded down between two whole ones. -/
def floorN (x low high : Nat) : Nat := if isN x then low else if nkey x ≤ (fltR low : Int) then low else if (fltR high : Int) ≤ nkey x then high else magOf (rung x) / 2 ^ 1074
theorem flt48 : fltR 281474976710656 = 4823355200913801216 := by decide +kernel
set_option maxRecDepth 100000 in
set_option maxHeartbeats 1000000 in
theorem qfloor_any (x low high : Nat) (hx64 : x < 18446744073709551616) (hl : low < 281474976710656) (hh : high < 281474976710656) (w : World) :
    Calls Tryz.prog 130 #[.float .f64 x, .int .i64 (low : Int), .int .i64 (high : Int)] w fun e w' => e = .returned (.int .i64 (floorN x low high : Nat)) ∧ w = w' := by
  have f1 := floatOfInt_nat low (by omega)
  have f2 := floatOfInt_nat high (by omega)
  have g1 := gtr_eq x (fltR low)
  have g2 := geq_eq x (fltR high)
  have l1 := fltR_le low (by omega)
  have l2 : fltR high ≤ 4823355200913801216 := by rw [← flt48]; exact fltR_mono (by omega)
  have hc : infR = 9218868437227405312 := rfl
  rw [isN_small (fltR low) (by omega), nkey_small (fltR low) (by omega)] at g1
  rw [isN_small (fltR high) (by omega), nkey_small (fltR high) (by omega)] at g2
  obtain ⟨r, hr⟩ : ∃ r, floorN x low high = r := ⟨_, rfl⟩
  rw [hr]
  unfold floorN at hr
  by_cases hx : isN x = true
  · rw [if_pos hx] at hr
    rw [hx] at g1 g2
    subst hr
    simp only [Bool.not_true, Bool.false_and] at g1 g2
    clear l1 l2 hc hl hh
    go_enter Tryz.func130, Tryz.ntmps130
    go_wp2_with fail
    go_ret
    exact ⟨rfl, rfl⟩
  · rw [if_neg hx] at hr
    have hx' : isN x = false := by simpa using hx
    rw [hx'] at g1 g2
    simp only [Bool.not_false, Bool.true_and] at g1 g2
    by_cases h1 : nkey x ≤ (fltR low : Int)
    · rw [if_pos h1] at hr
      rw [decide_eq_false (by omega)] at g1
      subst hr
      clear l1 l2 hc hl hh
      go_enter Tryz.func130, Tryz.ntmps130
      go_wp2_with fail
      go_ret
      exact ⟨rfl, rfl⟩
    · rw [if_neg h1] at hr
      rw [decide_eq_true (by omega)] at g1
      by_cases h2 : (fltR high : Int) ≤ nkey x
      · rw [if_pos h2] at hr
        rw [decide_eq_true h2] at g2
        subst hr
        clear l1 l2 hc hl hh h1 h2
        go_enter Tryz.func130, Tryz.ntmps130
        go_wp2_with fail
        go_ret
        exact ⟨rfl, rfl⟩
      · rw [if_neg h2] at hr
        rw [decide_eq_false h2] at g2
        have hs : isNeg x = false ∧ rung x < 4823355200913801216 := by
          unfold nkey at h1 h2
          cases hn : isNeg x <;> rw [hn] at h1 h2 <;> simp at h1 h2 <;> first | exact ⟨rfl, by omega⟩ | omega
        obtain ⟨hs1, hs2⟩ := hs
        have hxr : rung x = x := by
          rcases word_parts x hx64 with ⟨e1, _⟩ | ⟨_, e2⟩
          · rw [hs1] at e1; cases e1
          · exact e2.1.symm
        rw [hxr] at hr hs2
        have hF := Lib.hid (floor_any x hs2 w)
        have hI := int_floor (magOf x / 2 ^ 1074) (int_far x hs2).2
        rw [hr] at hI hF
        have hI : ∀ W : World, (convert 23 3 (.float .f64 (fltR r))).run Tryz.prog W = .ok (.int .i64 (r : Int)) W := fun W =>
          run_convert_float_int W 23 3 .f64 .i64 _ _ (by kernel_rfl) Tryz.underlying3 hI
        clear hr hxr hs2 hs1 h1 h2 l1 l2 hc hx hx' hx64 hl hh
        go_enter Tryz.func130, Tryz.ntmps130
        go_wp2_with fail
        refine hF.out.mono ?_
        rintro e w' ⟨rfl, rfl⟩
        go_wp2_with fail
        go_ret
        exact ⟨rfl, rfl⟩
end Go.Proofs.YtcbgflidlpmhcaaGreatDoor

namespace Go.Proofs.YtcbgflidlpmhcaaGreatDoor
open Go.RowKit Ieee

theorem read_norm (x : Nat) (h1 : 4503599627370496 ≤ rung x) (h : rung x < infR) :
    Ieee.double.read x = .number (isNeg x) (4503599627370496 + rung x % 4503599627370496) (-1074 + ((rung x / 4503599627370496 - 1 : Nat) : Int)) := by
  unfold Format.read
  rw [f64_sign, f64_binade, f64_inf, f64_least]
  show (if rung x < 4503599627370496 then _ else if rung x < infR then _ else _) = _
  rw [if_neg (by omega), if_pos h]
  rfl

theorem word_eq (s : Bool) (r : Nat) : Ieee.double.word s r = if s then 9223372036854775808 + r else r := by
  unfold Format.word
  rw [f64_sign]
theorem word_facts (s : Bool) (r : Nat) (h : r ≤ infR) : isNeg (Ieee.double.word s r) = s ∧ rung (Ieee.double.word s r) = r ∧ isN (Ieee.double.word s r) = false ∧ Ieee.double.word s r < 18446744073709551616 := by
  have hc : infR = 9218868437227405312 := rfl
  rw [word_eq]
  have hr : ∀ x : Nat, rung x = r → isN x = false := fun x hx => by unfold isN; rw [hx]; exact decide_eq_false (by omega)
  cases s
  · simp only [Bool.false_eq_true, if_false]
    obtain ⟨p1, p2⟩ := small_parts r (by omega)
    exact ⟨p1, p2, hr r p2, by omega⟩
  · simp only [if_true]
    have h1 : rung (9223372036854775808 + r) = r := by unfold rung; omega
    have h2 : isNeg (9223372036854775808 + r) = true := by unfold isNeg; rw [show (9223372036854775808 + r) / 9223372036854775808 % 2 = 1 from by omega]; rfl
    exact ⟨h2, h1, hr _ h1, by omega⟩
theorem word_key (s : Bool) (r : Nat) (h : r ≤ infR) : nkey (Ieee.double.word s r) = if s then -(r : Int) else (r : Int) := by
  obtain ⟨h1, h2, _⟩ := word_facts s r h
  unfold nkey
  rw [h1, h2]

/-- float64(a) of an int. -/
theorem flt_word (a : Int) (h0 : -9223372036854775808 ≤ a) (h1 : a ≤ 9223372036854775808) : floatOfInt .f64 a = Ieee.double.word (decide (a < 0)) (fltR a.natAbs) := by
  by_cases ha : a < 0
  · have e : a = -(a.natAbs : Int) := by omega
    rw [decide_eq_true ha, word_eq, if_pos rfl]
    conv => lhs; rw [e]
    exact floatOfInt_neg a.natAbs (by omega) (by omega)
  · have e : a = (a.natAbs : Int) := by omega
    rw [decide_eq_false ha, word_eq]
    conv => lhs; rw [e]
    exact floatOfInt_nat a.natAbs (by omega)

theorem fltR_top (m : Nat) (h : m ≤ 9223372036854775808) : fltR m ≤ infR := Nat.le_trans (fltR_le m h) (by decide)

theorem flt_read (a : Int) (h0 : -9223372036854775808 ≤ a) (h1 : a ≤ 9223372036854775808) (hn : a ≠ 0) :
    ∃ m k : Nat, Ieee.double.read (floatOfInt .f64 a) = .number (decide (a < 0)) m (-1074 + (k : Int)) ∧ 4503599627370496 ≤ m ∧ m < 9007199254740992 ∧ 1022 ≤ k ∧ k ≤ 1085 := by
  have hl := fltR_le a.natAbs (by omega)
  have hg := fltR_pos a.natAbs (by omega) (by omega)
  obtain ⟨f1, f2, f3, f4⟩ := word_facts (decide (a < 0)) (fltR a.natAbs) (fltR_top _ (by omega))
  have hc : infR = 9218868437227405312 := rfl
  rw [flt_word a h0 h1]
  have hr := read_norm (Ieee.double.word (decide (a < 0)) (fltR a.natAbs)) (by rw [f2]; omega) (by rw [f2]; omega)
  rw [f1, f2] at hr
  exact ⟨_, _, hr, by omega, by omega, by omega, by omega⟩
theorem flt_zero : floatOfInt .f64 0 = 0 := by decide +kernel
theorem read_zero : Ieee.double.read 0 = .number false 0 (-1074) := by decide +kernel

theorem log2_norm (m : Nat) (h0 : 4503599627370496 ≤ m) (h1 : m < 9007199254740992) : m.log2 = 52 := by
  rw [Nat.log2_eq_iff (by omega)]
  exact ⟨h0, h1⟩

theorem div_zero_zero : floatBits .quo .f64 (floatOfInt .f64 0) (floatOfInt .f64 0) = none := by
  rw [flt_zero]
  show Ieee.double.div 0 0 = none
  unfold Format.div
  rw [read_zero]
  rfl
/-- By nothing: an edge with the sign. -/
theorem div_zero (a : Int) (h0 : -9223372036854775808 ≤ a) (h1 : a ≤ 9223372036854775808) (hn : a ≠ 0) :
    floatBits .quo .f64 (floatOfInt .f64 a) (floatOfInt .f64 0) = some (Ieee.double.word (decide (a < 0)) infR) := by
  obtain ⟨m, k, e, g1, g2, g3, g4⟩ := flt_read a h0 h1 hn
  rw [flt_zero]
  show Ieee.double.div _ 0 = _
  unfold Format.div
  rw [e, read_zero]
  unfold Datum.quotient
  dsimp only
  rw [if_pos rfl, if_neg (by omega), Bool.xor_false]
  show some (Ieee.double.word _ Ieee.double.infRung) = _
  rw [f64_inf]
/-- Nothing by something. -/
theorem div_of_zero (b : Int) (h0 : -9223372036854775808 ≤ b) (h1 : b ≤ 9223372036854775808) (hn : b ≠ 0) :
    floatBits .quo .f64 (floatOfInt .f64 0) (floatOfInt .f64 b) = some (Ieee.double.word (decide (b < 0)) 0) := by
  obtain ⟨m, k, e, g1, g2, g3, g4⟩ := flt_read b h0 h1 hn
  rw [flt_zero]
  show Ieee.double.div 0 _ = _
  unfold Format.div
  rw [e, read_zero]
  unfold Datum.quotient
  dsimp only
  rw [if_neg (by omega)]
  rw [show (0 : Nat) <<< (Ieee.double.fractionBits + 2 + m.log2 - Nat.log2 0) = 0 from Nat.zero_shiftLeft _, Nat.zero_div, Nat.zero_mod]
  show some (Ieee.double.nearest (false ^^ decide (b < 0)) 0 _) = _
  unfold Format.nearest
  rw [if_pos rfl, Bool.false_xor]

/-- Something by something: no nan, not nothing, the sign as it must be. -/
theorem div_some (a b : Int) (ha0 : -9223372036854775808 ≤ a) (ha1 : a ≤ 9223372036854775808) (ha : a ≠ 0) (hb0 : -9223372036854775808 ≤ b) (hb1 : b ≤ 9223372036854775808) (hb : b ≠ 0) :
    ∃ r, floatBits .quo .f64 (floatOfInt .f64 a) (floatOfInt .f64 b) = some (Ieee.double.word (decide (a < 0) ^^ decide (b < 0)) r) ∧ 0 < r ∧ r ≤ infR := by
  obtain ⟨m, k, e, g1, g2, g3, g4⟩ := flt_read a ha0 ha1 ha
  obtain ⟨n, l, e', k1, k2, k3, k4⟩ := flt_read b hb0 hb1 hb
  have hc : infR = 9218868437227405312 := rfl
  have hq : 2 ^ 53 ≤ m * 2 ^ 54 / n := by
    refine (Nat.le_div_iff_mul_le (by omega)).2 ?_
    have h1 : 2 ^ 53 * n ≤ 2 ^ 53 * 9007199254740992 := Nat.mul_le_mul_left _ (Nat.le_of_lt k2)
    have h2 : 4503599627370496 * 2 ^ 54 ≤ m * 2 ^ 54 := Nat.mul_le_mul_right _ g1
    have h3 : (2 : Nat) ^ 53 * 9007199254740992 = 4503599627370496 * 2 ^ 54 := by decide
    rw [h3] at h1
    exact Nat.le_trans h1 h2
  obtain ⟨q, hqe⟩ : ∃ q, q = 2 * (m * 2 ^ 54 / n) + (m * 2 ^ 54 % n != 0).toNat := ⟨_, rfl⟩
  have hq54 : 2 ^ 54 ≤ q := by
    rw [hqe]
    generalize m * 2 ^ 54 / n = d at hq ⊢
    omega
  obtain ⟨p, hp⟩ : ∃ p : Int, p = -1074 + (k : Int) - (-1074 + (l : Int)) - ((54 : Nat) : Int) - 1 := ⟨_, rfl⟩
  have hp2 : -118 ≤ p := by clear hqe hq hq54; omega
  have hq0 : q ≠ 0 := by clear hqe hq hp; omega
  refine ⟨min (rungOf q p) infR, ?_, ?_, Nat.min_le_right _ _⟩
  · clear hq hq54
    show Ieee.double.div _ _ = _
    unfold Format.div
    rw [e, e']
    unfold Datum.quotient
    dsimp only
    rw [if_neg (by omega), log2_norm m g1 g2, log2_norm n k1 k2, show Ieee.double.fractionBits + 2 + 52 - 52 = 54 from by decide, Nat.shiftLeft_eq, ← hqe, ← hp]
    show some (Ieee.double.nearest _ q p) = _
    rw [nearest_eq _ _ _ hq0]
  · clear hqe hq hp e e' hc
    have hlog : 54 ≤ q.log2 := by
      rcases Nat.lt_or_ge q.log2 54 with h1 | h1
      · have h2 : q < 2 ^ (q.log2 + 1) := Nat.lt_log2_self
        have : 2 ^ (q.log2 + 1) ≤ 2 ^ 54 := Nat.pow_le_pow_right (by decide) (by omega)
        omega
      · exact h1
    have hpos : 0 < rungOf q p := by
      unfold rungOf lastP
      have : 1 ≤ (max (p + (q.log2 : Int) - 52) (-1074) + 1074).toNat := by clear hq54 hq0; omega
      generalize (max (p + (q.log2 : Int) - 52) (-1074) + 1074).toNat = z at *
      generalize keptN q p (max (p + (q.log2 : Int) - 52) (-1074)) = y
      omega
    exact Nat.lt_min.2 ⟨hpos, by decide⟩
/-- By itself: one. -/
theorem div_self' (a : Int) (ha0 : -9223372036854775808 ≤ a) (ha1 : a ≤ 9223372036854775808) (ha : a ≠ 0) :
    floatBits .quo .f64 (floatOfInt .f64 a) (floatOfInt .f64 a) = some 4607182418800017408 := by
  obtain ⟨m, k, e, g1, g2, g3, g4⟩ := flt_read a ha0 ha1 ha
  show Ieee.double.div _ _ = _
  unfold Format.div
  rw [e]
  unfold Datum.quotient
  dsimp only
  rw [if_neg (by omega), log2_norm m g1 g2, show Ieee.double.fractionBits + 2 + 52 - 52 = 54 from by decide, Nat.shiftLeft_eq, Nat.mul_div_cancel_left _ (by omega), Nat.mul_mod_right,
    show -1074 + (k : Int) - (-1074 + (k : Int)) - ((54 : Nat) : Int) - 1 = -55 from by omega, Bool.xor_self]
  decide +kernel
end Go.Proofs.YtcbgflidlpmhcaaGreatDoor

namespace Go.Proofs.YtcbgflidlpmhcaaGreatDoor
open Go.RowKit Ieee

theorem product_comm (a b : Datum) : a.product b = b.product a := by
  cases a <;> cases b <;> simp [Datum.product, Bool.xor_comm, Nat.mul_comm, Int.add_comm]
theorem fmul_comm (x y : Nat) : floatBits .mul .f64 x y = floatBits .mul .f64 y x := by
  show Ieee.double.mul x y = Ieee.double.mul y x
  unfold Format.mul
  rw [product_comm]
theorem mul_nan (a x : Nat) (h : isN x = true) : floatBits .mul .f64 a x = none := by
  show Ieee.double.mul a x = none
  obtain ⟨f, e⟩ := read_nan x (by simpa [isN] using h)
  unfold Format.mul
  rw [e, product_comm]
  rfl
/-- What a product says. -/
def bitsK (v : Nat) : Nat := if isN v then 64 else if nkey v ≤ 4634204016564240384 then 64 else if (4692750811720056832 : Int) ≤ nkey v then 524288 else ceilR (rung v)
/-- The product of a number that is not below 0, and what it says of bits. -/
theorem mul_cases (n : Int) (x : Nat) (hn : n ≤ 9223372036854775808) :
    (floatBits .mul .f64 (fltR n.toNat) x = none ∧ bitsN n x = 64) ∨
    ∃ v, floatBits .mul .f64 (fltR n.toNat) x = some v ∧ isN v = false ∧ v < 18446744073709551616 ∧ bitsN n x = bitsK v := by
  have hc : infR = 9218868437227405312 := rfl
  cases hx : isN x
  · have hi : rung x ≤ infR := by simpa [isN] using hx
    by_cases h0 : n ≤ 0
    · have e : fltR n.toNat = 0 := by rw [show n.toNat = 0 from by omega]; rfl
      rw [e, bitsN_low (Or.inr (Or.inl h0))]
      by_cases h : rung x = infR
      · exact Or.inl ⟨mul_zero_inf x h, rfl⟩
      · obtain ⟨a1, a2, a3, a4⟩ := word_facts (isNeg x) 0 (by omega)
        refine Or.inr ⟨_, mul_zero_fin x (by omega), a3, a4, ?_⟩
        · have hk := word_key (isNeg x) 0 (by omega)
          unfold bitsK
          rw [a3, if_neg (by decide), if_pos (by rw [hk]; split <;> omega)]
    · have hm := fltR_pos n.toNat (by omega) (by omega)
      have hl := fltR_inf n.toNat (by omega)
      have hr := farG_le (fltR n.toNat) x
      obtain ⟨a1, a2, a3, a4⟩ := word_facts (isNeg x) (farG (fltR n.toNat) x) hr
      have hk := word_key (isNeg x) (farG (fltR n.toNat) x) hr
      refine Or.inr ⟨_, mul_sign _ x (by omega) hl hx, a3, a4, ?_⟩
      · unfold bitsN bitsK
        rw [hx, a3]
        simp only [Bool.false_eq_true, if_false]
        rw [if_neg h0, hk, a2]
        cases hs : isNeg x
        · simp only [Bool.false_eq_true, if_false]
          by_cases h1 : nkey x ≤ 0
          · have hz : rung x = 0 := by unfold nkey at h1; rw [hs] at h1; simp at h1; omega
            have hf : farG (fltR n.toNat) x = 0 := by
              unfold farG
              rw [if_neg (by omega), hz]
              have : magOf 0 = 0 := (magOf_zero 0).2 rfl
              unfold mulR
              rw [this, Nat.mul_zero, if_pos rfl]
            rw [if_pos h1, hf, if_pos (by decide)]
          · rw [if_neg h1]
            unfold bitsR
            generalize farG (fltR n.toNat) x = r at *
            by_cases b1 : r ≤ 4634204016564240384
            · rw [if_pos b1, if_pos (show (r : Int) ≤ 4634204016564240384 by omega)]
            · rw [if_neg b1, if_neg (show ¬ (r : Int) ≤ 4634204016564240384 by omega)]
              by_cases b2 : 4692750811720056832 ≤ r
              · rw [if_pos b2, if_pos (show (4692750811720056832 : Int) ≤ r by omega)]
              · rw [if_neg b2, if_neg (show ¬ (4692750811720056832 : Int) ≤ r by omega)]
        · simp only [if_true]
          rw [if_pos (by unfold nkey; rw [hs]; simp), if_pos (by omega)]
  · exact Or.inl ⟨mul_nan _ x hx, bitsN_low (Or.inl hx)⟩
/-- A number above 0 rounded up, by rounding down. -/
theorem ceil_floor (r : Nat) : ceilR r = if magOf r / 2 ^ 1074 * 2 ^ 1074 < magOf r then magOf r / 2 ^ 1074 + 1 else magOf r / 2 ^ 1074 := by
  unfold ceilR
  have hp := Nat.two_pow_pos 1074
  generalize 2 ^ 1074 = U at *
  generalize magOf r = m
  have h1 := Nat.div_add_mod m U
  have h2 := Nat.mod_lt m hp
  have h3 : m / U * U = U * (m / U) := Nat.mul_comm _ _
  have e : m + (U - 1) = (m % U + (U - 1)) + m / U * U := by omega
  rw [e, Nat.add_mul_div_right _ _ hp]
  split
  · rename_i h
    rw [show m % U + (U - 1) = (m % U - 1) + 1 * U from by omega, Nat.add_mul_div_right _ _ hp, Nat.div_eq_of_lt (by omega)]
    omega
  · rename_i h
    rw [Nat.div_eq_of_lt (by omega)]
    omega
/-- Is the number above its whole part? -/
theorem floor_lt (v : Nat) (hv : v < 4823355200913801216) : (FloatKind.f64.format.order (fltR (magOf v / 2 ^ 1074)) v == some .lt) = decide (magOf v / 2 ^ 1074 * 2 ^ 1074 < magOf v) := by
  have hc : infR = 9218868437227405312 := rfl
  have hq := (int_far v hv).2
  have hl := fltR_le (magOf v / 2 ^ 1074) (by omega)
  rw [lss_eq, isN_small _ (by omega), isN_small v (by omega), nkey_small _ (by omega), nkey_small v (by omega)]
  have hm := fltR_mag (magOf v / 2 ^ 1074) (by omega)
  have hk := magOf_lt (fltR (magOf v / 2 ^ 1074)) v
  rw [hm] at hk
  generalize fltR (magOf v / 2 ^ 1074) = f at *
  generalize magOf v / 2 ^ 1074 * 2 ^ 1074 = g at *
  simp only [Bool.not_false, Bool.true_and, decide_eq_decide]
  rw [hk]
  omega
end Go.Proofs.YtcbgflidlpmhcaaGreatDoor

namespace Go.Proofs.YtcbgflidlpmhcaaGreatDoor
open Go.RowKit Ieee

theorem ceil_mod (n g : Nat) (hg : 0 < g) : n / g + (n % g != 0).toNat = (n + (g - 1)) / g := by
  have h1 := Nat.div_add_mod n g
  have h2 := Nat.mod_lt n hg
  have h3 : n / g * g = g * (n / g) := Nat.mul_comm _ _
  by_cases h : n % g = 0
  · rw [h]
    have e : n + (g - 1) = (g - 1) + n / g * g := by omega
    rw [e, Nat.add_mul_div_right _ _ hg, Nat.div_eq_of_lt (show g - 1 < g by omega)]
    show n / g + 0 = _
    omega
  · have e : n + (g - 1) = (n % g - 1) + 1 * g + n / g * g := by omega
    rw [e, Nat.add_mul_div_right _ _ hg, Nat.add_mul_div_right _ _ hg, Nat.div_eq_of_lt (show n % g - 1 < g by omega)]
    have : (n % g != 0) = true := by simpa using h
    rw [this]
    show n / g + 1 = _
    omega
theorem cut_up (n d : Nat) : Toward.up.cut false n d = (n + (2 ^ d - 1)) / 2 ^ d := by
  have key : Toward.up.cut false n d = n / (1 <<< min d (n.log2 + 2)) + (n % (1 <<< min d (n.log2 + 2)) != 0).toNat := by
    show n / _ + ((!false && _ : Bool)).toNat = _
    rw [Bool.not_false, Bool.true_and]
  rw [key, Nat.one_shiftLeft]
  rcases Nat.le_total d (n.log2 + 2) with h | h
  · rw [Nat.min_eq_left h, ceil_mod _ _ (Nat.two_pow_pos _)]
  · rw [Nat.min_eq_right h, ← ceil_mod n (2 ^ d) (Nat.two_pow_pos _)]
    have h1 : n < 2 ^ (n.log2 + 1) := Nat.lt_log2_self
    have h2 : 2 ^ (n.log2 + 2) = 2 * 2 ^ (n.log2 + 1) := by rw [Nat.pow_succ]; omega
    have h3 : 2 ^ (n.log2 + 2) ≤ 2 ^ d := Nat.pow_le_pow_right (by decide) h
    rw [Nat.div_eq_of_lt (by omega), Nat.div_eq_of_lt (by omega), Nat.mod_eq_of_lt (by omega), Nat.mod_eq_of_lt (by omega)]
theorem cut_shift (m k : Nat) : Toward.up.cut false (m <<< (-1074 + (k : Int)).toNat) (-(-1074 + (k : Int))).toNat = (m * 2 ^ k + (2 ^ 1074 - 1)) / 2 ^ 1074 := by
  rw [cut_up, Nat.shiftLeft_eq]
  rcases Nat.le_total k 1074 with h1 | h1
  · rw [show (-1074 + (k : Int)).toNat = 0 from by omega, show (-(-1074 + (k : Int))).toNat = 1074 - k from by omega, Nat.pow_zero, Nat.mul_one]
    have h2 : (2 : Nat) ^ 1074 = 2 ^ (1074 - k) * 2 ^ k := by rw [← Nat.pow_add, show 1074 - k + k = 1074 from by omega]
    have p1 := Nat.two_pow_pos (1074 - k)
    have p2 := Nat.two_pow_pos k
    rw [h2, ← ceil_mod _ _ p1, ← ceil_mod _ _ (Nat.mul_pos p1 p2), Nat.mul_div_mul_right _ _ p2, Nat.mul_mod_mul_right]
    generalize m % 2 ^ (1074 - k) = r
    have : (r != 0) = (r * 2 ^ k != 0) := by
      rw [Bool.eq_iff_iff]
      simp only [bne_iff_ne, ne_eq, Nat.mul_eq_zero]
      constructor
      · rintro h (h3 | h3)
        · exact h h3
        · omega
      · intro h h3
        exact h (Or.inl h3)
    rw [this]
  · rw [show (-1074 + (k : Int)).toNat = k - 1074 from by omega, show (-(-1074 + (k : Int))).toNat = 0 from by omega, Nat.pow_zero, Nat.div_one]
    have h5 := Nat.pow_add 2 (k - 1074) 1074
    rw [show k - 1074 + 1074 = k from by omega] at h5
    have h6 := Nat.two_pow_pos 1074
    rw [h5]
    generalize 2 ^ 1074 = c at *
    rw [← Nat.mul_assoc, Nat.add_comm (m * 2 ^ (k - 1074) * c), Nat.add_mul_div_right _ _ h6, Nat.div_eq_of_lt (by omega)]
    omega
/-- The whole number of a number that is not below 0. -/
def madeR : Bool → Nat → Nat
  | true, r => ceilR r
  | false, r => magOf r / 2 ^ 1074
def wayOf : Bool → Toward
  | true => .up
  | false => .down
theorem madeR_true (r : Nat) : madeR true r = ceilR r := by rw [madeR]
theorem madeR_false (r : Nat) : madeR false r = magOf r / 2 ^ 1074 := by rw [madeR]
theorem signed_pos (c : Nat) : signed false c 0 = (c : Int) := by
  unfold signed
  simp only [Bool.false_eq_true, if_false, Nat.shiftLeft_zero]
theorem toInt_number (m : Nat) (i : Int) (way : Toward) (q : Nat) (h : (Datum.number false m i).toInt way = some (q : Int)) : (Datum.number false m i).integral way = .number false q 0 := by
  have h1 : (Datum.number false m i).toInt way = some (signed false (way.cut false (m <<< i.toNat) (-i).toNat) 0) := rfl
  have h2 : (Datum.number false m i).integral way = .number false (way.cut false (m <<< i.toNat) (-i).toNat) 0 := rfl
  rw [h1, signed_pos] at h
  rw [h2]
  generalize way.cut false (m <<< i.toNat) (-i).toNat = c at *
  have := Option.some.inj h
  have : c = q := by omega
  rw [this]
theorem made_fin (up : Bool) (x : Nat) (hx : rung x < infR) (h0 : isNeg x = false) : (Ieee.double.read x).integral (wayOf up) = .number false (madeR up (rung x)) 0 := by
  obtain ⟨m, k, e, f⟩ := read_fin x hx
  cases up
  · rw [madeR_false]
    have hw := whole_fin .down (Or.inr rfl) x hx h0
    rw [e, h0] at hw ⊢
    exact toInt_number m _ .down _ hw
  · rw [madeR_true, e, h0]
    have h2 : (Datum.number false m (-1074 + (k : Int))).integral (wayOf true) = .number false (Toward.up.cut false (m <<< (-1074 + (k : Int)).toNat) (-(-1074 + (k : Int))).toNat) 0 := rfl
    rw [h2, cut_shift, f]
    unfold ceilR
    rfl
/-- A whole number's word. -/
def wordW (q : Nat) : Nat := if q = 0 then 0 else min (rungOf q 0) infR
theorem write_whole (q : Nat) : Ieee.double.write (.number false q 0) = wordW q := by
  have hw : Ieee.double.write (.number false q 0) = Ieee.double.nearest false q 0 := by rw [Format.write]
  rw [hw]
  unfold wordW
  by_cases h : q = 0
  · rw [if_pos h]
    unfold Format.nearest
    rw [if_pos h, word_eq]
    rfl
  · rw [if_neg h, nearest_eq _ _ _ h, word_eq]
    simp
theorem wordW_le (q : Nat) : wordW q ≤ infR := by
  unfold wordW
  split
  · exact Nat.zero_le _
  · exact Nat.min_le_right _ _
theorem wordW_small (q : Nat) (h : q ≤ 9223372036854775808) : wordW q = fltR q := by
  have hl := fltR_le q h
  have hc : infR = 9218868437227405312 := rfl
  unfold wordW
  by_cases h0 : q = 0
  · rw [if_pos h0]; unfold fltR; rw [if_pos h0]
  · rw [if_neg h0]
    unfold fltR at hl ⊢
    rw [if_neg h0] at hl ⊢
    omega
theorem wordW_great (q : Nat) (h : 281474976710656 ≤ q) : 4823355200913801216 ≤ wordW q := by
  have hm := rungOf_mono 281474976710656 q 0 (by decide) h
  have e := flt48
  unfold fltR at e
  rw [if_neg (by decide)] at e
  have hc : infR = 9218868437227405312 := rfl
  unfold wordW
  rw [if_neg (by omega)]
  omega
/-- A number below 0, or -0. -/
theorem write_neg (d : Datum) (h1 : d.isNaN = false) (h2 : d.neg = true) : ∃ r, r ≤ infR ∧ Ieee.double.write d = Ieee.double.word true r := by
  cases d with
  | nan s t => cases h1
  | infinity s =>
    have h2 : s = true := h2
    subst h2
    refine ⟨infR, Nat.le_refl _, ?_⟩
    have : Ieee.double.write (.infinity true) = Ieee.double.word true Ieee.double.infRung := by rw [Format.write]
    rw [this, f64_inf]
  | number s m i =>
    have h2 : s = true := h2
    subst h2
    have hw : Ieee.double.write (.number true m i) = Ieee.double.nearest true m i := by rw [Format.write]
    rw [hw]
    by_cases h : m = 0
    · refine ⟨0, Nat.zero_le _, ?_⟩
      unfold Format.nearest
      rw [if_pos h]
    · exact ⟨min (rungOf m i) infR, Nat.min_le_right _ _, nearest_eq _ _ _ h⟩
/-- What is known of a number made whole. -/
structure Made (up : Bool) (x y : Nat) : Prop where
  word : y < 18446744073709551616
  nan : isN y = isN x
  below : isN x = false → isNeg x = true → nkey y ≤ 0
  small : isNeg x = false → rung x < 4823355200913801216 → y = fltR (madeR up (rung x))
  great : isN x = false → isNeg x = false → 4823355200913801216 ≤ rung x → isNeg y = false ∧ 4823355200913801216 ≤ rung y
theorem magOf_48 : magOf 4823355200913801216 = 281474976710656 * 2 ^ 1074 := by decide +kernel
theorem madeR_le (up : Bool) (r : Nat) (h : r < 4823355200913801216) : madeR up r ≤ 281474976710656 := by
  have h1 := (int_far r h).2
  have h2 := ceil_floor r
  cases up
  · rw [madeR_false]; exact Nat.le_of_lt h1
  · rw [madeR_true, h2]
    generalize magOf r / 2 ^ 1074 = q at *
    split <;> omega
theorem madeR_ge (up : Bool) (r : Nat) (h : 4823355200913801216 ≤ r) : 281474976710656 ≤ madeR up r := by
  have hm := magOf_le h
  rw [magOf_48] at hm
  have hp := Nat.two_pow_pos 1074
  have h1 : 281474976710656 ≤ magOf r / 2 ^ 1074 := by
    generalize 2 ^ 1074 = U at *
    exact (Nat.le_div_iff_mul_le hp).2 hm
  have h2 := ceil_floor r
  cases up
  · rw [madeR_false]; exact h1
  · rw [madeR_true, h2]
    generalize magOf r / 2 ^ 1074 = q at *
    split <;> omega
theorem made_num (up : Bool) (x : Nat) (h : isN x = false) : Made up x (Ieee.double.write ((Ieee.double.read x).integral (wayOf up))) := by
  have hc : infR = 9218868437227405312 := rfl
  have hi : rung x ≤ infR := by simpa [isN] using h
  by_cases hf : rung x < infR
  · cases hs : isNeg x
    · rw [made_fin up x hf hs, write_whole]
      have hl := wordW_le (madeR up (rung x))
      refine ⟨by omega, by rw [isN_small _ hl, h], fun _ h2 => (by rw [hs] at h2; cases h2), fun _ h3 => ?_, fun _ _ h3 => ?_⟩
      · exact wordW_small _ (by have := madeR_le up _ h3; omega)
      · obtain ⟨p1, p2⟩ := small_parts (wordW (madeR up (rung x))) (by omega)
        exact ⟨p1, by rw [p2]; exact wordW_great _ (madeR_ge up _ h3)⟩
    · obtain ⟨m, k, e, f⟩ := read_fin x hf
      rw [hs] at e
      obtain ⟨r, hr, hw⟩ := write_neg ((Ieee.double.read x).integral (wayOf up)) (by rw [e]; rfl) (by rw [e]; rfl)
      rw [hw]
      obtain ⟨a1, a2, a3, a4⟩ := word_facts true r hr
      refine ⟨a4, by rw [a3, h], fun _ _ => ?_, fun h2 => by (rw [hs] at h2; cases h2), fun _ h2 => by (rw [hs] at h2; cases h2)⟩
      rw [word_key true r hr]
      simp only [if_true]
      omega
  · have hf : rung x = infR := by omega
    rw [read_inf x hf]
    show Made up x (Ieee.double.word (isNeg x) Ieee.double.infRung)
    rw [f64_inf]
    obtain ⟨a1, a2, a3, a4⟩ := word_facts (isNeg x) infR (Nat.le_refl _)
    refine ⟨a4, by rw [a3, h], fun _ h2 => ?_, fun _ h3 => by omega, fun _ h2 _ => ⟨by rw [a1, h2], by rw [a2]; omega⟩⟩
    rw [word_key _ _ (Nat.le_refl _), h2]
    simp only [if_true]
    omega
theorem fltR_48 (m : Nat) (h : m ≤ 281474976710656) : fltR m ≤ 4823355200913801216 := by rw [← flt48]; exact fltR_mono h
theorem fltR_lt {m n : Nat} (hn : n < 9007199254740992) (h : m < n) : fltR m < fltR n := by
  rw [← magOf_lt, fltR_mag m (by omega), fltR_mag n hn]
  have hp := Nat.two_pow_pos 1074
  generalize 2 ^ 1074 = U at *
  exact Nat.mul_lt_mul_of_pos_right h hp
theorem fltR_cmp {m n : Nat} (hm : m < 9007199254740992) (_hn : n < 9007199254740992) : fltR m ≤ fltR n ↔ m ≤ n := by
  constructor
  · intro h
    rcases Nat.lt_or_ge n m with h2 | h2
    · have := fltR_lt hm h2; omega
    · exact h2
  · exact fltR_mono
theorem whole_flt (q : Nat) (h : q < 9007199254740992) : magOf (fltR q) / 2 ^ 1074 = q := by
  rw [fltR_mag q h]
  exact Nat.mul_div_cancel q (Nat.two_pow_pos 1074)
theorem ceil_flt (q : Nat) (h : q < 9007199254740992) : ceilR (fltR q) = q := ceilR_mag _ _ (fltR_mag q h)
theorem pos_word {x : Nat} (h64 : x < 18446744073709551616) (hs : isNeg x = false) : rung x = x := by
  rcases word_parts x h64 with ⟨e1, _⟩ | ⟨_, e2⟩
  · rw [hs] at e1; cases e1
  · exact e2.1.symm
/-- Rounded down and held between two whole numbers is held between them. -/
theorem floor_in {x y low high : Nat} (h : Made false x y) (hlh : low < high) (hh : high < 281474976710656) : floorN y low high = floorN x low high := by
  have hc : infR = 9218868437227405312 := rfl
  have l1 := fltR_48 low (by omega)
  have l2 := fltR_48 high (by omega)
  have l3 := fltR_lt (show high < 9007199254740992 by omega) hlh
  unfold floorN
  cases hn : isN x
  · rw [h.nan, hn]
    simp only [Bool.false_eq_true, if_false]
    cases hs : isNeg x
    · have kx : nkey x = (rung x : Int) := by unfold nkey; rw [hs]; rfl
      by_cases hf : rung x < 4823355200913801216
      · have hy := h.small hs hf
        have hm := madeR_false (rung x)
        rw [hm] at hy
        have hq := (int_far (rung x) hf).2
        have w1 : ∀ m, m < 9007199254740992 → fltR m ≤ rung x → m ≤ magOf (rung x) / 2 ^ 1074 := fun m hm h1 => by
          rw [← whole_flt m hm]; exact whole_mono h1
        have w2 : ∀ m, m < 9007199254740992 → rung x < fltR m → magOf (rung x) / 2 ^ 1074 < m := fun m hm h1 => by
          have h2 := (magOf_lt _ _).2 h1
          rw [fltR_mag m hm] at h2
          have hp := Nat.two_pow_pos 1074
          generalize 2 ^ 1074 = U at *
          exact (Nat.div_lt_iff_lt_mul hp).2 h2
        have a1 := w1 low (by omega)
        have a2 := w1 high (by omega)
        have a3 : rung x ≤ fltR low → magOf (rung x) / 2 ^ 1074 ≤ low := fun h1 => by
          rw [← whole_flt low (by omega)]; exact whole_mono h1
        have a4 := w2 high (by omega)
        clear w1 w2
        generalize magOf (rung x) / 2 ^ 1074 = q at *
        subst hy
        have lq := fltR_48 q (by omega)
        have ky := nkey_small (fltR q) (by omega)
        have cm1 := fltR_cmp (m := q) (n := low) (by omega) (by omega)
        have cm2 := fltR_cmp (m := high) (n := q) (by omega) (by omega)
        rw [ky, kx, (small_parts (fltR q) (by omega)).2, whole_flt q (by omega)]
        by_cases b1 : (rung x : Int) ≤ (fltR low : Int)
        · rw [if_pos b1]
          have h2 := cm1.2 (a3 (by omega))
          rw [if_pos (by omega)]
        · rw [if_neg b1]
          by_cases b2 : (fltR high : Int) ≤ rung x
          · rw [if_pos b2]
            have h2 := a2 (by omega)
            have h3 := cm2.2 h2
            rw [if_neg (by omega), if_pos (by omega)]
          · rw [if_neg b2]
            have h2 := a1 (by omega)
            have h3 := a4 (by omega)
            by_cases b3 : (fltR q : Int) ≤ (fltR low : Int)
            · rw [if_pos b3]
              have := cm1.1 (by omega)
              omega
            · rw [if_neg b3, if_neg (fun h4 => by have := cm2.1 (by omega); omega)]
      · obtain ⟨g1, g2⟩ := h.great hn hs (by omega)
        have ky : nkey y = (rung y : Int) := by unfold nkey; rw [g1]; rfl
        rw [ky, kx, if_neg (by omega), if_pos (by omega), if_neg (by omega), if_pos (by omega)]
    · have k1 := h.below hn hs
      have k2 : nkey x ≤ 0 := by unfold nkey; rw [hs]; simp
      rw [if_pos (by omega), if_pos (by omega)]
  · rw [h.nan, hn, if_pos rfl, if_pos rfl]
/-- Rounded up and held between the bounds of a filter's bits. -/
theorem ceil_in {x y : Nat} (h : Made true x y) : floorN y 64 524288 = bitsK x := by
  have hc : infR = 9218868437227405312 := rfl
  have e1 : fltR 64 = 4634204016564240384 := by decide +kernel
  have e2 : fltR 524288 = 4692750811720056832 := by decide +kernel
  unfold floorN bitsK
  rw [e1, e2]
  cases hn : isN x
  · rw [h.nan, hn]
    simp only [Bool.false_eq_true, if_false]
    cases hs : isNeg x
    · have kx : nkey x = (rung x : Int) := by unfold nkey; rw [hs]; rfl
      by_cases hf : rung x < 4823355200913801216
      · have hy := h.small hs hf
        have hm := madeR_true (rung x)
        have hq := madeR_le true _ hf
        rw [hm] at hy hq
        have a1 : rung x ≤ 4634204016564240384 → ceilR (rung x) ≤ 64 := fun h1 => by rw [← ceilR_64]; exact ceilR_mono h1
        have a2 : 4692750811720056832 ≤ rung x → 524288 ≤ ceilR (rung x) := fun h1 => by rw [← ceilR_top]; exact ceilR_mono h1
        have a3 : rung x ≤ 4692750811720056832 → ceilR (rung x) ≤ 524288 := fun h1 => by rw [← ceilR_top]; exact ceilR_mono h1
        have a4 : 4634204016564240384 < rung x → 64 < ceilR (rung x) := fun h1 => by
          have h2 := (magOf_lt _ _).2 h1
          rw [← e1, fltR_mag 64 (by decide)] at h2
          have hp := Nat.two_pow_pos 1074
          unfold ceilR
          generalize 2 ^ 1074 = U at *
          exact (Nat.le_div_iff_mul_le hp).2 (by omega)
        generalize ceilR (rung x) = q at *
        subst hy
        have lq := fltR_48 q (by omega)
        have ky := nkey_small (fltR q) (by omega)
        have cm1 := fltR_cmp (m := q) (n := 64) (by omega) (by omega)
        have cm2 := fltR_cmp (m := 524288) (n := q) (by omega) (by omega)
        rw [e1] at cm1
        rw [e2] at cm2
        rw [ky, kx, (small_parts (fltR q) (by omega)).2, whole_flt q (by omega)]
        by_cases b1 : (rung x : Int) ≤ 4634204016564240384
        · rw [if_pos b1]
          have h2 := cm1.2 (a1 (by omega))
          rw [if_pos (by omega)]
        · rw [if_neg b1]
          have h4 := a4 (by omega)
          have h5 : ¬ fltR q ≤ 4634204016564240384 := fun h6 => by have := cm1.1 h6; omega
          rw [if_neg (by omega)]
          by_cases b2 : (4692750811720056832 : Int) ≤ rung x
          · rw [if_pos b2]
            have h2 := cm2.2 (a2 (by omega))
            rw [if_pos (by omega)]
          · rw [if_neg b2]
            have h3 := a3 (by omega)
            split
            · rename_i h6
              have := cm2.1 (by omega)
              omega
            · rfl
      · obtain ⟨g1, g2⟩ := h.great hn hs (by omega)
        have ky : nkey y = (rung y : Int) := by unfold nkey; rw [g1]; rfl
        rw [ky, kx, if_neg (by omega), if_pos (by omega), if_neg (by omega), if_pos (by omega)]
    · have k1 := h.below hn hs
      have k2 : nkey x ≤ 0 := by unfold nkey; rw [hs]; simp
      rw [if_pos (by omega), if_pos (by omega)]
  · rw [h.nan, hn, if_pos rfl, if_pos rfl]
end Go.Proofs.YtcbgflidlpmhcaaGreatDoor

namespace Go.Proofs.YtcbgflidlpmhcaaGreatDoor
open Go.RowKit Ieee

/-- The NaN that the model's tape gives where a product is none. -/
def tapeMul (w : World) (x y : Nat) : Nat := (Question.nanBits .f64 x y).cut (w.tape w.drawn (.nanBits .f64 x y))
theorem tapeMul_is (w : World) (x y : Nat) : isN (tapeMul w x y) = true ∧ tapeMul w x y < 18446744073709551616 := by
  have e : tapeMul w x y = (w.tape w.drawn (.nanBits .f64 x y) % 2) * 2 ^ 63 + 0x7ff0000000000000 + 1 + (w.tape w.drawn (.nanBits .f64 x y) / 2) % (2 ^ 52 - 1) := rfl
  rw [e]
  generalize w.tape w.drawn (.nanBits .f64 x y) = t
  have h1 : t / 2 % (2 ^ 52 - 1) < 2 ^ 52 - 1 := Nat.mod_lt _ (by decide)
  generalize t / 2 % (2 ^ 52 - 1) = u at *
  unfold isN rung infR
  refine ⟨decide_eq_true ?_, ?_⟩ <;> omega
theorem run_mul_nan (x y : Nat) (h : floatBits .mul .f64 x y = none) (w : World) : (binOp .mul 23 (.float .f64 x) (.float .f64 y)).run Tryz.prog w = .ok (.float .f64 (tapeMul w x y)) w.drew := by
  have h : FloatKind.f64.format.mul x y = none := h
  simp [binOp, Op.floatArith, h, Question.forced]
  rfl

theorem probes_floor (r : Nat) (h : r ≤ infR) : floorN r 1 30 = timesR r := by
  have hc : infR = 9218868437227405312 := rfl
  have e1 : fltR 1 = 4607182418800017408 := by decide +kernel
  have e2 : fltR 30 = 4629137466983448576 := by decide +kernel
  unfold floorN timesR
  rw [isN_small r h, nkey_small r (by omega), (small_parts r (by omega)).2, e1, e2]
  simp only [Bool.false_eq_true, if_false]
  by_cases b1 : r ≤ 4607182418800017408
  · rw [if_pos b1, if_pos (show (r : Int) ≤ (4607182418800017408 : Nat) by omega)]
  · rw [if_neg b1, if_neg (show ¬ (r : Int) ≤ (4607182418800017408 : Nat) by omega)]
    by_cases b2 : 4629137466983448576 ≤ r
    · rw [if_pos b2, if_pos (show ((4629137466983448576 : Nat) : Int) ≤ r by omega)]
    · rw [if_neg b2, if_neg (show ¬ ((4629137466983448576 : Nat) : Int) ≤ r by omega)]

set_option maxRecDepth 100000 in
set_option maxHeartbeats 1000000 in
theorem rprobes_any (x : Nat) (w : World) :
    Calls Tryz.prog 44 #[.float .f64 x] w fun e w' => e = .returned (.int .i64 (probesN x : Nat)) ∧ w = w' := by
  have g1 := gtr_eq x 0
  rw [show isN 0 = false from by decide, show nkey 0 = 0 from by decide] at g1
  obtain ⟨z, hz⟩ : ∃ z, probesN x = z := ⟨_, rfl⟩
  rw [hz]
  unfold probesN at hz
  by_cases hx : isN x = true
  · rw [if_pos hx] at hz
    rw [hx] at g1
    simp only [Bool.not_true, Bool.false_and] at g1
    subst hz
    go_enter Tryz.func44, Tryz.ntmps44
    go_wp2_with fail
    go_ret
    exact ⟨rfl, rfl⟩
  · rw [if_neg hx] at hz
    have hx' : isN x = false := by simpa using hx
    rw [hx'] at g1
    simp only [Bool.not_false, Bool.true_and] at g1
    by_cases h1 : nkey x ≤ 0
    · rw [if_pos h1] at hz
      rw [decide_eq_false (by omega)] at g1
      subst hz
      go_enter Tryz.func44, Tryz.ntmps44
      go_wp2_with fail
      go_ret
      exact ⟨rfl, rfl⟩
    · rw [if_neg h1] at hz
      rw [decide_eq_true (by omega)] at g1
      have hs : isNeg x = false := by
        unfold nkey at h1
        cases hn : isNeg x <;> rw [hn] at h1 <;> simp at h1 <;> first | rfl | omega
      have hm := mul_sign 4604480259023595110 x (by decide) (by decide) hx'
      rw [fmul_comm, hs, word_eq] at hm
      simp only [Bool.false_eq_true, if_false] at hm
      have hq := fun W : World => run_float_arith (P := Tryz.prog) W .mul 23 .f64 _ _ _ hm
      have hl := farG_le 4604480259023595110 x
      rw [← probes_floor _ hl] at hz
      have hc : infR = 9218868437227405312 := rfl
      have CF := Lib.hid (qfloor_any (farG 4604480259023595110 x) 1 30 (by omega) (by decide) (by decide) w)
      rw [hz] at CF
      generalize farG 4604480259023595110 x = r at *
      clear hm hl hc h1 hx hx' hs hz
      go_enter Tryz.func44, Tryz.ntmps44
      go_wp2_with fail
      refine CF.out.mono ?_
      rintro e w' ⟨rfl, rfl⟩
      go_wp2_with fail
      go_ret
      exact ⟨rfl, rfl⟩
end Go.Proofs.YtcbgflidlpmhcaaGreatDoor

namespace Go.Proofs.YtcbgflidlpmhcaaGreatDoor
open Go.RowKit Ieee

theorem quiet_word (s : Bool) (t : Nat) (ht : t < 4503599627370496) :
    isN (Ieee.double.write (.nan s (Ieee.double.quiet t))) = true ∧ Ieee.double.write (.nan s (Ieee.double.quiet t)) < 18446744073709551616 := by
  have hq : Ieee.double.quiet t = t ||| 2251799813685248 := rfl
  have h1 : t ||| 2251799813685248 < 4503599627370496 := Nat.or_lt_two_pow (n := 52) ht (by decide)
  have h2 : 2251799813685248 ≤ t ||| 2251799813685248 := Nat.right_le_or
  show isN (Ieee.double.word s (Ieee.double.infRung + Ieee.double.quiet t % Ieee.double.binade)) = true ∧ Ieee.double.word s (Ieee.double.infRung + Ieee.double.quiet t % Ieee.double.binade) < _
  rw [hq, f64_inf, f64_binade, Nat.mod_eq_of_lt h1, word_eq]
  generalize t ||| 2251799813685248 = u at *
  have hc : infR = 9218868437227405312 := rfl
  cases s
  · simp only [Bool.false_eq_true, if_false]
    refine ⟨?_, by omega⟩
    unfold isN rung
    rw [Nat.mod_eq_of_lt (by omega)]
    exact decide_eq_true (by omega)
  · simp only [if_true]
    refine ⟨?_, by omega⟩
    unfold isN rung
    rw [show 9223372036854775808 + (infR + u) = (infR + u) + 9223372036854775808 from by omega, Nat.add_mod_right, Nat.mod_eq_of_lt (by omega)]
    exact decide_eq_true (by omega)
theorem nan_made (up : Bool) (x y : Nat) (h1 : isN x = true) (h2 : isN y = true) (h3 : y < 18446744073709551616) : Made up x y := by
  have hx : infR < rung x := by simpa [isN] using h1
  have hc : infR = 9218868437227405312 := rfl
  exact ⟨h3, by rw [h1, h2], fun h => by (rw [h1] at h; cases h), fun _ h => by omega, fun h => by (rw [h1] at h; cases h)⟩
theorem toIntegral_run (name : String) (up : Bool) (x : Nat) (hx : x < 18446744073709551616) (P : Program) (w : World) :
    ∃ y w', (Extern.MathFloor.toIntegral name (wayOf up) #[.float .f64 x]).run P w = .ok (.float .f64 y) w' ∧ Below w.heap.size w w' ∧ Made up x y := by
  cases hn : isN x
  · refine ⟨_, w, ?_, Below.refl _ _, made_num up x hn⟩
    have hd : (FloatKind.f64.decode x).isNaN = false := by
      have hi : rung x ≤ infR := by simpa [isN] using hn
      by_cases hf : rung x < infR
      · obtain ⟨m, k, e, _⟩ := read_fin x hf
        show (Ieee.double.read x).isNaN = false
        rw [e]; rfl
      · show (Ieee.double.read x).isNaN = false
        rw [read_inf x (by omega)]; rfl
    show (Extern.MathFloor.toIntegral name (wayOf up) #[.float .f64 x]).run P w = .ok (.float .f64 (FloatKind.f64.encode ((FloatKind.f64.decode x).integral (wayOf up)))) w
    have key : Extern.MathFloor.toIntegral name (wayOf up) #[.float .f64 x] = pure (.float .f64 (FloatKind.f64.encode ((FloatKind.f64.decode x).integral (wayOf up)))) := by
      show (match FloatKind.f64.decode x with | .nan s t => _ | d => (pure (.float .f64 (FloatKind.f64.encode (d.integral (wayOf up)))) : Sem Value)) = _
      generalize FloatKind.f64.decode x = d at *
      cases d with
      | nan s t => cases hd
      | number s m i => rfl
      | infinity s => rfl
    rw [key]
    rfl
  · have hr : infR < rung x := by simpa [isN] using hn
    have hc : infR = 9218868437227405312 := rfl
    obtain ⟨f, e⟩ := read_nan x hr
    have hf : f < 4503599627370496 := by
      have := rung_lt x
      have e2 : Ieee.double.read x = .nan (isNeg x) (rung x - infR) := by
        unfold Format.read
        rw [f64_sign, f64_binade, f64_inf, f64_least]
        show (if rung x < 4503599627370496 then _ else if rung x < infR then _ else if rung x = infR then _ else _) = _
        rw [if_neg (by omega), if_neg (by omega), if_neg (by omega)]
        rfl
      rw [e] at e2
      have e3 : f = rung x - infR := (Datum.nan.inj e2).2
      omega
    obtain ⟨q1, q2⟩ := quiet_word (isNeg x) f hf
    have key : Extern.MathFloor.toIntegral name (wayOf up) #[.float .f64 x] = (if FloatKind.f64.format.quiet f = f then pure (.float .f64 x) else do
      let kept ← choose (.extern "math.Floor,Ceil,Trunc,RoundToEven.signallingNaN kept" 2)
      pure (.float .f64 (if kept == 1 then x else FloatKind.f64.encode (.nan (isNeg x) (FloatKind.f64.format.quiet f)))) : Sem Value) := by
      show (match FloatKind.f64.decode x with | .nan s t => _ | d => _) = _
      rw [show FloatKind.f64.decode x = .nan (isNeg x) f from e]
    rw [key]
    by_cases hq : FloatKind.f64.format.quiet f = f
    · rw [if_pos hq]
      exact ⟨x, w, rfl, Below.refl _ _, nan_made up x x hn hn hx⟩
    · rw [if_neg hq]
      refine ⟨_, w.drew, rfl, (Below.refl _ _).drew, nan_made up x _ hn ?_ ?_⟩
      · split
        · exact hn
        · exact q1
      · split
        · exact hx
        · exact q2
set_option maxRecDepth 100000 in
set_option maxHeartbeats 2000000 in
theorem floor_made (x : Nat) (hx : x < 18446744073709551616) (w : World) :
    Calls Tryz.prog 166 #[.float .f64 x] w fun e w' => ∃ y, e = .returned (.float .f64 y) ∧ Below w.heap.size w w' ∧ Made false x y := by
  obtain ⟨y, w1, hr, hb, hm⟩ := toIntegral_run "math.archFloor" false x hx Tryz.prog w
  have hc : (callFunc 181 #[.float .f64 x]).run Tryz.prog w = .ok (.value (.float .f64 y)) w1 := by
    rw [run_callFunc_extern (e := Extern.MathFloor.toIntegral "math.archFloor" (wayOf false)) Tryz.func181 (by kernel_rfl) (by kernel_rfl) (by kernel_rfl) (by kernel_rfl), hr]
    rfl
  have HB := Lib.hid hb
  have HM := Lib.hid hm
  clear hr hb hm hx
  go_enter Tryz.func166, Tryz.ntmps166
  go_wp2_with fail
  go_ret
  exact ⟨_, rfl, HB.out, HM.out⟩
set_option maxRecDepth 100000 in
set_option maxHeartbeats 2000000 in
theorem ceil_made (x : Nat) (hx : x < 18446744073709551616) (w : World) :
    Calls Tryz.prog 167 #[.float .f64 x] w fun e w' => ∃ y, e = .returned (.float .f64 y) ∧ Below w.heap.size w w' ∧ Made true x y := by
  obtain ⟨y, w1, hr, hb, hm⟩ := toIntegral_run "math.archCeil" true x hx Tryz.prog w
  have hc : (callFunc 183 #[.float .f64 x]).run Tryz.prog w = .ok (.value (.float .f64 y)) w1 := by
    rw [run_callFunc_extern (e := Extern.MathFloor.toIntegral "math.archCeil" (wayOf true)) Tryz.func183 (by kernel_rfl) (by kernel_rfl) (by kernel_rfl) (by kernel_rfl), hr]
    rfl
  have HB := Lib.hid hb
  have HM := Lib.hid hm
  clear hr hb hm hx
  go_enter Tryz.func167, Tryz.ntmps167
  go_wp2_with fail
  go_ret
  exact ⟨_, rfl, HB.out, HM.out⟩

set_option maxRecDepth 100000 in
set_option maxHeartbeats 1000000 in
theorem within_any (x low high : Nat) (hx64 : x < 18446744073709551616) (hlh : low < high) (hh : high < 281474976710656) (w : World) :
    Calls Tryz.prog 165 #[.int .i64 (low : Int), .float .f64 x, .int .i64 (high : Int)] w fun e w' => e = .returned (.int .i64 (floorN x low high : Nat)) ∧ w = w' := by
  have f1 := floatOfInt_nat low (by omega)
  have f2 := floatOfInt_nat high (by omega)
  have g1 := gtr_eq x (fltR low)
  have g2 := geq_eq x (fltR high)
  have l1 := fltR_le low (by omega)
  have l2 : fltR high ≤ 4823355200913801216 := fltR_48 high (by omega)
  have l3 := fltR_lt (show high < 9007199254740992 by omega) hlh
  have hc : infR = 9218868437227405312 := rfl
  rw [isN_small (fltR low) (by omega), nkey_small (fltR low) (by omega)] at g1
  rw [isN_small (fltR high) (by omega), nkey_small (fltR high) (by omega)] at g2
  obtain ⟨r, hr⟩ : ∃ r, floorN x low high = r := ⟨_, rfl⟩
  rw [hr]
  unfold floorN at hr
  by_cases hx : isN x = true
  · rw [if_pos hx] at hr
    rw [hx] at g1 g2
    subst hr
    simp only [Bool.not_true, Bool.false_and] at g1 g2
    clear l1 l2 l3 hc hlh hh
    go_enter Tryz.func165, Tryz.ntmps165
    go_wp2_with fail
    go_ret
    exact ⟨rfl, rfl⟩
  · rw [if_neg hx] at hr
    have hx' : isN x = false := by simpa using hx
    rw [hx'] at g1 g2
    simp only [Bool.not_false, Bool.true_and] at g1 g2
    by_cases h1 : nkey x ≤ (fltR low : Int)
    · rw [if_pos h1] at hr
      rw [decide_eq_false (by omega)] at g1 g2
      subst hr
      clear l1 l2 l3 hc hlh hh
      go_enter Tryz.func165, Tryz.ntmps165
      go_wp2_with fail
      go_ret
      exact ⟨rfl, rfl⟩
    · rw [if_neg h1] at hr
      rw [decide_eq_true (by omega)] at g1
      by_cases h2 : (fltR high : Int) ≤ nkey x
      · rw [if_pos h2] at hr
        rw [decide_eq_true h2] at g2
        subst hr
        clear l1 l2 l3 hc hlh hh h1 h2
        go_enter Tryz.func165, Tryz.ntmps165
        go_wp2_with fail
        go_ret
        exact ⟨rfl, rfl⟩
      · rw [if_neg h2] at hr
        rw [decide_eq_false h2] at g2
        have hs : isNeg x = false ∧ rung x < 4823355200913801216 := by
          unfold nkey at h1 h2
          cases hn : isNeg x <;> rw [hn] at h1 h2 <;> simp at h1 h2 <;> first | exact ⟨rfl, by omega⟩ | omega
        obtain ⟨hs1, hs2⟩ := hs
        have hxr : rung x = x := pos_word hx64 hs1
        rw [hxr] at hr hs2
        have hI := (int_far x hs2).1
        rw [hr] at hI
        have hI : ∀ W : World, (convert 23 3 (.float .f64 x)).run Tryz.prog W = .ok (.int .i64 (r : Int)) W := fun W =>
          run_convert_float_int W 23 3 .f64 .i64 _ _ (by kernel_rfl) Tryz.underlying3 hI
        clear hr hxr hs2 hs1 h1 h2 l1 l2 l3 hc hx hx' hx64 hlh hh
        go_enter Tryz.func165, Tryz.ntmps165
        go_wp2_with fail
        go_ret
        exact ⟨rfl, rfl⟩

theorem fltR_1 : fltR 1 = 4607182418800017408 := by decide +kernel
theorem floorN_nan {x : Nat} (low high : Nat) (h : isN x = true) : floorN x low high = low := by unfold floorN; rw [if_pos h]
theorem floorN_low {x : Nat} (low high : Nat) (h : nkey x ≤ (fltR low : Int)) : floorN x low high = low := by
  unfold floorN
  by_cases hx : isN x = true
  · exact if_pos hx
  · rw [if_neg hx, if_pos h]
theorem probes_cases (x : Nat) :
    (floatBits .mul .f64 x 4604480259023595110 = none ∧ probesN x = 1) ∨
    ∃ v, floatBits .mul .f64 x 4604480259023595110 = some v ∧ v < 18446744073709551616 ∧ probesN x = floorN v 1 30 := by
  have hc : infR = 9218868437227405312 := rfl
  rw [fmul_comm]
  cases hx : isN x
  · have hr := farG_le 4604480259023595110 x
    obtain ⟨a1, a2, a3, a4⟩ := word_facts (isNeg x) (farG 4604480259023595110 x) hr
    have hk := word_key (isNeg x) (farG 4604480259023595110 x) hr
    refine Or.inr ⟨_, mul_sign _ x (by decide) (by decide) hx, a4, ?_⟩
    unfold probesN
    rw [hx]
    simp only [Bool.false_eq_true, if_false]
    cases hs : isNeg x
    · have kx : nkey x = (rung x : Int) := by unfold nkey; rw [hs]; rfl
      rw [hs] at hk
      simp only [Bool.false_eq_true, if_false] at hk
      rw [word_eq]
      simp only [Bool.false_eq_true, if_false]
      by_cases h1 : nkey x ≤ 0
      · rw [if_pos h1]
        have hz : rung x = 0 := by omega
        have hf : farG 4604480259023595110 x = 0 := by
          unfold farG
          rw [if_neg (by omega), hz]
          have : magOf 0 = 0 := (magOf_zero 0).2 rfl
          unfold mulR
          rw [this, Nat.mul_zero, if_pos rfl]
        rw [hf, floorN_low 1 30 (by rw [show nkey 0 = 0 from by decide]; omega)]
      · rw [if_neg h1, probes_floor _ hr]
    · have h1 : nkey x ≤ 0 := by unfold nkey; rw [hs]; simp
      rw [if_pos h1, floorN_low 1 30 (by rw [hs] at hk; rw [hk]; simp only [if_true]; omega)]
  · exact Or.inl ⟨mul_nan _ x hx, by unfold probesN; rw [if_pos hx]⟩

set_option maxRecDepth 100000 in
set_option maxHeartbeats 1000000 in
theorem bprobes_any (x : Nat) (w : World) :
    Calls Tryz.prog 116 #[.float .f64 x] w fun e w' => e = .returned (.int .i64 (probesN x : Nat)) ∧ Below w.heap.size w w' := by
  rcases probes_cases x with ⟨hm, hp⟩ | ⟨v, hm, hv, hp⟩
  · have hq := run_mul_nan x 4604480259023595110 hm w
    have hz := tapeMul_is w x 4604480259023595110
    generalize tapeMul w x 4604480259023595110 = v at *
    have CF := Lib.hid (floor_made v hz.2 w.drew)
    have CW := fun (y : Nat) (hy : y < 18446744073709551616) (W : World) => Lib.hid (within_any y 1 30 hy (by decide) (by decide) W)
    have HZ := Lib.hid hz.1
    clear hm hz
    rw [hp]
    go_enter Tryz.func116, Tryz.ntmps116
    go_wp2_with fail
    refine CF.out.mono ?_
    rintro e w1 ⟨y, rfl, hb, hM⟩
    have C2 := CW y hM.word w1
    have hy : floorN y 1 30 = 1 := floorN_nan _ _ (by rw [hM.nan]; exact HZ.out)
    rw [hy] at C2
    have HB := Lib.hid hb
    clear hb hM hy CW
    go_wp2_with fail
    refine C2.out.mono ?_
    rintro e w' ⟨rfl, rfl⟩
    go_wp2_with fail
    go_ret
    exact ⟨rfl, (Below.refl _ _).drew.trans HB.out⟩
  · have hq := fun W : World => run_float_arith (P := Tryz.prog) W .mul 23 .f64 _ _ _ hm
    have CF := Lib.hid (floor_made v hv w)
    have CW := fun (y : Nat) (hy : y < 18446744073709551616) (W : World) => Lib.hid (within_any y 1 30 hy (by decide) (by decide) W)
    have HP := Lib.hid hp
    obtain ⟨r, hr⟩ : ∃ r, probesN x = r := ⟨_, rfl⟩
    rw [hr] at HP ⊢
    clear hm hp hr hv
    go_enter Tryz.func116, Tryz.ntmps116
    go_wp2_with fail
    refine CF.out.mono ?_
    rintro e w1 ⟨y, rfl, hb, hM⟩
    have C2 := CW y hM.word w1
    rw [floor_in hM (by decide) (by decide), ← HP.out] at C2
    have HB := Lib.hid hb
    clear hb hM CW
    go_wp2_with fail
    refine C2.out.mono ?_
    rintro e w' ⟨rfl, rfl⟩
    go_wp2_with fail
    go_ret
    exact ⟨rfl, HB.out⟩
set_option maxRecDepth 100000 in
set_option maxHeartbeats 2000000 in
theorem bsize_any (n : Int) (x : Nat) (w : World) (h : n ≤ 9223372036854775807) :
    Calls Tryz.prog 117 #[.int .i64 n, .float .f64 x] w fun e w' => e = .returned (.int .i64 (sizeN n x : Nat)) ∧ Below w.heap.size w w' := by
  have f1 := floatOfInt_nat n.toNat (by omega)
  obtain ⟨r, hr⟩ : ∃ r, sizeN n x = r := ⟨_, rfl⟩
  rw [hr]
  have hc := mul_cases n x (by omega)
  have hbl := bitsN_le n x
  unfold sizeN at hr
  generalize bitsN n x = b at *
  generalize fltR n.toNat = F at *
  have s1 : wrap64 ((b : Int) + 8) = (b : Int) + 8 := by unfold wrap64; omega
  have s2 : IntKind.i64.wrap ((b : Int) + 8) = (b : Int) + 8 := by rw [IntKind.wrap_i64]; omega
  have s3 : wrap64 ((b : Int) + 8 - 1) = (b : Int) + 8 - 1 := by unfold wrap64; omega
  have s4 : IntKind.i64.wrap ((b : Int) + 8 - 1) = (b : Int) + 8 - 1 := by rw [IntKind.wrap_i64]; omega
  have s5 : ((b : Int) + 8 - 1).tdiv 8 = (r : Int) := by rw [Int.tdiv_eq_ediv_of_nonneg (by omega)]; omega
  have s6 : IntKind.i64.wrap (r : Int) = (r : Int) := by rw [IntKind.wrap_i64]; omega
  have CW := fun (y : Nat) (hy : y < 18446744073709551616) (W : World) => Lib.hid (within_any y 64 524288 hy (by decide) (by decide) W)
  have hb : (n < 0 ∧ floatOfInt .f64 0 = F) ∨ (¬ n < 0 ∧ floatOfInt .f64 n = F) := by
    by_cases h0 : n < 0
    · rw [show n.toNat = 0 from by omega] at f1
      exact Or.inl ⟨h0, f1⟩
    · rw [show (n.toNat : Int) = n from by omega] at f1
      exact Or.inr ⟨h0, f1⟩
  clear f1 h
  rcases hc with ⟨hm, hp⟩ | ⟨v, hm, hn, hv, hp⟩
  · have hq := run_mul_nan F x hm w
    have hz := tapeMul_is w F x
    generalize tapeMul w F x = v at *
    have CF := Lib.hid (ceil_made v hz.2 w.drew)
    have HZ := Lib.hid hz.1
    clear hm hz hr hbl
    rcases hb with ⟨h0, f1⟩ | ⟨h0, f1⟩
    all_goals
      go_enter Tryz.func117, Tryz.ntmps117
      go_wp2_with fail
      refine CF.out.mono ?_
      rintro e w1 ⟨y, rfl, hb, hM⟩
      have C2 := CW y hM.word w1
      have hy : floorN y 64 524288 = b := by rw [floorN_nan _ _ (by rw [hM.nan]; exact HZ.out), hp]
      rw [hy] at C2
      have HB := Lib.hid hb
      clear hb hM hy CW hp
      go_wp2_with fail
      refine C2.out.mono ?_
      rintro e w' ⟨rfl, rfl⟩
      go_wp2_with fail
      go_ret
      exact ⟨rfl, (Below.refl _ _).drew.trans HB.out⟩
  · have hq := fun W : World => run_float_arith (P := Tryz.prog) W .mul 23 .f64 _ _ _ hm
    have CF := Lib.hid (ceil_made v hv w)
    have HP := Lib.hid hp
    clear hm hr hbl hp hn hv
    rcases hb with ⟨h0, f1⟩ | ⟨h0, f1⟩
    all_goals
      go_enter Tryz.func117, Tryz.ntmps117
      go_wp2_with fail
      refine CF.out.mono ?_
      rintro e w1 ⟨y, rfl, hb, hM⟩
      have C2 := CW y hM.word w1
      rw [ceil_in hM, ← HP.out] at C2
      have HB := Lib.hid hb
      clear hb hM CW HP
      go_wp2_with fail
      refine C2.out.mono ?_
      rintro e w' ⟨rfl, rfl⟩
      go_wp2_with fail
      go_ret
      exact ⟨rfl, HB.out⟩
end Go.Proofs.YtcbgflidlpmhcaaGreatDoor

namespace Go.Proofs.YtcbgflidlpmhcaaGreatDoor
open Go.RowKit Go.WideShapes Go.ChangeShapes

theorem block_lt {w : World} {g i : Nat} {v : Value} (h : w.cell? ⟨g, i, none⟩ = some v) : g < w.heap.size := by
  rcases Nat.lt_or_ge g w.heap.size with hlt | hge
  · exact hlt
  · simp [World.cell?, Array.getElem?_eq_none hge] at h

/-- n numbers stand at A. -/
structure IntsIn (w : World) (A : Option Addr) (n : Nat) (zs : List Int) : Prop where
  len : zs.length = n
  max : n ≤ 9223372036854775807
  some : 0 < n → ∃ b off, A = .some ⟨b, off, none⟩ ∧ b < w.heap.size ∧ ∀ j, j < n → w.cell? ⟨b, off + j, none⟩ = .some (.int .i64 (zs.getD j 0))
  wf : ∀ z ∈ zs, (Lit.int .i64 z).wf = true

theorem IntsIn.below {w w' : World} {A : Option Addr} {n : Nat} {zs : List Int} (h : IntsIn w A n zs) (hb : Below w.heap.size w w') : IntsIn w' A n zs :=
  ⟨h.len, h.max, fun hn => by
    obtain ⟨b, off, rfl, hlt, hc⟩ := h.some hn
    exact ⟨b, off, rfl, Nat.lt_of_lt_of_le hlt hb.size, fun j hj => (hb.cell (p := ⟨b, off + j, none⟩) hlt).trans (hc j hj)⟩, h.wf⟩

/-- n texts stand at A. -/
structure StrsIn (w : World) (A : Option Addr) (n : Nat) (ss : List ByteArray) : Prop where
  len : ss.length = n
  max : n ≤ 9223372036854775807
  some : 0 < n → ∃ b off, A = .some ⟨b, off, none⟩ ∧ b < w.heap.size ∧ ∀ j, j < n → w.cell? ⟨b, off + j, none⟩ = .some (.string (ss.getD j ByteArray.empty))
  size : ∀ s ∈ ss, s.size ≤ 9223372036854775807

theorem StrsIn.below {w w' : World} {A : Option Addr} {n : Nat} {ss : List ByteArray} (h : StrsIn w A n ss) (hb : Below w.heap.size w w') : StrsIn w' A n ss :=
  ⟨h.len, h.max, fun hn => by
    obtain ⟨b, off, rfl, hlt, hc⟩ := h.some hn
    exact ⟨b, off, rfl, Nat.lt_of_lt_of_le hlt hb.size, fun j hj => (hb.cell (p := ⟨b, off + j, none⟩) hlt).trans (hc j hj)⟩, h.size⟩

section
variable {H : Type} {enc : TypeId × Value → H} {P : Program} {w : World} {t e : TypeId} {A : Option Addr} {n cp : Nat} {d : DataW H} {p : List MemPlace}
theorem ints_view (ht : P.underlying t = some (.slice e)) (he : P.underlying e = some (.int .i64)) (hc : P.cellsOf e = 1) (h : DataW.Trod enc P w 0 (fun _ => true) true t (.slice A n cp) d p) : ∃ zs, IntsIn w A n zs := by
  obtain ⟨fuel, hf⟩ := h
  rcases open_ints ht he hc hf with ⟨hcs, _⟩ | ⟨a, len', cap', zs, hcs, _, hl, hm, hz, _, hcell, hwz⟩
  · simp [Value.cells] at hcs
    obtain ⟨rfl, rfl, rfl⟩ := hcs
    exact ⟨[], rfl, by decide, fun h => absurd h (by decide), fun z hz => by cases hz⟩
  · simp [Value.cells] at hcs
    obtain ⟨rfl, rfl, rfl⟩ := hcs
    rw [if_pos rfl] at hz
    unfold maxLen at hm
    refine ⟨zs.take n, by simp; omega, by omega, fun hn => ?_, fun z hz' => hwz z (List.mem_of_mem_take hz')⟩
    obtain ⟨b, off, rfl, hcc⟩ := ints_at hcell (by omega)
    refine ⟨b, off, rfl, block_lt (hcc 0 (by omega)), fun j hj => ?_⟩
    rw [hcc j (by omega)]
    simp [List.getD, hj]
theorem strs_view (ht : P.underlying t = some (.slice e)) (he : P.underlying e = some .string) (hc : P.cellsOf e = 1) (h : DataW.Trod enc P w 0 (fun _ => true) true t (.slice A n cp) d p) : ∃ ss, StrsIn w A n ss := by
  obtain ⟨fuel, hf⟩ := h
  rcases open_strings ht he hc hf with ⟨hcs, _⟩ | ⟨a, len', cap', ss, hcs, _, hl, hm, hz, _, hcell, hwz⟩
  · simp [Value.cells] at hcs
    obtain ⟨rfl, rfl, rfl⟩ := hcs
    exact ⟨[], rfl, by decide, fun h => absurd h (by decide), fun z hz => by cases hz⟩
  · simp [Value.cells] at hcs
    obtain ⟨rfl, rfl, rfl⟩ := hcs
    rw [if_pos rfl] at hz
    unfold maxLen at hm
    refine ⟨ss.take n, by simp; omega, by omega, fun hn => ?_, fun z hz' => by have := hwz z (List.mem_of_mem_take hz'); unfold maxLen at this; omega⟩
    obtain ⟨b, off, spot⟩ := a
    have hspot : spot = none := by simpa [Addr.add] using World.cell?_spot (hcell 0 (by omega))
    subst hspot
    have hcc : ∀ j, j < ss.length → w.cell? ⟨b, off + j, none⟩ = some (.string (ss.getD j ByteArray.empty)) := fun j hj => by rw [← Go.WideShapes.add_plain]; exact hcell j hj
    refine ⟨b, off, rfl, block_lt (hcc 0 (by omega)), fun j hj => ?_⟩
    rw [hcc j (by omega)]
    simp [List.getD, hj]
/-- Numbers that came in lie within the reach. -/
theorem ints_size (ht : P.underlying t = some (.slice e)) (he : P.underlying e = some (.int .i64)) (hc : P.cellsOf e = 1) (h : DataW.Trod enc P w 0 (fun _ => true) true t (.slice A n cp) d p)
    (hs : ∀ elems spare, d = .slice elems spare → (elems.length + spare.length) * 8 ≤ reachBytes) : n ≤ 17592186043904 := by
  obtain ⟨fuel, hf⟩ := h
  rcases open_ints ht he hc hf with ⟨hcs, _⟩ | ⟨a, len', cap', zs, hcs, _, hl, hm, hz, hx, _, _⟩
  · simp [Value.cells] at hcs
    omega
  · simp [Value.cells] at hcs
    obtain ⟨rfl, rfl, rfl⟩ := hcs
    have := hs _ _ (congrArg Prod.fst hx)
    rw [if_pos rfl] at hz
    simp only [lits, List.length_map, List.length_take, List.length_drop] at this
    unfold reachBytes at this
    omega
end
end Go.Proofs.YtcbgflidlpmhcaaGreatDoor

namespace Go.Proofs.YtcbgflidlpmhcaaGreatDoor
open Go.RowKit

/-- Is no time of xs above that of ys? -/
def leqL (xs ys : List Int) : Bool := decide (xs.length = ys.length ∧ ∀ j, j < xs.length → xs.getD j 0 ≤ ys.getD j 0)

theorem IntsIn.drewN {w : World} {A : Option Addr} {n : Nat} {zs : List Int} (h : IntsIn w A n zs) (q : Nat) : IntsIn (w.drewN q) A n zs := ⟨h.len, h.max, h.some, h.wf⟩
theorem drewN_zero (w : World) : w = w.drewN 0 := rfl
theorem drewN_more {w w1 : World} {q : Nat} (h : w1 = w.drewN q) (p : Nat) : ∃ r, w1.drewN p = w.drewN r := ⟨q + p, by rw [h, World.drewN_drewN]⟩

theorem list_ext_getD {xs ys : List Int} (h : xs.length = ys.length) (he : ∀ j, j < xs.length → xs.getD j 0 = ys.getD j 0) : xs = ys := by
  refine List.ext_getElem h fun j h1 h2 => ?_
  have := he j h1
  rwa [List.getD_eq_getElem?_getD, List.getD_eq_getElem?_getD, List.getElem?_eq_getElem h1, List.getElem?_eq_getElem h2] at this

/-- Is it a vector? -/
def validL (xs : List Int) : Bool := decide ((1 ≤ xs.length ∧ xs.length ≤ 8) ∧ ∀ j, j < xs.length → 0 ≤ xs.getD j 0 ∧ xs.getD j 0 < 281474976710656)

end Go.Proofs.YtcbgflidlpmhcaaGreatDoor

namespace Go.Proofs.YtcbgflidlpmhcaaGreatDoor
open Go.RowKit

theorem i64info : (Tryz.prog.info? 3).map (fun i => (i.zero, i.size, i.bytes)) = some (some (.int .i64 0), 1, 8) := by kernel_rfl

/-- v is a slice of the call's own (its block from B on) that holds the numbers zs. -/
def Nums (w : World) (B : Nat) (e : TypeId) (v : Value) (zs : List Int) : Prop := w.ownsRow B e 1 v zs.length (zs.map (Value.int .i64))

section
variable {w w' : World} {B : Nat} {e : TypeId} {v : Value} {zs : List Int}
theorem Nums.drewN (h : Nums w B e v zs) (n : Nat) : Nums (w.drewN n) B e v zs := h
theorem Nums.drew (h : Nums w B e v zs) : Nums w.drew B e v zs := h
theorem Nums.alloc (h : Nums w B e v zs) (o : Obj) : Nums (w.alloc o) B e v zs := World.ownsRow.alloc h o
theorem Nums.low (h : Nums w B e v zs) {B' : Nat} (hB : B' ≤ B) : Nums w B' e v zs := by
  refine ⟨h.1, ?_⟩
  rcases h.2 with hn | ⟨g, cap, cur, hv, hb, r⟩
  · exact Or.inl hn
  · exact Or.inr ⟨g, cap, cur, hv, Nat.le_trans hB hb, r⟩
theorem Nums.below (h : Nums w B e v zs) {B' : Nat} (hb : Below B' w w') (hB : w.heap.size ≤ B') : Nums w' B e v zs := by
  refine ⟨h.1, ?_⟩
  rcases h.2 with hn | ⟨g, cap, cur, hv, hg, hh, r⟩
  · exact Or.inl hn
  · exact Or.inr ⟨g, cap, cur, hv, hg, (hb.block g (Nat.lt_of_lt_of_le (Array.getElem?_eq_some_iff.1 hh).1 hB)).trans hh, r⟩
/-- As a slice that is read. -/
theorem Nums.ints (h : Nums w B e v zs) (hwf : ∀ z ∈ zs, (Lit.int .i64 z).wf = true) : ∃ A cp, v = .slice A zs.length cp ∧ IntsIn w A zs.length zs ∧ (0 < zs.length → ∃ g, A = some ⟨g, 0, none⟩ ∧ B ≤ g) := by
  rcases h.2 with ⟨rfl, hn⟩ | ⟨g, cap, cur, rfl, hb, hg, hc, hm, hs, ht⟩
  · exact ⟨none, 0, by rw [hn], ⟨rfl, by omega, fun h => by omega, hwf⟩, fun h => by omega⟩
  · refine ⟨some ⟨g, 0, none⟩, cap, rfl, ⟨rfl, by unfold maxLen at hm; omega, fun hn => ⟨g, 0, rfl, (Array.getElem?_eq_some_iff.1 hg).1, fun j hj => ?_⟩, hwf⟩, fun _ => ⟨g, rfl, hb⟩⟩
    have := World.ownsRow.cellAt (g := g) (cap := cap) h j (by omega)
    rw [Nat.zero_add, this]
    simp [List.getD, hj]
end

theorem wf_getD {zs : List Int} (h : ∀ z ∈ zs, (Lit.int .i64 z).wf = true) {j : Nat} (hj : j < zs.length) : (Lit.int .i64 (zs.getD j 0)).wf = true := by
  rw [List.getD_eq_getElem?_getD, List.getElem?_eq_getElem hj]
  exact h _ (List.getElem_mem _)

end Go.Proofs.YtcbgflidlpmhcaaGreatDoor
