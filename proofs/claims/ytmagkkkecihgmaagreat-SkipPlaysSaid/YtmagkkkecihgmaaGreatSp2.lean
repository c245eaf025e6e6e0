/-
  Package skip, part 2: how a list lies in memory; what a call may turn.
-/
import Derived.Test.YtmagkkkecihgmaaGreatSp1
namespace Go.Proofs.YtmagkkkecihgmaaGreat
open Go.RowKit

/-! ### What a call may turn -/
/-- What has turned: such blocks as S says, and none else; new blocks are free. -/
structure Tu (S : Nat → Prop) (w w' : World) : Prop where
  os : w'.os = w.os
  tape : w'.tape = w.tape
  output : w'.output = w.output
  size : w.heap.size ≤ w'.heap.size
  block : ∀ k, k < w.heap.size → ¬ S k → w'.heap[k]? = w.heap[k]?
section
variable {S : Nat → Prop} {w w' w'' : World}
theorem Tu.refl (S : Nat → Prop) (w : World) : Tu S w w := ⟨rfl, rfl, rfl, Nat.le_refl _, fun _ _ _ => rfl⟩
theorem Tu.trans (h : Tu S w w') (g : Tu S w' w'') : Tu S w w'' := ⟨g.os.trans h.os, g.tape.trans h.tape, g.output.trans h.output, Nat.le_trans h.size g.size, fun k hk ho => (g.block k (Nat.lt_of_lt_of_le hk h.size) ho).trans (h.block k hk ho)⟩
theorem Tu.of_grown (h : w.grownBy w' none) : Tu S w w' := ⟨h.os, h.tape, h.output, h.size, fun k hk _ => h.block k hk (by simp)⟩
theorem Tu.mono {S' : Nat → Prop} (h : Tu S w w') (hS : ∀ k, k < w.heap.size → S k → S' k) : Tu S' w w' := ⟨h.os, h.tape, h.output, h.size, fun k hk ho => h.block k hk (fun s => ho (hS k hk s))⟩
theorem Tu.alloc (h : Tu S w w') (o : Obj) : Tu S w (w'.alloc o) := h.trans (Tu.of_grown (World.grownBy_alloc w' o none))
theorem Tu.drewN (h : Tu S w w') (n : Nat) : Tu S w (w'.drewN n) := ⟨h.os, h.tape, h.output, h.size, h.block⟩
theorem Tu.setCell (h : Tu S w w') {p : Addr} (hp : w.heap.size ≤ p.block ∨ S p.block) (u : Value) : Tu S w (w'.setCell p u) :=
  ⟨h.os, h.tape, h.output, by simpa [World.setCell] using h.size, fun k hk ho => (Below.heap_setCell w' p u k (by
    rintro rfl
    rcases hp with hp | hp
    · omega
    · exact ho hp)).trans (h.block k hk ho)⟩
theorem Tu.blk (h : Tu S w w') {g : Nat} {t : TypeId} {cs : Array Value} (hb : Blk w g t cs) (hS : ¬ S g) : Blk w' g t cs := (h.block g hb.lt hS).trans hb
theorem Tu.below (h : Tu S w w') {B : Nat} (hB : B ≤ w.heap.size) (hS : ∀ k, S k → B ≤ k) : Below B w w' := ⟨h.os, h.tape, h.output, h.size, fun k hk => h.block k (by omega) (fun s => by have := hS k s; omega)⟩
theorem Tu.tn (h : Tu S w w') {B : Nat} {T : Obj → Bool} (hS : ∀ k, S k → k < w.heap.size → B ≤ k ∧ ∃ o, w.heap[k]? = some o ∧ T o = true) : Tn B T w w' :=
  ⟨h.os, h.tape, h.output, h.size, fun k o hk ho => by
    have hlt := (Array.getElem?_eq_some_iff.1 hk).1
    refine (h.block k hlt (fun s => ?_)).trans hk
    obtain ⟨h1, o', h2, h3⟩ := hS k s hlt
    rw [hk] at h2
    cases h2
    rcases ho with ho | ho
    · omega
    · rw [h3] at ho; cases ho⟩
end

/-! ### Pairs and the head -/
theorem set_at {cs : Array Value} {i j : Nat} {u : Value} (hi : i < cs.size) : (cs.setIfInBounds i u)[j]? = if j = i then some u else cs[j]? := by
  rw [Array.getElem?_setIfInBounds]
  by_cases e : i = j
  · subst e
    rw [if_pos rfl, if_pos hi, if_pos rfl]
  · rw [if_neg e, if_neg (fun h => e h.symm)]
/-- A pair lies in block a. -/
def NdAt (w : World) (a : Nat) (k v : ByteArray) (lp : Nat → Option Addr) : Prop :=
  ∃ cs, Blk w a 33 cs ∧ cs.size = 14 ∧ cs[0]? = some (.string k) ∧ cs[1]? = some (.string v) ∧ ∀ h, h < 12 → cs[2 + h]? = some (.pointer (lp h))
/-- A list's own block. -/
def HdAt (w : World) (p : Nat) (lp : Nat → Option Addr) (cnt : Nat → Int) (by_ : Int) (fz : Bool) : Prop :=
  ∃ cs, Blk w p 36 cs ∧ cs.size = 28 ∧ cs[0]? = some (.string ⟨#[]⟩) ∧ cs[1]? = some (.string ⟨#[]⟩) ∧ (∀ h, h < 12 → cs[2 + h]? = some (.pointer (lp h))) ∧ (∀ h, h < 12 → cs[14 + h]? = some (.int .i64 (cnt h))) ∧ cs[26]? = some (.int .i64 by_) ∧ cs[27]? = some (.bool fz)
section
variable {w w' : World} {a p : Nat} {k v : ByteArray} {lp : Nat → Option Addr} {cnt : Nat → Int} {by_ : Int} {fz : Bool}
theorem NdAt.lt (h : NdAt w a k v lp) : a < w.heap.size := by obtain ⟨cs, h1, _⟩ := h; exact h1.lt
theorem HdAt.lt (h : HdAt w p lp cnt by_ fz) : p < w.heap.size := by obtain ⟨cs, h1, _⟩ := h; exact h1.lt
theorem NdAt.ne_ {lp' : Nat → Option Addr} (h : NdAt w a k v lp) (h' : HdAt w p lp' cnt by_ fz) : a ≠ p := by
  obtain ⟨cs, h1, _⟩ := h
  obtain ⟨cs', h2, _⟩ := h'
  exact h1.ne_ h2 (by decide)
theorem NdAt.ty (h : NdAt w a k v lp) : ∃ cs, Blk w a 33 cs := by obtain ⟨cs, h1, _⟩ := h; exact ⟨cs, h1⟩
theorem HdAt.ty (h : HdAt w p lp cnt by_ fz) : ∃ cs, Blk w p 36 cs := by obtain ⟨cs, h1, _⟩ := h; exact ⟨cs, h1⟩
theorem NdAt.key (h : NdAt w a k v lp) : w.cell? ⟨a, 0, none⟩ = some (.string k) := by obtain ⟨cs, h1, h2, h3, h4, h5⟩ := h; rw [h1.cell]; exact h3
theorem NdAt.val (h : NdAt w a k v lp) : w.cell? ⟨a, 1, none⟩ = some (.string v) := by obtain ⟨cs, h1, h2, h3, h4, h5⟩ := h; rw [h1.cell]; exact h4
theorem NdAt.link (h : NdAt w a k v lp) {t : Nat} (ht : t < 12) : w.cell? ⟨a, 2 + t, none⟩ = some (.pointer (lp t)) := by obtain ⟨cs, h1, h2, h3, h4, h5⟩ := h; rw [h1.cell]; exact h5 t ht
theorem NdAt.frozen (h : NdAt w a k v lp) (i : Nat) : w.frozen? ⟨a, i, none⟩ = false := by obtain ⟨cs, h1, _⟩ := h; exact h1.frozen i
theorem HdAt.key (h : HdAt w p lp cnt by_ fz) : w.cell? ⟨p, 0, none⟩ = some (.string ⟨#[]⟩) := by obtain ⟨cs, h1, h2, h3, h4, h5, h6, h7, h8⟩ := h; rw [h1.cell]; exact h3
theorem HdAt.val (h : HdAt w p lp cnt by_ fz) : w.cell? ⟨p, 1, none⟩ = some (.string ⟨#[]⟩) := by obtain ⟨cs, h1, h2, h3, h4, h5, h6, h7, h8⟩ := h; rw [h1.cell]; exact h4
theorem HdAt.link (h : HdAt w p lp cnt by_ fz) {t : Nat} (ht : t < 12) : w.cell? ⟨p, 2 + t, none⟩ = some (.pointer (lp t)) := by obtain ⟨cs, h1, h2, h3, h4, h5, h6, h7, h8⟩ := h; rw [h1.cell]; exact h5 t ht
theorem HdAt.count (h : HdAt w p lp cnt by_ fz) {t : Nat} (ht : t < 12) : w.cell? ⟨p, 14 + t, none⟩ = some (.int .i64 (cnt t)) := by obtain ⟨cs, h1, h2, h3, h4, h5, h6, h7, h8⟩ := h; rw [h1.cell]; exact h6 t ht
theorem HdAt.bytes (h : HdAt w p lp cnt by_ fz) : w.cell? ⟨p, 26, none⟩ = some (.int .i64 by_) := by obtain ⟨cs, h1, h2, h3, h4, h5, h6, h7, h8⟩ := h; rw [h1.cell]; exact h7
theorem HdAt.froz (h : HdAt w p lp cnt by_ fz) : w.cell? ⟨p, 27, none⟩ = some (.bool fz) := by obtain ⟨cs, h1, h2, h3, h4, h5, h6, h7, h8⟩ := h; rw [h1.cell]; exact h8
theorem HdAt.frozen (h : HdAt w p lp cnt by_ fz) (i : Nat) : w.frozen? ⟨p, i, none⟩ = false := by obtain ⟨cs, h1, _⟩ := h; exact h1.frozen i
theorem NdAt.far (h : NdAt w a k v lp) {q : Addr} (hq : a ≠ q.block) (u : Value) : NdAt (w.setCell q u) a k v lp := by obtain ⟨cs, h1, h2⟩ := h; exact ⟨cs, h1.far hq u, h2⟩
theorem HdAt.far (h : HdAt w p lp cnt by_ fz) {q : Addr} (hq : p ≠ q.block) (u : Value) : HdAt (w.setCell q u) p lp cnt by_ fz := by obtain ⟨cs, h1, h2⟩ := h; exact ⟨cs, h1.far hq u, h2⟩
theorem NdAt.tu {S : Nat → Prop} (h : NdAt w a k v lp) (g : Tu S w w') (hS : ¬ S a) : NdAt w' a k v lp := by obtain ⟨cs, h1, h2⟩ := h; exact ⟨cs, g.blk h1 hS, h2⟩
theorem HdAt.tu {S : Nat → Prop} (h : HdAt w p lp cnt by_ fz) (g : Tu S w w') (hS : ¬ S p) : HdAt w' p lp cnt by_ fz := by obtain ⟨cs, h1, h2⟩ := h; exact ⟨cs, g.blk h1 hS, h2⟩
theorem NdAt.set_ (h : NdAt w a k v lp) {t : Nat} (ht : t < 12) (u : Option Addr) : NdAt (w.setCell ⟨a, 2 + t, none⟩ (.pointer u)) a k v (fun h => if h = t then u else lp h) := by
  obtain ⟨cs, h1, h2, h3, h4, h5⟩ := h
  refine ⟨_, h1.set_ _ _, by rw [Array.size_setIfInBounds]; exact h2, ?_, ?_, fun h hh => ?_⟩
  · rw [set_at (by omega), if_neg (by omega)]; exact h3
  · rw [set_at (by omega), if_neg (by omega)]; exact h4
  · rw [set_at (by omega)]
    dsimp only
    by_cases e : h = t
    · rw [if_pos (by omega), if_pos e]
    · rw [if_neg (by omega), if_neg e]; exact h5 h hh
theorem HdAt.setL (h : HdAt w p lp cnt by_ fz) {t : Nat} (ht : t < 12) (u : Option Addr) : HdAt (w.setCell ⟨p, 2 + t, none⟩ (.pointer u)) p (fun h => if h = t then u else lp h) cnt by_ fz := by
  obtain ⟨cs, h1, h2, h3, h4, h5, h6, h7, h8⟩ := h
  refine ⟨_, h1.set_ _ _, by rw [Array.size_setIfInBounds]; exact h2, ?_, ?_, fun h hh => ?_, fun h hh => ?_, ?_, ?_⟩
  · rw [set_at (by omega), if_neg (by omega)]; exact h3
  · rw [set_at (by omega), if_neg (by omega)]; exact h4
  · rw [set_at (by omega)]
    dsimp only
    by_cases e : h = t
    · rw [if_pos (by omega), if_pos e]
    · rw [if_neg (by omega), if_neg e]; exact h5 h hh
  · rw [set_at (by omega), if_neg (by omega)]; exact h6 h hh
  · rw [set_at (by omega), if_neg (by omega)]; exact h7
  · rw [set_at (by omega), if_neg (by omega)]; exact h8
theorem HdAt.setC (h : HdAt w p lp cnt by_ fz) {t : Nat} (ht : t < 12) (c : Int) : HdAt (w.setCell ⟨p, 14 + t, none⟩ (.int .i64 c)) p lp (fun h => if h = t then c else cnt h) by_ fz := by
  obtain ⟨cs, h1, h2, h3, h4, h5, h6, h7, h8⟩ := h
  refine ⟨_, h1.set_ _ _, by rw [Array.size_setIfInBounds]; exact h2, ?_, ?_, fun h hh => ?_, fun h hh => ?_, ?_, ?_⟩
  · rw [set_at (by omega), if_neg (by omega)]; exact h3
  · rw [set_at (by omega), if_neg (by omega)]; exact h4
  · rw [set_at (by omega), if_neg (by omega)]; exact h5 h hh
  · rw [set_at (by omega)]
    dsimp only
    by_cases e : h = t
    · rw [if_pos (by omega), if_pos e]
    · rw [if_neg (by omega), if_neg e]; exact h6 h hh
  · rw [set_at (by omega), if_neg (by omega)]; exact h7
  · rw [set_at (by omega), if_neg (by omega)]; exact h8
theorem HdAt.setB (h : HdAt w p lp cnt by_ fz) (c : Int) : HdAt (w.setCell ⟨p, 26, none⟩ (.int .i64 c)) p lp cnt c fz := by
  obtain ⟨cs, h1, h2, h3, h4, h5, h6, h7, h8⟩ := h
  refine ⟨_, h1.set_ _ _, by rw [Array.size_setIfInBounds]; exact h2, ?_, ?_, fun h hh => ?_, fun h hh => ?_, ?_, ?_⟩
  · rw [set_at (by omega), if_neg (by omega)]; exact h3
  · rw [set_at (by omega), if_neg (by omega)]; exact h4
  · rw [set_at (by omega), if_neg (by omega)]; exact h5 h hh
  · rw [set_at (by omega), if_neg (by omega)]; exact h6 h hh
  · rw [set_at (by omega), if_pos rfl]
  · rw [set_at (by omega), if_neg (by omega)]; exact h8
theorem HdAt.setF (h : HdAt w p lp cnt by_ fz) (c : Bool) : HdAt (w.setCell ⟨p, 27, none⟩ (.bool c)) p lp cnt by_ c := by
  obtain ⟨cs, h1, h2, h3, h4, h5, h6, h7, h8⟩ := h
  refine ⟨_, h1.set_ _ _, by rw [Array.size_setIfInBounds]; exact h2, ?_, ?_, fun h hh => ?_, fun h hh => ?_, ?_, ?_⟩
  · rw [set_at (by omega), if_neg (by omega)]; exact h3
  · rw [set_at (by omega), if_neg (by omega)]; exact h4
  · rw [set_at (by omega), if_neg (by omega)]; exact h5 h hh
  · rw [set_at (by omega), if_neg (by omega)]; exact h6 h hh
  · rw [set_at (by omega), if_neg (by omega)]; exact h7
  · rw [set_at (by omega), if_pos rfl]
theorem NdAt.eq_ (h : NdAt w a k v lp) {lp' : Nat → Option Addr} (e : ∀ t, t < 12 → lp' t = lp t) : NdAt w a k v lp' := by
  obtain ⟨cs, h1, h2, h3, h4, h5⟩ := h
  exact ⟨cs, h1, h2, h3, h4, fun t ht => by rw [e t ht]; exact h5 t ht⟩
theorem HdAt.eq_ (h : HdAt w p lp cnt by_ fz) {lp' : Nat → Option Addr} {cnt' : Nat → Int} (e : ∀ t, t < 12 → lp' t = lp t) (e' : ∀ t, t < 12 → cnt' t = cnt t) : HdAt w p lp' cnt' by_ fz := by
  obtain ⟨cs, h1, h2, h3, h4, h5, h6, h7⟩ := h
  exact ⟨cs, h1, h2, h3, h4, fun t ht => by rw [e t ht]; exact h5 t ht, fun t ht => by rw [e' t ht]; exact h6 t ht, h7⟩
end

/-- The block of the pair at place k (0: the head). -/
def padr (p : Nat) (Z : List Z10) (k : Nat) : Nat := if k = 0 then p else ((Z[k - 1]?).map Prod.fst).getD 0
theorem padr_zero (p : Nat) (Z : List Z10) : padr p Z 0 = p := rfl
theorem padr_succ {p : Nat} {Z : List Z10} {i : Nat} {m : Z10} (h : Z[i]? = some m) : padr p Z (i + 1) = m.1 := by
  unfold padr
  rw [if_neg (by omega), Nat.add_sub_cancel, h]
  rfl
/-- The blocks of a list. -/
def Foot (p : Nat) (Z : List Z10) (k : Nat) : Prop := k = p ∨ ∃ m ∈ Z, m.1 = k
theorem Foot.at_ {p : Nat} {Z : List Z10} {k : Nat} (hk : k ≤ Z.length) : Foot p Z (padr p Z k) := by
  rcases k with _ | k
  · exact Or.inl rfl
  · obtain ⟨m, hm⟩ : ∃ m, Z[k]? = some m := ⟨_, List.getElem?_eq_getElem (by omega)⟩
    rw [padr_succ hm]
    exact Or.inr ⟨m, List.mem_of_getElem? hm, rfl⟩

/-- A list lies behind p, its pairs with such links. -/
structure SpAt (B p : Nat) (w : World) (Z : List Z10) (lp : Nat → Nat → Option Addr) (cnt : Nat → Int) (by_ : Int) (fz : Bool) : Prop where
  hd : HdAt w p (lp 0) cnt by_ fz
  nd : ∀ (i : Nat) (m : Z10), Z[i]? = some m → NdAt w m.1 m.2.1 m.2.2.1 (lp (i + 1))
  low : B ≤ p ∧ ∀ m ∈ Z, B ≤ m.1
  apart : ∀ (i j : Nat) (m n : Z10), Z[i]? = some m → Z[j]? = some n → m.1 = n.1 → i = j
section
variable {B p : Nat} {w w' : World} {Z : List Z10} {lp : Nat → Nat → Option Addr} {cnt : Nat → Int} {by_ : Int} {fz : Bool}
theorem SpAt.tu {S : Nat → Prop} (h : SpAt B p w Z lp cnt by_ fz) (g : Tu S w w') (hS : ∀ k, Foot p Z k → ¬ S k) : SpAt B p w' Z lp cnt by_ fz :=
  ⟨h.hd.tu g (hS _ (Or.inl rfl)), fun i m hm => (h.nd i m hm).tu g (hS _ (Or.inr ⟨m, List.mem_of_getElem? hm, rfl⟩)), h.low, h.apart⟩
theorem SpAt.up (h : SpAt B p w Z lp cnt by_ fz) (g : w.grownBy w' none) : SpAt B p w' Z lp cnt by_ fz := h.tu (S := fun _ => False) (Tu.of_grown g) (fun _ _ h => h)
theorem SpAt.foot_lt (h : SpAt B p w Z lp cnt by_ fz) {k : Nat} (hk : Foot p Z k) : B ≤ k ∧ k < w.heap.size := by
  rcases hk with rfl | ⟨m, hm, rfl⟩
  · exact ⟨h.low.1, h.hd.lt⟩
  · obtain ⟨i, hi⟩ := List.mem_iff_getElem?.1 hm
    exact ⟨h.low.2 m hm, (h.nd i m hi).lt⟩
theorem SpAt.link (h : SpAt B p w Z lp cnt by_ fz) {k t : Nat} (hk : k ≤ Z.length) (ht : t < 12) : w.cell? ⟨padr p Z k, 2 + t, none⟩ = some (.pointer (lp k t)) := by
  rcases k with _ | k
  · exact h.hd.link ht
  · obtain ⟨m, hm⟩ : ∃ m, Z[k]? = some m := ⟨_, List.getElem?_eq_getElem (by omega)⟩
    rw [padr_succ hm]
    exact (h.nd k m hm).link ht
theorem SpAt.frozen (h : SpAt B p w Z lp cnt by_ fz) {k : Nat} (hk : k ≤ Z.length) (i : Nat) : w.frozen? ⟨padr p Z k, i, none⟩ = false := by
  rcases k with _ | k
  · exact h.hd.frozen i
  · obtain ⟨m, hm⟩ : ∃ m, Z[k]? = some m := ⟨_, List.getElem?_eq_getElem (by omega)⟩
    rw [padr_succ hm]
    exact (h.nd k m hm).frozen i
theorem SpAt.inj (h : SpAt B p w Z lp cnt by_ fz) {k j : Nat} (hk : k ≤ Z.length) (hj : j ≤ Z.length) (e : padr p Z k = padr p Z j) : k = j := by
  rcases k with _ | k
  · rcases j with _ | j
    · rfl
    · obtain ⟨m, hm⟩ : ∃ m, Z[j]? = some m := ⟨_, List.getElem?_eq_getElem (by omega)⟩
      rw [padr_succ hm] at e
      exact absurd e.symm ((h.nd j m hm).ne_ h.hd)
  · obtain ⟨m, hm⟩ : ∃ m, Z[k]? = some m := ⟨_, List.getElem?_eq_getElem (by omega)⟩
    rw [padr_succ hm] at e
    rcases j with _ | j
    · exact absurd e ((h.nd k m hm).ne_ h.hd)
    · obtain ⟨n, hn⟩ : ∃ n, Z[j]? = some n := ⟨_, List.getElem?_eq_getElem (by omega)⟩
      rw [padr_succ hn] at e
      rw [h.apart k j m n hm hn e]
theorem SpAt.setL (h : SpAt B p w Z lp cnt by_ fz) {k t : Nat} (hk : k ≤ Z.length) (ht : t < 12) (u : Option Addr) : SpAt B p (w.setCell ⟨padr p Z k, 2 + t, none⟩ (.pointer u)) Z (fun k' h => if k' = k ∧ h = t then u else lp k' h) cnt by_ fz := by
  refine ⟨?_, fun i m hm => ?_, h.low, h.apart⟩
  · rcases k with _ | k
    · exact (h.hd.setL ht u).eq_ (fun t' _ => by simp) (fun _ _ => rfl)
    · refine (h.hd.far (q := ⟨padr p Z (k + 1), 2 + t, none⟩) (fun e => ?_) _).eq_ (fun t' _ => by simp) (fun _ _ => rfl)
      have := h.inj (k := 0) (j := k + 1) (by omega) hk e
      omega
  · have hlt := (List.getElem?_eq_some_iff.1 hm).1
    by_cases e : k = i + 1
    · subst e
      rw [padr_succ hm]
      exact ((h.nd i m hm).set_ ht u).eq_ (fun t' _ => by simp)
    · refine ((h.nd i m hm).far (q := ⟨padr p Z k, 2 + t, none⟩) (fun e2 => ?_) _).eq_ (fun t' _ => by rw [if_neg (fun hh => e hh.1.symm)])
      exact e (h.inj (k := k) (j := i + 1) hk (by omega) (by rw [padr_succ hm]; exact e2.symm))
theorem SpAt.setC (h : SpAt B p w Z lp cnt by_ fz) {t : Nat} (ht : t < 12) (c : Int) : SpAt B p (w.setCell ⟨p, 14 + t, none⟩ (.int .i64 c)) Z lp (fun h => if h = t then c else cnt h) by_ fz :=
  ⟨h.hd.setC ht c, fun i m hm => (h.nd i m hm).far (q := ⟨p, 14 + t, none⟩) ((h.nd i m hm).ne_ h.hd) _, h.low, h.apart⟩
theorem SpAt.setB (h : SpAt B p w Z lp cnt by_ fz) (c : Int) : SpAt B p (w.setCell ⟨p, 26, none⟩ (.int .i64 c)) Z lp cnt c fz :=
  ⟨h.hd.setB c, fun i m hm => (h.nd i m hm).far (q := ⟨p, 26, none⟩) ((h.nd i m hm).ne_ h.hd) _, h.low, h.apart⟩
theorem SpAt.setF (h : SpAt B p w Z lp cnt by_ fz) (c : Bool) : SpAt B p (w.setCell ⟨p, 27, none⟩ (.bool c)) Z lp cnt by_ c :=
  ⟨h.hd.setF c, fun i m hm => (h.nd i m hm).far (q := ⟨p, 27, none⟩) ((h.nd i m hm).ne_ h.hd) _, h.low, h.apart⟩
theorem SpAt.far (h : SpAt B p w Z lp cnt by_ fz) {q : Addr} (hq : ¬ Foot p Z q.block) (u : Value) : SpAt B p (w.setCell q u) Z lp cnt by_ fz :=
  ⟨h.hd.far (fun e => hq (Or.inl e.symm)) u, fun i m hm => (h.nd i m hm).far (fun e => hq (Or.inr ⟨m, List.mem_of_getElem? hm, e⟩)) u, h.low, h.apart⟩
theorem SpAt.eq_ (h : SpAt B p w Z lp cnt by_ fz) {lp' : Nat → Nat → Option Addr} {cnt' : Nat → Int} (e : ∀ k t, t < 12 → lp' k t = lp k t) (e' : ∀ t, t < 12 → cnt' t = cnt t) : SpAt B p w Z lp' cnt' by_ fz :=
  ⟨h.hd.eq_ (e 0) e', fun i m hm => (h.nd i m hm).eq_ (e (i + 1)), h.low, h.apart⟩
end

/-- The list s of package skip lies behind p, its pairs in the blocks that Z tells. -/
structure SkZ (B p : Nat) (w : World) (s : S10) (Z : List Z10) : Prop where
  map : Z.map Prod.snd = s.L
  at_ : SpAt B p w Z (lnk Z) (fun h => (cntL s.L h : Int)) (bytesL s.L : Int) s.frozen
  rise : Rising s.L
  ok : ∀ m ∈ s.L, m.1.size ≤ 65536 ∧ m.2.1.size ≤ 65536 ∧ 1 ≤ m.2.2 ∧ m.2.2 ≤ 12
theorem SkZ.len {B p : Nat} {w : World} {s : S10} {Z : List Z10} (h : SkZ B p w s Z) : Z.length = s.L.length := by rw [← h.map, List.length_map]
theorem SkZ.tu {B p : Nat} {w w' : World} {s : S10} {Z : List Z10} {S : Nat → Prop} (h : SkZ B p w s Z) (g : Tu S w w') (hS : ∀ k, Foot p Z k → ¬ S k) : SkZ B p w' s Z := ⟨h.map, h.at_.tu g hS, h.rise, h.ok⟩
theorem SkZ.up {B p : Nat} {w w' : World} {s : S10} {Z : List Z10} (h : SkZ B p w s Z) (g : w.grownBy w' none) : SkZ B p w' s Z := ⟨h.map, h.at_.up g, h.rise, h.ok⟩
theorem SkZ.at_L {B p : Nat} {w : World} {s : S10} {Z : List Z10} (h : SkZ B p w s Z) {i : Nat} {m : Z10} (hm : Z[i]? = some m) : s.L[i]? = some m.2 := by rw [← h.map, List.getElem?_map, hm]; rfl
end Go.Proofs.YtmagkkkecihgmaaGreat
