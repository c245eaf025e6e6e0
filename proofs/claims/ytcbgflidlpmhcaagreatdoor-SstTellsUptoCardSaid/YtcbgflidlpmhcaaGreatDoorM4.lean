/-
  Several texts in one: The book of lists, of any kind: rows of lists; an element stored. No program is named.
  The book of lists, of any kind: what is kept; one more. No program is named.
  A list of pairs of texts, as it can be read in a world. No program is named.
  Tables, as plain values, 5: the blocks as Write cuts them, one behind the other (no program is named).
  Walks over package raw: Quote.
  Walks over package raw: what stands in quotes is read.
  Walks over package raw: Get, Number.
  Chapter 11, plain: bytes read pair by pair, just as Build lays them. No program is named.
  Tables, as plain values, 6: of keys that rise, those with one head stand side by side (no program is named).
  Tables, as plain values, 7: the bytes of a table; what Open reads of any bytes (no program is named).
  Tables, as plain values, 8: where a key's head ends; the place of a key among pairs (no program is named).
  The landed package block: common, fixed, must.
  The landed package block: what its reader takes: bytes, a number.
  strings.Builder: a byte and a text more, at this program.
  strings.Builder, one that was read before: a text more, at this program.
  The landed package block: lay.
  The landed package block: Build.
  The book of lists, Keys: marks, copies, are two alike? (Written by wip/gen/gen_bk.py.)
-/
import Derived.Test.YtcbgflidlpmhcaaGreatDoorM2
import Derived.Test.YtcbgflidlpmhcaaGreatDoorM3
import Derived.Test.YtcbgflidlpmhcaaGreatDoorRows
import Derived.Test.YtcbgflidlpmhcaaGreatDoorM1
import Derived.Deep.RegionLaw
import Derived.Lib.Strings
import Derived.Lib.SlicesCompact
import Derived.Lib.Index
import Derived.BigQuiet
import Derived.Lib.Builder
import Derived.Lib.FrozenHead
import Derived.LoopTactic
import Derived.Deep.RegionHeld3
import Derived.Deep.Cut
import Derived.DeepKeys
namespace Go.Proofs.YtcbgflidlpmhcaaGreatDoor
open Go.RowKit

/-- One of a row of lists. -/
theorem srow_at {w : World} {B m : Nat} {te : TypeId} {v : Value} {a : Nat → Value} (h : w.ownsRow B te 1 v m ((List.range m).map a)) {k : Nat} (hk : k < m) : ∃ g c, v = .slice (some ⟨g, 0, none⟩) m c ∧ B ≤ g ∧ g < w.heap.size ∧ w.cell? ⟨g, k, none⟩ = some (a k) := by
  rcases h.2 with ⟨_, h0⟩ | ⟨g, cap, cur, hv, hb, hh, _⟩
  · omega
  · subst hv
    refine ⟨g, cap, rfl, hb, (Array.getElem?_eq_some_iff.1 hh).1, ?_⟩
    have := World.ownsRow.cells h (g := g) rfl k (a k) (by rw [List.getElem?_map, List.getElem?_range hk]; rfl)
    rwa [Addr.add_lit, Nat.zero_add] at this
theorem srow_slice {w : World} {B m : Nat} {te : TypeId} {v : Value} {xs : List Value} (h : w.ownsRow B te 1 v m xs) : ∃ A c, v = .slice A m c := by
  rcases h.2 with ⟨rfl, h0⟩ | ⟨g, cap, cur, rfl, _⟩
  · exact ⟨none, 0, by rw [h0]⟩
  · exact ⟨_, _, rfl⟩

/-! ### Cells set one behind the other -/
def setAll : List Value → Nat → List Value → List Value
  | xs, _, [] => xs
  | xs, i, u :: us => setAll (xs.set i u) (i + 1) us
theorem setAll_split (us : List Value) : ∀ (pre mid post : List Value), mid.length = us.length → setAll (pre ++ mid ++ post) pre.length us = pre ++ us ++ post := by
  induction us with
  | nil => intro pre mid post h; have : mid = [] := List.eq_nil_of_length_eq_zero h; subst this; rfl
  | cons u us ih =>
    intro pre mid post h
    cases mid with
    | nil => simp at h
    | cons x mid =>
      have h1 := ih (pre ++ [u]) mid post (by simpa using h)
      have e : (pre ++ (x :: mid) ++ post).set pre.length u = pre ++ [u] ++ mid ++ post := by
        simp
      show setAll ((pre ++ (x :: mid) ++ post).set pre.length u) (pre.length + 1) us = _
      rw [e, show pre.length + 1 = (pre ++ [u]).length by simp, h1]
      simp
theorem El.row_set {α : Type} (E : El α) (L : List α) (j : Nat) (x : α) (hj : j < L.length) : E.row (L.set j x) = setAll (E.row L) (j * E.sz) (E.cl x) := by
  have h1 : L = L.take j ++ [L[j]] ++ L.drop (j + 1) := by
    have := List.take_append_drop j L
    rw [List.drop_eq_getElem_cons hj] at this
    rw [List.append_assoc]
    exact this.symm
  have h2 : L.set j x = L.take j ++ [x] ++ L.drop (j + 1) := by
    rw [List.set_eq_take_append_cons_drop, if_pos hj]
    simp
  have hl : (E.row (L.take j)).length = j * E.sz := by rw [E.row_length, List.length_take, Nat.min_eq_left (by omega)]
  have h3 := setAll_split (E.cl x) (E.row (L.take j)) (E.cl L[j]) (E.row (L.drop (j + 1))) (by rw [E.len, E.len])
  rw [hl] at h3
  rw [h2, E.row_append, E.row_append, E.row_one, ← h3]
  congr 1
  conv => rhs; rw [h1]
  rw [E.row_append, E.row_append, E.row_one]
def setCells : World → Nat → Nat → List Value → World
  | w, _, _, [] => w
  | w, g, i, u :: us => setCells (w.setCell ⟨g, i, none⟩ u) g (i + 1) us
theorem setCells_own {B : Nat} {e : TypeId} {sz g n c : Nat} (us : List Value) : ∀ (w : World) (i : Nat) (xs : List Value), w.ownsRow B e sz (.slice (some ⟨g, 0, none⟩) n c) n xs →
    (setCells w g i us).ownsRow B e sz (.slice (some ⟨g, 0, none⟩) n c) n (setAll xs i us) := by
  induction us with
  | nil => intro w i xs h; exact h
  | cons u us ih => intro w i xs h; exact ih _ _ _ (World.ownsRow.stored h i u).1
theorem setCells_grown {g : Nat} (us : List Value) : ∀ (w : World) (i : Nat), w.grownBy (setCells w g i us) (some g) := by
  induction us with
  | nil => intro w i; exact grefl w _
  | cons u us ih =>
    intro w i
    have h1 : w.grownBy (w.setCell ⟨g, i, none⟩ u) (some g) := only_setCell (grefl w _) (Or.inl rfl) u
    have h2 := ih (w.setCell ⟨g, i, none⟩ u) (i + 1)
    exact ⟨h2.os.trans h1.os, h2.tape.trans h1.tape, h2.output.trans h1.output, Nat.le_trans h1.size h2.size, fun k hk hne => (h2.block k (Nat.lt_of_lt_of_le hk h1.size) hne).trans (h1.block k hk hne)⟩

/-- One element stored into one of the rows. -/
theorem put_k {α : Type} {E : El α} {w : World} {B m k g n c j : Nat} {e : TypeId} {a : Nat → Value} {G : Nat → List α} {x : α} (hR : Rwk E w B e m a G) (hk : k < m) (hg : a k = .slice (some ⟨g, 0, none⟩) n c) (hj : j < (G k).length) :
    Rwk E (setCells w g (j * E.sz) (E.cl x)) B e m a (upk G k ((G k).set j x)) ∧ Tn B (cellsT e) w (setCells w g (j * E.sz) (E.cl x)) ∧
      (∀ v S M, Own E w S e v M → v.ownBlock ≠ some g → Own E (setCells w g (j * E.sz) (E.cl x)) S e v M) := by
  have hr := hR.each k hk
  have gr := setCells_grown (g := g) (E.cl x) w (j * E.sz)
  rw [hg] at hr
  obtain ⟨hnl, _, _⟩ := own_reads hr
  subst hnl
  have hst := setCells_own (g := g) (E.cl x) w (j * E.sz) _ hr
  rw [← E.row_set _ _ _ hj] at hst
  have other : ∀ v S M, Own E w S e v M → v.ownBlock ≠ some g → Own E (setCells w g (j * E.sz) (E.cl x)) S e v M := fun v S M h hne => World.ownsRow.kept h gr (Or.inr hne)
  refine ⟨⟨fun i hi => ?_, hR.apart⟩, (Tn.refl B _ w).grow hr gr, other⟩
  by_cases hik : i = k
  · subst hik
    rw [upk_at, hg]
    unfold Own
    rw [List.length_set]
    exact hst
  · rw [upk_ne _ _ hik]
    exact other _ _ _ (hR.each i hi) (fun h => hR.apart i k hi hk hik g h (by rw [hg]; rfl))
theorem Own.frozen_ {α : Type} {E : El α} {w : World} {B g n c : Nat} {e : TypeId} {L : List α} (h : Own E w B e (.slice (some ⟨g, 0, none⟩) n c) L) (j : Nat) : w.frozen? ⟨g, j, none⟩ = false := by
  obtain ⟨hn, _, _⟩ := own_reads h
  subst hn
  exact World.ownsRow.frozenAt h j
theorem Tn.fromDrew {B : Nat} {T : Obj → Bool} {w w' : World} (h : Tn B T w w') : Tn B T w.drew w'.drew := ⟨h.os, h.tape, h.output, h.size, h.block⟩
/-- A row that is new grew. -/
theorem Tn.growNew {B S : Nat} {T : Obj → Bool} {w w' w'' : World} {e : TypeId} {sz n : Nat} {v : Value} {xs : List Value} (h : Tn B T w w') (hown : w'.ownsRow S e sz v n xs) (hS : w.heap.size ≤ S) (g : w'.grownBy w'' v.ownBlock) : Tn B T w w'' :=
  h.row g (fun k hk => Or.inl (Nat.le_trans hS (World.ownsRow.lt hown k hk).1))
theorem Famk.marked2 {α : Type} {E : El α} {w w' : World} {B m k N p : Nat} {e : TypeId} {a b : Nat → Value} {F H : Nat → List α} {l l' : Value} (h : Famk E w B e m a (upk b k l) F (upk H k (E.marks k 0 N))) (hk : k < m)
    (hown : Own E w' B e l' (E.marks k 0 N ++ E.marks k N p)) (hgr : w.grownBy w' l.ownBlock) (hold : Own E w' B e l (E.marks k 0 N)) (hblk : l'.ownBlock = l.ownBlock ∨ ∀ g, l'.ownBlock = some g → w.heap.size ≤ g) :
    Famk E w' B e m a (upk b k l') F (upk H k (E.marks k 0 (N + p))) := by
  refine Famk.marked h hk ?_ hgr ?_ hblk
  · unfold Own at hown
    rw [List.length_append, E.marks_length, E.marks_length, E.row_append] at hown
    exact hown
  · unfold Own at hold
    rw [E.marks_length] at hold
    exact hold
theorem app_srow {P : Program} (tte te : TypeId) (ht : P.underlying tte = some (.slice te)) (hinfo : (P.info? te).map (fun i => (i.zero, i.size, i.bytes)) = some (some (.slice none 0 0), 1, 24))
    (w : World) (base : Nat) (v : Value) (n : Nat) (xs : List Value) (hown : w.ownsRow base te 1 v n xs) (u : Value) (hu : u.oneCell' = true) (g c : Nat) (hc : w.cell? ⟨g, 0, none⟩ = some u) (hn : n ≤ 100000) (hbase : base ≤ w.heap.size) :
    ∃ v' w', (∀ ty, (Builtin.append_ #[tte, tte] ty #[v, .slice (some ⟨g, 0, none⟩) 1 c]).run P w = .ok v' w') ∧ w'.ownsRow base te 1 v' (n + 1) (xs ++ [u]) ∧ w.grownBy w' v.ownBlock ∧ w'.ownsRow base te 1 v n xs ∧ (v'.ownBlock = v.ownBlock ∨ ∀ g, v'.ownBlock = some g → w.heap.size ≤ g) := by
  obtain ⟨i0, hi, hz, hsize, hby⟩ := info_parts hinfo
  have hnews : ∀ j x, [u][j]? = some x → w.cell? ((⟨g, 0, none⟩ : Addr).add j) = some x := fun j x hx => by
    match j, hx with
    | 0, hx => simp at hx; subst hx; simpa [Addr.add] using hc
  have h1 : ∀ x ∈ [u], x.oneCell' = true := fun x hx => by simp at hx; subst hx; exact hu
  obtain ⟨v', w', hr, h2, h3, _⟩ := run_append_own (P := P) w base tte 0 te i0 (.slice none 0 0) 1 24 ht hi hz hsize hby rfl (by decide) v n xs hown ⟨g, 0, none⟩ 1 c [u] rfl hnews h1 (by unfold maxLen; omega) (by omega) hbase
  obtain ⟨h4, h5⟩ := append_keep w base tte 0 te i0 (.slice none 0 0) 1 24 ht hi hz hsize hby v n xs hown ⟨g, 0, none⟩ 1 c [u] rfl hnews h1 (by unfold maxLen; omega) (by omega) v' w' hr
  exact ⟨v', w', fun ty => by rw [← hr]; rfl, h2, h3, h4, h5⟩
end Go.Proofs.YtcbgflidlpmhcaaGreatDoor

namespace Go.Proofs.YtcbgflidlpmhcaaGreatDoor
open Go.RowKit

/-- The book's fields f and f + 1 keep the lists Z of a kind, and copies of them; each lies in a block of its own below S. -/
def KSt {α : Type} (E : El α) (ok : α → Prop) (e te : TypeId) (f : Nat) (w : World) (B : Nat) (bcs : Array Value) (Z : List (List α)) (S : Nat) : Prop :=
  ∃ v1 v2 a c, bcs[f]? = some v1 ∧ bcs[f + 1]? = some v2 ∧ w.ownsRow B te 1 v1 Z.length ((List.range Z.length).map a) ∧ w.ownsRow B te 1 v2 Z.length ((List.range Z.length).map c) ∧ Off v1 v2 ∧ Rwk E w B e Z.length a (fun i => Z.getD i []) ∧
    (∀ i, i < Z.length → Own E w B e (c i) (Z.getD i [])) ∧ (∀ i, i < Z.length → (Z.getD i []).length ≤ 100000 ∧ ∀ x ∈ Z.getD i [], ok x) ∧ (∀ i, i < Z.length → ∀ g, (a i).ownBlock = some g → g < S) ∧ Z.length ≤ 250
section
variable {α : Type} {E : El α} {ok : α → Prop} {e te tB : TypeId} {f : Nat} {w w' : World} {B bk S : Nat} {bcs : Array Value} {Z : List (List α)}
theorem KSt.tn (h : KSt E ok e te f w B bcs Z S) {B' : Nat} {T : Obj → Bool} (g : Tn B' T w w') (h1 : ∀ cs fr, T (.cells cs e fr) = false) (h2 : ∀ cs fr, T (.cells cs te fr) = false) : KSt E ok e te f w' B bcs Z S := by
  obtain ⟨v1, v2, a, c, f1, f2, r1, r2, o, ra, rc, hz, hs, hm⟩ := h
  exact ⟨v1, v2, a, c, f1, f2, g.own r1 h2, g.own r2 h2, o, ra.tn g h1, fun i hi => (rc i hi).tn g h1, hz, hs, hm⟩
theorem KSt.below (h : KSt E ok e te f w B bcs Z S) (g : Below w.heap.size w w') : KSt E ok e te f w' B bcs Z S := h.tn (Tn.of_below (B := 0) (T := fun _ => false) g) (fun _ _ => rfl) (fun _ _ => rfl)
theorem KSt.fields (h : KSt E ok e te f w B bcs Z S) {bcs' : Array Value} (h1 : bcs'[f]? = bcs[f]?) (h2 : bcs'[f + 1]? = bcs[f + 1]?) : KSt E ok e te f w B bcs' Z S := by
  obtain ⟨v1, v2, a, c, f1, f2, r⟩ := h
  exact ⟨v1, v2, a, c, h1.trans f1, h2.trans f2, r⟩
theorem KSt.up (h : KSt E ok e te f w B bcs Z S) {S' : Nat} (hS : S ≤ S') : KSt E ok e te f w B bcs Z S' := by
  obtain ⟨v1, v2, a, c, f1, f2, r1, r2, o, ra, rc, hz, hs, hm⟩ := h
  exact ⟨v1, v2, a, c, f1, f2, r1, r2, o, ra, rc, hz, fun i hi g hg => Nat.lt_of_lt_of_le (hs i hi g hg) hS, hm⟩
theorem KSt.nil (h1 : bcs[f]? = some (.slice none 0 0)) (h2 : bcs[f + 1]? = some (.slice none 0 0)) : KSt E ok e te f w B bcs [] S :=
  ⟨_, _, fun _ => .slice none 0 0, fun _ => .slice none 0 0, h1, h2, World.ownsRow_nil _ _ _ _, World.ownsRow_nil _ _ _ _, fun g hg => by simp [Value.ownBlock] at hg, ⟨fun i hi => by simp at hi, fun i j hi => by simp at hi⟩, fun i hi => by simp at hi, fun i hi => by simp at hi, fun i hi => by simp at hi, Nat.zero_le _⟩
end

theorem own_ne_k {w : World} {B : Nat} {e t : TypeId} {sz : Nat} {v : Value} {n : Nat} {xs : List Value} {p : Nat} {cs : Array Value} (h : w.ownsRow B e sz v n xs) (hb : Blk w p t cs) (hne : e ≠ t) : v.ownBlock ≠ some p := by
  rcases h.2 with ⟨rfl, _⟩ | ⟨g, cap, cur, rfl, _, hg, _⟩
  · intro h; cases h
  · intro h
    cases h
    unfold Blk at hb
    rw [hg] at hb
    cases hb
    exact hne rfl
def twoT (te tB : TypeId) : Obj → Bool := fun o => cellsT te o || cellsT tB o
theorem twoT_ne {te tB t : TypeId} (h1 : t ≠ te) (h2 : t ≠ tB) (cs : Array Value) (fr : Nat × Nat) : twoT te tB (.cells cs t fr) = false := by
  unfold twoT
  rw [cellsT_ne h1, cellsT_ne h2]
  rfl
theorem Tn.two_l {B : Nat} {te tB : TypeId} {w w' : World} (h : Tn B (cellsT te) w w') : Tn B (twoT te tB) w w' := h.mono fun o ho => by unfold twoT at ho; rw [Bool.or_eq_false_iff] at ho; exact ho.1
theorem Tn.two_blk {B g : Nat} {te tB : TypeId} {w w' : World} {cs : Array Value} (h : Tn B (twoT te tB) w w') (hb : Blk w' g tB cs) (hB : B ≤ g) (i : Nat) (u : Value) : Tn B (twoT te tB) w (w'.setCell ⟨g, i, none⟩ u) :=
  h.setCell (p := ⟨g, i, none⟩) (Or.inr ⟨hB, _, hb, by unfold twoT; simp [cellsT]⟩) u

/-- A row of lists, one more at its end, and the field of the book that tells it. -/
theorem keep_row {P : Program} {tte te tB : TypeId} (ht : P.underlying tte = some (.slice te)) (hinfo : (P.info? te).map (fun i => (i.zero, i.size, i.bytes)) = some (some (.slice none 0 0), 1, 24)) (hne : te ≠ tB)
    {w : World} {B bk f m : Nat} {bcs : Array Value} {v u : Value} {xs : List Value} {r2 : Value} {m2 : Nat} {ys : List Value} (hb : Blk w bk tB bcs) (hB : B ≤ w.heap.size) (hBk : B ≤ bk) (hv : w.ownsRow B te 1 v m xs) (hr2 : w.ownsRow B te 1 r2 m2 ys) (hoff : Off v r2) (hm : m ≤ 250) (hu : u.oneCell' = true) :
    ∃ A d w1, (∀ ty, (Builtin.append_ #[tte, tte] ty #[v, .slice (some ⟨w.heap.size, 0, none⟩) 1 1]).run P (w.alloc (.cells #[u] te)) = .ok (.slice A (m + 1) d) w1) ∧ Blk w1 bk tB bcs ∧
      Blk (w1.setCell ⟨bk, f, none⟩ (.slice A (m + 1) d)) bk tB (bcs.setIfInBounds f (.slice A (m + 1) d)) ∧ (w1.setCell ⟨bk, f, none⟩ (.slice A (m + 1) d)).ownsRow B te 1 (.slice A (m + 1) d) (m + 1) (xs ++ [u]) ∧
      (w1.setCell ⟨bk, f, none⟩ (.slice A (m + 1) d)).ownsRow B te 1 r2 m2 ys ∧ Off (.slice A (m + 1) d) r2 ∧ Tn B (twoT te tB) w (w1.setCell ⟨bk, f, none⟩ (.slice A (m + 1) d)) := by
  have g0 : w.grownBy (w.alloc (.cells #[u] te)) none := World.grownBy_alloc _ _ _
  have hv0 := World.ownsRow.alloc hv (.cells #[u] te)
  have hr0 := World.ownsRow.alloc hr2 (.cells #[u] te)
  have hb0 := hb.alloc (.cells #[u] te)
  obtain ⟨v', w1, hr, hown, hgr, _, hblk⟩ := app_srow (P := P) tte te ht hinfo (w.alloc (.cells #[u] te)) B v m xs hv0 u hu w.heap.size 1 ((Blk.new w te #[u]).cell 0) (by omega) (Nat.le_trans hB (by simp))
  obtain ⟨A, d, rfl⟩ := srow_slice hown
  have hb1 : Blk w1 bk tB bcs := hb0.grown hgr (fun e => own_ne_k hv0 hb0 hne e.symm)
  have hr1 : w1.ownsRow B te 1 r2 m2 ys := World.ownsRow.kept hr0 hgr (offk_none hoff)
  have gs : ∀ u, w1.grownBy (w1.setCell ⟨bk, f, none⟩ u) (some bk) := fun u => only_setCell (grefl w1 _) (Or.inl rfl) u
  refine ⟨A, d, w1, hr, hb1, hb1.set_ f _, hown.kept (gs _) (Or.inr (own_ne_k hown hb1 hne)), hr1.kept (gs _) (Or.inr (own_ne_k hr1 hb1 hne)), fun g hg hv' => ?_, ?_⟩
  · rcases hblk with e | e
    · exact hoff g (e ▸ hg) hv'
    · have h1 := e g hg
      have h2 := (World.ownsRow.lt hr2 g hv').2
      simp at h1
      omega
  · exact Tn.two_blk ((Tn.two_l ((Tn.of_grown g0).grow hv0 hgr))) hb1 hBk f _

theorem getDk_lt {α : Type} (l : List α) (x d : α) {i : Nat} (h : i < l.length) : (l ++ [x]).getD i d = l.getD i d := by
  rw [List.getD_eq_getElem?_getD, List.getElem?_append_left h, ← List.getD_eq_getElem?_getD]
theorem getDk_eq {α : Type} (l : List α) (x d : α) {i : Nat} (h : i = l.length) : (l ++ [x]).getD i d = x := by
  subst h
  rw [List.getD_eq_getElem?_getD, List.getElem?_append_right (Nat.le_refl _)]
  simp
/-- One more is kept. -/
theorem KSt.add {α : Type} {E : El α} {ok : α → Prop} {e te : TypeId} {f : Nat} {w : World} {B S S' lo : Nat} {bcs : Array Value} {Z : List (List α)} {L : List α} {a c : Nat → Value} {v1 v2 x cp : Value}
    (f1 : bcs[f]? = some v1) (f2 : bcs[f + 1]? = some v2) (r1 : w.ownsRow B te 1 v1 (Z.length + 1) ((List.range Z.length).map a ++ [x])) (r2 : w.ownsRow B te 1 v2 (Z.length + 1) ((List.range Z.length).map c ++ [cp])) (o : Off v1 v2)
    (ra : Rwk E w B e Z.length a (fun i => Z.getD i [])) (rc : ∀ i, i < Z.length → Own E w B e (c i) (Z.getD i [])) (hz : ∀ i, i < Z.length → (Z.getD i []).length ≤ 100000 ∧ ∀ x ∈ Z.getD i [], ok x) (hs : ∀ i, i < Z.length → ∀ g, (a i).ownBlock = some g → g < S) (hm : Z.length < 250)
    (hx : Own E w lo e x L) (hc : Own E w B e cp L) (hSl : S ≤ lo) (hBl : B ≤ lo) (hL : L.length ≤ 100000 ∧ ∀ y ∈ L, ok y) (hS : ∀ g, x.ownBlock = some g → g < S') (hSS : S ≤ S') : KSt E ok e te f w B bcs (Z ++ [L]) S' := by
  rw [range_upk] at r1 r2
  have hl : (Z ++ [L]).length = Z.length + 1 := by simp
  have key : ∀ i, i < Z.length → Off (a i) x := fun i hi g hg hv => by
    have h1 := hs i hi g hg
    have h2 := (hx.lt hv).1
    omega
  refine ⟨v1, v2, upk a Z.length x, upk c Z.length cp, f1, f2, by rw [hl]; exact r1, by rw [hl]; exact r2, o, ⟨fun i hi => ?_, fun i j hi hj hij => ?_⟩, fun i hi => ?_, fun i hi => ?_, fun i hi g hg => ?_, by omega⟩
  · rw [hl] at hi
    by_cases hil : i < Z.length
    · rw [upk_ne _ _ (by omega), getDk_lt _ _ _ hil]
      exact ra.each i hil
    · obtain rfl : i = Z.length := by omega
      rw [upk_at, getDk_eq _ _ _ rfl]
      exact hx.low hBl
  · rw [hl] at hi hj
    by_cases hil : i < Z.length
    · rw [upk_ne _ _ (show i ≠ Z.length by omega)]
      by_cases hjl : j < Z.length
      · rw [upk_ne _ _ (show j ≠ Z.length by omega)]
        exact ra.apart i j hil hjl hij
      · rw [show j = Z.length by omega, upk_at]
        exact key i hil
    · rw [show i = Z.length by omega, upk_at, upk_ne _ _ (show j ≠ Z.length by omega)]
      exact (key j (by omega)).symm
  · rw [hl] at hi
    by_cases hil : i < Z.length
    · rw [upk_ne _ _ (by omega), getDk_lt _ _ _ hil]
      exact rc i hil
    · obtain rfl : i = Z.length := by omega
      rw [upk_at, getDk_eq _ _ _ rfl]
      exact hc
  · rw [hl] at hi
    by_cases hil : i < Z.length
    · rw [getDk_lt _ _ _ hil]
      exact hz i hil
    · rw [getDk_eq _ _ _ (by omega)]
      exact hL
  · rw [hl] at hi
    by_cases hil : i < Z.length
    · rw [upk_ne _ _ (by omega)] at hg
      have := hs i hil g hg
      omega
    · rw [show i = Z.length by omega, upk_at] at hg
      exact hS g hg
/-- A kind's lists, while marks are put. -/
structure PSt {α : Type} (E : El α) (e te : TypeId) (w : World) (B : Nat) (v1 : Value) (a : Nat → Value) (m : Nat) (F : Nat → List α) : Prop where
  r1 : w.ownsRow B te 1 v1 m ((List.range m).map a)
  ra : Rwk E w B e m a F
theorem PSt.tn {α : Type} {E : El α} {e te : TypeId} {w w' : World} {B : Nat} {v1 : Value} {a : Nat → Value} {m : Nat} {F : Nat → List α} (h : PSt E e te w B v1 a m F) {B' : Nat} {T : Obj → Bool} (g : Tn B' T w w') (h1 : ∀ cs fr, T (.cells cs e fr) = false) (h2 : ∀ cs fr, T (.cells cs te fr) = false) : PSt E e te w' B v1 a m F := ⟨g.own h.r1 h2, h.ra.tn g h1⟩
end Go.Proofs.YtcbgflidlpmhcaaGreatDoor

namespace Go.Proofs.YtcbgflidlpmhcaaGreatDoor
open Go.RowKit

/-- The pairs L can be read at the slice A of length n. -/
structure KeysAt (w : World) (A : Option Addr) (n : Nat) (L : List KV) : Prop where
  len : n = L.length
  at_ : ∀ (i : Nat) (m : KV), L[i]? = some m → ∃ g off, A = some ⟨g, off, none⟩ ∧ g < w.heap.size ∧ w.cell? ⟨g, off + i * 2, none⟩ = some (.string m.1) ∧ w.cell? ⟨g, off + i * 2 + 1, none⟩ = some (.string m.2)
theorem KeysAt.below {w w' : World} {A : Option Addr} {n : Nat} {L : List KV} (h : KeysAt w A n L) (hb : Below w.heap.size w w') : KeysAt w' A n L :=
  ⟨h.len, fun i m hm => by
    obtain ⟨g, off, e, hg, h1, h2⟩ := h.at_ i m hm
    exact ⟨g, off, e, Nat.lt_of_lt_of_le hg hb.size, (hb.cell (p := ⟨g, off + i * 2, none⟩) hg).trans h1, (hb.cell (p := ⟨g, off + i * 2 + 1, none⟩) hg).trans h2⟩⟩
/-- Two of them, at one address. -/
theorem KeysAt.two {w : World} {A : Option Addr} {n : Nat} {L : List KV} (h : KeysAt w A n L) {i j : Nat} {a b : KV} (ha : L[i]? = some a) (hb : L[j]? = some b) :
    ∃ g off, A = some ⟨g, off, none⟩ ∧ g < w.heap.size ∧ w.cell? ⟨g, off + i * 2, none⟩ = some (.string a.1) ∧ w.cell? ⟨g, off + i * 2 + 1, none⟩ = some (.string a.2) ∧ w.cell? ⟨g, off + j * 2, none⟩ = some (.string b.1) ∧ w.cell? ⟨g, off + j * 2 + 1, none⟩ = some (.string b.2) := by
  obtain ⟨g, off, e, hg, h1, h2⟩ := h.at_ i a ha
  obtain ⟨g', off', e', _, h3, h4⟩ := h.at_ j b hb
  rw [e] at e'
  cases e'
  exact ⟨g, off, e, hg, h1, h2, h3, h4⟩
theorem rises_iff : ∀ (L : List KV), (∀ (i : Nat) (a b : KV), L[i]? = some a → L[i + 1]? = some b → cmpT a.1 b.1 < 0) → risesK L = true
  | [], _ => rfl
  | [_], _ => rfl
  | a :: b :: r, h => by
    rw [risesK, Bool.and_eq_true, decide_eq_true_eq]
    exact ⟨h 0 a b rfl rfl, rises_iff (b :: r) fun i x y hx hy => h (i + 1) x y (by simpa using hx) (by simpa using hy)⟩
theorem rises_not {L : List KV} {i : Nat} {a b : KV} (ha : L[i]? = some a) (hb : L[i + 1]? = some b) (h : ¬ cmpT a.1 b.1 < 0) : risesK L = false := by
  cases hr : risesK L with
  | false => rfl
  | true => exact absurd (rises_get hr (Nat.lt_succ_self i) ha hb) h
end Go.Proofs.YtcbgflidlpmhcaaGreatDoor

namespace Go.Proofs.YtcbgflidlpmhcaaGreatDoor
open Go.RowKit

/-- How many of the pairs the next block takes, where it has z bytes already. -/
def takenN : Nat → List KV → Nat
  | _, [] => 0
  | z, m :: r => if 1024 ≤ z + m.1.size + m.2.size then 1 else takenN (z + m.1.size + m.2.size) r + 1
theorem takenN_le : ∀ (R : List KV) (z : Nat), takenN z R ≤ R.length
  | [], _ => Nat.le_refl _
  | m :: r, z => by
    rw [takenN, List.length_cons]
    split
    · omega
    · have := takenN_le r (z + m.1.size + m.2.size); omega
theorem takenN_pos {R : List KV} (h : R ≠ []) (z : Nat) : 0 < takenN z R := by
  cases R with
  | nil => exact absurd rfl h
  | cons m r =>
    rw [takenN]
    split <;> omega
theorem grp_run : ∀ (R : List KV) (full : List (List KV)) (cur : List KV) (z : Nat),
    (R.take (takenN z R)).foldl grpStep ⟨full, cur, z⟩ = ⟨full ++ [cur ++ R.take (takenN z R)], [], 0⟩ ∨ (takenN z R = R.length ∧ ∃ z', R.foldl grpStep ⟨full, cur, z⟩ = ⟨full, cur ++ R, z'⟩)
  | [], full, cur, z => Or.inr ⟨rfl, z, by rw [List.append_nil]; rfl⟩
  | m :: r, full, cur, z => by
    rw [takenN]
    by_cases h : 1024 ≤ z + m.1.size + m.2.size
    · left
      rw [if_pos h]
      show grpStep ⟨full, cur, z⟩ m = _
      unfold grpStep
      rw [if_neg (by dsimp only; omega)]
      rfl
    · rw [if_neg h]
      have hs : grpStep ⟨full, cur, z⟩ m = ⟨full, cur ++ [m], z + m.1.size + m.2.size⟩ := by
        unfold grpStep
        rw [if_pos (by dsimp only; omega)]
      rcases grp_run r full (cur ++ [m]) (z + m.1.size + m.2.size) with h1 | ⟨h1, z', h2⟩
      · left
        rw [List.take_succ_cons, List.foldl_cons, hs, h1, List.append_assoc]
        rfl
      · right
        refine ⟨by rw [h1, List.length_cons], z', ?_⟩
        rw [List.foldl_cons, hs, h2, List.append_assoc]
        rfl
/-- What stands between two blocks: those that are laid, the pairs that are left. -/
structure CutSt (L : List KV) (G : List (List KV)) (R : List KV) : Prop where
  all : G.flatten ++ R = L
  st : R ≠ [] → grpSt G.flatten = ⟨G, [], 0⟩
  fin : R = [] → groupsK L = G
theorem cut_start (L : List KV) : CutSt L [] L := ⟨rfl, fun _ => rfl, fun h => by rw [h]; rfl⟩
theorem cut_step {L : List KV} {G : List (List KV)} {R : List KV} (h : CutSt L G R) (hR : R ≠ []) : CutSt L (G ++ [R.take (takenN 0 R)]) (R.drop (takenN 0 R)) := by
  have hst := h.st hR
  have hfl : (G ++ [R.take (takenN 0 R)]).flatten = G.flatten ++ R.take (takenN 0 R) := by simp
  have hgr : ∀ X, grpSt (G.flatten ++ X) = X.foldl grpStep ⟨G, [], 0⟩ := fun X => by
    unfold grpSt at hst ⊢
    rw [List.foldl_append, hst]
  have hall : G.flatten ++ R.take (takenN 0 R) ++ R.drop (takenN 0 R) = L := by rw [List.append_assoc, List.take_append_drop, h.all]
  have hpos := takenN_pos hR 0
  rcases grp_run R G [] 0 with h1 | ⟨h1, z', h2⟩
  · rw [List.nil_append] at h1
    refine ⟨by rw [hfl]; exact hall, fun _ => by rw [hfl, hgr, h1], fun hd => ?_⟩
    rw [hd, List.append_nil] at hall
    unfold groupsK
    rw [← hall, hgr, h1]
    rfl
  · rw [List.nil_append] at h2
    have ht : R.take (takenN 0 R) = R := by rw [h1]; exact List.take_length
    have hd : R.drop (takenN 0 R) = [] := by rw [h1]; exact List.drop_length
    refine ⟨by rw [hfl]; exact hall, fun hne => absurd hd hne, fun _ => ?_⟩
    unfold groupsK
    rw [← h.all, hgr, h2, ht]
    unfold grpEnd
    rw [if_neg hR]

theorem rises_both {A B : List KV} (h : risesK (A ++ B) = true) : risesK A = true ∧ risesK B = true := by
  constructor
  · exact rises_iff _ fun i a b ha hb => rises_get h (Nat.lt_succ_self i) (by rw [List.getElem?_append_left (List.getElem?_eq_some_iff.1 ha).1]; exact ha) (by rw [List.getElem?_append_left (List.getElem?_eq_some_iff.1 hb).1]; exact hb)
  · exact rises_iff _ fun i a b ha hb => rises_get h (show A.length + i < A.length + (i + 1) by omega) (by rw [List.getElem?_append_right (by omega), Nat.add_sub_cancel_left]; exact ha) (by rw [List.getElem?_append_right (by omega), Nat.add_sub_cancel_left]; exact hb)
/-- Pairs behind others rise with them, if the first one is above the last. -/
theorem rises_join {A B : List KV} (hA : risesK A = true) (hB : risesK B = true) (h : ∀ a b, A[A.length - 1]? = some a → B[0]? = some b → cmpT a.1 b.1 < 0) : risesK (A ++ B) = true := by
  refine rises_iff _ fun i a b ha hb => ?_
  rcases Nat.lt_trichotomy (i + 1) A.length with h1 | h1 | h1
  · rw [List.getElem?_append_left (by omega)] at ha hb
    exact rises_get hA (Nat.lt_succ_self i) ha hb
  · rw [List.getElem?_append_left (by omega)] at ha
    rw [List.getElem?_append_right (by omega), show i + 1 - A.length = 0 by omega] at hb
    rw [show i = A.length - 1 by omega] at ha
    exact h a b ha hb
  · rw [List.getElem?_append_right (by omega)] at ha hb
    exact rises_get hB (show i - A.length < i + 1 - A.length by omega) ha hb
end Go.Proofs.YtcbgflidlpmhcaaGreatDoor

namespace Go.Proofs.YtcbgflidlpmhcaaGreatDoor
open Go.RowKit

/-- A digit of sixteen. -/
def hx (n : Nat) : UInt8 := if n < 10 then UInt8.ofNat (48 + n) else UInt8.ofNat (87 + n)
/-- A byte in quotes. -/
def qb (c : UInt8) : List UInt8 :=
  if c.toNat < 32 ∨ 126 < c.toNat then [92, 120, hx (c.toNat / 16), hx (c.toNat % 16)] else if c.toNat = 34 ∨ c.toNat = 92 then [92, c] else [c]
def quoteL (l : List UInt8) : List UInt8 := 34 :: (l.map qb).flatten ++ [34]
theorem qb_len (c : UInt8) : 1 ≤ (qb c).length ∧ (qb c).length ≤ 4 := by
  unfold qb
  split
  · simp
  · split <;> simp
theorem flat_len (l : List UInt8) : (l.map qb).flatten.length ≤ 4 * l.length := by
  induction l with
  | nil => simp
  | cons c r ih =>
    have := (qb_len c).2
    rw [List.map_cons, List.flatten_cons, List.length_append, List.length_cons]
    omega
theorem flat_snoc (s : ByteArray) (k : Nat) (h : k < s.size) : ((s.data.toList.take (k + 1)).map qb).flatten = ((s.data.toList.take k).map qb).flatten ++ qb s[k] := by
  rw [List.take_succ_eq_append_getElem (by simpa using h), List.map_append, List.flatten_append]
  simp; rfl

theorem hexidx0 (W : World) : (Instr.index 9 (.string ⟨#[48, 49, 50, 51, 52, 53, 54, 55, 56, 57, 97, 98, 99, 100, 101, 102]⟩) (.int .u8 0)).run Tryz.prog W = .ok (.int .u8 48) W := by kernel_rfl
theorem hexidx1 (W : World) : (Instr.index 9 (.string ⟨#[48, 49, 50, 51, 52, 53, 54, 55, 56, 57, 97, 98, 99, 100, 101, 102]⟩) (.int .u8 1)).run Tryz.prog W = .ok (.int .u8 49) W := by kernel_rfl
theorem hexidx2 (W : World) : (Instr.index 9 (.string ⟨#[48, 49, 50, 51, 52, 53, 54, 55, 56, 57, 97, 98, 99, 100, 101, 102]⟩) (.int .u8 2)).run Tryz.prog W = .ok (.int .u8 50) W := by kernel_rfl
theorem hexidx3 (W : World) : (Instr.index 9 (.string ⟨#[48, 49, 50, 51, 52, 53, 54, 55, 56, 57, 97, 98, 99, 100, 101, 102]⟩) (.int .u8 3)).run Tryz.prog W = .ok (.int .u8 51) W := by kernel_rfl
theorem hexidx4 (W : World) : (Instr.index 9 (.string ⟨#[48, 49, 50, 51, 52, 53, 54, 55, 56, 57, 97, 98, 99, 100, 101, 102]⟩) (.int .u8 4)).run Tryz.prog W = .ok (.int .u8 52) W := by kernel_rfl
theorem hexidx5 (W : World) : (Instr.index 9 (.string ⟨#[48, 49, 50, 51, 52, 53, 54, 55, 56, 57, 97, 98, 99, 100, 101, 102]⟩) (.int .u8 5)).run Tryz.prog W = .ok (.int .u8 53) W := by kernel_rfl
theorem hexidx6 (W : World) : (Instr.index 9 (.string ⟨#[48, 49, 50, 51, 52, 53, 54, 55, 56, 57, 97, 98, 99, 100, 101, 102]⟩) (.int .u8 6)).run Tryz.prog W = .ok (.int .u8 54) W := by kernel_rfl
theorem hexidx7 (W : World) : (Instr.index 9 (.string ⟨#[48, 49, 50, 51, 52, 53, 54, 55, 56, 57, 97, 98, 99, 100, 101, 102]⟩) (.int .u8 7)).run Tryz.prog W = .ok (.int .u8 55) W := by kernel_rfl
theorem hexidx8 (W : World) : (Instr.index 9 (.string ⟨#[48, 49, 50, 51, 52, 53, 54, 55, 56, 57, 97, 98, 99, 100, 101, 102]⟩) (.int .u8 8)).run Tryz.prog W = .ok (.int .u8 56) W := by kernel_rfl
theorem hexidx9 (W : World) : (Instr.index 9 (.string ⟨#[48, 49, 50, 51, 52, 53, 54, 55, 56, 57, 97, 98, 99, 100, 101, 102]⟩) (.int .u8 9)).run Tryz.prog W = .ok (.int .u8 57) W := by kernel_rfl
theorem hexidx10 (W : World) : (Instr.index 9 (.string ⟨#[48, 49, 50, 51, 52, 53, 54, 55, 56, 57, 97, 98, 99, 100, 101, 102]⟩) (.int .u8 10)).run Tryz.prog W = .ok (.int .u8 97) W := by kernel_rfl
theorem hexidx11 (W : World) : (Instr.index 9 (.string ⟨#[48, 49, 50, 51, 52, 53, 54, 55, 56, 57, 97, 98, 99, 100, 101, 102]⟩) (.int .u8 11)).run Tryz.prog W = .ok (.int .u8 98) W := by kernel_rfl
theorem hexidx12 (W : World) : (Instr.index 9 (.string ⟨#[48, 49, 50, 51, 52, 53, 54, 55, 56, 57, 97, 98, 99, 100, 101, 102]⟩) (.int .u8 12)).run Tryz.prog W = .ok (.int .u8 99) W := by kernel_rfl
theorem hexidx13 (W : World) : (Instr.index 9 (.string ⟨#[48, 49, 50, 51, 52, 53, 54, 55, 56, 57, 97, 98, 99, 100, 101, 102]⟩) (.int .u8 13)).run Tryz.prog W = .ok (.int .u8 100) W := by kernel_rfl
theorem hexidx14 (W : World) : (Instr.index 9 (.string ⟨#[48, 49, 50, 51, 52, 53, 54, 55, 56, 57, 97, 98, 99, 100, 101, 102]⟩) (.int .u8 14)).run Tryz.prog W = .ok (.int .u8 101) W := by kernel_rfl
theorem hexidx15 (W : World) : (Instr.index 9 (.string ⟨#[48, 49, 50, 51, 52, 53, 54, 55, 56, 57, 97, 98, 99, 100, 101, 102]⟩) (.int .u8 15)).run Tryz.prog W = .ok (.int .u8 102) W := by kernel_rfl
theorem hexidx (n : Nat) (h : n < 16) (W : World) : (Instr.index 9 (.string ⟨#[48, 49, 50, 51, 52, 53, 54, 55, 56, 57, 97, 98, 99, 100, 101, 102]⟩) (.int .u8 (n : Int))).run Tryz.prog W = .ok (.int .u8 ((hx n).toNat : Int)) W := by
  match n, h with
  | 0, _ => exact hexidx0 W
  | 1, _ => exact hexidx1 W
  | 2, _ => exact hexidx2 W
  | 3, _ => exact hexidx3 W
  | 4, _ => exact hexidx4 W
  | 5, _ => exact hexidx5 W
  | 6, _ => exact hexidx6 W
  | 7, _ => exact hexidx7 W
  | 8, _ => exact hexidx8 W
  | 9, _ => exact hexidx9 W
  | 10, _ => exact hexidx10 W
  | 11, _ => exact hexidx11 W
  | 12, _ => exact hexidx12 W
  | 13, _ => exact hexidx13 W
  | 14, _ => exact hexidx14 W
  | 15, _ => exact hexidx15 W
  | n + 16, h => omega
theorem and_15 : ∀ c : Nat, c < 256 → bits .and .u8 (c : Int) 15 = ((c % 16 : Nat) : Int) := by decide +kernel

end Go.Proofs.YtcbgflidlpmhcaaGreatDoor

namespace Go.Proofs.YtcbgflidlpmhcaaGreatDoor
open Go.RowKit

/-! ### The reader's steps, of its whole block -/
theorem nextB_some (p k : Nat) (s : ByteArray) (er : Int) (w : World) (hB : Blk w p 237 #[.string s, .int .i64 k]) (hk : k < s.size) (hs : s.size ≤ 9223372036854775807) :
    Calls Tryz.prog 219 #[.pointer (some ⟨p, 0, none⟩), .int .i64 er] w fun e w' => e = .returned (.int .u8 (s[k]'hk).toNat) ∧ Blk w' p 237 #[.string s, .int .i64 ((k : Int) + 1)] ∧ w.grownBy w' (some p) := by
  refine (next_some p k s er w (hB.cell 0) (hB.cell 1) (hB.frozen 1) hk hs).mono ?_
  rintro e w' ⟨he, n, rfl⟩
  exact ⟨he, (hB.set_ 1 _).drewN n, only_drewN (only_setCell (World.grownBy.refl _ _) (.inl rfl) _) _⟩
theorem nextB_end (p : Nat) (s : ByteArray) (er : Int) (w : World) (hB : Blk w p 237 #[.string s, .int .i64 (s.size : Int)]) (hs : s.size ≤ 9223372036854775807) :
    Calls Tryz.prog 219 #[.pointer (some ⟨p, 0, none⟩), .int .i64 er] w fun e w' => e = .panicked [{ v := .iface 27 (.int .i64 er), recovered := false }] ∧ w.grownBy w' (some p) := by
  refine (next_end p s er w (hB.cell 0) (hB.cell 1) hs).mono ?_
  rintro e w' ⟨he, n, rfl⟩
  exact ⟨he, only_drewN (World.grownBy.refl _ _) n⟩

/-! ### Digits -/
/-- The worth of a digit of sixteen. -/
def hexv (c : Nat) : Option Nat := if 97 ≤ c ∧ c ≤ 102 then some (c - 87) else if 65 ≤ c ∧ c ≤ 70 then some (c - 55) else if 48 ≤ c ∧ c ≤ 57 then some (c - 48) else none

def HexPost (w : World) : Option Nat → Ending → World → Prop
  | some v, e, w' => e = .returned (.int .u8 (v : Int)) ∧ w = w'
  | none, e, w' => e = .panicked [{ v := .iface 27 (.int .i64 4), recovered := false }] ∧ w = w'

/-! ### What stands behind a backslash -/
def escx : List UInt8 → Option (UInt8 × Nat)
  | a :: b :: _ => (hexv a.toNat).bind fun x => (hexv b.toNat).map fun y => (UInt8.ofNat (16 * x + y), 3)
  | _ => none
def esc : List UInt8 → Option (UInt8 × Nat)
  | [] => none
  | c :: r => if c.toNat = 34 ∨ c.toNat = 92 then some (c, 1) else if c.toNat = 120 then escx r else none

theorem escx_cons (a b : UInt8) (t : List UInt8) : escx (a :: b :: t) = (hexv a.toNat).bind fun x => (hexv b.toNat).map fun y => (UInt8.ofNat (16 * x + y), 3) := rfl
theorem hexv_lt {c v : Nat} (h : hexv c = some v) : v < 16 := by
  unfold hexv at h
  split at h
  · injection h; omega
  · split at h
    · injection h; omega
    · split at h
      · injection h; omega
      · cases h

def EscPost (p k : Nat) (s : ByteArray) (w : World) : Option (UInt8 × Nat) → Ending → World → Prop
  | some (c, n), e, w' => e = .returned (.int .u8 (c.toNat : Int)) ∧ Blk w' p 237 #[.string s, .int .i64 ((k + n : Nat) : Int)] ∧ w.grownBy w' (some p)
  | none, e, w' => e = .panicked [{ v := .iface 27 (.int .i64 4), recovered := false }] ∧ w.grownBy w' (some p)

theorem grown_trans {a b c : World} {p : Nat} (h : a.grownBy b (some p)) (k : b.grownBy c (some p)) : a.grownBy c (some p) :=
  ⟨k.os.trans h.os, k.tape.trans h.tape, k.output.trans h.output, Nat.le_trans h.size k.size, fun i hi hne => (k.block i (Nat.lt_of_lt_of_le hi h.size) hne).trans (h.block i hi hne)⟩

theorem or_nib (x y : Nat) (hx : x < 16) (hy : y < 16) : bits .or .u8 ((x : Int) * 16) (y : Int) = ((UInt8.ofNat (16 * x + y)).toNat : Int) := by
  have h : ∀ x < 16, ∀ y < 16, bits .or .u8 (((x * 16 : Nat) : Int)) ((y : Nat) : Int) = ((16 * x + y : Nat) : Int) := by decide +kernel
  rw [show ((x : Int) * 16) = ((x * 16 : Nat) : Int) from by omega, h x hx y hy, u8_of _ (by omega)]

/-! ### What stands in quotes, behind the first of them -/
theorem esc_pos {l : List UInt8} {c : UInt8} {n : Nat} (h : esc l = some (c, n)) : 1 ≤ n ∧ n ≤ l.length := by
  cases l with
  | nil => cases h
  | cons a r =>
    rw [esc] at h
    split at h
    · injection h with h; injection h with _ h; subst h; simp
    · split at h
      · cases r with
        | nil => cases h
        | cons b t =>
          cases t with
          | nil => cases h
          | cons d t =>
            rw [escx_cons] at h
            cases hx : hexv b.toNat with
            | none => rw [hx] at h; cases h
            | some x =>
              cases hy : hexv d.toNat with
              | none => rw [hx, hy] at h; cases h
              | some y =>
                rw [hx, hy] at h
                injection h with h; injection h with _ h; subst h; simp
      · cases h

def uq (l : List UInt8) : Option (List UInt8 × Nat) :=
  match l with
  | [] => none
  | c :: r => if c.toNat = 34 then some ([], 1) else if c.toNat = 92 then
      match _h : esc r with
      | some (d, n) => (uq (r.drop n)).map fun x => (d :: x.1, x.2 + n + 1)
      | none => none
    else if 32 ≤ c.toNat ∧ c.toNat ≤ 126 then (uq r).map fun x => (c :: x.1, x.2 + 1) else none
  termination_by l.length
  decreasing_by
    · simp; omega
    · simp
/-- acc has been gathered out of n bytes; the rest says x. -/
def onto (acc : List UInt8) (n : Nat) (x : Option (List UInt8 × Nat)) : Option (List UInt8 × Nat) := x.map fun x => (acc ++ x.1, n + x.2)

theorem uq_end (c : UInt8) (r : List UInt8) (h : c.toNat = 34) : uq (c :: r) = some ([], 1) := by rw [uq, if_pos h]
theorem uq_esc (c : UInt8) (r : List UInt8) (d : UInt8) (n : Nat) (h : c.toNat = 92) (he : esc r = some (d, n)) (acc : List UInt8) (m : Nat) : onto acc m (uq (c :: r)) = onto (acc ++ [d]) (m + 1 + n) (uq (r.drop n)) := by
  rw [uq, if_neg (by omega), if_pos h]
  split
  · rename_i d' n' h'
    rw [he] at h'
    injection h' with h'
    injection h' with h1 h2
    subst h1; subst h2
    unfold onto
    cases uq (r.drop n) with
    | none => rfl
    | some x =>
      simp
      omega
  · rename_i h'
    rw [he] at h'
    cases h'
theorem uq_bad (c : UInt8) (r : List UInt8) (h : c.toNat = 92) (he : esc r = none) : uq (c :: r) = none := by
  rw [uq, if_neg (by omega), if_pos h]
  split
  · rename_i d' n' h'
    rw [he] at h'
    cases h'
  · rfl
theorem uq_plain (c : UInt8) (r : List UInt8) (h1 : c.toNat ≠ 34) (h2 : c.toNat ≠ 92) (h : 32 ≤ c.toNat ∧ c.toNat ≤ 126) (acc : List UInt8) (m : Nat) : onto acc m (uq (c :: r)) = onto (acc ++ [c]) (m + 1) (uq r) := by
  rw [uq, if_neg h1, if_neg h2, if_pos h]
  unfold onto
  cases uq r with
  | none => rfl
  | some x =>
    simp
    omega
theorem uq_not (c : UInt8) (r : List UInt8) (h1 : c.toNat ≠ 34) (h2 : c.toNat ≠ 92) (h : ¬ (32 ≤ c.toNat ∧ c.toNat ≤ 126)) : uq (c :: r) = none := by
  rw [uq, if_neg h1, if_neg h2, if_neg h]

def unq : List UInt8 → Option (List UInt8 × Nat)
  | [] => none
  | c :: r => if c.toNat = 34 then onto [] 1 (uq r) else none

def QuotPost (p : Nat) (s : ByteArray) (w : World) : Option (List UInt8 × Nat) → Ending → World → Prop
  | some (l, n), e, w' => e = .returned (.string ⟨l.toArray⟩) ∧ Blk w' p 237 #[.string s, .int .i64 (n : Int)] ∧ w.grownBy w' (some p)
  | none, e, w' => e = .panicked [{ v := .iface 27 (.int .i64 4), recovered := false }] ∧ w.grownBy w' (some p)
end Go.Proofs.YtcbgflidlpmhcaaGreatDoor

namespace Go.Proofs.YtcbgflidlpmhcaaGreatDoor
open Go.RowKit

/-! ### Get -/
def getL (l : List UInt8) : Nat := l.foldl (fun a c => a * 256 + c.toNat) 0
theorem getL_snoc (s : ByteArray) (k : Nat) (h : k < s.size) : getL (s.data.toList.take (k + 1)) = getL (s.data.toList.take k) * 256 + s[k].toNat := by
  unfold getL
  rw [List.take_succ_eq_append_getElem (by simpa using h), List.foldl_append]
  rfl

set_option maxRecDepth 100000 in
set_option maxHeartbeats 1000000 in
theorem get_bad (s : ByteArray) (w : World) (h : s.size < 1 ∨ 7 < s.size) :
    Calls Tryz.prog 171 #[.string s] w fun e w' => e = .returned (.tuple #[.int .i64 0, .int .i64 1]) ∧ w = w' := by
  by_cases h1 : s.size < 1
  · have h2 : decide (7 < (s.size : Int)) = false := decide_eq_false (by omega)
    clear h
    go_enter Tryz.func171, Tryz.ntmps171
    go_wp2
    go_ret2
    exact ⟨rfl, rfl⟩
  · have h2 : 7 < s.size := by omega
    clear h
    go_enter Tryz.func171, Tryz.ntmps171
    go_wp2
    go_ret2
    exact ⟨rfl, rfl⟩

set_option maxRecDepth 100000 in
set_option maxHeartbeats 1000000 in
theorem get_ok (s : ByteArray) (w : World) (h1 : 1 ≤ s.size) (h7 : s.size ≤ 7) :
    Calls Tryz.prog 171 #[.string s] w fun e w' => e = .returned (.tuple #[.int .i64 (getL s.data.toList : Int), .int .i64 0]) ∧ w = w' := by
  go_enter Tryz.func171, Tryz.ntmps171
  go_wp2
  go_loop [4, 16] (fun v i => ∃ k a : Nat, k ≤ s.size ∧ i = .int .i64 (k : Int) ∧ v = .int .i64 (a : Int) ∧ a < 2 ^ (8 * k) ∧ Hid (a = getL (s.data.toList.take k))) (fun _ i => s.size - (intOf i).toNat)
  case atStart => exact ⟨0, 0, by omega, rfl, rfl, by decide, rfl⟩
  case round =>
    obtain ⟨k, a, hk, rfl, rfl, ha, Ha⟩ := hrel
    by_cases hl : k < s.size
    · have hb8 := UInt8.toNat_lt s[k]
      have h56 : (2 : Nat) ^ (8 * k) ≤ 2 ^ 48 := Nat.pow_le_pow_right (by decide) (by omega)
      have ha48 : a < 281474976710656 := by omega
      have ho : bits .or .i64 ((a : Int) * 256) (s[k].toNat : Int) = ((a * 256 + s[k].toNat : Nat) : Int) := by
        have h1 := i64_or_nat (a * 256) s[k].toNat (by omega) (by omega)
        have h2 : a * 256 ||| s[k].toNat = a * 256 + s[k].toNat := by
          have := Nat.two_pow_add_eq_or_of_lt (i := 8) (b := s[k].toNat) (by omega) a
          rw [show 2 ^ 8 * a = a * 256 from by omega] at this
          exact this.symm
        rw [h2] at h1
        exact h1
      have hlt : a * 256 + s[k].toNat < 2 ^ (8 * (k + 1)) := by
        have : 2 ^ (8 * (k + 1)) = 2 ^ (8 * k) * 256 := by rw [Nat.mul_add, Nat.pow_add]
        omega
      have hsn := getL_snoc s k hl
      rw [← Ha.out] at hsn
      obtain ⟨x, hx⟩ : ∃ x, x = a * 256 + s[k].toNat := ⟨_, rfl⟩
      rw [← hx] at ho hlt hsn
      have Hsn := Lib.hid hsn
      have Hlt := Lib.hid hlt
      clear hsn hlt hx ha h56
      go_wp2
      go_round
      case rel => exact ⟨k + 1, x, by omega, by go_num, rfl, Hlt.out, Hsn.out.symm⟩
      case measure => simp [intOf]; omega
    · obtain rfl : k = s.size := by omega
      have hae : a = getL s.data.toList := by
        have := Ha.out
        rwa [List.take_of_length_le (by simp)] at this
      have Hae := Lib.hid hae
      clear hae
      go_wp2
      go_ret2
      exact ⟨by rw [← Hae.out]; rfl, rfl⟩

/-! ### Number -/
def digs : List UInt8 → Nat → Option Nat
  | [], a => some a
  | c :: r, a => if 48 ≤ c.toNat ∧ c.toNat ≤ 57 then digs r (a * 10 + (c.toNat - 48)) else none
def natL (l : List UInt8) : Option Nat := if l.length < 1 ∨ 16 < l.length ∨ (l.headD 0).toNat = 48 then none else digs l 0

def NatPost (w : World) : Option Nat → Ending → World → Prop
  | some v, e, w' => e = .returned (.int .i64 (v : Int)) ∧ w = w'
  | none, e, w' => e = .panicked [{ v := .iface 27 (.int .i64 4), recovered := false }] ∧ w = w'

end Go.Proofs.YtcbgflidlpmhcaaGreatDoor

namespace Go.Proofs.YtcbgflidlpmhcaaGreatDoor
open Go.RowKit

theorem bl_extract (s : ByteArray) (i j : Nat) (_h : j ≤ s.size) : bl (s.extract i j) = ((bl s).drop i).take (j - i) := by
  simp [bl]
theorem bl_drop (s : ByteArray) (i : Nat) : bl (s.extract i s.size) = (bl s).drop i := by
  rw [bl_extract s i s.size (Nat.le_refl _), List.take_of_length_le]
  rw [List.length_drop, bl_len]
  exact Nat.le_refl _
theorem bl_take (s : ByteArray) (j : Nat) (h : j ≤ s.size) : bl (s.extract 0 j) = (bl s).take j := by
  rw [bl_extract s 0 j h, List.drop_zero, Nat.sub_zero]

/-- What is read as a number is that number's bytes. -/
theorem gv_pv_of : ∀ (l : List UInt8) (i a v n : Nat), gv l i a = .ok v n → i < n ∧ n ≤ i + l.length ∧ i < 9 ∧ ∃ u, v = a + u * 2 ^ (7 * i) ∧ l.take (n - i) = pv u ∧ (0 < i → 0 < u) ∧ u < 2 ^ (7 * (9 - i))
  | [], i, a, v, n, h => by
    rw [gv] at h
    split at h <;> cases h
  | c :: r, i, a, v, n, h => by
    rw [gv] at h
    split at h
    · cases h
    · rename_i h9
      split at h
      · rename_i h128
        obtain ⟨h1, h2, h3, u, h4, h5, h6, h7⟩ := gv_pv_of r _ _ _ _ h
        have hc := UInt8.toNat_lt c
        have hu := h6 (by omega)
        refine ⟨by omega, by simp only [List.length_cons]; omega, by omega, c.toNat % 128 + 128 * u, ?_, ?_, fun _ => by omega, ?_⟩
        · rw [h4, show 7 * (i + 1) = 7 * i + 7 from by omega, Nat.pow_add, Nat.add_mul, Nat.add_assoc]
          congr 2
          rw [Nat.mul_comm (2 ^ (7 * i)), ← Nat.mul_assoc, Nat.mul_comm u]
        · rw [show n - i = (n - (i + 1)) + 1 from by omega, List.take_succ_cons, h5, pv_more (c.toNat % 128 + 128 * u) (by omega)]
          congr 1
          · rw [show (c.toNat % 128 + 128 * u) % 128 + 128 = c.toNat from by omega]
            simp
          · rw [show (c.toNat % 128 + 128 * u) / 128 = u from by omega]
        · rw [show 7 * (9 - i) = 7 * (9 - (i + 1)) + 7 from by omega, Nat.pow_add]
          omega
      · split at h
        · cases h
        · rename_i h128 h0
          cases h
          have hc : c.toNat % 128 = c.toNat := Nat.mod_eq_of_lt (by omega)
          refine ⟨by omega, by simp only [List.length_cons]; omega, by omega, c.toNat, by rw [hc], ?_, fun hi => by omega, ?_⟩
          · rw [Nat.add_sub_cancel_left, List.take_succ_cons, List.take_zero, pv_last _ (by omega)]
            simp
          · have : (2 : Nat) ^ 7 ≤ 2 ^ (7 * (9 - i)) := Nat.pow_le_pow_right (by decide) (by omega)
            omega
theorem gv_bytes {l : List UInt8} {v n : Nat} (h : gv l 0 0 = .ok v n) : l = pv v ++ l.drop n ∧ n ≤ l.length ∧ v < 9223372036854775808 := by
  obtain ⟨_, h2, _, u, h4, h5, _, h7⟩ := gv_pv_of l 0 0 v n h
  rw [Nat.mul_zero, Nat.pow_zero, Nat.mul_one, Nat.zero_add] at h4
  subst h4
  rw [Nat.sub_zero] at h5
  rw [Nat.zero_add] at h2
  refine ⟨?_, h2, h7⟩
  rw [← h5]
  exact (List.take_append_drop _ _).symm

/-- A pair, taken from the bytes behind others. -/
def stepP (i : Nat) (last rest : List UInt8) : Option (KV × List UInt8) :=
  match gv rest 0 0 with
  | .err _ => none
  | .ok x n1 => match gv (rest.drop n1) 0 0 with
    | .err _ => none
    | .ok y n2 => match gv ((rest.drop n1).drop n2) 0 0 with
      | .err _ => none
      | .ok z n3 =>
        if x ≤ last.length ∧ y ≤ (((rest.drop n1).drop n2).drop n3).length ∧ z ≤ ((((rest.drop n1).drop n2).drop n3).drop y).length ∧
            (last.take x ++ (((rest.drop n1).drop n2).drop n3).take y).length ≤ 65536 ∧ z ≤ 65536 ∧
            (i = 0 ∨ Lib.compareBytes last (last.take x ++ (((rest.drop n1).drop n2).drop n3).take y) < 0) ∧
            x = comI i last (last.take x ++ (((rest.drop n1).drop n2).drop n3).take y) then
          some ((⟨(last.take x ++ (((rest.drop n1).drop n2).drop n3).take y).toArray⟩, ⟨(((((rest.drop n1).drop n2).drop n3).drop y).take z).toArray⟩), ((((rest.drop n1).drop n2).drop n3).drop y).drop z)
        else none
/-- Is this pair one that Build lays behind the last key? -/
def okStep (i : Nat) (last : List UInt8) (m : KV) : Prop := m.1.size ≤ 65536 ∧ m.2.size ≤ 65536 ∧ (i = 0 ∨ Lib.compareBytes last (bl m.1) < 0)
theorem step_some {i : Nat} {last rest r' : List UInt8} {m : KV} (h : stepP i last rest = some (m, r')) : rest = onePair i last (bl m.1) (bl m.2) ++ r' ∧ okStep i last m := by
  unfold stepP at h
  split at h
  · cases h
  · rename_i x n1 g1
    split at h
    · cases h
    · rename_i y n2 g2
      split at h
      · cases h
      · rename_i z n3 g3
        obtain ⟨e1, l1, _⟩ := gv_bytes g1
        obtain ⟨e2, l2, _⟩ := gv_bytes g2
        obtain ⟨e3, l3, _⟩ := gv_bytes g3
        obtain ⟨t, ht⟩ : ∃ t, ((rest.drop n1).drop n2).drop n3 = t := ⟨_, rfl⟩
        rw [ht] at h e3
        split at h
        · rename_i hc
          obtain ⟨c1, c2, c3, c4, c5, c6, c7⟩ := hc
          obtain ⟨k, hk⟩ : ∃ k, last.take x ++ t.take y = k := ⟨_, rfl⟩
          rw [hk] at h c4 c6 c7
          cases h
          have hkl : k.length = x + y := by rw [← hk, List.length_append, List.length_take, List.length_take]; omega
          have hkd : k.drop x = t.take y := by
            rw [← hk, List.drop_append_of_le_length (by rw [List.length_take]; omega), List.drop_of_length_le (by rw [List.length_take]; omega), List.nil_append]
          have hvl : ((t.drop y).take z).length = z := by rw [List.length_take]; omega
          refine ⟨?_, by rw [size_mk]; omega, by rw [size_mk, hvl]; exact c5, c6⟩
          dsimp only
          rw [bl_mk, bl_mk, onePair, ← c7, hkl, Nat.add_sub_cancel_left, hvl, hkd]
          conv => lhs; rw [e1, e2, e3]
          simp only [List.append_assoc]
          congr 3
          rw [List.take_append_drop, List.take_append_drop]
        · cases h
theorem step_of {i : Nat} {last r : List UInt8} {m : KV} (h : okStep i last m) (hl : last.length < 9223372036854775808) : stepP i last (onePair i last (bl m.1) (bl m.2) ++ r) = some (m, r) := by
  obtain ⟨h1, h2, h3⟩ := h
  obtain ⟨c1, c2⟩ := comI_le i last (bl m.1)
  have ht := comI_take i last (bl m.1)
  have hl1 : (bl m.1).length = m.1.size := rfl
  have hl2 : (bl m.2).length = m.2.size := rfl
  obtain ⟨n, hn⟩ : ∃ n, comI i last (bl m.1) = n := ⟨_, rfl⟩
  rw [onePair, hn]
  rw [hn] at c1 c2 ht
  obtain ⟨B, hB⟩ : ∃ B, pv n ++ (pv ((bl m.1).length - n) ++ (pv (bl m.2).length ++ ((bl m.1).drop n ++ bl m.2))) ++ r = B := ⟨_, rfl⟩
  have g1 : gv B 0 0 = .ok n (pv n).length := by rw [← hB, List.append_assoc]; exact gv_pv0 _ n (by omega)
  have e1 : B.drop (pv n).length = pv ((bl m.1).length - n) ++ (pv (bl m.2).length ++ ((bl m.1).drop n ++ (bl m.2 ++ r))) := by
    rw [← hB, List.append_assoc, List.drop_append_of_le_length (Nat.le_refl _), List.drop_length]; simp
  have g2 : gv (B.drop (pv n).length) 0 0 = .ok ((bl m.1).length - n) (pv ((bl m.1).length - n)).length := by rw [e1]; exact gv_pv0 _ _ (by omega)
  have e2 : (B.drop (pv n).length).drop (pv ((bl m.1).length - n)).length = pv (bl m.2).length ++ ((bl m.1).drop n ++ (bl m.2 ++ r)) := by
    rw [e1, List.drop_append_of_le_length (Nat.le_refl _), List.drop_length]; simp
  have g3 : gv ((B.drop (pv n).length).drop (pv ((bl m.1).length - n)).length) 0 0 = .ok (bl m.2).length (pv (bl m.2).length).length := by rw [e2]; exact gv_pv0 _ _ (by omega)
  have e3 : ((B.drop (pv n).length).drop (pv ((bl m.1).length - n)).length).drop (pv (bl m.2).length).length = (bl m.1).drop n ++ (bl m.2 ++ r) := by
    rw [e2, List.drop_append_of_le_length (Nat.le_refl _), List.drop_length]; simp
  rw [hB]
  unfold stepP
  rw [g1]
  dsimp only
  rw [g2]
  dsimp only
  rw [g3]
  dsimp only
  rw [e3]
  have hd : ((bl m.1).drop n).length = (bl m.1).length - n := List.length_drop ..
  have t1 : ((bl m.1).drop n ++ (bl m.2 ++ r)).take ((bl m.1).length - n) = (bl m.1).drop n := by rw [← hd]; exact List.take_left
  have t2 : ((bl m.1).drop n ++ (bl m.2 ++ r)).drop ((bl m.1).length - n) = bl m.2 ++ r := by rw [← hd]; exact List.drop_left
  rw [t1, t2, ht, List.take_left, List.drop_left, hn]
  rw [if_pos ⟨c2, by rw [List.length_append, hd]; omega, by rw [List.length_append]; omega, by omega, by omega, h3, rfl⟩]

/-- Pairs, taken one behind the other. -/
def strictP : Nat → Nat → List UInt8 → List UInt8 → Option (List KV)
  | _, _, _, [] => some []
  | 0, _, _, _ :: _ => none
  | f + 1, i, last, c :: r => match stepP i last (c :: r) with
    | none => none
    | some (m, r') => (strictP f (i + 1) (bl m.1) r').map (m :: ·)
theorem strict_nil (f i : Nat) (last : List UInt8) : strictP f i last [] = some [] := by cases f <;> rfl
theorem strict_none {f i : Nat} {last rest : List UInt8} (hr : rest ≠ []) (h : stepP i last rest = none) : strictP f i last rest = none := by
  obtain ⟨c, r, rfl⟩ := List.exists_cons_of_ne_nil hr
  cases f with
  | zero => rfl
  | succ f => rw [strictP, h]
theorem strict_some {f i : Nat} {last rest r' : List UInt8} {m : KV} (hr : rest ≠ []) (h : stepP i last rest = some (m, r')) : strictP (f + 1) i last rest = (strictP f (i + 1) (bl m.1) r').map (m :: ·) := by
  obtain ⟨c, r, rfl⟩ := List.exists_cons_of_ne_nil hr
  rw [strictP, h]
/-- Pairs that Build lays one behind the other. -/
def okFrom : Nat → List UInt8 → List KV → Prop
  | _, _, [] => True
  | i, last, m :: r => okStep i last m ∧ okFrom (i + 1) (bl m.1) r
theorem strict_is : ∀ (f i : Nat) (last rest : List UInt8) (l : List KV), strictP f i last rest = some l → rest = bodyL i last l ∧ okFrom i last l
  | f, i, last, [], l, h => by
    rw [strict_nil] at h
    cases h
    exact ⟨rfl, trivial⟩
  | 0, i, last, c :: r, l, h => by cases h
  | f + 1, i, last, c :: r, l, h => by
    rw [strictP] at h
    split at h
    · cases h
    · rename_i m r' hs
      obtain ⟨e1, e2⟩ := step_some hs
      obtain ⟨q, hq, rfl⟩ := Option.map_eq_some_iff.1 h
      obtain ⟨e3, e4⟩ := strict_is f _ _ _ q hq
      refine ⟨?_, e2, e4⟩
      rw [e1, bodyL, ← e3]
theorem strict_of : ∀ (l : List KV) (f i : Nat) (last : List UInt8), okFrom i last l → l.length ≤ f → last.length < 9223372036854775808 → strictP f i last (bodyL i last l) = some l := by
  intro l
  induction l with
  | nil => intro f i last _ _ _; exact strict_nil _ _ _
  | cons m l ih =>
    intro f i last h hf hl
    obtain ⟨f, rfl⟩ : ∃ g, f = g + 1 := ⟨f - 1, by simp at hf; omega⟩
    have h1 := step_of (r := bodyL (i + 1) (bl m.1) l) h.1 hl
    have hne : onePair i last (bl m.1) (bl m.2) ++ bodyL (i + 1) (bl m.1) l ≠ [] := by
      intro e
      have := congrArg List.length e
      have h2 := pv_pos (comI i last (bl m.1))
      rw [onePair] at this
      simp only [List.length_append, List.length_nil] at this
      omega
    rw [bodyL, strict_some hne h1, ih f (i + 1) (bl m.1) h.2 (by simpa using hf) (by have := h.1.1; rw [bl_len]; omega)]
    rfl
theorem okFrom_rises : ∀ (l : List KV) (i : Nat) (x : KV), okFrom (i + 1) (bl x.1) l → risesK (x :: l) = true
  | [], _, _, _ => rfl
  | m :: r, i, x, h => by
    rw [risesK, Bool.and_eq_true, decide_eq_true_eq]
    refine ⟨?_, okFrom_rises r (i + 1) m h.2⟩
    rcases h.1.2.2 with h1 | h1
    · omega
    · exact h1
theorem okFrom_all : ∀ (l : List KV) (i : Nat) (last : List UInt8), okFrom i last l → longK l = false
  | [], _, _, _ => rfl
  | m :: r, i, last, h => by
    have h1 := okFrom_all r _ _ h.2
    obtain ⟨s1, s2, _⟩ := h.1
    unfold longK at h1 ⊢
    rw [List.any_cons, h1]
    simp
    omega
theorem okFrom_zero {l : List KV} {last : List UInt8} (h : okFrom 0 last l) : risesK l = true ∧ longK l = false := by
  refine ⟨?_, okFrom_all _ _ _ h⟩
  cases l with
  | nil => rfl
  | cons m r => exact okFrom_rises r 0 m h.2
theorem okFrom_of : ∀ (l : List KV) (i : Nat) (x : KV), risesK (x :: l) = true → longK l = false → okFrom i (bl x.1) l
  | [], _, _, _, _ => trivial
  | m :: r, i, x, h, hl => by
    rw [risesK, Bool.and_eq_true, decide_eq_true_eq] at h
    have hs := longK_ok hl m (List.mem_cons_self ..)
    refine ⟨⟨hs.1, hs.2, Or.inr h.1⟩, okFrom_of r (i + 1) m h.2 ?_⟩
    unfold longK at hl ⊢
    rw [List.any_cons, Bool.or_eq_false_iff] at hl
    exact hl.2
theorem okFrom_start {l : List KV} (h : risesK l = true) (hl : longK l = false) (last : List UInt8) : okFrom 0 last l := by
  cases l with
  | nil => trivial
  | cons m r =>
    have hs := longK_ok hl m (List.mem_cons_self ..)
    refine ⟨⟨hs.1, hs.2, Or.inl rfl⟩, okFrom_of r 1 m h ?_⟩
    unfold longK at hl ⊢
    rw [List.any_cons, Bool.or_eq_false_iff] at hl
    exact hl.2

/-- Four bytes are those of the number that they tell. -/
theorem be_getL4 : ∀ l : List UInt8, l.length = 4 → be (getL l) 4 = l := by
  intro l h
  match l, h with
  | [a, b, c, d], _ =>
    have ha := UInt8.toNat_lt a
    have hb := UInt8.toNat_lt b
    have hc := UInt8.toNat_lt c
    have hd := UInt8.toNat_lt d
    have e : getL [a, b, c, d] = ((a.toNat * 256 + b.toNat) * 256 + c.toNat) * 256 + d.toNat := by
      unfold getL
      simp
    rw [e]
    have r4 : List.range 4 = [0, 1, 2, 3] := by decide
    unfold be
    rw [r4]
    simp only [List.map_cons, List.map_nil]
    congr 1
    · apply UInt8.toNat_inj.1
      rw [UInt8.toNat_ofNat']
      simp only [Nat.reduceSub, Nat.reduceMul, Nat.reducePow]
      omega
    congr 1
    · apply UInt8.toNat_inj.1
      rw [UInt8.toNat_ofNat']
      simp only [Nat.reduceSub, Nat.reduceMul, Nat.reducePow]
      omega
    congr 1
    · apply UInt8.toNat_inj.1
      rw [UInt8.toNat_ofNat']
      simp only [Nat.reduceSub, Nat.reduceMul, Nat.reducePow]
      omega
    congr 1
    · apply UInt8.toNat_inj.1
      rw [UInt8.toNat_ofNat']
      simp only [Nat.reduceSub, Nat.reduceMul, Nat.reducePow]
      omega
theorem getL_be4 (v : Nat) (h : v < 4294967296) : getL (be v 4) = v := by
  have h1 := be_getL4 (be v 4) (be_length v 4)
  have h2 : getL (be v 4) < 4294967296 := by
    have : ∀ l : List UInt8, l.length = 4 → getL l < 4294967296 := by
      intro l h
      match l, h with
      | [a, b, c, d], _ =>
        have ha := UInt8.toNat_lt a
        have hb := UInt8.toNat_lt b
        have hc := UInt8.toNat_lt c
        have hd := UInt8.toNat_lt d
        have e : getL [a, b, c, d] = ((a.toNat * 256 + b.toNat) * 256 + c.toNat) * 256 + d.toNat := by
          unfold getL
          simp
        rw [e]
        omega
    exact this _ (be_length v 4)
  exact be4_inj h2 h h1
/-- What the landed Parse answers. -/
def sParse (b : ByteArray) : Option (List KV) :=
  if b.size < 8 ∨ 524288 < b.size then none
  else if getL ((bl b).drop (b.size - 4)) ≠ crc ((bl b).take (b.size - 4)) then none
  else match strictP b.size 0 [] ((bl b).take (b.size - 8)) with
    | none => none
    | some l => if getL (((bl b).take (b.size - 4)).drop (b.size - 8)) = l.length then some l else none
theorem sParse_some {b : ByteArray} {l : List KV} (h : sParse b = some l) : buildP l = (b, 0) := by
  unfold sParse at h
  split at h
  · cases h
  · rename_i h1
    split at h
    · cases h
    · rename_i h2
      split at h
      · cases h
      · rename_i l' hs
        split at h
        · rename_i h3
          cases h
          obtain ⟨e1, e2⟩ := strict_is _ _ _ _ _ hs
          obtain ⟨r1, r2⟩ := okFrom_zero e2
          have hb : (bl b).length = b.size := rfl
          have c1 := be_getL4 ((bl b).drop (b.size - 4)) (by rw [List.length_drop]; omega)
          have c2 := be_getL4 (((bl b).take (b.size - 4)).drop (b.size - 8)) (by rw [List.length_drop, List.length_take]; omega)
          have h2' := Classical.not_not.1 h2
          have d2 : (bl b).take (b.size - 4) = bodyL 0 [] l ++ be l.length 4 := by
            rw [← h3, c2, ← e1]
            have : (bl b).take (b.size - 8) = ((bl b).take (b.size - 4)).take (b.size - 8) := by rw [List.take_take, Nat.min_eq_left (by omega)]
            rw [this, List.take_append_drop]
          have d3 : bl b = blkL l := by
            unfold blkL
            rw [← d2, ← h2', c1, List.take_append_drop]
          have hl : (blkL l).length = b.size := by rw [← d3]; rfl
          unfold buildP
          rw [if_neg (by rw [r1]; decide), if_neg (by rw [r2]; decide), if_neg (by omega), ← d3]
        · cases h
theorem sParse_of {b : ByteArray} {l : List KV} (h : buildP l = (b, 0)) : sParse b = some l := by
  obtain ⟨h1, h2, h3, h4⟩ := buildP_ok h
  have hb : bl b = blkL l := by rw [h4]
  have hs : b.size = (blkL l).length := by rw [← hb]; rfl
  have h8 := blkL_length l
  have hc := body_count l 0 []
  have hn : b.size - 8 = (bodyL 0 [] l).length := by omega
  have hn4 : b.size - 4 = (bodyL 0 [] l ++ be l.length 4).length := by rw [List.length_append, be_length]; omega
  have t4 : (bl b).take (b.size - 4) = bodyL 0 [] l ++ be l.length 4 := by
    rw [hn4, hb]; unfold blkL; exact List.take_left
  have d4 : (bl b).drop (b.size - 4) = be (crc (bodyL 0 [] l ++ be l.length 4)) 4 := by
    rw [hn4, hb]; unfold blkL; exact List.drop_left
  have t8 : (bl b).take (b.size - 8) = bodyL 0 [] l := by rw [hs, hb, blkL_body]
  have d8 : ((bl b).take (b.size - 4)).drop (b.size - 8) = be l.length 4 := by rw [t4, hn]; exact List.drop_left
  unfold sParse
  rw [if_neg (by omega), d8, d4, t8, t4, getL_be4 _ (crc_lt _), if_neg (fun h => h rfl), strict_of l _ 0 [] (okFrom_start h1 h2 _) (by omega) (by decide)]
  dsimp only
  rw [getL_be4 _ (by omega), if_pos rfl]
theorem sParse_is (b : ByteArray) : parseP b = match sParse b with
    | none => ([], 31)
    | some l => (l, 0) := by
  cases h : sParse b with
  | some l => exact parse_build (sParse_some h)
  | none => exact parse_no fun l hl => by rw [sParse_of hl] at h; cases h
end Go.Proofs.YtcbgflidlpmhcaaGreatDoor

namespace Go.Proofs.YtcbgflidlpmhcaaGreatDoor
open Go.RowKit

/-- A head, as bytes. -/
def headL13 (l : List UInt8) : List UInt8 := l.take (headN l)
theorem headT_bl (s : ByteArray) : bl (headT s) = headL13 (bl s) := by
  unfold headT headL13
  exact bl_take s _ (by have := headN_le (bl s); rw [bl_len] at this; exact this)
theorem headL_two (x y : UInt8) (r : List UInt8) : headL13 (x :: y :: r) = if x = 0 ∧ y = 1 then [0, 1] else x :: headL13 (y :: r) := by
  unfold headL13
  rw [headN]
  by_cases h : x = 0 ∧ y = 1
  · rw [if_pos h, if_pos h, h.1, h.2]
    rfl
  · rw [if_neg h, if_neg h]
    rfl
theorem headL_first (x : UInt8) (r : List UInt8) : ∃ t, headL13 (x :: r) = x :: t := by
  cases r with
  | nil => exact ⟨[], rfl⟩
  | cons y r =>
    rw [headL_two]
    split
    · rename_i h
      exact ⟨[1], by rw [h.1]⟩
    · exact ⟨_, rfl⟩
theorem headL_one (x : UInt8) : headL13 [x] = [x] := rfl
theorem headL_nil : headL13 [] = [] := rfl
theorem headL_empty {l : List UInt8} (h : headL13 l = []) : l = [] := by
  cases l with
  | nil => rfl
  | cons x r =>
    obtain ⟨t, ht⟩ := headL_first x r
    rw [ht] at h
    cases h
theorem headL_single {l : List UInt8} {x : UInt8} (h : headL13 l = [x]) : l = [x] := by
  match l with
  | [] => cases h
  | [y] => exact h
  | y :: z :: r =>
    rw [headL_two] at h
    split at h
    · cases h
    · injection h with h1 h2
      have := headL_empty h2
      cases this
theorem cmp13_nil (b : List UInt8) (h : Lib.compareBytes b [] < 0) : False := by
  cases b with
  | nil => exact absurd h (by decide)
  | cons x r => exact absurd h (by show ¬ (1 : Int) < 0; decide)
theorem cmp13_cons {x y : UInt8} {a b : List UInt8} (h : Lib.compareBytes (x :: a) (y :: b) < 0) : x.toNat < y.toNat ∨ (x = y ∧ Lib.compareBytes a b < 0) := by
  rw [cmp9_cons] at h
  by_cases h1 : x.toNat < y.toNat
  · exact Or.inl h1
  · rw [if_neg h1] at h
    by_cases h2 : y.toNat < x.toNat
    · rw [if_pos h2] at h
      exact absurd h (by decide)
    · rw [if_neg h2] at h
      exact Or.inr ⟨UInt8.toNat_inj.1 (by omega), h⟩
/-- What stands between two keys of one head has that head. -/
theorem head_between : ∀ a b c : List UInt8, Lib.compareBytes a b < 0 → Lib.compareBytes b c < 0 → headL13 a = headL13 c → headL13 b = headL13 a
  | [], b, c, _, h2, hh => by
    have := headL_empty hh.symm
    subst this
    exact (cmp13_nil b h2).elim
  | [x], b, c, h1, h2, hh => by
    have := headL_single (hh.symm.trans (headL_one x))
    subst this
    have h3 := (cmp_trans _ _ _ (by omega) (by omega : Lib.compareBytes b [x] ≤ 0)).2 h1
    exfalso
    have h4 : Lib.compareBytes [x] [x] = 0 := (cmp_eq _ _).2 rfl
    omega
  | x :: y :: r, [], c, h1, _, _ => (cmp13_nil _ h1).elim
  | x :: y :: r, b0 :: b1, [], _, h2, _ => (cmp13_nil _ h2).elim
  | x :: y :: r, b0 :: b1, c0 :: c1, h1, h2, hh => by
    have hc0 : c0 = x := by
      obtain ⟨t, ht⟩ := headL_first x (y :: r)
      obtain ⟨t', ht'⟩ := headL_first c0 c1
      rw [ht, ht'] at hh
      injection hh with h
      exact h.symm
    subst hc0
    have e1 := cmp13_cons h1
    have e2 := cmp13_cons h2
    have hb0 : b0 = c0 := by
      rcases e1 with e1 | e1
      · rcases e2 with e2 | e2
        · omega
        · exact e2.1
      · exact e1.1.symm
    subst hb0
    have f1 : Lib.compareBytes (y :: r) b1 < 0 := by
      rcases e1 with e1 | e1
      · omega
      · exact e1.2
    have f2 : Lib.compareBytes b1 c1 < 0 := by
      rcases e2 with e2 | e2
      · omega
      · exact e2.2
    cases b1 with
    | nil => exact (cmp13_nil _ f1).elim
    | cons b1 b2 =>
      cases c1 with
      | nil => exact (cmp13_nil _ f2).elim
      | cons c1 c2 =>
        by_cases hxy : b0 = 0 ∧ y = 1
        · have hA := headL_two b0 y r
          rw [if_pos hxy] at hA
          rw [hA, headL_two] at hh
          rw [hA, headL_two]
          have hc1 : c1 = 1 := by
            split at hh
            · rename_i h; exact h.2
            · injection hh with _ h
              have := headL_single h.symm
              injection this
          have g1 := cmp13_cons f1
          have g2 := cmp13_cons f2
          have hb1 : b1 = 1 := by
            apply UInt8.toNat_inj.1
            rw [hc1] at g2
            rw [hxy.2] at g1
            rcases g1 with g1 | g1
            · rcases g2 with g2 | g2
              · omega
              · rw [g2.1]
            · rw [← g1.1]
          rw [if_pos ⟨hxy.1, hb1⟩]
        · have hA := headL_two b0 y r
          rw [if_neg hxy] at hA
          obtain ⟨t, ht⟩ := headL_first y r
          have hC : ¬ (b0 = 0 ∧ c1 = 1) := by
            rintro ⟨q1, q2⟩
            rw [hA, headL_two b0 c1 c2, if_pos ⟨q1, q2⟩] at hh
            injection hh with _ h
            have := headL_single h
            injection this with h5
            exact hxy ⟨q1, h5⟩
          have hC2 := headL_two b0 c1 c2
          rw [if_neg hC] at hC2
          rw [hA, hC2] at hh
          injection hh with _ hh2
          have ih := head_between (y :: r) (b1 :: b2) (c1 :: c2) f1 f2 hh2
          have hB : ¬ (b0 = 0 ∧ b1 = 1) := by
            rintro ⟨q1, q2⟩
            obtain ⟨t', ht'⟩ := headL_first b1 b2
            rw [ht, ht'] at ih
            injection ih with h5
            exact hxy ⟨q1, by rw [← h5, q2]⟩
          rw [hA, headL_two, if_neg hB, ih]

/-- The heads of keys, as bytes. -/
def hdsA (L : List KV) : Array (List UInt8) := (L.map fun m => bl (headT m.1)).toArray
theorem hdsA_size (L : List KV) : (hdsA L).size = L.length := by unfold hdsA; simp
theorem hdsA_at (L : List KV) (i : Nat) (m : KV) (h : L[i]? = some m) : (hdsA L)[i]! = bl (headT m.1) := by
  have h1 := (List.getElem?_eq_some_iff.1 h).1
  have h2 := (List.getElem?_eq_some_iff.1 h).2
  unfold hdsA
  rw [getElem!_pos _ i (by simpa using h1)]
  simp [h2]
/-- Compact of the heads of keys that rise is each of them once. -/
theorem heads_compact {L : List KV} (hR : risesK L = true) : ∀ k, k ≤ L.length → (Lib.compactUpTo (hdsA L) k).map (fun l => (⟨l.toArray⟩ : ByteArray)) = headsK (L.take k)
  | 0, _ => rfl
  | k + 1, hk => by
    have ih := heads_compact hR k (by omega)
    have hm : L[k]? = some L[k] := List.getElem?_eq_getElem (by omega)
    generalize L[k] = m at hm
    have ht : L.take (k + 1) = L.take k ++ [m] := by rw [List.take_add_one, hm]; rfl
    have hd := hdsA_at L k m hm
    rw [Lib.compactUpTo_succ, List.map_append, ih, ht, headsK_snoc, headsStep]
    have hmem : hasT (headsK (L.take k)) (headT m.1) = true ↔ Lib.keeps (hdsA L) k = false := by
      rw [hasT_mem, headsK_mem]
      constructor
      · rintro ⟨a, ha, he⟩
        obtain ⟨i, hi⟩ := List.mem_iff_getElem?.1 ha
        have hik : i < k := by
          have := (List.getElem?_eq_some_iff.1 hi).1
          rw [List.length_take] at this
          omega
        have hia : L[i]? = some a := by rw [List.getElem?_take_of_lt hik] at hi; exact hi
        have hp : L[k - 1]? = some L[k - 1] := List.getElem?_eq_getElem (by omega)
        have hdp := hdsA_at L (k - 1) _ hp
        generalize L[k - 1] = q at hp hdp
        refine Lib.keeps_neg (by omega) ?_
        rw [hd, hdp]
        by_cases e : i = k - 1
        · subst e
          rw [hp] at hia
          cases hia
          rw [he]
        · have c1 := rises_get hR (show i < k - 1 by omega) hia hp
          have c2 := rises_get hR (show k - 1 < k by omega) hp hm
          have := head_between (bl a.1) (bl q.1) (bl m.1) c1 c2 (by rw [← headT_bl, ← headT_bl, he])
          rw [headT_bl, headT_bl, this, ← headT_bl, ← headT_bl, he]
      · intro hk0
        unfold Lib.keeps at hk0
        have h9 := of_decide_eq_false hk0
        have h0 : k ≠ 0 := fun e => h9 (Or.inl e)
        have hp : L[k - 1]? = some L[k - 1] := List.getElem?_eq_getElem (by omega)
        have hdp := hdsA_at L (k - 1) _ hp
        generalize L[k - 1] = q at hp hdp
        have e1 : bl (headT m.1) = bl (headT q.1) := by
          rw [← hd, ← hdp]
          exact Classical.not_not.1 fun e => h9 (Or.inr e)
        refine ⟨q, List.mem_iff_getElem?.2 ⟨k - 1, ?_⟩, bl_inj e1⟩
        rw [List.getElem?_take_of_lt (by omega)]
        exact hp
    by_cases hkp : Lib.keeps (hdsA L) k = true
    · rw [if_pos hkp, if_neg (fun h => by rw [hmem.1 h] at hkp; cases hkp), hd]
      rfl
    · rw [if_neg hkp, if_pos (hmem.2 (by simpa using hkp))]
      simp
end Go.Proofs.YtcbgflidlpmhcaaGreatDoor

namespace Go.Proofs.YtcbgflidlpmhcaaGreatDoor
open Go.RowKit

/-- The blocks, one behind the other; how long each is. -/
def catB (G : List (List KV)) : List UInt8 := G.flatMap blkL
def idxB (G : List (List KV)) : List UInt8 := G.flatMap fun g => be (blkL g).length 4
/-- All ahead of a table's sum. -/
def tabB (G : List (List KV)) (F : ByteArray) : List UInt8 := catB G ++ (bl F ++ (idxB G ++ be G.length 4))
def tabL (G : List (List KV)) (F : ByteArray) : List UInt8 := tabB G F ++ be (crc (tabB G F)) 4
theorem catB_snoc (G : List (List KV)) (g : List KV) : catB (G ++ [g]) = catB G ++ blkL g := by unfold catB; rw [List.flatMap_append]; simp
theorem idxB_snoc (G : List (List KV)) (g : List KV) : idxB (G ++ [g]) = idxB G ++ be (blkL g).length 4 := by unfold idxB; rw [List.flatMap_append]; simp
theorem idxB_length (G : List (List KV)) : (idxB G).length = 4 * G.length := by
  induction G with
  | nil => rfl
  | cons g r ih =>
    unfold idxB at ih ⊢
    rw [List.flatMap_cons, List.length_append, be_length, ih, List.length_cons]
    omega
theorem sumK_append (l r : List KV) : sumK (l ++ r) = sumK l + sumK r := by
  induction l with
  | nil => simp [sumK]
  | cons x l ih => rw [List.cons_append, sumK, sumK, ih]; omega
theorem longK_append (l r : List KV) : longK (l ++ r) = (longK l || longK r) := by unfold longK; rw [List.any_append]
theorem flatten_len {G : List (List KV)} (h : ∀ g ∈ G, g ≠ []) : G.length ≤ G.flatten.length := by
  induction G with
  | nil => exact Nat.le_refl _
  | cons g r ih =>
    have h1 := ih (fun x hx => h x (List.mem_cons_of_mem _ hx))
    have h2 := List.length_pos_iff.2 (h g (List.mem_cons_self ..))
    rw [List.flatten_cons, List.length_append, List.length_cons]
    omega
theorem catB_length {G : List (List KV)} (h : longK G.flatten = false) : (catB G).length ≤ 8 * G.length + sumK G.flatten := by
  induction G with
  | nil => exact Nat.zero_le _
  | cons g r ih =>
    rw [List.flatten_cons, longK_append, Bool.or_eq_false_iff] at h
    have h1 := ih h.2
    have h2 := (blk_bounds h.1).1
    unfold catB at h1 ⊢
    rw [List.flatMap_cons, List.length_append, List.flatten_cons, sumK_append, List.length_cons]
    omega

/-- A block's pairs behind those that a table has. -/
def addB (l : List KV) (b : ByteArray) : Option (List KV) :=
  match sParse b with
  | none => none
  | some [] => none
  | some (m :: r) => match l[l.length - 1]? with
    | none => some (l ++ m :: r)
    | some a => if cmpT a.1 m.1 < 0 then some (l ++ m :: r) else none
/-- So many blocks, their sizes told by x, taken from s. -/
def addsB : Nat → ByteArray → ByteArray → List KV → Option (List KV × ByteArray)
  | 0, _, s, l => some (l, s)
  | n + 1, x, s, l => if s.size < getL (bl (x.extract 0 4)) then none else
    match addB l (s.extract 0 (getL (bl (x.extract 0 4)))) with
    | none => none
    | some l' => addsB n (x.extract 4 x.size) (s.extract (getL (bl (x.extract 0 4))) s.size) l'
/-- What Open reads: the pairs, how many blocks, the filter. -/
def readT2 (n : Nat) (s2 : ByteArray) : Option (List KV × Nat × ByteArray) :=
  if s2.size < 4 * n then none else
  match addsB n (s2.extract (s2.size - 4 * n) s2.size) (s2.extract 0 (s2.size - 4 * n)) [] with
  | none => none
  | some (l, s) => if l = [] then none else if (l.all fun m => mayT s (crc (bl (headT m.1)))) = true then some (l, n, s) else none
def readT (b : ByteArray) : Option (List KV × Nat × ByteArray) :=
  if b.size < 4 then none else
  if getL (bl (b.extract (b.size - 4) b.size)) ≠ crc (bl (b.extract 0 (b.size - 4))) then none else
  if b.size - 4 < 4 then none else
  readT2 (getL (bl ((b.extract 0 (b.size - 4)).extract (b.size - 4 - 4) (b.size - 4)))) ((b.extract 0 (b.size - 4)).extract 0 (b.size - 4 - 4))

theorem sParse_len {b : ByteArray} {l : List KV} (h : sParse b = some l) : l.length ≤ b.size ∧ longK l = false ∧ risesK l = true := by
  obtain ⟨h1, h2, h3, h4⟩ := buildP_ok (sParse_some h)
  refine ⟨?_, h2, h1⟩
  have h5 := body_count l 0 []
  have h6 := blkL_length l
  rw [h4, size_mk]
  omega
theorem addB_ok {l l' : List KV} {b : ByteArray} (h : addB l b = some l') (hl : risesK l = true) (hs : longK l = false) : risesK l' = true ∧ longK l' = false ∧ l'.length ≤ l.length + b.size ∧ l' ≠ [] := by
  unfold addB at h
  split at h
  · cases h
  · cases h
  · rename_i m r hp
    obtain ⟨c1, c2, c3⟩ := sParse_len hp
    split at h
    · rename_i hn
      cases h
      have : l = [] := by
        cases l with
        | nil => rfl
        | cons a l =>
          rw [List.getElem?_eq_getElem (by simp)] at hn
          cases hn
      subst this
      exact ⟨c3, c2, by simpa using c1, by simp⟩
    · rename_i a ha
      split at h
      · rename_i hc
        cases h
        refine ⟨rises_join hl c3 fun x y hx hy => ?_, by rw [longK_append, hs, c2]; rfl, by rw [List.length_append]; omega, by simp⟩
        rw [ha] at hx
        cases hx
        cases hy
        exact hc
      · cases h
theorem addsB_ok : ∀ (n : Nat) (x s : ByteArray) (l l' : List KV) (s' : ByteArray), addsB n x s l = some (l', s') → risesK l = true → longK l = false → risesK l' = true ∧ longK l' = false ∧ l'.length + s'.size ≤ l.length + s.size
  | 0, x, s, l, l', s', h, hl, hs => by
    cases h
    exact ⟨hl, hs, Nat.le_refl _⟩
  | n + 1, x, s, l, l', s', h, hl, hs => by
    rw [addsB] at h
    generalize getL (bl (x.extract 0 4)) = k at h
    split at h
    · cases h
    · rename_i hk
      split at h
      · cases h
      · rename_i q hq
        obtain ⟨d1, d2, d3, _⟩ := addB_ok hq hl hs
        obtain ⟨e1, e2, e3⟩ := addsB_ok n _ _ _ _ _ h d1 d2
        refine ⟨e1, e2, ?_⟩
        rw [ByteArray.size_extract] at d3 e3
        omega
theorem readT_ok {b : ByteArray} {l : List KV} {n : Nat} {s : ByteArray} (h : readT b = some (l, n, s)) : fitsB b ∧ risesK l = true ∧ longK l = false ∧ l ≠ [] ∧ l.length + s.size ≤ b.size := by
  unfold readT at h
  split at h
  · cases h
  · rename_i h1
    split at h
    · cases h
    · rename_i h2
      split at h
      · cases h
      · generalize getL (bl ((b.extract 0 (b.size - 4)).extract (b.size - 4 - 4) (b.size - 4))) = k at h
        have hz : ((b.extract 0 (b.size - 4)).extract 0 (b.size - 4 - 4)).size ≤ b.size := by simp; omega
        generalize (b.extract 0 (b.size - 4)).extract 0 (b.size - 4 - 4) = s2 at h hz
        unfold readT2 at h
        split at h
        · cases h
        · split at h
          · cases h
          · rename_i l1 s1 ha
            split at h
            · cases h
            · rename_i hne
              split at h
              · cases h
                obtain ⟨e1, e2, e3⟩ := addsB_ok _ _ _ _ _ _ ha rfl rfl
                refine ⟨?_, e1, e2, hne, ?_⟩
                · have h2 := Classical.not_not.1 h2
                  rw [fits_iff b (by omega)]
                  have d1 := bl_drop b (b.size - 4)
                  have d2 := bl_take b (b.size - 4) (by omega)
                  rw [← d1, ← d2, ← h2]
                  refine (be_getL4 _ ?_).symm
                  rw [d1, List.length_drop, bl_len]
                  omega
                · rw [ByteArray.size_extract] at e3
                  simp at e3
                  omega
              · cases h
/-- Bytes whose sum does not fit are none. -/
theorem readT_unfit {b : ByteArray} (h : ¬ fitsB b) : readT b = none := by
  cases hr : readT b with
  | none => rfl
  | some x =>
    obtain ⟨l, n, s⟩ := x
    exact absurd (readT_ok hr).1 h

theorem adds_groups : ∀ (G : List (List KV)) (P : List KV) (x s : ByteArray) (F : ByteArray), bl x = idxB G → bl s = catB G ++ bl F → (∀ g ∈ G, g ≠ [] ∧ longK g = false ∧ (blkL g).length ≤ 524288) → risesK (P ++ G.flatten) = true →
    addsB G.length x s P = some (P ++ G.flatten, F)
  | [], P, x, s, F, _, hs, _, _ => by
    rw [show s = F from bl_inj hs]
    simp [addsB]
  | g :: G, P, x, s, F, hx, hs, hg, hR => by
    obtain ⟨g1, g2, g3⟩ := hg g (List.mem_cons_self ..)
    have hx' : bl x = be (blkL g).length 4 ++ idxB G := hx
    have hs' : bl s = blkL g ++ (catB G ++ bl F) := by rw [hs]; unfold catB; rw [List.flatMap_cons, List.append_assoc]
    have hxl : x.size = 4 + 4 * G.length := by rw [← bl_len, hx', List.length_append, be_length, idxB_length]
    have hsl : s.size = (blkL g).length + (catB G ++ bl F).length := by rw [← bl_len, hs', List.length_append]
    have h4 : bl (x.extract 0 4) = be (blkL g).length 4 := by rw [bl_take x 4 (by omega), hx']; exact List.take_left' (be_length _ _)
    have hk : getL (bl (x.extract 0 4)) = (blkL g).length := by rw [h4]; exact getL_be4 _ (by omega)
    have hR2 : risesK ((P ++ g) ++ G.flatten) = true := by rw [List.append_assoc]; rw [List.flatten_cons] at hR; exact hR
    have hPg := (rises_both hR2).1
    have hgr := (rises_both hPg).2
    have hb : buildP g = (⟨(blkL g).toArray⟩, 0) := by
      unfold buildP
      rw [if_neg (by rw [hgr]; decide), if_neg (by rw [g2]; decide), if_neg (by omega)]
    have hse : s.extract 0 (blkL g).length = ⟨(blkL g).toArray⟩ := bl_inj (by rw [bl_take s _ (by omega), hs', bl_mk]; exact List.take_left)
    have hadd : addB P (s.extract 0 (blkL g).length) = some (P ++ g) := by
      obtain ⟨m, r, rfl⟩ := List.exists_cons_of_ne_nil g1
      unfold addB
      rw [hse, sParse_of hb]
      dsimp only
      split
      · rfl
      · rename_i a ha
        rw [if_pos]
        have hPl := (List.getElem?_eq_some_iff.1 ha).1
        exact rises_get hPg (show P.length - 1 < P.length by omega) (by rw [List.getElem?_append_left hPl]; exact ha) (by rw [List.getElem?_append_right (Nat.le_refl _), Nat.sub_self]; rfl)
    rw [List.length_cons, addsB, hk, if_neg (by omega), hadd]
    dsimp only
    rw [adds_groups G (P ++ g) _ _ F ?_ ?_ (fun y hy => hg y (List.mem_cons_of_mem _ hy)) hR2, List.append_assoc, List.flatten_cons]
    · rw [bl_drop, hx']; exact List.drop_left' (be_length _ _)
    · rw [bl_drop, hs']; exact List.drop_left
/-- What Write tells is read as it was. -/
theorem readT_tab {L : List KV} {G : List (List KV)} {F b : ByteArray} (hb : bl b = tabL G F) (hall : G.flatten = L) (hne : L ≠ []) (hG : ∀ g ∈ G, g ≠ [] ∧ longK g = false ∧ (blkL g).length ≤ 524288) (hR : risesK L = true) (hn : G.length < 4294967296)
    (hF : ∀ m ∈ L, mayT F (crc (bl (headT m.1))) = true) : readT b = some (L, G.length, F) := by
  have hbl : b.size = (tabB G F).length + 4 := by rw [← bl_len, hb]; unfold tabL; rw [List.length_append, be_length]
  have htl : (tabB G F).length = (catB G ++ bl F).length + 4 * G.length + 4 := by
    unfold tabB
    simp only [List.length_append, be_length, idxB_length]
    omega
  have e1 : b.size - 4 = (tabB G F).length := by omega
  have e2 : b.size - 4 - 4 = (catB G ++ bl F ++ idxB G).length := by rw [List.length_append, idxB_length]; omega
  have tb : tabB G F = (catB G ++ bl F ++ idxB G) ++ be G.length 4 := by unfold tabB; simp only [List.append_assoc]
  have t1 : bl (b.extract 0 (b.size - 4)) = tabB G F := by rw [bl_take b _ (by omega), e1, hb]; exact List.take_left
  have t2 : bl (b.extract (b.size - 4) b.size) = be (crc (tabB G F)) 4 := by rw [bl_drop, e1, hb]; exact List.drop_left
  have z1 : (b.extract 0 (b.size - 4)).size = b.size - 4 := by simp
  have t3 : bl ((b.extract 0 (b.size - 4)).extract (b.size - 4 - 4) (b.size - 4)) = be G.length 4 := by
    have := bl_drop (b.extract 0 (b.size - 4)) (b.size - 4 - 4)
    rw [z1] at this
    rw [this, t1, e2, tb]
    exact List.drop_left
  have t4 : bl ((b.extract 0 (b.size - 4)).extract 0 (b.size - 4 - 4)) = catB G ++ bl F ++ idxB G := by
    rw [bl_take _ _ (by omega), t1, e2, tb]
    exact List.take_left
  unfold readT
  rw [if_neg (by omega), t2, t1, getL_be4 _ (crc_lt _), if_neg (fun h => h rfl), if_neg (by omega), t3, getL_be4 _ hn]
  generalize (b.extract 0 (b.size - 4)).extract 0 (b.size - 4 - 4) = s2 at t4
  have z2 : s2.size = (catB G ++ bl F).length + 4 * G.length := by rw [← bl_len, t4, List.length_append, idxB_length]
  have e3 : s2.size - 4 * G.length = (catB G ++ bl F).length := by omega
  have t5 : bl (s2.extract (s2.size - 4 * G.length) s2.size) = idxB G := by rw [bl_drop, e3, t4]; exact List.drop_left
  have t6 : bl (s2.extract 0 (s2.size - 4 * G.length)) = catB G ++ bl F := by rw [bl_take s2 _ (by omega), e3, t4]; exact List.take_left
  unfold readT2
  rw [if_neg (by omega), adds_groups G [] _ _ F t5 t6 hG (by rw [List.nil_append, hall]; exact hR), List.nil_append, hall]
  dsimp only
  rw [if_neg hne, if_pos (List.all_eq_true.2 fun m hm => hF m hm)]
end Go.Proofs.YtcbgflidlpmhcaaGreatDoor

namespace Go.Proofs.YtcbgflidlpmhcaaGreatDoor
open Go.RowKit

/-- A head ends behind the first 0 and 1. -/
theorem head_index : ∀ l : List UInt8, (Lib.index l [0, 1] = -1 ∧ headN l = l.length) ∨ ∃ k : Nat, Lib.index l [0, 1] = (k : Int) ∧ headN l = k + 2 ∧ k + 2 ≤ l.length
  | [] => Or.inl ⟨rfl, rfl⟩
  | [b] => Or.inl ⟨by unfold Lib.index; simp [Lib.index, List.isPrefixOf], rfl⟩
  | b :: c :: r => by
    have hi : Lib.index (b :: c :: r) [0, 1] = if [0, 1].isPrefixOf (b :: c :: r) then 0 else if Lib.index (c :: r) [0, 1] == -1 then -1 else Lib.index (c :: r) [0, 1] + 1 := rfl
    have hp : List.isPrefixOf [0, 1] (b :: c :: r) = decide (b = 0 ∧ c = 1) := by
      simp only [List.isPrefixOf, Bool.and_true]
      by_cases h1 : b = 0
      · by_cases h2 : c = 1
        · rw [h1, h2]; rfl
        · rw [decide_eq_false (fun h => h2 h.2), h1]
          have : ((1 : UInt8) == c) = false := beq_eq_false_iff_ne.2 (fun e => h2 e.symm)
          rw [this]; rfl
      · rw [decide_eq_false (fun h => h1 h.1)]
        have : ((0 : UInt8) == b) = false := beq_eq_false_iff_ne.2 (fun e => h1 e.symm)
        rw [this]; rfl
    rw [hi, hp, headN]
    by_cases h : b = 0 ∧ c = 1
    · right
      rw [decide_eq_true h, if_pos rfl, if_pos h]
      exact ⟨0, rfl, rfl, by simp⟩
    · rw [decide_eq_false h, if_neg (by decide), if_neg h]
      rcases head_index (c :: r) with ⟨h1, h2⟩ | ⟨k, h1, h2, h3⟩
      · left
        rw [h1, h2]
        exact ⟨rfl, rfl⟩
      · right
        have h4 : (Lib.index (c :: r) [0, 1] == -1) = false := by rw [h1, beq_eq_false_iff_ne]; omega
        refine ⟨k + 1, by rw [h4, h1]; simp, by rw [h2], by simp at h3 ⊢; omega⟩

/-- Ahead of place i the lesser keys stand, from it on the others. -/
structure IsPos (L : List KV) (key : ByteArray) (i : Nat) : Prop where
  le : i ≤ L.length
  low : ∀ t m, t < i → L[t]? = some m → cmpT m.1 key < 0
  high : ∀ t m, i ≤ t → L[t]? = some m → 0 ≤ cmpT m.1 key
theorem IsPos.filter {L : List KV} {key : ByteArray} {i : Nat} (h : IsPos L key i) : L.filter (fun m => decide (0 ≤ cmpT m.1 key)) = L.drop i := by
  conv => lhs; rw [← List.take_append_drop i L]
  rw [List.filter_append]
  have h1 : (L.take i).filter (fun m => decide (0 ≤ cmpT m.1 key)) = [] := by
    rw [List.filter_eq_nil_iff]
    intro m hm
    obtain ⟨t, ht⟩ := List.mem_iff_getElem?.1 hm
    have hti : t < i := by
      have := (List.getElem?_eq_some_iff.1 ht).1
      rw [List.length_take] at this
      omega
    rw [List.getElem?_take_of_lt hti] at ht
    have := h.low t m hti ht
    simp
    omega
  have h2 : (L.drop i).filter (fun m => decide (0 ≤ cmpT m.1 key)) = L.drop i := by
    rw [List.filter_eq_self]
    intro m hm
    obtain ⟨t, ht⟩ := List.mem_iff_getElem?.1 hm
    rw [List.getElem?_drop] at ht
    exact decide_eq_true (h.high (i + t) m (by omega) ht)
  rw [h1, h2, List.nil_append]
theorem IsPos.from_ {L : List KV} {key : ByteArray} {i : Nat} (h : IsPos L key i) (most : Int) : fromK L key most = if most < 0 then L.drop i else (L.drop i).take most.toNat := by
  unfold fromK
  rw [h.filter]
theorem toList_eq_iff (a b : ByteArray) : (a.toList == b.toList) = decide (cmpT a b = 0) := by
  rw [Lib.toList_data, Lib.toList_data]
  by_cases h : cmpT a b = 0
  · rw [decide_eq_true h, (cmpT_eq a b).1 h]
    exact beq_self_eq_true _
  · rw [decide_eq_false h, beq_eq_false_iff_ne]
    intro e
    exact h ((cmpT_eq a b).2 (bl_inj e))
theorem IsPos.get {L : List KV} {key : ByteArray} {i : Nat} (h : IsPos L key i) : getK L key = match L[i]? with
    | some m => if cmpT m.1 key = 0 then (m.2, 0) else (⟨#[]⟩, 22)
    | none => (⟨#[]⟩, 22) := by
  unfold getK
  rw [h.from_ 1, if_neg (by decide)]
  cases hm : L[i]? with
  | none =>
    have : L.drop i = [] := List.drop_eq_nil_of_le (by rw [List.getElem?_eq_none_iff] at hm; exact hm)
    rw [this]
    rfl
  | some m =>
    obtain ⟨h1, h2⟩ := List.getElem?_eq_some_iff.1 hm
    rw [List.drop_eq_getElem_cons h1, h2]
    show (if (m.1.toList == key.toList) = true then (m.2, (0 : Int)) else (⟨#[]⟩, 22)) = _
    rw [toList_eq_iff]
    dsimp only
    by_cases h3 : cmpT m.1 key = 0
    · rw [if_pos h3, decide_eq_true h3, if_pos rfl]
    · rw [if_neg h3, decide_eq_false h3, if_neg (by decide)]
/-- In keys that rise, all behind one that is no lesser are no lesser; all ahead of a lesser one are lesser. -/
theorem rises_low {L : List KV} (hR : risesK L = true) {key : ByteArray} {i : Nat} {a : KV} (ha : L[i]? = some a) (h : cmpT a.1 key < 0) : ∀ t m, t ≤ i → L[t]? = some m → cmpT m.1 key < 0 := by
  intro t m ht hm
  rcases Nat.lt_or_eq_of_le ht with h1 | h1
  · exact cmpT_trans (rises_get hR h1 hm ha) h
  · subst h1
    rw [ha] at hm
    cases hm
    exact h
theorem rises_high {L : List KV} (hR : risesK L = true) {key : ByteArray} {i : Nat} {a : KV} (ha : L[i]? = some a) (h : 0 ≤ cmpT a.1 key) : ∀ t m, i ≤ t → L[t]? = some m → 0 ≤ cmpT m.1 key := by
  intro t m ht hm
  refine Int.not_lt.1 fun hc => ?_
  have := rises_low hR hm hc i a ht ha
  omega
end Go.Proofs.YtcbgflidlpmhcaaGreatDoor

namespace Go.Proofs.YtcbgflidlpmhcaaGreatDoor
open Go.RowKit

theorem comL_comm : ∀ a b : List UInt8, comL a b = comL b a
  | [], b => by cases b <;> simp [comL]
  | a :: x, [] => by simp [comL]
  | a :: x, b :: y => by
    rw [comL, comL, comL_comm x y]
    by_cases h : a = b
    · rw [if_pos h, if_pos h.symm]
    · rw [if_neg h, if_neg (fun e => h e.symm)]

set_option maxRecDepth 100000 in
set_option maxHeartbeats 2000000 in
theorem common_zero (i : Nat) (a k : ByteArray) (w : World) (hi : i < 4611686018427387904) (h8 : i % 8 = 0) :
    Calls Tryz.prog 111 #[.int .i64 (i : Int), .string a, .string k] w fun e w' => e = .returned (.int .i64 0) ∧ w' = w := by
  have e1 : ((i : Int) % 8 == 0) = true := by rw [beq_iff_eq]; omega
  clear h8
  generalize hr : (i : Int) % 8 = r at *
  go_enter Tryz.func111, Tryz.ntmps111
  go_wp2_with fail
  go_ret
  exact ⟨rfl, rfl⟩

set_option maxRecDepth 100000 in
set_option maxHeartbeats 2000000 in
theorem common_loop (i : Nat) (a k : ByteArray) (w : World) (hi : i < 4611686018427387904) (h8 : i % 8 ≠ 0) (ha : a.size ≤ 9223372036854775807) (hk : k.size ≤ 9223372036854775807) :
    Calls Tryz.prog 111 #[.int .i64 (i : Int), .string a, .string k] w fun e w' => e = .returned (.int .i64 (comL (bl k) (bl a) : Int)) ∧ ∃ j, w' = w.drewN j := by
  have e1 : ((i : Int) % 8 == 0) = false := by rw [beq_eq_false_iff_ne]; omega
  have hla : (bl a).length = a.size := rfl
  have hlk : (bl k).length = k.size := rfl
  obtain ⟨g, hg⟩ : ∃ g, comL (bl k) (bl a) = g := ⟨_, rfl⟩
  rw [hg]
  have Hg := Lib.hid hg
  have Hla := Lib.hid hla
  have Hlk := Lib.hid hlk
  clear h8 hg hla hlk
  generalize hr : (i : Int) % 8 = r at *
  go_enter Tryz.func111, Tryz.ntmps111
  go_wp2_with fail
  go_loopw [7] (fun i wr => ∃ k0 j : Nat, k0 ≤ a.size ∧ k0 ≤ k.size ∧ i = .int .i64 (k0 : Int) ∧ Hid (g = k0 + comL ((bl k).drop k0) ((bl a).drop k0)) ∧ Hid (wr = w.drewN j)) (fun i _ => a.size - (intOf i).toNat)
  case atStart => exact ⟨0, 0, by omega, by omega, rfl, Lib.hid (by rw [← Hg.out]; simp), Lib.hid rfl⟩
  case round =>
    obtain ⟨n, j0, hna, hnk, rfl, Hk, HW⟩ := hrel
    have n0 : (0 : Int) ≤ (n : Int) := by omega
    by_cases hl : n < a.size
    · by_cases hm : n < k.size
      · have hka' : (n : Int) < (a.size : Int) := by omega
        have hkb' : (n : Int) < (k.size : Int) := by omega
        by_cases h1 : k[n] = a[n]
        · have hk2 : g = (n + 1) + comL ((bl k).drop (n + 1)) ((bl a).drop (n + 1)) := by
            have := Hk.out
            rw [comL_step (bl k) (bl a) n (by rw [Hlk.out]; exact hm) (by rw [Hla.out]; exact hl) h1] at this
            omega
          have Hk2 := Lib.hid hk2
          have e2 : ((a[n].toNat : Int) == (k[n].toNat : Int)) = true := by rw [beq_iff_eq, h1]
          clear hk2 h1 Hk
          go_wp2_with fail
          go_quiet (fail)
          go_wp2_with fail
          go_roundw
          case rel => exact ⟨n + 1, _, by omega, by omega, by go_num, Hk2, Lib.hid (by rw [HW.out]; simp only [World.drewN_drewN]; rfl)⟩
          case measure => simp [intOf]; omega
        · have hk2 : g = n := by
            have := Hk.out
            rw [comL_stop (bl k) (bl a) n (Or.inr (Or.inr ⟨by rw [Hlk.out]; exact hm, by rw [Hla.out]; exact hl, h1⟩))] at this
            omega
          have Hk2 := Lib.hid hk2
          have e2 : ((a[n].toNat : Int) == (k[n].toNat : Int)) = false := by
            rw [beq_eq_false_iff_ne]
            intro e
            exact h1 (UInt8.toNat_inj.1 (by omega))
          clear hk2 h1 Hk
          go_wp2_with fail
          go_quiet (fail)
          go_wp2_with fail
          go_ret
          exact ⟨by rw [Hk2.out]; rfl, _, by rw [HW.out]; simp only [World.drewN_drewN]; rfl⟩
      · have hk2 : g = n := by
          have := Hk.out
          rw [comL_stop (bl k) (bl a) n (Or.inl (by rw [Hlk.out]; omega))] at this
          omega
        have Hk2 := Lib.hid hk2
        have hm' : ¬ (n : Int) < (k.size : Int) := by omega
        have hl' : (n : Int) < (a.size : Int) := by omega
        clear hk2 Hk
        go_wp2_with fail
        go_quiet (fail)
        go_wp2_with fail
        go_ret
        exact ⟨by rw [Hk2.out]; rfl, _, by rw [HW.out]; simp only [World.drewN_drewN]; rfl⟩
    · have hk2 : g = n := by
        have := Hk.out
        rw [comL_stop (bl k) (bl a) n (Or.inr (Or.inl (by rw [Hla.out]; omega)))] at this
        omega
      have Hk2 := Lib.hid hk2
      have hl' : ¬ (n : Int) < (a.size : Int) := by omega
      clear hk2 Hk
      go_wp2_with fail
      go_quiet (fail)
      go_wp2_with fail
      go_ret
      exact ⟨by rw [Hk2.out]; rfl, _, by rw [HW.out]; simp only [World.drewN_drewN]; rfl⟩
theorem common_any (i : Nat) (a k : ByteArray) (w : World) (hi : i < 4611686018427387904) (ha : a.size ≤ 9223372036854775807) (hk : k.size ≤ 9223372036854775807) :
    Calls Tryz.prog 111 #[.int .i64 (i : Int), .string a, .string k] w fun e w' => e = .returned (.int .i64 (comI i (bl a) (bl k) : Int)) ∧ ∃ j, w' = w.drewN j := by
  unfold comI
  by_cases h : i % 8 = 0
  · rw [if_pos h]
    exact (common_zero i a k w hi h).mono fun e w' ⟨h1, h2⟩ => ⟨h1, 0, h2⟩
  · rw [if_neg h]
    exact common_loop i a k w hi h ha hk
set_option maxRecDepth 100000 in
set_option maxHeartbeats 1000000 in
theorem fixed_any (v : Nat) (w : World) (hv : v < 4294967296) :
    Calls Tryz.prog 113 #[.int .i64 (v : Int)] w fun e w' => e = .returned (.string ⟨(be v 4).toArray⟩) ∧ Below w.heap.size w w' := by
  have C := Lib.hid (put_ok v 4 w (by decide) (by decide) hv)
  go_enter Tryz.func113, Tryz.ntmps113
  go_wp2_with fail
  refine C.out.mono ?_
  rintro e w1 ⟨rfl, hb⟩
  go_wp2_with fail
  go_ret
  exact ⟨rfl, hb⟩
set_option maxRecDepth 100000 in
set_option maxHeartbeats 1000000 in
theorem must_yes (w : World) : Calls Tryz.prog 199 #[.bool true] w fun e w' => e = .returned (.tuple #[]) ∧ w' = w := by
  go_enter Tryz.func199, Tryz.ntmps199
  go_wp2_with fail
  go_end0
  exact ⟨rfl, rfl⟩
/-- A step gave up. -/
abbrev gaveB : Ending := .panicked [{ v := .iface 27 (.int .i64 31), recovered := false }]
set_option maxRecDepth 100000 in
set_option maxHeartbeats 1000000 in
theorem must_no (w : World) : Calls Tryz.prog 199 #[.bool false] w fun e w' => e = gaveB ∧ w' = w := by
  go_enter Tryz.func199, Tryz.ntmps199
  go_wp2_with fail
  exact ⟨rfl, rfl, rfl⟩
end Go.Proofs.YtcbgflidlpmhcaaGreatDoor

namespace Go.Proofs.YtcbgflidlpmhcaaGreatDoor
open Go.RowKit

/-- The reader holds what is left, the pairs, the last key. -/
abbrev RdB (w : World) (p : Nat) (s : ByteArray) (v : Value) (a : ByteArray) : Prop := Blk w p 224 #[.string s, v, .string a]

set_option maxRecDepth 100000 in
set_option maxHeartbeats 2000000 in
theorem btake_ok (p : Nat) (s : ByteArray) (v : Value) (a : ByteArray) (k : Nat) (w : World) (B : RdB w p s v a) (hk : k ≤ s.size) :
    Calls Tryz.prog 210 #[.pointer (some ⟨p, 0, none⟩), .int .i64 (k : Int)] w fun e w' => e = .returned (.string (s.extract 0 k)) ∧ RdB w' p (s.extract k s.size) v a ∧ w.grownBy w' (some p) := by
  have c0 : w.cell? ⟨p, 0, none⟩ = some (.string s) := B.cell 0
  have f0 := B.frozen 0
  have hk1 : decide ((k : Int) ≤ (s.size : Int)) = true := decide_eq_true (by omega)
  have hk2 : (k : Int) ≤ (s.size : Int) := by omega
  have B := Lib.hid B
  have C := Lib.hid (must_yes w)
  go_enter Tryz.func210, Tryz.ntmps210
  go_wp2_with fail
  refine C.out.mono ?_
  rintro e w1 ⟨rfl, rfl⟩
  go_wp2_with fail
  go_ret
  exact ⟨rfl, B.out.set_ 0 _, only_setCell (World.grownBy.refl _ _) (Or.inl rfl) _⟩

set_option maxRecDepth 100000 in
set_option maxHeartbeats 2000000 in
theorem btake_short (p : Nat) (s : ByteArray) (v : Value) (a : ByteArray) (k : Nat) (w : World) (B : RdB w p s v a) (hk : s.size < k) :
    Calls Tryz.prog 210 #[.pointer (some ⟨p, 0, none⟩), .int .i64 (k : Int)] w fun e w' => e = gaveB ∧ w' = w := by
  have c0 : w.cell? ⟨p, 0, none⟩ = some (.string s) := B.cell 0
  have hk1 : decide ((k : Int) ≤ (s.size : Int)) = false := decide_eq_false (by omega)
  have hk2 : ¬ (k : Int) ≤ (s.size : Int) := by omega
  have C := Lib.hid (must_no w)
  go_enter Tryz.func210, Tryz.ntmps210
  go_wp2_with fail
  refine C.out.mono ?_
  rintro e w1 ⟨rfl, rfl⟩
  go_wp2_with fail
  exact ⟨rfl, rfl, rfl⟩

theorem gv_err' : ∀ (l : List UInt8) (i a : Nat) (e : Int), gv l i a = .err e → e = 3 ∨ e = 4
  | [], i, a, e, h => by
    rw [gv] at h
    split at h <;> (cases h; simp)
  | c :: r, i, a, e, h => by
    rw [gv] at h
    split at h
    · cases h; simp
    · split at h
      · exact gv_err' r _ _ e h
      · split at h
        · cases h; simp
        · cases h

set_option maxRecDepth 100000 in
set_option maxHeartbeats 2000000 in
theorem bnum_ok (p : Nat) (s : ByteArray) (v : Value) (a : ByteArray) (x n : Nat) (w : World) (B : RdB w p s v a) (hs : s.size ≤ 9223372036854775807) (h : gv (bl s) 0 0 = .ok x n) :
    Calls Tryz.prog 209 #[.pointer (some ⟨p, 0, none⟩)] w fun e w' => e = .returned (.int .i64 (x : Int)) ∧ RdB w' p (s.extract n s.size) v a ∧ w.grownBy w' (some p) := by
  have c0 : w.cell? ⟨p, 0, none⟩ = some (.string s) := B.cell 0
  have hn : n ≤ s.size := (gv_bytes h).2.1
  have CG := Lib.hid (getvar_ok s x n w hs h)
  have CM := fun W => Lib.hid (must_yes W)
  have CT := fun W h => Lib.hid (btake_ok p s v a n W h hn)
  have B := Lib.hid B
  clear h
  go_enter Tryz.func209, Tryz.ntmps209
  go_wp2_with fail
  refine CG.out.mono ?_
  rintro e w1 ⟨rfl, hb1⟩
  have B1 := B.out.below hb1 B.out.lt
  have g1 := Lib.hid (World.grownBy.mk hb1.os hb1.tape hb1.output hb1.size (fun k hk _ => hb1.block k hk) : w.grownBy w1 (some p))
  clear hb1
  have CT1 := CT w1 B1
  clear CT B1
  go_wp2_with fail
  refine (CM _).out.mono ?_
  rintro e w2 ⟨rfl, rfl⟩
  go_wp2_with fail
  refine CT1.out.mono ?_
  rintro e w3 ⟨rfl, B3, g3⟩
  have B3 := Lib.hid B3
  have g4 := Lib.hid (grown_trans g1.out g3)
  clear g3
  go_wp2_with fail
  go_ret
  exact ⟨rfl, B3.out, g4.out⟩

set_option maxRecDepth 100000 in
set_option maxHeartbeats 2000000 in
theorem bnum_bad (p : Nat) (s : ByteArray) (v : Value) (a : ByteArray) (er : Int) (w : World) (B : RdB w p s v a) (hs : s.size ≤ 9223372036854775807) (h : gv (bl s) 0 0 = .err er) :
    Calls Tryz.prog 209 #[.pointer (some ⟨p, 0, none⟩)] w fun e w' => e = gaveB ∧ w.grownBy w' (some p) := by
  have c0 : w.cell? ⟨p, 0, none⟩ = some (.string s) := B.cell 0
  have he := gv_err' _ _ _ _ h
  have e1 : (er == 0) = false := by rw [beq_eq_false_iff_ne]; omega
  have e2 : ¬ er = 0 := by omega
  have CG := Lib.hid (getvar_err s er w hs h)
  have CM := fun W => Lib.hid (must_no W)
  clear h he B
  go_enter Tryz.func209, Tryz.ntmps209
  go_wp2_with fail
  refine CG.out.mono ?_
  rintro e w1 ⟨rfl, hb1⟩
  have g1 := Lib.hid (World.grownBy.mk hb1.os hb1.tape hb1.output hb1.size (fun k hk _ => hb1.block k hk) : w.grownBy w1 (some p))
  clear hb1
  go_wp2_with fail
  refine (CM _).out.mono ?_
  rintro e w2 ⟨rfl, rfl⟩
  go_wp2_with fail
  exact ⟨rfl, rfl, g1.out⟩
end Go.Proofs.YtcbgflidlpmhcaaGreatDoor

namespace Go.Proofs.YtcbgflidlpmhcaaGreatDoor
open Go.RowKit Go.Shelf

abbrev IsB (B b : Nat) (bs : List Value) (w : World) : Prop := Lib.IsBuilder 70 5 B b bs w

theorem bu8 : (Tryz.prog.info? 5).map (fun i => (i.zero, i.size, i.bytes)) = some (some (.int .u8 0), 1, 1) := by kernel_rfl
theorem bsome : (Tryz.prog.info? 70).map (·.size) = some 2 := by kernel_rfl

set_option maxRecDepth 100000 in
theorem bcheck_used (b : Nat) (w : World) (h0 : w.cell? ⟨b, 0, none⟩ = some (.pointer (some ⟨b, 0, none⟩))) :
    Calls Tryz.prog 114 #[.pointer (some ⟨b, 0, none⟩)] w fun e w' => e = .returned (.tuple #[]) ∧ w' = w := by
  obtain ⟨j, hj, _⟩ := Option.map_eq_some_iff.1 bsome
  have hne := fun W : World => Lib.run_neq_ptr_same (P := Tryz.prog) (w := W) ⟨b, 0, none⟩ Tryz.underlying67 hj
  clear hj
  go_enter Tryz.func114, Tryz.ntmps114
  go_wp2_with fail
  go_end0
  exact ⟨rfl, rfl⟩

theorem run_noesc (x : Value) (W : World) : (callFunc 164 #[x]).run Tryz.prog W = .ok (.value x) W := by
  rw [run_callFunc_extern (e := Extern.AbiNoEscape.same) Tryz.func164 (by kernel_rfl) (by kernel_rfl) (by kernel_rfl) (by kernel_rfl), Lib.run_noEscape]
  rfl

set_option maxRecDepth 100000 in
theorem bcheck_fresh (b : Nat) (w : World) (h0 : w.cell? ⟨b, 0, none⟩ = some (.pointer none)) (hsh : w.shape? b = some (70, 2)) (hfz : w.frozen? ⟨b, 0, none⟩ = false) :
    Calls Tryz.prog 114 #[.pointer (some ⟨b, 0, none⟩)] w fun e w' => e = .returned (.tuple #[]) ∧ w' = w.setCell ⟨b, 0, none⟩ (.pointer (some ⟨b, 0, none⟩)) := by
  obtain ⟨j, hj, hjs⟩ := Option.map_eq_some_iff.1 bsome
  have c1 := Lib.run_to_unsafe (P := Tryz.prog) (w := w) (src := 67) (dst := 196) ⟨b, 0, none⟩ Tryz.underlying67 Tryz.underlying196 hj (by rw [hjs]; decide) hsh (Nat.zero_lt_succ 1)
  have c2 := run_noesc (.pointer (some ⟨b, 0, none⟩)) w
  have c3 := Lib.run_from_unsafe (P := Tryz.prog) (w := w) (src := 196) (dst := 67) ⟨b, 0, none⟩ Tryz.underlying196 Tryz.underlying67 hj hsh (by kernel_rfl)
  clear hj hjs hsh
  go_enter Tryz.func114, Tryz.ntmps114
  go_wp2_with fail
  go_end0
  exact ⟨rfl, rfl⟩

theorem bcheck_any (B b : Nat) (bs : List Value) (w : World) (h : IsB B b bs w) :
    Calls Tryz.prog 114 #[.pointer (some ⟨b, 0, none⟩)] w fun e w' => e = .returned (.tuple #[]) ∧ (Lib.BuilderAt 70 5 B b (.pointer (some ⟨b, 0, none⟩)) bs w' ∧ Below B w w') := by
  rcases h with h | h
  · exact (bcheck_fresh b w h.cell0 h.shape h.frozen0).mono fun _ _ ⟨he, hw⟩ => ⟨he, by subst hw; exact h.used _, by subst hw; exact (Below.refl B w).setCell (p := ⟨b, 0, none⟩) h.1 _⟩
  · exact (bcheck_used b w h.cell0).mono fun _ _ ⟨he, hw⟩ => ⟨he, by subst hw; exact h, by subst hw; exact Below.refl B _⟩

set_option maxHeartbeats 2000000 in
set_option maxRecDepth 100000 in
theorem bstr_any (B b : Nat) (bs : List Value) (s : ByteArray) (w : World) (h : IsB B b bs w) (hlen : bs.length + s.size ≤ 140737488355328) (hBw : B ≤ w.heap.size) :
    Calls Tryz.prog 28 #[.pointer (some ⟨b, 0, none⟩), .string s] w fun e w' => e = .returned (.tuple #[.int .i64 s.size, .nilIface]) ∧ IsB B b (bs ++ Lib.strCells s) w' ∧ Below B w w' := by
  obtain ⟨i0, hi, hz0, hz1, hz2⟩ := info_parts bu8
  have C := Lib.hid (bcheck_any B b bs w h)
  clear h
  go_enter Tryz.func28, Tryz.ntmps28
  go_wp2_with fail
  refine C.out.mono ?_
  rintro e w1 ⟨rfl, h1, hb1⟩
  obtain ⟨hB, v, hbk, hown, hne⟩ := h1
  have c1 : w1.cell? ⟨b, 1, none⟩ = some v := by rw [Lib.cell_of_heap hbk]; rfl
  go_wp2_with (at_builtin; refine Lib.wpList_append_own_string _ rfl _ _ 68 9 rfl B 5 i0 Tryz.underlying68 Tryz.underlying9 hi hz0 hz1 hz2 _ _ _ rfl hown s rfl ?c3 ?c4 ?c5 ?_)
  case c3 => unfold maxLen; omega
  case c4 => omega
  case c5 => have := hb1.size; omega
  intro v' w2 hown' hgrow _
  have hlt : b < w1.heap.size := by
    rcases Nat.lt_or_ge b w1.heap.size with h' | h'
    · exact h'
    · simp [Array.getElem?_eq_none h'] at hbk
  have hb2 : w2.heap[b]? = some (.cells #[.pointer (some ⟨b, 0, none⟩), v] 70 (0, 0)) := by
    rw [hgrow.block b hlt (fun e => hne e.symm)]
    exact hbk
  have d1 : w2.cell? ⟨b, 1, none⟩ = some v := by rw [Lib.cell_of_heap hb2]; rfl
  have f1 : w2.frozen? ⟨b, 1, none⟩ = false := Lib.frozen_of_heap hb2 1
  obtain ⟨ao, n', cap, rfl⟩ : ∃ ao n' cap, v' = .slice ao n' cap := by
    rcases hown'.2 with ⟨hv, _⟩ | ⟨g, cap, cur, hv, _⟩
    · exact ⟨_, _, _, hv⟩
    · exact ⟨_, _, _, hv⟩
  go_wp2
  go_ret2
  refine ⟨rfl, Or.inr ?_, ?_⟩
  · exact Lib.BuilderAt.put (T := 70) (e := 5) hB hb2 (bs' := bs ++ Lib.strCells s) (by rw [List.length_append, Lib.strCells_length]; exact hown') (by decide)
  · exact (hb1.grown hgrow (by have := hb1.size; omega) (fun k hk => (hown.lt k hk).1)).setCell (p := ⟨b, 1, none⟩) hB _

end Go.Proofs.YtcbgflidlpmhcaaGreatDoor

namespace Go.Proofs.YtcbgflidlpmhcaaGreatDoor
open Go.RowKit Go.Shelf

/-- The builder in block b holds these bytes. -/
abbrev IsF (B b : Nat) (l : List UInt8) (w : World) : Prop := Lib.IsBuilderF 70 5 B b (Lib.byteCells l) w
theorem isF_new (w : World) : IsF w.heap.size w.heap.size [] (w.alloc (.cells #[.pointer none, .slice none 0 0] 70)) := Lib.IsBuilderF.of (Lib.fresh_isBuilder _ _ w)
theorem isF_below {B b B' : Nat} {l : List UInt8} {w w' : World} (h : IsF B b l w) (hb : Below B' w w') (hB : w.heap.size ≤ B') : IsF B b l w' := by
  have key : ∀ p, Lib.BuilderAtF 70 5 B b p (Lib.byteCells l) w → Lib.BuilderAtF 70 5 B b p (Lib.byteCells l) w' := by
    rintro p hh
    have hlt := hh.lt
    obtain ⟨h1, v, h2, h3, h4⟩ := hh
    refine ⟨h1, v, (hb.block b (by omega)).trans h2, ⟨h3.1, ?_⟩, h4⟩
    rcases h3.2 with hn | ⟨g, cap, cur, fz, hv, hg, hh, r⟩
    · exact Or.inl hn
    · exact Or.inr ⟨g, cap, cur, fz, hv, hg, (hb.block g (Nat.lt_of_lt_of_le (Array.getElem?_eq_some_iff.1 hh).1 hB)).trans hh, r⟩
  exact h.elim (fun x => Or.inl (key _ x)) (fun x => Or.inr (key _ x))

/-- What a builder turns: itself, and its bytes. -/
def bT (o : Obj) : Bool := cellsT 70 o || cellsT 5 o
theorem bT_ne {t : TypeId} (h1 : t ≠ 70) (h2 : t ≠ 5) (cs : Array Value) (fr : Nat × Nat) : bT (.cells cs t fr) = false := by
  unfold bT
  rw [cellsT_ne h1, cellsT_ne h2]
  rfl
theorem isF_tn {B b : Nat} {l : List UInt8} {w w' : World} (h : IsF B b l w) (hb : Below w.heap.size w w') : IsF B b l w' := isF_below h hb (Nat.le_refl _)

theorem bcheckF_any (B b : Nat) (l : List UInt8) (w : World) (h : IsF B b l w) :
    Calls Tryz.prog 114 #[.pointer (some ⟨b, 0, none⟩)] w fun e w' => e = .returned (.tuple #[]) ∧ (Lib.BuilderAtF 70 5 B b (.pointer (some ⟨b, 0, none⟩)) (Lib.byteCells l) w' ∧ Tn B bT w w') := by
  rcases h with h | h
  · refine (bcheck_fresh b w h.cell0 h.shape h.frozen0).mono fun _ _ ⟨he, hw⟩ => ⟨he, by subst hw; exact h.used _, ?_⟩
    subst hw
    obtain ⟨hB, v, hbk, _⟩ := h
    exact (Tn.refl B bT w).setCell (p := ⟨b, 0, none⟩) (Or.inr ⟨hB, _, hbk, rfl⟩) _
  · exact (bcheck_used b w h.cell0).mono fun _ _ ⟨he, hw⟩ => ⟨he, by subst hw; exact h, by subst hw; exact Tn.refl B _ _⟩

set_option maxHeartbeats 2000000 in
set_option maxRecDepth 100000 in
theorem bstrF_any (B b : Nat) (l : List UInt8) (s : ByteArray) (w : World) (h : IsF B b l w) (hlen : l.length + s.size ≤ 140737488355328) (hBw : B ≤ w.heap.size) :
    Calls Tryz.prog 28 #[.pointer (some ⟨b, 0, none⟩), .string s] w fun e w' => e = .returned (.tuple #[.int .i64 s.size, .nilIface]) ∧ IsF B b (l ++ s.data.toList) w' ∧ Tn B bT w w' := by
  obtain ⟨i0, hi, hz0, hz1, hz2⟩ := info_parts bu8
  have C := Lib.hid (bcheckF_any B b l w h)
  clear h
  go_enter Tryz.func28, Tryz.ntmps28
  go_wp2_with fail
  refine C.out.mono ?_
  rintro e w1 ⟨rfl, h1, ht1⟩
  have hb1 := ht1.below hBw
  obtain ⟨hB, v, hbk, hown, hne⟩ := h1
  have c1 : w1.cell? ⟨b, 1, none⟩ = some v := by rw [Lib.cell_of_heap hbk]; rfl
  go_wp2_with (at_builtin; refine Lib.wpList_append_own_stringF _ rfl _ _ 68 9 rfl B 5 i0 Tryz.underlying68 Tryz.underlying9 hi hz0 hz1 hz2 _ _ _ rfl hown s rfl ?c3 ?c4 ?c5 ?_)
  case c3 => rw [Lib.byteCells_length]; unfold maxLen; omega
  case c4 => rw [Lib.byteCells_length]; omega
  case c5 => have := hb1.size; omega
  intro v' w2 hown' hgrow _
  have hlt : b < w1.heap.size := by
    rcases Nat.lt_or_ge b w1.heap.size with h' | h'
    · exact h'
    · simp [Array.getElem?_eq_none h'] at hbk
  have hb2 : w2.heap[b]? = some (.cells #[.pointer (some ⟨b, 0, none⟩), v] 70 (0, 0)) := by
    rw [hgrow.block b hlt (fun e => hne e.symm)]
    exact hbk
  have d1 : w2.cell? ⟨b, 1, none⟩ = some v := by rw [Lib.cell_of_heap hb2]; rfl
  have f1 : w2.frozen? ⟨b, 1, none⟩ = false := Lib.frozen_of_heap hb2 1
  obtain ⟨ao, n', cap, rfl⟩ : ∃ ao n' cap, v' = .slice ao n' cap := by
    rcases hown'.2 with ⟨hv, _⟩ | ⟨g, cap, cur, fz, hv, _⟩
    · exact ⟨_, _, _, hv⟩
    · exact ⟨_, _, _, hv⟩
  have e : Lib.byteCells (l ++ s.data.toList) = Lib.byteCells l ++ Lib.strCells s := by unfold Lib.byteCells Lib.strCells; rw [List.map_append]
  go_wp2
  go_ret2
  refine ⟨rfl, Or.inr ?_, ?_⟩
  · rw [e]
    exact Lib.BuilderAtF.put (T := 70) (e := 5) hB hb2 (bs' := Lib.byteCells l ++ Lib.strCells s) (by rw [List.length_append, Lib.strCells_length]; exact hown') (by decide)
  · refine (ht1.row hgrow (fun k hk => ?_)).setCell (p := ⟨b, 1, none⟩) (Or.inr ⟨hB, _, hb2, rfl⟩) _
    rcases hown.2 with ⟨hv, _⟩ | ⟨g, cap, cur, fz, hv, hg, hh, _⟩
    · rw [hv] at hk; cases hk
    · rw [hv] at hk
      cases hk
      exact Or.inr ⟨hg, _, hh, rfl⟩
theorem blenF_any (B b : Nat) (l : List UInt8) (w : World) (h : IsF B b l w) :
    Calls Tryz.prog 112 #[.pointer (some ⟨b, 0, none⟩)] w fun e w' => e = .returned (.int .i64 l.length) ∧ w' = w := by
  have := Tryz.Builder_Len_f B b (Lib.byteCells l) w h
  rw [Lib.byteCells_length] at this
  exact this
theorem bstringF_any (B b : Nat) (l : List UInt8) (w : World) (h : IsF B b l w) (hBw : B ≤ w.heap.size) :
    Calls Tryz.prog 32 #[.pointer (some ⟨b, 0, none⟩)] w fun e w' => e = .returned (.string ⟨l.toArray⟩) ∧ IsF B b l w' ∧ Below B w w' := Tryz.Builder_String_any_f B b l w h hBw
end Go.Proofs.YtcbgflidlpmhcaaGreatDoor

namespace Go.Proofs.YtcbgflidlpmhcaaGreatDoor
open Go.RowKit

theorem three_pv : ∀ (N : List Nat), N.length = 3 → (∀ x ∈ N, x ≤ 1000000) → ∀ j, (((N.take j).map pv).flatten).length ≤ 30 := by
  intro N h hx j
  match N, h with
  | [a, b, c], _ =>
    have p1 := pv_len9 a (by have := hx a (by simp); omega)
    have p2 := pv_len9 b (by have := hx b (by simp); omega)
    have p3 := pv_len9 c (by have := hx c (by simp); omega)
    match j with
    | 0 => simp
    | 1 => simp; omega
    | 2 => simp; omega
    | j + 3 => simp; omega

set_option maxRecDepth 100000 in
set_option maxHeartbeats 2000000 in
theorem lay_any (B b : Nat) (l : List UInt8) (k v : ByteArray) (sh : Nat) (w : World) (h : IsF B b l w) (hsh : sh ≤ k.size) (hk : k.size ≤ 1000000) (hv : v.size ≤ 1000000) (hl : l.length ≤ 100000000) (hB : B ≤ w.heap.size) :
    Calls Tryz.prog 110 #[.pointer (some ⟨b, 0, none⟩), .agg #[.string k, .string v], .int .i64 (sh : Int)] w fun e w' => e = .returned (.tuple #[]) ∧ IsF B b (l ++ (pv sh ++ (pv (k.size - sh) ++ (pv v.size ++ ((bl k).drop sh ++ bl v))))) w' ∧ Tn B bT w w' := by
  have H := Lib.hid h
  obtain ⟨R, hR⟩ : ∃ R, l ++ (pv sh ++ (pv (k.size - sh) ++ (pv v.size ++ ((bl k).drop sh ++ bl v)))) = R := ⟨_, rfl⟩
  rw [hR]
  have HR := Lib.hid hR
  clear h hR
  go_enter Tryz.func110, Tryz.ntmps110
  go_wp2_with fail
  have b1 := Blk.new w 37 #[.string k, .string v]
  have hb1 : Below w.heap.size w (w.alloc (.cells #[.string k, .string v] 37)) := below_alloc (Below.refl _ _) (Nat.le_refl _) _
  have H1 := Lib.hid (isF_below H.out hb1 (Nat.le_refl _))
  have Hb1 := Lib.hid ((Tn.refl B bT w).alloc (.cells #[.string k, .string v] 37))
  generalize w.alloc (.cells #[.string k, .string v] 37) = w1 at *
  have c0 : w1.cell? ⟨w.heap.size, 0, none⟩ = some (.string k) := b1.cell 0
  have c1 : w1.cell? ⟨w.heap.size, 1, none⟩ = some (.string v) := b1.cell 1
  have i0 : (0 : Int) ≤ (sh : Int) := by omega
  have i1 : (sh : Int) ≤ (k.size : Int) := by omega
  clear hb1 b1 H
  go_quiet (fail)
  go_wp2_with fail
  have hz : (k.extract sh k.size).size = k.size - sh := by simp
  have hbl : bl (k.extract sh k.size) = (bl k).drop sh := by
    show (k.extract sh k.size).data.toList = _
    rw [ByteArray.data_extract, Array.toList_extract, List.extract_eq_take_drop]
    exact List.take_of_length_le (by rw [List.length_drop]; exact Nat.le_refl _)
  generalize k.extract sh k.size = ks at *
  generalize hm : k.size - sh = m at *
  have hm9 : m ≤ 1000000 := by omega
  have H2 : Hid (IsF B b l ((w1.drewN nq).alloc (.cells #[.int .i64 (sh : Int), .int .i64 (m : Int), .int .i64 (v.size : Int)] 3))) := Lib.hid (isF_below H1.out (below_alloc (below_drewN (Below.refl w1.heap.size w1) nq) (Nat.le_refl _) _) (Nat.le_refl _))
  have B2 : Hid (Tn B bT w ((w1.drewN nq).alloc (.cells #[.int .i64 (sh : Int), .int .i64 (m : Int), .int .i64 (v.size : Int)] 3))) := Lib.hid ((Hb1.out.drewN nq).alloc _)
  have b2 : Hid (Blk ((w1.drewN nq).alloc (.cells #[.int .i64 (sh : Int), .int .i64 (m : Int), .int .i64 (v.size : Int)] 3)) w1.heap.size 3 #[.int .i64 (sh : Int), .int .i64 (m : Int), .int .i64 (v.size : Int)]) := Lib.hid (Blk.new (w1.drewN nq) _ _)
  generalize (w1.drewN nq).alloc (.cells #[.int .i64 (sh : Int), .int .i64 (m : Int), .int .i64 (v.size : Int)] 3) = w2 at *
  obtain ⟨N, hN⟩ : ∃ N : List Nat, N = [sh, m, v.size] := ⟨_, rfl⟩
  have hN3 : N.length = 3 := by rw [hN]; rfl
  have hNx : ∀ x ∈ N, x ≤ 1000000 := by
    intro x hx
    rw [hN] at hx
    simp at hx
    omega
  have b3 : Hid (Blk w2 w1.heap.size 3 (N.map fun (x : Nat) => Value.int .i64 (x : Int)).toArray) := Lib.hid (by rw [hN]; exact b2.out)
  have HR2 : Hid (l ++ (((N.take 3).map pv).flatten ++ (bl ks ++ bl v)) = R) := Lib.hid (by
    rw [← HR.out, hN, hbl]
    simp)
  have HN3 := Lib.hid hN3
  have HNx := Lib.hid hNx
  clear hN hN3 hNx b2 hbl H1 Hb1 HR
  generalize w1.heap.size = g at *
  go_loopw [23] (fun i wr => ∃ j : Nat, j ≤ 3 ∧ i = .int .i64 (j : Int) ∧ Hid (IsF B b (l ++ ((N.take j).map pv).flatten) wr) ∧ Hid (Blk wr g 3 (N.map fun (x : Nat) => Value.int .i64 (x : Int)).toArray) ∧ Hid (Tn B bT w wr)) (fun i _ => 3 - (intOf i).toNat)
  case atStart => exact ⟨0, by omega, rfl, Lib.hid (by simpa using H2.out), b3, B2⟩
  case round =>
    obtain ⟨j, hj, rfl, HF, HB, HW⟩ := hrel
    have hln : (((N.take j).map pv).flatten).length ≤ 30 := three_pv N HN3.out HNx.out j
    by_cases hl3 : j < 3
    · obtain ⟨x, hx⟩ : ∃ x, N[j]? = some x := ⟨_, List.getElem?_eq_getElem (by rw [HN3.out]; exact hl3)⟩
      have hx9 := HNx.out x (List.mem_of_getElem? hx)
      have hc : wr.cell? ⟨g, j, none⟩ = some (.int .i64 (x : Int)) := by
        rw [HB.out.cell j]
        simp [hx]
      have e1 : (j : Int) < 3 := by omega
      have e2 : (0 : Int) ≤ (j : Int) := by omega
      have hst : ((N.take (j + 1)).map pv).flatten = ((N.take j).map pv).flatten ++ pv x := by
        obtain ⟨h1, h2⟩ := List.getElem?_eq_some_iff.1 hx
        rw [List.take_succ_eq_append_getElem h1, h2]
        simp
      have Hst := Lib.hid hst
      have C := Lib.hid (putvar_any x wr (by omega))
      have hpl : (pv x).length ≤ 9 := pv_len9 x (by omega)
      have hBw : B ≤ wr.heap.size := Nat.le_trans hB HW.out.size
      clear hx hst
      go_wp2_with fail
      refine C.out.mono ?_
      rintro e w5 ⟨rfl, hb5⟩
      have H5 := isF_below HF.out hb5 (Nat.le_refl _)
      have D := Lib.hid (bstrF_any B b _ ⟨(pv x).toArray⟩ w5 H5 (by rw [List.length_append, size_mk]; omega) (Nat.le_trans hBw hb5.size))
      have HB5 := Lib.hid (HW.out.trans (Tn.of_below hb5))
      have HB6 := Lib.hid (HB.out.below hb5 HB.out.lt)
      clear H5 hb5
      go_wp2_with fail
      refine D.out.mono ?_
      rintro e w6 ⟨rfl, h6, hb6⟩
      have HF6 : Hid (IsF B b (l ++ ((N.take (j + 1)).map pv).flatten) w6) := Lib.hid (by rw [Hst.out, ← List.append_assoc]; exact h6)
      have HW6 := Lib.hid (HB5.out.trans hb6)
      have HG6 := Lib.hid (hb6.blk HB6.out (bT_ne (by decide) (by decide) _ _))
      clear h6 hb6 HF
      go_wp2_with fail
      go_roundw
      case rel => exact ⟨j + 1, by omega, by go_num, HF6, HG6, HW6⟩
      case measure => simp [intOf]; omega
    · obtain rfl : j = 3 := by omega
      have hBw : B ≤ wr.heap.size := Nat.le_trans hB HW.out.size
      have D := Lib.hid (bstrF_any B b _ ks wr HF.out (by rw [List.length_append]; omega) hBw)
      go_wp2_with fail
      refine D.out.mono ?_
      rintro e w6 ⟨rfl, h6, hb6⟩
      have D2 := Lib.hid (bstrF_any B b _ v w6 h6 (by rw [List.length_append, List.length_append]; have : ks.data.toList.length = ks.size := rfl; omega) (Nat.le_trans hBw hb6.size))
      have HW6 := Lib.hid (HW.out.trans hb6)
      clear h6 hb6 HF
      go_wp2_with fail
      refine D2.out.mono ?_
      rintro e w7 ⟨rfl, h7, hb7⟩
      have HF7 : Hid (IsF B b R w7) := Lib.hid (by rw [← HR2.out]; simpa [List.append_assoc] using h7)
      have HW7 := Lib.hid (HW6.out.trans hb7)
      clear h7 hb7
      go_wp2_with fail
      go_end0
      exact ⟨rfl, HF7.out, HW7.out⟩
end Go.Proofs.YtcbgflidlpmhcaaGreatDoor

namespace Go.Proofs.YtcbgflidlpmhcaaGreatDoor
open Go.RowKit

theorem bodyL_append (l r : List KV) : ∀ i prev, bodyL i prev (l ++ r) = bodyL i prev l ++ bodyL (i + l.length) (lastK prev l) r := by
  induction l with
  | nil => intro i prev; simp [bodyL, lastK]
  | cons x l ih =>
    intro i prev
    rw [List.cons_append, bodyL, ih, bodyL, List.append_assoc, lastK, List.length_cons]
    rw [show i + 1 + l.length = i + (l.length + 1) from by omega]
theorem body_take_le (L : List KV) (k : Nat) : (bodyL 0 [] (L.take k)).length ≤ (bodyL 0 [] L).length := by
  have := bodyL_append (L.take k) (L.drop k) 0 []
  rw [List.take_append_drop] at this
  rw [this, List.length_append]
  omega
theorem ctake_snoc {L : List KV} {k : Nat} {m : KV} (hm : L[k]? = some m) : L.take (k + 1) = L.take k ++ [m] := by
  obtain ⟨h1, h2⟩ := List.getElem?_eq_some_iff.1 hm
  rw [List.take_succ_eq_append_getElem h1, h2]
theorem ctake_body {L : List KV} {k : Nat} {m : KV} (hm : L[k]? = some m) : bodyL 0 [] (L.take (k + 1)) = bodyL 0 [] (L.take k) ++ onePair k (lastK [] (L.take k)) (bl m.1) (bl m.2) := by
  have h1 := (List.getElem?_eq_some_iff.1 hm).1
  rw [ctake_snoc hm, bodyL_snoc, List.length_take, Nat.min_eq_left (by omega), Nat.zero_add]
theorem clastK_take {L : List KV} {k : Nat} {m : KV} (hm : L[k]? = some m) : lastK [] (L.take (k + 1)) = bl m.1 := by
  rw [ctake_snoc hm, lastK_snoc]

/-- The table that package block reads. -/
structure LaidB (w : World) : Prop where
  halves : Lib.TabIs Tryz.prog w "bedrock/raw.halves" .u32 halvesL
theorem glob_halves' : Tryz.prog.globalNamed "bedrock/raw.halves" = some 0 := by kernel_rfl
theorem LaidB.on {w w' : World} (h : LaidB w) (hb : Below w.heap.size w w') : LaidB w' :=
  ⟨var?_below hb glob_halves' (lt_of_cell (h.halves.cell glob_halves' 0 (by decide))) h.halves⟩
theorem LaidB.at_ {B : Nat} {w w' : World} (h : LaidB w) (hb : Below B w w') (hB : w.heap.size ≤ B) : LaidB w' := LaidB.on h (hb.mono hB)

theorem compare_T (a b : ByteArray) (w : World) :
    Calls Tryz.prog 109 #[.string a, .string b] w fun e w' => e = .returned (.int .i64 (cmpT a b)) ∧ w' = w :=
  (compare_any a b w).mono fun _ _ ⟨h1, h2⟩ => ⟨h1, h2.symm⟩

/-- What stands while a pair is laid. -/
structure LaySt (w0 : World) (b p : Nat) (l : List UInt8) (mk mv : ByteArray) (W : World) : Prop where
  blk : Blk W p 37 #[.string mk, .string mv]
  isF : IsF b b l W
  tn : Tn b bT w0 W
  low : b ≤ W.heap.size
theorem LaySt.cells {w0 : World} {b p : Nat} {l : List UInt8} {mk mv : ByteArray} {W : World} (h : LaySt w0 b p l mk mv W) : W.cell? ⟨p, 0, none⟩ = some (.string mk) ∧ W.cell? ⟨p, 1, none⟩ = some (.string mv) := ⟨h.blk.cell 0, h.blk.cell 1⟩
theorem LaySt.drewN {w0 : World} {b p : Nat} {l : List UInt8} {mk mv : ByteArray} {W : World} (h : LaySt w0 b p l mk mv W) (j : Nat) : LaySt w0 b p l mk mv (W.drewN j) := ⟨h.blk.drewN j, h.isF, h.tn.drewN j, h.low⟩
theorem LaySt.drew {w0 : World} {b p : Nat} {l : List UInt8} {mk mv : ByteArray} {W : World} (h : LaySt w0 b p l mk mv W) : LaySt w0 b p l mk mv W.drew := ⟨h.blk.drew, h.isF, h.tn.drew, h.low⟩
theorem pst_common {w0 : World} {b p : Nat} {l : List UInt8} {mk mv : ByteArray} (j : Nat) (pk : ByteArray) (hj : j < 4611686018427387904) (hp : pk.size ≤ 65536) (hm : mk.size ≤ 65536) (W : World) (h : LaySt w0 b p l mk mv W) :
    Calls Tryz.prog 111 #[.int .i64 (j : Int), .string pk, .string mk] W fun e W' => e = .returned (.int .i64 (comI j (bl pk) (bl mk) : Int)) ∧ LaySt w0 b p l mk mv W' :=
  (common_any j pk mk W hj (by omega) (by omega)).mono fun _ _ ⟨h1, q, h2⟩ => ⟨h1, by rw [h2]; exact h.drewN q⟩
theorem pst_lay {w0 : World} {b p : Nat} {l : List UInt8} {mk mv : ByteArray} (sh : Nat) (hs : sh ≤ mk.size) (hm : mk.size ≤ 65536) (hv : mv.size ≤ 65536) (hl : l.length ≤ 100000000) (W : World) (h : LaySt w0 b p l mk mv W) :
    Calls Tryz.prog 110 #[.pointer (some ⟨b, 0, none⟩), .agg #[.string mk, .string mv], .int .i64 (sh : Int)] W fun e W' => e = .returned (.tuple #[]) ∧ LaySt w0 b p (l ++ (pv sh ++ (pv (mk.size - sh) ++ (pv mv.size ++ ((bl mk).drop sh ++ bl mv))))) mk mv W' :=
  (lay_any b b l mk mv sh W h.isF hs (by omega) (by omega) hl h.low).mono fun _ _ ⟨h1, h2, h3⟩ => ⟨h1, h3.blk h.blk (bT_ne (by decide) (by decide) _ _), h2, h.tn.trans h3, Nat.le_trans h.low h3.size⟩

set_option maxRecDepth 100000 in
set_option maxHeartbeats 4000000 in
theorem build_any (A : Option Addr) (n c : Nat) (L : List KV) (w : World) (h : KeysAt w A n L) (hok : okP L) (hn : n ≤ 1000000) (hsh : longK L = false) (hsz : (blkL L).length ≤ 524288) (hT : LaidB w) :
    Calls Tryz.prog 26 #[.slice A n c] w fun e w' => e = .returned (.tuple #[.string (buildP L).1, .int .i64 (buildP L).2]) ∧ Below w.heap.size w w' := by
  have HK := Lib.hid h
  have Hok := Lib.hid hok
  have Hlen := Lib.hid h.len
  have HT := Lib.hid hT
  obtain ⟨rs, re, hr⟩ : ∃ rs re, buildP L = (rs, re) := ⟨_, _, rfl⟩
  rw [hr]
  have Hr := Lib.hid hr
  have Hsh := Lib.hid (longK_ok hsh)
  have Hsz : Hid ((bodyL 0 [] L).length ≤ 524280) := Lib.hid (by have := blkL_length L; omega)
  have Hbp : Hid (risesK L = true → rs = ⟨(blkL L).toArray⟩ ∧ re = 0) := Lib.hid (by
    intro hx
    unfold buildP at hr
    rw [if_neg (by rw [hx]; decide), if_neg (by rw [hsh]; decide), if_neg (by omega)] at hr
    exact ⟨(congrArg Prod.fst hr).symm, (congrArg Prod.snd hr).symm⟩)
  clear h hok hr hsh hsz hT
  go_enter Tryz.func26, Tryz.ntmps26
  go_wp2_with fail
  go_loopw [11] (fun i wr => ∃ k : Nat, i = .int .i64 (k : Int) ∧ Hid (∀ (i : Nat) (a b : KV), i + 1 < k → L[i]? = some a → L[i + 1]? = some b → cmpT a.1 b.1 < 0) ∧ Hid (Below w.heap.size w wr)) (fun i _ => n + 1 - (intOf i).toNat)
  case atStart => exact ⟨0, rfl, Lib.hid (fun i a b hi => by omega), Lib.hid (Below.refl _ _)⟩
  case round =>
    obtain ⟨k, rfl, Hf, HB⟩ := hrel
    by_cases hl : k < n
    · have g1 : (k : Int) < (n : Int) := by omega
      have g2 : (0 : Int) ≤ (k : Int) := by omega
      by_cases hk0 : k = 0
      · subst hk0
        go_wp2_with fail
        go_quiet (fail)
        go_wp2_with fail
        go_roundw
        case rel => exact ⟨1, by go_num, Lib.hid (fun i a b hi => by omega), Lib.hid (below_drewN HB.out _)⟩
        case measure => simp [intOf]
      · obtain ⟨m, hkm⟩ : ∃ m, k = m + 1 := ⟨k - 1, by omega⟩
        have hmL : m < L.length := by have := Hlen.out; omega
        have hkL : k < L.length := by have := Hlen.out; omega
        have ha : L[m]? = some L[m] := List.getElem?_eq_getElem hmL
        have hb : L[k]? = some L[k] := List.getElem?_eq_getElem hkL
        have oa := (Hok.out L[m] (List.getElem_mem hmL)).1
        have ob := (Hok.out L[k] (List.getElem_mem hkL)).1
        generalize L[m] = a at *
        generalize L[k] = b at *
        obtain ⟨g, off, rfl, hg, x0, -, y0, -⟩ := (HK.out.below HB.out).two ha hb
        have CC := fun W => Lib.hid (compare_T a.1 b.1 W)
        have g3 : (m : Int) < (n : Int) := by omega
        have g4 : (0 : Int) ≤ (m : Int) := by omega
        have g5 : wrap64 ((k : Int) - 1) = (m : Int) := by unfold wrap64; omega
        have g6 : IntKind.i64.wrap ((k : Int) - 1) = (m : Int) := by rw [IntKind.wrap_i64]; omega
        have g7 : 0 < k := by omega
        have Ha := Lib.hid ha
        have Hb := Lib.hid hb
        have Hkm := Lib.hid hkm
        by_cases he : cmpT a.1 b.1 < 0
        · have e1 : ¬ (0 : Int) ≤ cmpT a.1 b.1 := by omega
          have e2 : decide ((0 : Int) ≤ cmpT a.1 b.1) = false := decide_eq_false e1
          have Hf2 : Hid (∀ (i : Nat) (a b : KV), i + 1 < k + 1 → L[i]? = some a → L[i + 1]? = some b → cmpT a.1 b.1 < 0) := Lib.hid (by
            intro i a' b' hi ha' hb'
            by_cases e : i = m
            · subst e
              rw [← hkm, Hb.out] at hb'
              rw [Ha.out] at ha'
              cases ha'
              cases hb'
              exact he
            · exact Hf.out i a' b' (by omega) ha' hb')
          generalize cmpT a.1 b.1 = cm at *
          clear he ha hb hkm hk0 hmL hkL oa ob Hf
          go_upto_region 4 with fail
          go_quiet ((go_at_call 109; refine Calls.quiet_of_same (CC _).out))
          go_wp2_with fail
          go_roundw
          case rel => exact ⟨k + 1, by go_num, Hf2, Lib.hid (below_drewN HB.out _)⟩
          case measure => simp [intOf]; omega
        · have e1 : (0 : Int) ≤ cmpT a.1 b.1 := by omega
          have e2 : decide ((0 : Int) ≤ cmpT a.1 b.1) = true := decide_eq_true e1
          have e3 : risesK L = false := rises_not ha (by rw [← hkm]; exact hb) he
          have Hre : Hid (rs = ByteArray.empty ∧ re = 32) := Lib.hid (by
            have := Hr.out
            unfold buildP at this
            rw [if_pos e3] at this
            exact ⟨(congrArg Prod.fst this).symm, (congrArg Prod.snd this).symm⟩)
          generalize cmpT a.1 b.1 = cm at *
          clear he ha hb hkm hk0 hmL hkL oa ob Hf e3
          go_upto_region 4 with fail
          go_quiet ((go_at_call 109; refine Calls.quiet_of_same (CC _).out))
          go_wp2_with fail
          go_ret2
          exact ⟨by rw [Hre.out.1, Hre.out.2]; rfl, below_drewN HB.out _⟩
    · have e3 : risesK L = true := rises_iff L fun i a b ha hb => Hf.out i a b (by
        have h1 := (List.getElem?_eq_some_iff.1 hb).1
        have := Hlen.out
        omega) ha hb
      obtain ⟨rfl, rfl⟩ := Hbp.out e3
      have g1 : ¬ (k : Int) < (n : Int) := by omega
      clear Hf e3 Hr Hbp
      go_wp2_with fail
      have H0 : Hid (IsF wr.heap.size wr.heap.size (bodyL 0 [] (L.take 0)) (wr.alloc (.cells #[.pointer none, .slice none 0 0] 70))) := Lib.hid (isF_new wr)
      have HB0 : Hid (Below w.heap.size w (wr.alloc (.cells #[.pointer none, .slice none 0 0] 70))) := Lib.hid (below_alloc HB.out (Nat.le_refl _) _)
      have hs0 : wr.heap.size ≤ (wr.alloc (.cells #[.pointer none, .slice none 0 0] 70)).heap.size := by simp
      have hws : w.heap.size ≤ wr.heap.size := HB.out.size
      generalize wr.alloc (.cells #[.pointer none, .slice none 0 0] 70) = w1 at *
      generalize wr.heap.size = b at *
      clear HB
      go_loopw [6, 34] (fun x i W => ∃ (j : Nat) (pk : ByteArray), j ≤ n ∧ pk.size ≤ 65536 ∧ i = .int .i64 (j : Int) ∧ x = .string pk ∧ Hid (bl pk = lastK [] (L.take j)) ∧ Hid (IsF b b (bodyL 0 [] (L.take j)) W) ∧ b ≤ W.heap.size ∧ Hid (Below w.heap.size w W)) (fun _ i _ => n - (intOf i).toNat)
      case atStart => exact ⟨0, _, by omega, by decide, rfl, rfl, Lib.hid rfl, H0, hs0, HB0⟩
      case round =>
        obtain ⟨j, pk, hj, hpk, rfl, rfl, Hpk, HF, hbW, HW⟩ := hrel
        rename_i W _
        by_cases hjn : j < n
        · have hjL : j < L.length := by have := Hlen.out; omega
          have hm : L[j]? = some L[j] := List.getElem?_eq_getElem hjL
          have om := Hsh.out L[j] (List.getElem_mem hjL)
          generalize L[j] = mm at *
          obtain ⟨mk, mv⟩ := mm
          dsimp only at om
          obtain ⟨g, off, hA, hg, x0, x1⟩ := (HK.out.below HW.out).at_ j _ hm
          subst hA
          dsimp only at x0 x1
          have j1 : (j : Int) < (n : Int) := by omega
          have j2 : (0 : Int) ≤ (j : Int) := by omega
          have o1 : ¬ (65536 : Int) < (mk.size : Int) := by omega
          have o2 : ¬ (65536 : Int) < (mv.size : Int) := by omega
          have Hm := Lib.hid hm
          clear hm hjL
          go_wp2_with fail
          have S1 : LaySt wr b wr.heap.size (bodyL 0 [] (L.take j)) mk mv (wr.alloc (.cells #[.string mk, .string mv] 37)) :=
            ⟨Blk.new _ _ _, isF_below HF.out (below_alloc (Below.refl wr.heap.size wr) (Nat.le_refl _) _) (Nat.le_refl _), (Tn.refl b bT wr).alloc _, by simp; omega⟩
          have hcl := comI_le j (bl pk) (bl mk)
          have hbl : (bl mk).length = mk.size := rfl
          have hbd := body_take_le L j
          have hbe : onePair j (lastK [] (L.take j)) (bl mk) (bl mv) = pv (comI j (bl pk) (bl mk)) ++ (pv (mk.size - comI j (bl pk) (bl mk)) ++ (pv mv.size ++ ((bl mk).drop (comI j (bl pk) (bl mk)) ++ bl mv))) := by
            rw [← Hpk.out]; rfl
          have hnx := ctake_body Hm.out
          have hlast := clastK_take Hm.out
          dsimp only at hnx hlast
          rw [hbe] at hnx
          have hsz := Hsz.out
          have hbd2 := body_take_le L (j + 1)
          have C1 := fun W h => Lib.hid (pst_common (w0 := wr) (b := b) (p := wr.heap.size) (l := bodyL 0 [] (L.take j)) (mk := mk) (mv := mv) j pk (by omega) hpk om.1 W h)
          have C2 := fun W h => Lib.hid (pst_lay (w0 := wr) (b := b) (p := wr.heap.size) (l := bodyL 0 [] (L.take j)) (mk := mk) (mv := mv) (comI j (bl pk) (bl mk)) (by omega) om.1 om.2 (by omega) W h)
          rw [← hnx] at C2
          generalize comI j (bl pk) (bl mk) = sh at *
          have Hlast := Lib.hid hlast
          have Hbd2 := Lib.hid hbd2
          have HWn : Hid (∀ W', Tn b bT wr W' → Below w.heap.size w W') := Lib.hid (fun W' ht => HW.out.trans ((ht.below hbW).mono hws))
          obtain ⟨l2, hl2⟩ : ∃ l2, bodyL 0 [] (L.take (j + 1)) = l2 := ⟨_, rfl⟩
          rw [hl2] at C2
          have Hl2 := Lib.hid hl2
          clear hl2
          generalize wr.alloc (.cells #[.string mk, .string mv] 37) = w2 at *
          generalize wr.heap.size = p at *
          clear hcl hbd hbe hnx hlast hsz hbd2 hbl x0 x1 Hpk HF HW
          have S2 := S1.drew
          clear S1
          go_upto_region 14 with fail
          go_region_held3 (fun W => W.cell? ⟨p, 0, none⟩ = some (.string mk) ∧ W.cell? ⟨p, 1, none⟩ = some (.string mv))
            (first | exact S2.cells | exact LaySt.cells (by assumption))
            (first
              | (go_at_call 110; refine (C2 _ S5).out.mono ?_; rintro e w6 ⟨rfl, S6⟩)
              | (go_at_call 111; refine (C1 _ S2).out.mono ?_; rintro e w5 ⟨rfl, S5⟩))
          have q0 := S6.cells.1
          have HF6 := Lib.hid S6.isF
          have HW6 := Lib.hid (HWn.out _ S6.tn)
          have D6 := Lib.hid (blenF_any b b l2 w6 S6.isF)
          have hl6 : (l2.length : Int) ≤ 524280 := by have := Hbd2.out; rw [Hl2.out] at this; have := Hsz.out; omega
          have hb6 := S6.low
          clear S2 S5 S6 C1 C2 HWn
          go_wp2_with fail
          refine D6.out.mono ?_
          rintro e w7 ⟨rfl, rfl⟩
          go_wp2_with fail
          go_roundw
          case rel => exact ⟨j + 1, mk, by omega, om.1, by go_num, rfl, Lib.hid Hlast.out.symm, Lib.hid (by rw [Hl2.out]; exact HF6.out), hb6, HW6⟩
          case measure => simp [intOf]; omega
        · obtain rfl : j = n := by omega
          have hLj : L.take j = L := List.take_of_length_le (by have := Hlen.out; omega)
          rw [hLj] at HF
          have hlen : L.length = j := Hlen.out.symm
          have hsz := Hsz.out
          have j1 : ¬ (j : Int) < (j : Int) := by omega
          have Hblk : Hid (blkL L = (bodyL 0 [] L ++ be j 4) ++ be (crc (bodyL 0 [] L ++ be j 4)) 4) := Lib.hid (by unfold blkL; rw [hlen])
          obtain ⟨X, hX⟩ : ∃ X, bodyL 0 [] L = X := ⟨_, rfl⟩
          rw [hX] at HF Hblk hsz
          have C1 := Lib.hid (fixed_any j wr (by omega))
          clear hLj hlen hX Hpk
          go_wp2_with fail
          refine C1.out.mono ?_
          rintro e w2 ⟨rfl, hb2⟩
          have be4 : (be j 4).length = 4 := be_length j 4
          have D2 := Lib.hid (bstrF_any b b X ⟨(be j 4).toArray⟩ w2 (isF_tn HF.out hb2) (by rw [size_mk]; omega) (Nat.le_trans hbW hb2.size))
          have T2 := Lib.hid (Tn.of_below (B := b) (T := bT) hb2)
          clear hb2 C1
          go_wp2_with fail
          refine D2.out.mono ?_
          rintro e w3 ⟨rfl, h3, t3⟩
          have T3 := Lib.hid (T2.out.trans t3)
          have HB3 := Lib.hid (HW.out.trans ((T3.out.below hbW).mono hws))
          have hb3 : b ≤ w3.heap.size := Nat.le_trans hbW T3.out.size
          obtain ⟨Y, hY⟩ : ∃ Y, X ++ be j 4 = Y := ⟨_, rfl⟩
          have hYl : Y.length = X.length + 4 := by rw [← hY, List.length_append, be4]
          rw [hY] at h3 Hblk
          have E3 := Lib.hid (bstringF_any b b Y w3 h3 hb3)
          clear h3 t3 hY D2 T2
          go_wp2_with fail
          refine E3.out.mono ?_
          rintro e w4 ⟨rfl, h4, b4⟩
          have HB4 := Lib.hid (HB3.out.trans (b4.mono hws))
          have L4 := HT.out.on HB4.out
          have hb4 : b ≤ w4.heap.size := Nat.le_trans hb3 b4.size
          have S4 := Lib.hid (sum_any ⟨Y.toArray⟩ w4 (by rw [size_mk]; omega) L4.halves)
          have S4 : Hid (Calls Tryz.prog 33 #[.string ⟨Y.toArray⟩] w4 fun e w' => e = .returned (.int .i64 (crc Y : Int)) ∧ w4 = w') := S4
          have hcr := crc_lt Y
          obtain ⟨z, hz⟩ : ∃ z, crc Y = z := ⟨_, rfl⟩
          rw [hz] at S4 hcr Hblk
          have C4 := Lib.hid (fixed_any z w4 hcr)
          have H4 := Lib.hid h4
          clear hz h4 b4 L4 E3
          go_wp2_with fail
          refine S4.out.mono ?_
          rintro e w5 ⟨rfl, rfl⟩
          go_wp2_with fail
          refine C4.out.mono ?_
          rintro e w5 ⟨rfl, hb5⟩
          have ze4 : (be z 4).length = 4 := be_length z 4
          have D5 := Lib.hid (bstrF_any b b Y ⟨(be z 4).toArray⟩ w5 (isF_tn H4.out hb5) (by rw [size_mk]; omega) (Nat.le_trans hb4 hb5.size))
          have T5 := Lib.hid (Tn.of_below (B := b) (T := bT) hb5)
          clear hb5 C4 S4
          go_wp2_with fail
          refine D5.out.mono ?_
          rintro e w6 ⟨rfl, h6, t6⟩
          have T6 := Lib.hid (T5.out.trans t6)
          have HB6 := Lib.hid (HB4.out.trans ((T6.out.below hb4).mono hws))
          have hb6 : b ≤ w6.heap.size := Nat.le_trans hb4 T6.out.size
          have h6 : IsF b b (Y ++ be z 4) w6 := h6
          rw [← Hblk.out] at h6
          have E6 := Lib.hid (bstringF_any b b (blkL L) w6 h6 hb6)
          clear h6 t6 D5
          go_wp2_with fail
          refine E6.out.mono ?_
          rintro e w7 ⟨rfl, h7, b7⟩
          have HB7 := Lib.hid (HB6.out.trans (b7.mono hws))
          clear h7 b7
          go_wp2_with fail
          go_ret2
          exact ⟨rfl, HB7.out⟩
end Go.Proofs.YtcbgflidlpmhcaaGreatDoor

namespace Go.Proofs.YtcbgflidlpmhcaaGreatDoor
open Go.RowKit

def elKeys : El (ByteArray × ByteArray) := ⟨fun x => [.string x.1, .string x.2], 2, by decide, fun _ => rfl, fun x u hu => by simp at hu; rcases hu with rfl | rfl <;> rfl, fun i k => (bname i k, ⟨#[]⟩)⟩
def okKeys (x : ByteArray × ByteArray) : Prop := x.1.size ≤ 9223372036854775807 ∧ x.2.size ≤ 9223372036854775807
theorem okmKeys (i start n : Nat) : ∀ x ∈ elKeys.marks i start n, okKeys x := by
  intro x hx
  obtain ⟨k, _, rfl⟩ := List.mem_map.1 hx
  exact ⟨by show (6 : Nat) ≤ _; decide, by show (0 : Nat) ≤ _; decide⟩
theorem infoKeys : (Tryz.prog.info? 37).map (fun i => (i.zero, i.size, i.bytes)) = some (some (.agg #[.string ⟨#[]⟩, .string ⟨#[]⟩]), elKeys.sz, 32) := by kernel_rfl
theorem underKeys : Tryz.prog.underlying 22 = some (.slice 37) := by kernel_rfl
set_option maxRecDepth 100000 in
set_option maxHeartbeats 1000000 in
theorem markKeys_any (i start n : Nat) (w : World) (hi : i ≤ 1000) (hn : start + n ≤ 1000000) :
    Calls Tryz.prog 155 #[.int .i64 (i : Int), .int .i64 (start : Int), .int .i64 (n : Int)] w fun e w' => ∃ v, e = .returned v ∧ Own elKeys w' w.heap.size 37 v (elKeys.marks i start n) ∧ w.grownBy w' none := by
  have a1 : (i : Int) ≤ 1000 := by omega
  have a2 : (start : Int) + (n : Int) ≤ 1000000 := by omega
  go_enter Tryz.func155, Tryz.ntmps155
  go_wp2_with fail
  go_loopw [7, 8] (fun o k wr => ∃ j : Nat, j ≤ n ∧ k = .int .i64 ((start : Int) + (j : Int)) ∧ Hid (Own elKeys wr w.heap.size 37 o (elKeys.marks i start j)) ∧ Hid (w.grownBy wr none)) (fun _ k _ => start + n - (intOf k).toNat)
  case atStart => exact ⟨0, by omega, by simp, World.ownsRow_nil _ _ _ _, grefl _ _⟩
  case round =>
    obtain ⟨j, hj, rfl, HN, HG⟩ := hrel
    by_cases hl : j < n
    · obtain ⟨ao, co, eo⟩ := HN.out.slice
      rw [El.marks_length] at eo
      subst eo
      have hl1 : (start : Int) + (j : Int) < (start : Int) + (n : Int) := by omega
      have hjn : j ≤ 1000000 := by omega
      have NM := fun W => Lib.hid (bname_any i (start + j) W hi (by omega))
      push_cast at NM
      clear hjn
      go_wp2_with fail
      refine (NM _).out.mono ?_
      rintro e w1 ⟨rfl, hb1⟩
      have HN1 := Lib.hid (HN.out.below hb1)
      have HG1 := Lib.hid (gnone HG.out (g_below hb1))
      clear hb1 NM
      have Ha : Own elKeys (w1.alloc (.cells #[.string (bname i (start + j)), .string ⟨#[]⟩] 37)) w.heap.size 37 (.slice ao j co) (elKeys.marks i start j) := World.ownsRow.alloc HN1.out _
      obtain ⟨v', w2, hr, hown, hgr, _, _⟩ := app_own (P := Tryz.prog) elKeys 22 37 (.agg #[.string ⟨#[]⟩, .string ⟨#[]⟩]) 32 underKeys infoKeys rfl (w1.alloc (.cells #[.string (bname i (start + j)), .string ⟨#[]⟩] 37)) w.heap.size (.slice ao j co) (elKeys.marks i start j) [elKeys.mark i (start + j)] Ha (some ⟨w1.heap.size, 0, none⟩) 1 (fun h => by cases h) (fun a ha j' u hu => by
        cases ha
        rw [El.row_one] at hu
        refine cells_new w1 37 [.string (bname i (start + j)), .string ⟨#[]⟩] j' u ?_
        skip
        exact hu) (by rw [El.marks_length]; unfold maxLen; simp; omega) (by rw [El.marks_length]; simp; omega) (Nat.le_trans HG1.out.size (by simp)) 1 rfl
      rw [← El.marks_succ] at hown
      have HR := fun ty => Lib.hid (hr ty)
      have HN2 := Lib.hid hown
      have HG2 := Lib.hid (grow_k (gnone HG1.out (World.grownBy_alloc w1 (.cells #[.string (bname i (start + j)), .string ⟨#[]⟩] 37) none)) Ha (Nat.le_refl _) hgr)
      clear hr hown hgr Ha HN HG HN1 HG1
      go_wp2_with (at_builtin; refine wpList_append_k _ w2 rfl (.tmp 17) (.tmp 22) 22 rfl _ _ v' rfl rfl (fun ty => (HR ty).out) ?_)
      go_roundw
      case rel => exact ⟨j + 1, by omega, by go_num, HN2, HG2⟩
      case measure => simp [intOf]; omega
    · obtain rfl : j = n := by omega
      go_wp2_with fail
      go_ret
      exact ⟨_, rfl, HN.out, HG.out⟩
theorem keysS2 (x y : ByteArray) (hx : x.size ≤ maxLen) (hy : y.size ≤ maxLen) : Tryz.prog.keyLits 2 37 [.string x, .string y] = some [.string x.data.toList, .string y.data.toList] := by
  have hc : Tryz.prog.cellsOf 9 = 1 := by kernel_rfl
  have r2 : List.range 2 = [0, 1] := rfl
  have hl : Tryz.prog.cellsOf 37 = 2 := by kernel_rfl
  unfold Program.keyLits
  rw [Tryz.underlying37]
  simp [hl, r2, hc, Program.keyLits, Tryz.underlying9, hx, hy]
theorem eqS2 (x y : ByteArray) (hx : x.size ≤ maxLen) (hy : y.size ≤ maxLen) (W : World) : (binOp .eql 37 (.agg #[.string x, .string y]) (.agg #[.string x, .string y])).run Tryz.prog W = .ok (.bool true) W := by
  rw [run_eql_struct]
  obtain ⟨r, hr, hiff⟩ := run_equalIn_deep (P := Tryz.prog) 9998 2 37 (by kernel_rfl) W 2 2 (.agg #[.string x, .string y]) (.agg #[.string x, .string y]) _ _ (by kernel_rfl) (by kernel_rfl) (keysS2 x y hx hy) (keysS2 x y hx hy)
  rw [show (10000 : Nat) = 9998 + 2 from rfl, hr]
  have : r = true := hiff.2 rfl
  subst this
  rfl

set_option maxRecDepth 100000 in
set_option maxHeartbeats 1000000 in
theorem sameKeys_any (A1 A2 : Option Addr) (n1 n2 c1 c2 B1 B2 : Nat) (L : List (ByteArray × ByteArray)) (w : World) (h1 : Own elKeys w B1 37 (.slice A1 n1 c1) L) (h2 : Own elKeys w B2 37 (.slice A2 n2 c2) L) (hL : L.length ≤ 1000000) (hok : ∀ x ∈ L, okKeys x) :
    Calls Tryz.prog 22 #[.slice A1 n1 c1, .slice A2 n2 c2] w fun e w' => e = .returned (.bool true) ∧ ∃ q, w' = w.drewN q := by
  have r1 := own_reads h1
  have r2 := own_reads h2
  obtain ⟨rfl, _, rd1⟩ := r1
  obtain ⟨rfl, _, rd2⟩ := r2
  have f1 := fun hn => Own.some_ h1 hn
  have f2 := fun hn => Own.some_ h2 hn
  obtain ⟨n, hn⟩ : ∃ n, n = L.length := ⟨_, rfl⟩
  have HL := Lib.hid hn
  rw [← hn] at f1 f2 hL ⊢
  have H1 := Lib.hid h1
  have H2 := Lib.hid h2
  have F1 := Lib.hid f1
  have F2 := Lib.hid f2
  have hL' : (n : Int) ≤ 1000000 := by omega
  clear h1 h2 rd1 rd2 f1 f2 hn
  go_enter Tryz.func22, Tryz.ntmps22
  go_wp2_with fail
  go_loopw [5] (fun i wr => ∃ k q : Nat, k ≤ n ∧ i = .int .i64 (k : Int) ∧ Hid (wr = w.drewN q)) (fun i _ => n - (intOf i).toNat)
  case atStart => exact ⟨0, 0, by omega, rfl, rfl⟩
  case round =>
    obtain ⟨k, q, hk, rfl, Hw⟩ := hrel
    by_cases hl : k < n
    · obtain ⟨g1, d1, cur1, e1, _⟩ := F1.out (by omega)
      obtain ⟨g2, d2, cur2, e2, _⟩ := F2.out (by omega)
      injection e1 with e1 e1b e1c
      injection e2 with e2 e2b e2c
      clear e1b e1c e2b e2c
      subst e1 e2
      have hkL : k < L.length := by rw [← HL.out]; exact hl
      obtain ⟨x, hx⟩ : ∃ x, L[k]? = some x := ⟨_, List.getElem?_eq_getElem hkL⟩
      have y0 : wr.cell? ⟨g1, k * 2, none⟩ = some (.string x.1) := by
        rw [Hw.out]
        have h9 := Own.cells (j := 0) H1.out hx (by decide) rfl
        rwa [show k * elKeys.sz + 0 = k * 2 from by show k * 2 + 0 = _; omega] at h9
      have y1 : wr.cell? ⟨g1, k * 2 + 1, none⟩ = some (.string x.2) := by
        rw [Hw.out]
        have h9 := Own.cells (j := 1) H1.out hx (by decide) rfl
        rwa [show k * elKeys.sz + 1 = k * 2 + 1 from by show k * 2 + 1 = _; omega] at h9
      have z0 : wr.cell? ⟨g2, k * 2, none⟩ = some (.string x.1) := by
        rw [Hw.out]
        have h9 := Own.cells (j := 0) H2.out hx (by decide) rfl
        rwa [show k * elKeys.sz + 0 = k * 2 from by show k * 2 + 0 = _; omega] at h9
      have z1 : wr.cell? ⟨g2, k * 2 + 1, none⟩ = some (.string x.2) := by
        rw [Hw.out]
        have h9 := Own.cells (j := 1) H2.out hx (by decide) rfl
        rwa [show k * elKeys.sz + 1 = k * 2 + 1 from by show k * 2 + 1 = _; omega] at h9
      have ox := hok x (List.mem_of_getElem? hx)
      obtain ⟨xa, xb⟩ := x
      have EQ := eqS2 xa xb ox.1 ox.2
      have hl1 : (k : Int) < (n : Int) := by omega
      clear hx hkL
      go_wp2_with fail
      go_quiet (fail)
      go_wp2_with fail
      go_roundw
      case rel => exact ⟨k + 1, _, by omega, by go_num, (by rw [Hw.out, World.drewN_drewN]; rfl)⟩
      case measure => simp [intOf]; omega
    · obtain rfl : k = n := by omega
      go_wp2_with fail
      go_ret
      exact ⟨rfl, q, Hw.out⟩
set_option maxRecDepth 100000 in
set_option maxHeartbeats 1000000 in
theorem copyKeys_any (A : Option Addr) (n c B : Nat) (L : List (ByteArray × ByteArray)) (w : World) (h : Own elKeys w B 37 (.slice A n c) L) (hL : L.length ≤ 1000000) :
    Calls Tryz.prog 47 #[.slice A n c] w fun e w' => ∃ A2 c2, e = .returned (.slice A2 n c2) ∧ Own elKeys w' w.heap.size 37 (.slice A2 n c2) L ∧ w.grownBy w' none := by
  obtain ⟨rfl, hA, hM⟩ := own_reads h
  obtain ⟨v', w2, hr, hown, hgr, _, _⟩ := app_own (P := Tryz.prog) elKeys 22 37 (.agg #[.string ⟨#[]⟩, .string ⟨#[]⟩]) 32 underKeys infoKeys rfl w w.heap.size (.slice none 0 0) [] L (World.ownsRow_nil _ _ _ _) A c hA hM (by unfold maxLen; simp; omega) (by simp; omega) (Nat.le_refl _) L.length rfl
  rw [List.nil_append] at hown
  obtain ⟨a2, c2, rfl⟩ := hown.slice
  have HO := Lib.hid hown
  have HG : Hid (w.grownBy w2 none) := hgr
  have HR := fun ty => Lib.hid (hr ty)
  clear h hA hM hr hown hgr hL
  generalize L.length = n at *
  go_enter Tryz.func47, Tryz.ntmps47
  go_wp2_with (at_builtin; refine wpList_append_k _ w2 rfl (.const (.slice none 0 0)) (.tmp 3) 22 rfl _ _ (.slice a2 n c2) rfl rfl (fun ty => (HR ty).out) ?_)
  go_ret
  exact ⟨_, _, rfl, HO.out, HG.out⟩
end Go.Proofs.YtcbgflidlpmhcaaGreatDoor
