/-
  Several texts in one: Heaps, as plain lists: a swap, what holds while an element goes up or down (no program is named).
  The landed package merge, part 1: its heap of lists as it lies; Len, Less, Swap, Push, Pop, and the calls of these through the interface.
  The landed package merge, part 2: Swap, Push, Pop.
  The landed package merge, part 3: Pop; the calls of the heap's methods through the interface.
  The landed package merge, part 4: the heap's up and down, through the interface.
  The landed package merge, part 5: the heap's Push, Pop, Fix.
  Lists laid together, as plain values: what is asked (IsMerge), that it is one list alone, what holds while heads are taken (no program is named beyond the heap's sources).
  The landed package merge, part 6: lists of lists as they can be read; begun, step.
  The landed package merge, part 7: step.
  The book of lists: the names that mark texts.
  The book of lists, Keys: marks, copies, are two alike? (Written by wip/gen/gen_bk.py.)
  The landed package merge, part 8: Merge, with its deferred closure.
  The landed package merge, part 9: Merge.
  Tables, as plain values: heads of keys, blocks of pairs, pairs from a key on, whether pairs may be written (no program is named).
  Chapter 11, plain: how bytes are read as pairs, three numbers at a time. No program is named.
  Tables, as plain values, 2: from the empty key on; a first part of the pairs; may they be written (no program is named).
-/
import Derived.Test.YteackdafggomhaaM1
import Derived.Handy
import Derived.LoopTactic
import Derived.BigQuiet
import Derived.Deep.RegionLaw
import Derived.Deep.RegionHeld3
import Derived.Deep.DeepCutAuto
import Derived.DeepKeys
import Derived.Defers
import Derived.Recover
import Derived.Deep.LoopGhost
namespace Go.Proofs.Yteackdafggomhaa
open Go.RowKit

section
variable {α : Type}
/-- Two elements change places. -/
def swapL (S : List α) (i j : Nat) : List α := match S[i]?, S[j]? with
  | some a, some b => (S.set i b).set j a
  | _, _ => S
theorem swapL_eq {S : List α} {i j : Nat} {a b : α} (hi : S[i]? = some a) (hj : S[j]? = some b) : swapL S i j = (S.set i b).set j a := by
  unfold swapL
  rw [hi, hj]
theorem swapL_len (S : List α) (i j : Nat) : (swapL S i j).length = S.length := by
  unfold swapL
  split
  · rw [List.length_set, List.length_set]
  · rfl
theorem swapL_at {S : List α} {i j : Nat} {a b : α} (hi : S[i]? = some a) (hj : S[j]? = some b) (k : Nat) : (swapL S i j)[k]? = if k = j then some a else if k = i then some b else S[k]? := by
  have h1 := (List.getElem?_eq_some_iff.1 hi).1
  have h2 := (List.getElem?_eq_some_iff.1 hj).1
  rw [swapL_eq hi hj, List.getElem?_set, List.getElem?_set]
  by_cases e : k = j
  · subst e
    rw [if_pos rfl, if_pos rfl, if_pos (by rw [List.length_set]; exact h2)]
  · rw [if_neg (fun h => e h.symm), if_neg e]
    by_cases e2 : k = i
    · subst e2
      rw [if_pos rfl, if_pos rfl, if_pos h1]
    · rw [if_neg (fun h => e2 h.symm), if_neg e2]
theorem perm_set2 {S : List α} : ∀ {i : Nat} {a : α} (b : α), S[i]? = some a → (b :: S).Perm (a :: S.set i b) := by
  induction S with
  | nil => intro i a b h; simp at h
  | cons x r ih =>
    intro i a b h
    cases i with
    | zero =>
      simp at h
      subst h
      exact List.Perm.swap _ _ _
    | succ i =>
      have h : r[i]? = some a := by simpa using h
      rw [List.set_cons_succ]
      exact ((List.Perm.swap x b r).trans ((ih b h).cons x)).trans (List.Perm.swap a x _)
theorem swapL_perm {S : List α} {i j : Nat} {a b : α} (hi : S[i]? = some a) (hj : S[j]? = some b) : (swapL S i j).Perm S := by
  rw [swapL_eq hi hj]
  by_cases e : i = j
  · subst e
    rw [hi] at hj
    cases hj
    have h1 : S.set i a = S := by
      apply List.ext_getElem?
      intro k
      rw [List.getElem?_set]
      split
      · rename_i e
        subst e
        rw [if_pos (List.getElem?_eq_some_iff.1 hi).1, hi]
      · rfl
    rw [h1, h1]
  · have h1 := perm_set2 b hi
    have h2 : (S.set i b)[j]? = some b := by rw [List.getElem?_set, if_neg e]; exact hj
    have h3 := perm_set2 a h2
    exact ((h1.trans h3).cons_inv).symm

/-- An order by which of two elements one is told first. -/
structure Ordr (lt : α → α → Bool) : Prop where
  asym : ∀ a b, lt a b = true → lt b a = false
  neg : ∀ a b c, lt a b = false → lt b c = false → lt a c = false
variable {lt : α → α → Bool}
theorem Ordr.irr (h : Ordr lt) (a : α) : lt a a = false := by
  cases e : lt a a with
  | false => rfl
  | true => have := h.asym a a e; rw [e] at this; cases this
/-- Of the first n elements none is ahead of that above it. -/
def HeapO (lt : α → α → Bool) (S : List α) (n : Nat) : Prop := ∀ c x y, 0 < c → c < n → S[c]? = some x → S[(c - 1) / 2]? = some y → lt x y = false
/-- So it is, but for the element at j, which may be ahead of that above it. -/
structure UpI (lt : α → α → Bool) (S : List α) (j : Nat) : Prop where
  all : ∀ c x y, 0 < c → c ≠ j → S[c]? = some x → S[(c - 1) / 2]? = some y → lt x y = false
  kid : 0 < j → ∀ c x y, 0 < c → (c - 1) / 2 = j → S[c]? = some x → S[(j - 1) / 2]? = some y → lt x y = false
theorem UpI.zero {S : List α} (h : UpI lt S 0) {n : Nat} : HeapO lt S n := fun c x y h0 _ hx hy => h.all c x y h0 (by omega) hx hy
theorem UpI.done {S : List α} {j : Nat} (h : UpI lt S j) {a b : α} (ha : S[j]? = some a) (hb : S[(j - 1) / 2]? = some b) (hl : lt a b = false) {n : Nat} : HeapO lt S n := fun c x y h0 _ hx hy => by
  by_cases e : c = j
  · subst e
    rw [ha] at hx; rw [hb] at hy
    cases hx; cases hy
    exact hl
  · exact h.all c x y h0 e hx hy
theorem UpI.step (ho : Ordr lt) {S : List α} {j : Nat} (hj : 0 < j) (h : UpI lt S j) {a b : α} (ha : S[j]? = some a) (hb : S[(j - 1) / 2]? = some b) (hl : lt a b = true) : UpI lt (swapL S ((j - 1) / 2) j) ((j - 1) / 2) := by
  have A := swapL_at hb ha
  generalize hi : (j - 1) / 2 = i at *
  have hij : i < j := by omega
  refine ⟨fun c x y h0 hc hx hy => ?_, fun h0 c x y hc hp hx hy => ?_⟩
  · rw [A] at hx hy
    by_cases e1 : c = j
    · subst e1
      rw [if_pos rfl] at hx
      rw [hi, if_neg (by omega), if_pos rfl] at hy
      cases hx; cases hy
      exact ho.asym _ _ hl
    · rw [if_neg e1, if_neg hc] at hx
      by_cases e2 : (c - 1) / 2 = j
      · rw [if_pos e2] at hy
        cases hy
        exact h.kid hj c x b h0 e2 hx (by rw [hi]; exact hb)
      · rw [if_neg e2] at hy
        by_cases e3 : (c - 1) / 2 = i
        · rw [if_pos e3] at hy
          cases hy
          have := h.all c x b h0 e1 hx (by rw [e3]; exact hb)
          exact ho.neg _ _ _ this (ho.asym _ _ hl)
        · rw [if_neg e3] at hy
          exact h.all c x y h0 e1 hx hy
  · rw [A] at hx hy
    have hpi : (i - 1) / 2 < i := by omega
    rw [if_neg (by omega), if_neg (by omega)] at hy
    have hbi : lt b y = false := h.all i b y h0 (by omega) hb hy
    by_cases e1 : c = j
    · subst e1
      rw [if_pos rfl] at hx
      cases hx
      exact hbi
    · rw [if_neg e1, if_neg (by omega)] at hx
      exact ho.neg _ _ _ (h.all c x b hc e1 hx (by rw [hp]; exact hb)) hbi
/-- Of the first n elements none is ahead of that above it, but those below i may be. -/
structure DnI (lt : α → α → Bool) (S : List α) (i n : Nat) : Prop where
  all : ∀ c x y, 0 < c → c < n → (c - 1) / 2 ≠ i → S[c]? = some x → S[(c - 1) / 2]? = some y → lt x y = false
  kid : 0 < i → ∀ c x y, 0 < c → c < n → (c - 1) / 2 = i → S[c]? = some x → S[(i - 1) / 2]? = some y → lt x y = false
theorem DnI.none {S : List α} {i n : Nat} (h : DnI lt S i n) (hn : n ≤ 2 * i + 1) : HeapO lt S n := fun c x y h0 hc hx hy => h.all c x y h0 hc (by omega) hx hy
theorem DnI.done (ho : Ordr lt) {S : List α} {i j n : Nat} (h : DnI lt S i n) (_hj0 : 0 < j) (_hj : (j - 1) / 2 = i) {a b : α} (_ha : S[j]? = some a) (hb : S[i]? = some b) (hmin : ∀ c x, 0 < c → c < n → (c - 1) / 2 = i → S[c]? = some x → lt x a = false) (hl : lt a b = false) : HeapO lt S n := fun c x y h0 hc hx hy => by
  by_cases e : (c - 1) / 2 = i
  · rw [e, hb] at hy
    cases hy
    exact ho.neg _ _ _ (hmin c x h0 hc e hx) hl
  · exact h.all c x y h0 hc e hx hy
theorem DnI.step (ho : Ordr lt) {S : List α} {i j n : Nat} (h : DnI lt S i n) (hj0 : 0 < j) (hjn : j < n) (hj : (j - 1) / 2 = i) {a b : α} (ha : S[j]? = some a) (hb : S[i]? = some b) (hmin : ∀ c x, 0 < c → c < n → (c - 1) / 2 = i → S[c]? = some x → lt x a = false) (hl : lt a b = true) : DnI lt (swapL S i j) j n := by
  have A := swapL_at hb ha
  have hij : i < j := by omega
  refine ⟨fun c x y h0 hc hne hx hy => ?_, fun _ c x y h0 hc hp hx hy => ?_⟩
  · rw [A] at hx hy
    rw [if_neg hne] at hy
    by_cases e1 : c = j
    · subst e1
      rw [if_pos rfl] at hx
      rw [if_pos hj] at hy
      cases hx; cases hy
      exact ho.asym _ _ hl
    · rw [if_neg e1] at hx
      by_cases e2 : c = i
      · subst e2
        rw [if_pos rfl] at hx
        rw [if_neg (by omega)] at hy
        cases hx
        exact h.kid h0 j a y hj0 hjn hj ha hy
      · rw [if_neg e2] at hx
        by_cases e3 : (c - 1) / 2 = i
        · rw [if_pos e3] at hy
          cases hy
          exact hmin c x h0 hc e3 hx
        · rw [if_neg e3] at hy
          exact h.all c x y h0 hc e3 hx hy
  · rw [A] at hx hy
    rw [hj, if_neg (by omega), if_pos rfl] at hy
    cases hy
    rw [if_neg (by omega), if_neg (by omega)] at hx
    exact h.all c x a h0 hc (by omega) hx (by rw [hp]; exact ha)
/-- The first of a heap is ahead of all, or beside them. -/
theorem HeapO.first (ho : Ordr lt) {S : List α} {n : Nat} (h : HeapO lt S n) (hn : n ≤ S.length) {a : α} (ha : S[0]? = some a) : ∀ c x, c < n → S[c]? = some x → lt x a = false := by
  intro c
  induction c using Nat.strongRecOn with
  | ind c ih =>
    intro x hc hx
    by_cases h0 : c = 0
    · subst h0
      rw [ha] at hx
      cases hx
      exact ho.irr _
    · have hp : (c - 1) / 2 < c := by omega
      have hpl : (c - 1) / 2 < S.length := by omega
      have hy := List.getElem?_eq_getElem hpl
      exact ho.neg _ _ _ (h c x _ (by omega) hc hx hy) (ih _ hp _ (by omega) hy)
theorem HeapO.push {S : List α} (h : HeapO lt S S.length) (x : α) : UpI lt (S ++ [x]) S.length := by
  refine ⟨fun c u v h0 hc hu hv => ?_, fun h0 c u v hc hp hu _ => ?_⟩
  · have hl := (List.getElem?_eq_some_iff.1 hu).1
    rw [List.length_append, List.length_singleton] at hl
    have hcl : c < S.length := by omega
    rw [List.getElem?_append_left hcl] at hu
    rw [List.getElem?_append_left (by omega)] at hv
    exact h c u v h0 hcl hu hv
  · have hl := (List.getElem?_eq_some_iff.1 hu).1
    rw [List.length_append, List.length_singleton] at hl
    omega
theorem HeapO.set0 {S : List α} (h : HeapO lt S S.length) (x : α) : DnI lt (S.set 0 x) 0 S.length := by
  refine ⟨fun c u v h0 hc hne hu hv => ?_, fun h0 => by omega⟩
  rw [List.getElem?_set, if_neg (by omega)] at hu
  rw [List.getElem?_set, if_neg (fun e => hne e.symm)] at hv
  exact h c u v h0 hc hu hv
/-- The first and the last change places. -/
theorem HeapO.pop {S : List α} (h : HeapO lt S S.length) {a b : α} (ha : S[0]? = some a) (hb : S[S.length - 1]? = some b) : DnI lt (swapL S 0 (S.length - 1)) 0 (S.length - 1) := by
  have A := swapL_at ha hb
  refine ⟨fun c u v h0 hc hne hu hv => ?_, fun h0 => by omega⟩
  rw [A, if_neg (by omega), if_neg (by omega)] at hu
  rw [A, if_neg (by omega), if_neg hne] at hv
  exact h c u v h0 (by omega) hu hv
theorem UpI.heap {S : List α} (h : HeapO lt S S.length) : UpI lt S 0 :=
  ⟨fun c x y h0 _ hx hy => h c x y h0 (List.getElem?_eq_some_iff.1 hx).1 hx hy, fun h0 => by omega⟩
/-- What is left when the last is taken away. -/
theorem take_pop {S S2 : List α} {a : α} (h0 : S[0]? = some a) (hp : S2.Perm S) (ha : S2[S.length - 1]? = some a) : (a :: S2.take (S.length - 1)).Perm S := by
  have hl := hp.length_eq
  have h1 : 0 < S.length := (List.getElem?_eq_some_iff.1 h0).1
  have e : S2 = S2.take (S.length - 1) ++ [a] := by
    conv => lhs; rw [← List.take_length (l := S2)]
    rw [hl, show S.length = S.length - 1 + 1 by omega]
    rw [List.take_add_one, Nat.add_sub_cancel, ha]
    rfl
  refine List.Perm.trans ?_ hp
  conv => rhs; rw [e]
  exact (List.perm_append_singleton a _).symm
end
end Go.Proofs.Yteackdafggomhaa

namespace Go.Proofs.Yteackdafggomhaa
open Go.RowKit

/-- A list, of what is not told yet: where it lies, how many lists stand ahead of it, its pairs. -/
structure Src where
  A : Option Addr
  n : Nat
  c : Nat
  k : Nat
  L : List KV
def srcL (s : Src) : List Value := [.slice s.A s.n s.c, .int .i64 (s.k : Int)]
def elSrc : El Src := ⟨srcL, 2, by decide, fun _ => rfl, fun x u hu => by
  unfold srcL at hu
  simp only [List.mem_cons, List.not_mem_nil, or_false] at hu
  rcases hu with rfl | rfl <;> rfl, fun _ _ => ⟨none, 0, 0, 0, []⟩⟩
/-- The first key. -/
def Src.key (s : Src) : ByteArray := (s.L.headD (⟨#[]⟩, ⟨#[]⟩)).1
def lessS (a b : Src) : Bool := decide (cmpT a.key b.key < 0) || (decide (cmpT a.key b.key = 0) && decide (a.k < b.k))
theorem lessS_iff (a b : Src) : lessS a b = true ↔ cmpT a.key b.key < 0 ∨ (a.key = b.key ∧ a.k < b.k) := by
  unfold lessS
  rw [Bool.or_eq_true, Bool.and_eq_true, decide_eq_true_eq, decide_eq_true_eq, decide_eq_true_eq, cmpT_eq]
theorem lessS_not (a b : Src) : lessS a b = false ↔ cmpT b.key a.key < 0 ∨ (a.key = b.key ∧ b.k ≤ a.k) := by
  have h := lessS_iff a b
  have hs := cmpT_swap a.key b.key
  have he := cmpT_eq a.key b.key
  cases e : lessS a b with
  | true =>
    rw [e] at h
    have h := h.1 rfl
    constructor
    · intro h; cases h
    · rintro (h2 | ⟨h2, h3⟩)
      · rcases h with h | ⟨h, _⟩
        · omega
        · have := he.2 h; omega
      · rcases h with h | ⟨_, h⟩
        · have := he.2 h2; omega
        · omega
  | false =>
    rw [e] at h
    refine ⟨fun _ => ?_, fun _ => rfl⟩
    by_cases h1 : cmpT a.key b.key < 0
    · exact absurd (h.2 (Or.inl h1)) (by decide)
    · by_cases h2 : a.key = b.key
      · by_cases h3 : a.k < b.k
        · exact absurd (h.2 (Or.inr ⟨h2, h3⟩)) (by decide)
        · exact Or.inr ⟨h2, by omega⟩
      · have : cmpT a.key b.key ≠ 0 := fun h => h2 (he.1 h)
        exact Or.inl (by omega)
theorem ordS : Ordr lessS := by
  refine ⟨fun a b h => ?_, fun a b c h1 h2 => ?_⟩
  · rw [lessS_not]
    rcases (lessS_iff a b).1 h with h | ⟨h, h'⟩
    · exact Or.inl h
    · exact Or.inr ⟨h.symm, by omega⟩
  · rw [lessS_not] at h1 h2 ⊢
    rcases h1 with h1 | ⟨h1, h1'⟩ <;> rcases h2 with h2 | ⟨h2, h2'⟩
    · exact Or.inl (cmpT_trans h2 h1)
    · rw [← h2]; exact Or.inl h1
    · rw [h1]; exact Or.inl h2
    · exact Or.inr ⟨h1.trans h2, by omega⟩

/-- What the heap's calls turn. -/
def mgT (o : Obj) : Bool := cellsT 43 o || cellsT 40 o
theorem mgT_ne {t : TypeId} (h1 : t ≠ 43) (h2 : t ≠ 40) (cs : Array Value) (fr : Nat × Nat) : mgT (.cells cs t fr) = false := by
  unfold mgT
  rw [cellsT_ne h1, cellsT_ne h2]
  rfl
/-- The heap, as it lies. -/
structure HpS (w : World) (B p : Nat) (v : Value) (S : List Src) : Prop where
  blk : Blk w p 40 #[v]
  own : Own elSrc w B 43 v S
  low : B ≤ p
/-- Lists that can be read. -/
def InS (w : World) (S : List Src) : Prop := ∀ s ∈ S, KeysAt w s.A s.n s.L ∧ s.n ≤ s.c
/-- The first m of them have something left. -/
def NeS (m : Nat) (S : List Src) : Prop := ∀ k s, k < m → S[k]? = some s → s.L ≠ []
theorem NeS.perm {S T : List Src} (h : NeS S.length S) (hp : T.Perm S) : NeS T.length T := fun k s _ hs => by
  obtain ⟨i, hi, e⟩ := List.getElem_of_mem (hp.mem_iff.1 (List.mem_of_getElem? hs))
  exact h i s hi (by rw [List.getElem?_eq_getElem hi, e])
theorem InS.perm {w : World} {S T : List Src} (h : InS w S) (hp : T.Perm S) : InS w T := fun s hs => h s (hp.mem_iff.1 hs)
theorem InS.below {w w' : World} {S : List Src} (h : InS w S) (hb : Below w.heap.size w w') : InS w' S := fun s hs => ⟨(h s hs).1.below hb, (h s hs).2⟩
theorem src_cells {w : World} {B g n c : Nat} {S : List Src} (h : Own elSrc w B 43 (.slice (some ⟨g, 0, none⟩) n c) S) {i : Nat} {s : Src} (hs : S[i]? = some s) :
    w.cell? ⟨g, i * 2, none⟩ = some (.slice s.A s.n s.c) ∧ w.cell? ⟨g, i * 2 + 1, none⟩ = some (.int .i64 (s.k : Int)) := by
  have h0 := Own.cells (j := 0) (u := .slice s.A s.n s.c) h hs (by decide) rfl
  have h1 := Own.cells (j := 1) (u := .int .i64 (s.k : Int)) h hs (by decide) rfl
  exact ⟨h0, h1⟩
theorem src_slice {w : World} {B : Nat} {v : Value} {S : List Src} (h : Own elSrc w B 43 v S) (hS : 0 < S.length) : ∃ g c, v = .slice (some ⟨g, 0, none⟩) S.length c ∧ B ≤ g := by
  obtain ⟨g, c, cur, e, hb, _⟩ := h.some_ hS
  exact ⟨g, c, e, hb⟩
theorem head_at {w : World} {s : Src} (h : KeysAt w s.A s.n s.L) (hne : s.L ≠ []) : ∃ g o, s.A = some ⟨g, o, none⟩ ∧ g < w.heap.size ∧ w.cell? ⟨g, o, none⟩ = some (.string s.key) ∧ 0 < s.n ∧ ∃ u r, s.L = (s.key, u) :: r ∧ w.cell? ⟨g, o + 1, none⟩ = some (.string u) := by
  obtain ⟨m, r, hL⟩ := List.exists_cons_of_ne_nil hne
  obtain ⟨g, o, e, hg, h0, h1⟩ := h.at_ 0 m (by rw [hL]; rfl)
  have hk : s.key = m.1 := by unfold Src.key; rw [hL]; rfl
  rw [Nat.zero_mul, Nat.add_zero] at h0 h1
  exact ⟨g, o, e, hg, by rw [hk]; exact h0, by rw [h.len, hL]; simp, m.2, r, by rw [hk, hL], h1⟩
set_option maxRecDepth 100000 in
theorem slen_any (A : Option Addr) (n c : Nat) (w : World) :
    Calls Try.prog 56 #[.slice A n c] w fun e w' => e = .returned (.int .i64 (n : Int)) ∧ w' = w := by
  go_enter Try.func56, Try.ntmps56
  go_wp2_with fail
  go_ret
  exact ⟨rfl, rfl⟩
set_option maxRecDepth 100000 in
set_option maxHeartbeats 2000000 in
theorem sless_any (g n c B i j : Nat) (S : List Src) (a b : Src) (w : World) (hO : Own elSrc w B 43 (.slice (some ⟨g, 0, none⟩) n c) S) (hi : S[i]? = some a) (hj : S[j]? = some b) (ha : KeysAt w a.A a.n a.L ∧ a.L ≠ []) (hb : KeysAt w b.A b.n b.L ∧ b.L ≠ []) (_hn : n ≤ 1000000) :
    Calls Try.prog 57 #[.slice (some ⟨g, 0, none⟩) n c, .int .i64 (i : Int), .int .i64 (j : Int)] w fun e w' => e = .returned (.bool (lessS a b)) ∧ ∃ q, w' = w.drewN q := by
  obtain ⟨x0, x1⟩ := src_cells hO hi
  obtain ⟨y0, y1⟩ := src_cells hO hj
  obtain ⟨ga, oa, ea, _, ka, na, _⟩ := head_at ha.1 ha.2
  obtain ⟨gb, ob, eb, _, kb, nb, _⟩ := head_at hb.1 hb.2
  have hnl := (own_reads hO).1
  have li := (List.getElem?_eq_some_iff.1 hi).1
  have lj := (List.getElem?_eq_some_iff.1 hj).1
  rw [← hnl] at li lj
  have g1 : (i : Int) < (n : Int) := Int.ofNat_lt.2 li
  have g2 : (0 : Int) ≤ (i : Int) := Int.natCast_nonneg i
  have g3 : (j : Int) < (n : Int) := Int.ofNat_lt.2 lj
  have g4 : (0 : Int) ≤ (j : Int) := Int.natCast_nonneg j
  have g5 : (0 : Int) < (a.n : Int) := Int.ofNat_lt.2 na
  have g6 : (0 : Int) < (b.n : Int) := Int.ofNat_lt.2 nb
  have CC := fun W => Lib.hid ((compare_any a.key b.key W).mono fun e w' h => (⟨h.1, h.2.symm⟩ : e = .returned (.int .i64 (cmpT a.key b.key)) ∧ w' = W))
  rw [ea] at x0
  rw [eb] at y0
  have hR1 : cmpT a.key b.key < 0 → lessS a b = true := fun h => (lessS_iff _ _).2 (Or.inl h)
  have hR2 : cmpT a.key b.key = 0 → lessS a b = decide (a.k < b.k) := fun h => by
    unfold lessS
    rw [decide_eq_false (by omega), decide_eq_true h, Bool.false_or, Bool.true_and]
  have hR3 : ¬ cmpT a.key b.key < 0 → ¬ cmpT a.key b.key = 0 → lessS a b = false := fun h1 h2 => by
    unfold lessS
    rw [decide_eq_false h1, decide_eq_false h2, Bool.false_or, Bool.false_and]
  generalize lessS a b = R at *
  generalize a.key = kx at *
  generalize b.key = ky at *
  generalize hc : cmpT kx ky = c0 at *
  clear hc
  clear hO hi hj ha hb hnl li lj na nb ea eb
  by_cases h1 : c0 < 0
  · obtain rfl := hR1 h1
    have e1 : decide (c0 < 0) = true := decide_eq_true h1
    clear hR1 hR2 hR3 h1
    go_enter Try.func57, Try.ntmps57
    go_wp2_with fail
    go_quiet ((go_at_call 25; refine Calls.quiet_of_same (CC _).out))
    go_wp2_with fail
    go_quiet (fail)
    go_wp2_with fail
    go_ret
    exact ⟨rfl, _, by simp only [World.drewN_drewN]; rfl⟩
  · have e1 : decide (c0 < 0) = false := decide_eq_false h1
    by_cases h2 : c0 = 0
    · obtain rfl := hR2 h2
      subst h2
      cases hk : decide (a.k < b.k)
      all_goals
        clear hR1 hR2 hR3 h1
        go_enter Try.func57, Try.ntmps57
        go_wp2_with fail
        go_quiet ((go_at_call 25; refine Calls.quiet_of_same (CC _).out))
        go_wp2_with fail
        go_quiet (fail)
        go_wp2_with fail
        go_ret
        exact ⟨rfl, _, by simp only [World.drewN_drewN]; rfl⟩
    · obtain rfl := hR3 h1 h2
      have e2 : (c0 == 0) = false := beq_eq_false_iff_ne.2 h2
      clear hR1 hR2 hR3 h1 h2
      go_enter Try.func57, Try.ntmps57
      go_wp2_with fail
      go_quiet ((go_at_call 25; refine Calls.quiet_of_same (CC _).out))
      go_wp2_with fail
      go_quiet (fail)
      go_wp2_with fail
      go_ret
      exact ⟨rfl, _, by simp only [World.drewN_drewN]; rfl⟩
end Go.Proofs.Yteackdafggomhaa

namespace Go.Proofs.Yteackdafggomhaa
open Go.RowKit

theorem own_setS {w : World} {B g n c i : Nat} {e : TypeId} {R : List Src} (h : Own elSrc w B e (.slice (some ⟨g, 0, none⟩) n c) R) (f : Src) (hi : i < n) :
    Own elSrc (setCells w g (i * 2) (srcL f)) B e (.slice (some ⟨g, 0, none⟩) n c) (R.set i f) := by
  obtain ⟨hn, _, _⟩ := own_reads h
  subst hn
  have h1 := setCells_own (srcL f) w (i * 2) _ h
  have h2 := El.row_set elSrc R i f hi
  unfold Own
  rw [List.length_set, h2]
  exact h1
set_option maxRecDepth 100000 in
set_option maxHeartbeats 2000000 in
theorem sswap_any (g n c B i j : Nat) (S : List Src) (a b : Src) (w : World) (hO : Own elSrc w B 43 (.slice (some ⟨g, 0, none⟩) n c) S) (hi : S[i]? = some a) (hj : S[j]? = some b) (_hn : n ≤ 1000000) :
    Calls Try.prog 58 #[.slice (some ⟨g, 0, none⟩) n c, .int .i64 (i : Int), .int .i64 (j : Int)] w fun e w' => e = .returned (.tuple #[]) ∧ Own elSrc w' B 43 (.slice (some ⟨g, 0, none⟩) n c) (swapL S i j) ∧ w.grownBy w' (some g) := by
  obtain ⟨x0, x1⟩ := src_cells hO hi
  obtain ⟨y0, y1⟩ := src_cells hO hj
  have hnl := (own_reads hO).1
  have li := (List.getElem?_eq_some_iff.1 hi).1
  have lj := (List.getElem?_eq_some_iff.1 hj).1
  rw [← hnl] at li lj
  have g1 : (i : Int) < (n : Int) := Int.ofNat_lt.2 li
  have g2 : (0 : Int) ≤ (i : Int) := Int.natCast_nonneg i
  have g3 : (j : Int) < (n : Int) := Int.ofNat_lt.2 lj
  have g4 : (0 : Int) ≤ (j : Int) := Int.natCast_nonneg j
  have fr := fun k => hO.frozen_ k
  have HZ : Hid (Own elSrc (setCells (setCells w g (i * 2) (srcL b)) g (j * 2) (srcL a)).drew B 43 (.slice (some ⟨g, 0, none⟩) n c) (swapL S i j) ∧ w.grownBy (setCells (setCells w g (i * 2) (srcL b)) g (j * 2) (srcL a)).drew (some g)) := Lib.hid (by
    have h1 := own_setS hO b li
    have h2 := own_setS h1 a lj
    rw [swapL_eq hi hj]
    have ga := setCells_grown (g := g) (srcL b) w (i * 2)
    have gb := setCells_grown (g := g) (srcL a) (setCells w g (i * 2) (srcL b)) (j * 2)
    exact ⟨h2.below (below_g ⟨rfl, rfl, rfl, Nat.le_refl _, fun _ _ _ => rfl⟩), gb.os.trans ga.os, gb.tape.trans ga.tape, gb.output.trans ga.output, Nat.le_trans ga.size gb.size, fun k hk hne => (gb.block k (Nat.lt_of_lt_of_le hk ga.size) hne).trans (ga.block k hk hne)⟩)
  have h1 := own_setS hO b li
  have hjb : (S.set i b)[j]? = some b := by
    rw [List.getElem?_set]
    split
    · rename_i e
      subst e
      rw [if_pos (List.getElem?_eq_some_iff.1 hi).1]
    · exact hj
  obtain ⟨z0, z1⟩ := src_cells h1 hjb
  have fz := fun k => h1.frozen_ k
  simp only [setCells, srcL] at z0 z1 fz
  clear h1 hjb hO hi hj hnl li lj
  go_enter Try.func58, Try.ntmps58
  go_wp2_with fail
  go_region
  go_end0
  exact ⟨rfl, HZ.out⟩

theorem infoSrc : (Try.prog.info? 43).map (fun i => (i.zero, i.size, i.bytes)) = some (some (.agg #[.slice none 0 0, .int .i64 0]), elSrc.sz, 32) := by kernel_rfl
theorem underSrc : Try.prog.underlying 40 = some (.slice 43) := by kernel_rfl
/-- The slice of the heap is set anew. -/
theorem HpS.set {w : World} {B p : Nat} {v : Value} {S : List Src} (h : HpS w B p v S) {v' : Value} {S' : List Src} (hO : Own elSrc w B 43 v' S') : HpS (w.setCell ⟨p, 0, none⟩ v') B p v' S' := by
  refine ⟨?_, ?_, h.low⟩
  · exact h.blk.set_ 0 v'
  · have g : Tn 0 (cellsT 40) w (w.setCell ⟨p, 0, none⟩ v') := (Tn.refl 0 _ w).setCell (p := ⟨p, 0, none⟩) (Or.inr ⟨Nat.zero_le _, _, h.blk, by simp [cellsT]⟩) _
    exact hO.tn g (fun cs fr => cellsT_ne (by decide) cs fr)
theorem HpS.turn {w : World} {B p : Nat} {v : Value} {S : List Src} (h : HpS w B p v S) (v' : Value) : Tn B mgT w (w.setCell ⟨p, 0, none⟩ v') :=
  (Tn.refl B _ w).setCell (p := ⟨p, 0, none⟩) (Or.inr ⟨h.low, _, h.blk, by unfold mgT cellsT; simp⟩) _
theorem run_assert_src (x y : Value) (w : World) : (Instr.typeAssert (.iface 43 (.agg #[x, y])) 20 43 false).run Try.prog w = .ok (.agg #[x, y]) w := by kernel_rfl
set_option maxRecDepth 100000 in
set_option maxHeartbeats 2000000 in
theorem spush_any (B p : Nat) (v : Value) (S : List Src) (s : Src) (w : World) (h : HpS w B p v S) (hn : S.length ≤ 100000) :
    Calls Try.prog 60 #[.pointer (some ⟨p, 0, none⟩), .iface 43 (.agg #[.slice s.A s.n s.c, .int .i64 (s.k : Int)])] w fun e w' => e = .returned (.tuple #[]) ∧ ∃ v', HpS w' B p v' (S ++ [s]) ∧ Tn B mgT w w' := by
  obtain ⟨a, c, rfl⟩ := h.own.slice
  obtain ⟨w1, hw1⟩ : ∃ w1, w1 = (w.alloc (.cells #[.slice s.A s.n s.c, .int .i64 (s.k : Int)] 43)).drew := ⟨_, rfl⟩
  have hp := h.blk.lt
  have hOa : Own elSrc w1 B 43 (.slice a S.length c) S := by rw [hw1]; exact (show Own elSrc _ B _ _ S from World.ownsRow.alloc h.own _).below (below_g ⟨rfl, rfl, rfl, Nat.le_refl _, fun _ _ _ => rfl⟩)
  have hba : Blk w1 p 40 #[.slice a S.length c] := by rw [hw1]; exact h.blk.alloc (.cells #[.slice s.A s.n s.c, .int .i64 (s.k : Int)] 43)
  obtain ⟨v', w2, hr, hown, hgr, _, _⟩ := app_own (P := Try.prog) elSrc 40 43 (.agg #[.slice none 0 0, .int .i64 0]) 32 underSrc infoSrc rfl w1 B (.slice a S.length c) S [s] hOa (some ⟨w.heap.size, 0, none⟩) 1 (fun h => by cases h) (fun a ha j' u hu => by
          cases ha
          rw [hw1]
          rw [El.row_one] at hu
          exact cells_new w 43 [.slice s.A s.n s.c, .int .i64 (s.k : Int)] j' u hu) (by unfold maxLen; simp; omega) (by simp; omega) (Nat.le_trans h.low (Nat.le_of_lt (Nat.lt_of_lt_of_le hp (by rw [hw1]; exact (World.grownBy_alloc w _ none).size)))) 1 rfl
  have t1 : Tn B (cellsT 43) w1 w2 := (Tn.refl B _ w1).grow hOa hgr
  have hba2 : Blk w2 p 40 #[.slice a S.length c] := t1.blk hba (cellsT_ne (by decide) _ _)
  have t2 : Tn B mgT w w2 := ((Tn.of_grown (World.grownBy_alloc w (.cells #[.slice s.A s.n s.c, .int .i64 (s.k : Int)] 43) none)).drew).trans (by rw [← hw1]; exact t1.mono fun o ho => by unfold mgT at ho; exact (Bool.or_eq_false_iff.1 ho).1)
  obtain ⟨a', c', rfl⟩ : ∃ a' c', v' = .slice a' (S.length + 1) c' := by
    have hown : Own elSrc w2 B 43 v' (S ++ [s]) := hown
    obtain ⟨a', c', e⟩ := hown.slice
    exact ⟨a', c', by rw [e, List.length_append]; rfl⟩
  have HF : Hid (HpS (w2.setCell ⟨p, 0, none⟩ (.slice a' (S.length + 1) c')) B p (.slice a' (S.length + 1) c') (S ++ [s]) ∧ Tn B mgT w (w2.setCell ⟨p, 0, none⟩ (.slice a' (S.length + 1) c'))) := Lib.hid (by
    have h3 : Tn 0 (cellsT 40) w2 (w2.setCell ⟨p, 0, none⟩ (.slice a' (S.length + 1) c')) := (Tn.refl 0 _ w2).setCell (p := ⟨p, 0, none⟩) (Or.inr ⟨Nat.zero_le _, _, hba2, by simp [cellsT]⟩) _
    refine ⟨⟨hba2.set_ 0 _, ?_, h.low⟩, t2.setCell (p := ⟨p, 0, none⟩) (Or.inr ⟨h.low, _, hba2, by unfold mgT cellsT; simp⟩) _⟩
    have hown : Own elSrc w2 B 43 (.slice a' (S.length + 1) c') (S ++ [s]) := hown
    exact hown.tn h3 (fun cs fr => cellsT_ne (by decide) cs fr))
  have HR := fun ty => Lib.hid (hr ty)
  have c4 : w.cell? ⟨p, 0, none⟩ = some (.slice a S.length c) := h.blk.cell 0
  have c1 : (w.alloc (.cells #[.slice s.A s.n s.c, .int .i64 (s.k : Int)] 43)).cell? ⟨p, 0, none⟩ = some (.slice a S.length c) := by rw [hw1] at hba; exact hba.cell 0
  have c2 : w2.cell? ⟨p, 0, none⟩ = some (.slice a S.length c) := hba2.cell 0
  have f2 : w2.frozen? ⟨p, 0, none⟩ = false := hba2.frozen 0
  have RA := fun W => run_assert_src (.slice s.A s.n s.c) (.int .i64 (s.k : Int)) W
  generalize S.length = m at *
  clear hr hown hgr t1 t2 hba2 hba hOa hp h
  subst hw1
  go_enter Try.func60, Try.ntmps60
  go_wp2_with fail
  go_region_law (first
      | (refine step_append_k rfl (.tmp 7) (.tmp 10) 40 rfl _ _ (.slice a' (m + 1) c') (by simp [Act.eval]) (by simp [Act.eval]) (HR _).out ?_))
  all_goals
    go_end0
    exact ⟨rfl, _, HF.out⟩
end Go.Proofs.Yteackdafggomhaa

namespace Go.Proofs.Yteackdafggomhaa
open Go.RowKit

theorem own_takeS {w : World} {B g c m : Nat} {e : TypeId} {S : List Src} (h : Own elSrc w B e (.slice (some ⟨g, 0, none⟩) S.length c) S) (hm : m ≤ S.length) : Own elSrc w B e (.slice (some ⟨g, 0, none⟩) m c) (S.take m) := by
  have e : S.length = m + (S.length - m) := by omega
  have hr : elSrc.row S = elSrc.row (S.take m) ++ elSrc.row (S.drop m) := by rw [← El.row_append, List.take_append_drop]
  unfold Own at h ⊢
  rw [hr, e] at h
  rw [List.length_take, Nat.min_eq_left hm]
  exact own_shrk h (by rw [El.row_length, List.length_take, Nat.min_eq_left hm])
theorem own_capS {α : Type} {E : El α} {w : World} {B n c : Nat} {e : TypeId} {A : Option Addr} {L : List α} (h : Own E w B e (.slice A n c) L) : n ≤ c := by
  obtain ⟨hn, _, _⟩ := own_reads h
  rcases h.2 with ⟨h1, h0⟩ | ⟨g, cap, cur, hv, _, _, hle, _⟩
  · injection h1 with e1 e2 e3
    omega
  · injection hv with e1 e2 e3
    omega
set_option maxRecDepth 100000 in
set_option maxHeartbeats 2000000 in
theorem spop_any (B p m : Nat) (v : Value) (S : List Src) (w : World) (h : HpS w B p v S) (hm : S.length = m + 1) (hn : S.length ≤ 1000000) :
    Calls Try.prog 59 #[.pointer (some ⟨p, 0, none⟩)] w fun e w' => (∃ x, e = .returned x) ∧ ∃ v', HpS w' B p v' (S.take m) ∧ Tn B mgT w w' := by
  obtain ⟨g, c, rfl, hg⟩ := src_slice h.own (by omega)
  have hs := List.getElem?_eq_getElem (show m < S.length by omega)
  generalize S[m] = s at hs
  obtain ⟨x0, x1⟩ := src_cells h.own hs
  have hcap := own_capS h.own
  have g1 : wrap64 ((S.length : Int) - 1) = (m : Int) := by unfold wrap64; omega
  have g2 : (m : Int) < (S.length : Int) := by omega
  have g3 : (0 : Int) ≤ (m : Int) := by omega
  have g4 : (m : Int) ≤ (c : Int) := by omega
  have ht := own_takeS h.own (m := m) (by omega)
  obtain ⟨w1, hw1⟩ : ∃ w1, w1 = w.alloc (.cells #[.slice s.A s.n s.c, .int .i64 (s.k : Int)] 43) := ⟨_, rfl⟩
  have t1 : Tn B mgT w w1 := by rw [hw1]; exact (Tn.refl B _ w).alloc _
  have hba : Blk w1 p 40 #[.slice (some ⟨g, 0, none⟩) S.length c] := by rw [hw1]; exact h.blk.alloc _
  have hOa : Own elSrc w1 B 43 (.slice (some ⟨g, 0, none⟩) m c) (S.take m) := by rw [hw1]; exact World.ownsRow.alloc ht _
  have HF : Hid (HpS (w1.setCell ⟨p, 0, none⟩ (.slice (some ⟨g, 0, none⟩) m c)) B p (.slice (some ⟨g, 0, none⟩) m c) (S.take m) ∧ Tn B mgT w (w1.setCell ⟨p, 0, none⟩ (.slice (some ⟨g, 0, none⟩) m c))) := Lib.hid (by
    have h3 : Tn 0 (cellsT 40) w1 (w1.setCell ⟨p, 0, none⟩ (.slice (some ⟨g, 0, none⟩) m c)) := (Tn.refl 0 _ w1).setCell (p := ⟨p, 0, none⟩) (Or.inr ⟨Nat.zero_le _, _, hba, by simp [cellsT]⟩) _
    exact ⟨⟨hba.set_ 0 _, hOa.tn h3 (fun cs fr => cellsT_ne (by decide) cs fr), h.low⟩, t1.setCell (p := ⟨p, 0, none⟩) (Or.inr ⟨h.low, _, hba, by unfold mgT cellsT; simp⟩) _⟩)
  have b1 : Blk w1 w.heap.size 43 #[.slice s.A s.n s.c, .int .i64 (s.k : Int)] := by rw [hw1]; exact Blk.new _ _ _
  have c0 : w.cell? ⟨p, 0, none⟩ = some (.slice (some ⟨g, 0, none⟩) S.length c) := h.blk.cell 0
  have c1 : w1.cell? ⟨p, 0, none⟩ = some (.slice (some ⟨g, 0, none⟩) S.length c) := hba.cell 0
  have f1 : w1.frozen? ⟨p, 0, none⟩ = false := hba.frozen 0
  have hpb : w.heap.size ≠ p := Nat.ne_of_gt h.blk.lt
  have c2 : (w1.setCell ⟨p, 0, none⟩ (.slice (some ⟨g, 0, none⟩) m c)).cell? ⟨w.heap.size, 0, none⟩ = some (.slice s.A s.n s.c) := (b1.far (p := ⟨p, 0, none⟩) hpb _).cell 0
  have c3 : (w1.setCell ⟨p, 0, none⟩ (.slice (some ⟨g, 0, none⟩) m c)).cell? ⟨w.heap.size, 1, none⟩ = some (.int .i64 (s.k : Int)) := (b1.far (p := ⟨p, 0, none⟩) hpb _).cell 1
  generalize S.length = n at *
  clear h hs hm hn hcap ht t1 hba hOa b1 hpb
  subst hw1
  go_enter Try.func59, Try.ntmps59
  go_wp2_with fail
  go_ret
  exact ⟨⟨_, rfl⟩, _, HF.out⟩
end Go.Proofs.Yteackdafggomhaa

namespace Go.Proofs.Yteackdafggomhaa
open Go.RowKit

/-- The heap, as it lies behind a world in which its lists can be read. -/
structure HpW (w0 w : World) (p : Nat) (v : Value) (S : List Src) : Prop where
  hp : HpS w w0.heap.size p v S
  ins : InS w0 S
  bel : Below w0.heap.size w0 w
  le : S.length ≤ 100000
theorem HpW.drewN {w0 w : World} {p : Nat} {v : Value} {S : List Src} (h : HpW w0 w p v S) (q : Nat) : HpW w0 (w.drewN q) p v S :=
  ⟨⟨h.hp.blk, h.hp.own.below (below_g (only_drewN (grefl w none) q)), h.hp.low⟩, h.ins, below_drewN h.bel q, h.le⟩
theorem HpW.at_ {w0 w : World} {p : Nat} {v : Value} {S : List Src} (h : HpW w0 w p v S) {i : Nat} {s : Src} (hs : S[i]? = some s) : KeysAt w s.A s.n s.L :=
  (h.ins s (List.mem_of_getElem? hs)).1.below h.bel
theorem HpW.swap {w0 w w' : World} {p g n c i j : Nat} {S : List Src} {a b : Src} (h : HpW w0 w p (.slice (some ⟨g, 0, none⟩) n c) S) (ha : S[i]? = some a) (hb : S[j]? = some b) (hO : Own elSrc w' w0.heap.size 43 (.slice (some ⟨g, 0, none⟩) n c) (swapL S i j)) (hg : w.grownBy w' (some g)) :
    HpW w0 w' p (.slice (some ⟨g, 0, none⟩) n c) (swapL S i j) ∧ Tn w0.heap.size mgT w w' := by
  have t : Tn w0.heap.size (cellsT 43) w w' := (Tn.refl _ _ w).grow h.hp.own hg
  have t2 : Tn w0.heap.size mgT w w' := t.mono fun o ho => by unfold mgT at ho; exact (Bool.or_eq_false_iff.1 ho).1
  refine ⟨⟨⟨t.blk h.hp.blk (cellsT_ne (by decide) _ _), hO, h.hp.low⟩, h.ins.perm (swapL_perm ha hb), h.bel.trans (t2.below h.bel.size), by rw [swapL_len]; exact h.le⟩, t2⟩
/-- Which function a call through the interface runs, and on what. -/
theorem under_ptr : Try.prog.underlying 48 = some (.pointer 40) := by kernel_rfl
theorem nil_chk (tys : Array TypeId) (ty : TypeId) (a : Addr) (x y : ByteArray) : Builtin.ssaWrapNilChk_ tys ty #[.pointer (some a), .string x, .string y] = pure (.pointer (some a)) := rfl
theorem row_less : (Try.prog.info? 48).map (fun i => (i.methods.find? (·.name == "Less")).map (fun m => (m.path, m.func))) = some (some (#[], some (57, false))) := by kernel_rfl
theorem meth_less (f p : Nat) (v : Value) (w : World) (hf : 0 < f) (hc : w.cell? ⟨p, 0, none⟩ = some v) : (method f 48 (.pointer (some ⟨p, 0, none⟩)) "Less").run Try.prog w = .ok (57, v) w := by
  obtain ⟨f, rfl⟩ : ∃ g, f = g + 1 := ⟨f - 1, by omega⟩
  have h := row_less
  cases hi : Try.prog.info? 48 with
  | none => rw [hi] at h; cases h
  | some i =>
    rw [hi] at h
    simp only [Option.map_some, Option.some.injEq] at h
    cases hm : i.methods.find? (·.name == "Less") with
    | none => rw [hm] at h; cases h
    | some m =>
      rw [hm] at h
      simp only [Option.map_some, Option.some.injEq, Prod.mk.injEq] at h
      have hu := under_ptr
      simp [method, typeInfo, hi, hm, h.1, h.2, follow, receiverAt, Place.get, run_underlying under_ptr, nil_chk, strVal, asAddr, loadVar, hc, go_sem]
theorem row_swap : (Try.prog.info? 48).map (fun i => (i.methods.find? (·.name == "Swap")).map (fun m => (m.path, m.func))) = some (some (#[], some (58, false))) := by kernel_rfl
theorem meth_swap (f p : Nat) (v : Value) (w : World) (hf : 0 < f) (hc : w.cell? ⟨p, 0, none⟩ = some v) : (method f 48 (.pointer (some ⟨p, 0, none⟩)) "Swap").run Try.prog w = .ok (58, v) w := by
  obtain ⟨f, rfl⟩ : ∃ g, f = g + 1 := ⟨f - 1, by omega⟩
  have h := row_swap
  cases hi : Try.prog.info? 48 with
  | none => rw [hi] at h; cases h
  | some i =>
    rw [hi] at h
    simp only [Option.map_some, Option.some.injEq] at h
    cases hm : i.methods.find? (·.name == "Swap") with
    | none => rw [hm] at h; cases h
    | some m =>
      rw [hm] at h
      simp only [Option.map_some, Option.some.injEq, Prod.mk.injEq] at h
      have hu := under_ptr
      simp [method, typeInfo, hi, hm, h.1, h.2, follow, receiverAt, Place.get, run_underlying under_ptr, nil_chk, strVal, asAddr, loadVar, hc, go_sem]
theorem row_len : (Try.prog.info? 48).map (fun i => (i.methods.find? (·.name == "Len")).map (fun m => (m.path, m.func))) = some (some (#[], some (56, false))) := by kernel_rfl
theorem meth_len (f p : Nat) (v : Value) (w : World) (hf : 0 < f) (hc : w.cell? ⟨p, 0, none⟩ = some v) : (method f 48 (.pointer (some ⟨p, 0, none⟩)) "Len").run Try.prog w = .ok (56, v) w := by
  obtain ⟨f, rfl⟩ : ∃ g, f = g + 1 := ⟨f - 1, by omega⟩
  have h := row_len
  cases hi : Try.prog.info? 48 with
  | none => rw [hi] at h; cases h
  | some i =>
    rw [hi] at h
    simp only [Option.map_some, Option.some.injEq] at h
    cases hm : i.methods.find? (·.name == "Len") with
    | none => rw [hm] at h; cases h
    | some m =>
      rw [hm] at h
      simp only [Option.map_some, Option.some.injEq, Prod.mk.injEq] at h
      have hu := under_ptr
      simp [method, typeInfo, hi, hm, h.1, h.2, follow, receiverAt, Place.get, run_underlying under_ptr, nil_chk, strVal, asAddr, loadVar, hc, go_sem]
theorem meth_push (f p : Nat) (w : World) (hf : 0 < f) : (method f 48 (.pointer (some ⟨p, 0, none⟩)) "Push").run Try.prog w = .ok (60, .pointer (some ⟨p, 0, none⟩)) w := by
  obtain ⟨f, rfl⟩ : ∃ g, f = g + 1 := ⟨f - 1, by omega⟩
  kernel_rfl
theorem meth_pop (f p : Nat) (w : World) (hf : 0 < f) : (method f 48 (.pointer (some ⟨p, 0, none⟩)) "Pop").run Try.prog w = .ok (59, .pointer (some ⟨p, 0, none⟩)) w := by
  obtain ⟨f, rfl⟩ : ∃ g, f = g + 1 := ⟨f - 1, by omega⟩
  kernel_rfl
theorem NeS.swap {S : List Src} {i j m : Nat} {a b : Src} (h : NeS m S) (hi : S[i]? = some a) (hj : S[j]? = some b) (him : i < m) (hjm : j < m) : NeS m (swapL S i j) := fun k s hk hs => by
  rw [swapL_at hi hj] at hs
  split at hs
  · cases hs; exact h i a him hi
  · split at hs
    · cases hs; exact h j b hjm hj
    · exact h k s hk hs
set_option maxRecDepth 100000 in
set_option maxHeartbeats 2000000 in
theorem hup_any (w0 : World) (p g n c j : Nat) (S : List Src) (w : World) (h : HpW w0 w p (.slice (some ⟨g, 0, none⟩) n c) S) (hj : j < S.length) (hU : UpI lessS S j) (hne : NeS S.length S) :
    Calls Try.prog 28 #[.iface 48 (.pointer (some ⟨p, 0, none⟩)), .int .i64 (j : Int)] w fun e w' => e = .returned (.tuple #[]) ∧ ∃ S', S'.Perm S ∧ HeapO lessS S' S'.length ∧ HpW w0 w' p (.slice (some ⟨g, 0, none⟩) n c) S' ∧ Tn w0.heap.size mgT w w' := by
  have hjc := h.le
  have H := Lib.hid h
  have HJ := Lib.hid hj
  have HU := Lib.hid hU
  have hj1 : j ≤ 100000 := by omega
  have HNE := Lib.hid hne
  clear h hj hU hjc hne
  go_enter Try.func28, Try.ntmps28
  go_wp2_with fail
  go_loopw [1] (fun x wr => ∃ (i : Nat) (S' : List Src), i ≤ 100000 ∧ x = .int .i64 (i : Int) ∧ Hid (i < S'.length) ∧ Hid (S'.Perm S) ∧ Hid (UpI lessS S' i) ∧ Hid (HpW w0 wr p (.slice (some ⟨g, 0, none⟩) n c) S') ∧ Hid (Tn w0.heap.size mgT w wr)) (fun x _ => (intOf x).toNat)
  case atStart => exact ⟨j, S, hj1, rfl, HJ, Lib.hid (List.Perm.refl _), HU, H, Lib.hid (Tn.refl _ _ _)⟩
  case round =>
    obtain ⟨i, S', hi, rfl, HI, HP, HU, H, HT⟩ := hrel
    by_cases h0 : i = 0
    · subst h0
      go_wp2_with fail
      go_end0
      exact ⟨rfl, S', HP.out, HU.out.zero, H.out, HT.out⟩
    · obtain ⟨k, hk⟩ : ∃ k, k = (i - 1) / 2 := ⟨_, rfl⟩
      have HK := Lib.hid hk
      have d1 : ((i : Int) - 1) / 2 = (k : Int) := by omega
      have d2 : ((k : Int) == (i : Int)) = false := beq_eq_false_iff_ne.2 (by omega)
      have hki : k < i := by omega
      have hk1 : k ≤ 100000 := by omega
      have HKI := Lib.hid hki
      have ha := List.getElem?_eq_getElem HI.out
      have hb := List.getElem?_eq_getElem (Nat.lt_trans hki HI.out)
      generalize S'[i]'_ = a at ha
      generalize S'[k]'_ = b at hb
      have c0 : wr.cell? ⟨p, 0, none⟩ = some (.slice (some ⟨g, 0, none⟩) n c) := H.out.hp.blk.cell 0
      have hnl := (own_reads H.out.hp.own).1
      have CL := Lib.hid (sless_any g n c _ i k S' a b wr H.out.hp.own ha hb ⟨H.out.at_ ha, HNE.out.perm HP.out i a HI.out ha⟩ ⟨H.out.at_ hb, HNE.out.perm HP.out k b (Nat.lt_trans hki HI.out) hb⟩ (by rw [hnl]; have := H.out.le; omega))
      have CW := fun q => Lib.hid (sswap_any g n c _ k i S' b a (wr.drewN q) (H.out.drewN q).hp.own hb ha (by rw [hnl]; have := H.out.le; omega))
      have HA := Lib.hid ha
      have HB := Lib.hid hb
      clear ha hb hnl hki hk
      cases hl : lessS a b with
      | false =>
        rw [hl] at CL
        have HL := Lib.hid hl
        clear hl CW
        go_wp2_with fail
        rw [meth_less _ p _ wr (by decide) c0]
        go_wp2_with fail
        refine CL.out.mono ?_
        rintro e w1 ⟨rfl, q, rfl⟩
        go_wp2_with fail
        go_end0
        exact ⟨rfl, S', HP.out, HU.out.done HA.out (by rw [← HK.out]; exact HB.out) HL.out, H.out.drewN q, HT.out.drewN q⟩
      | true =>
        rw [hl] at CL
        have HL := Lib.hid hl
        clear hl
        go_wp2_with fail
        rw [meth_less _ p _ wr (by decide) c0]
        go_wp2_with fail
        refine CL.out.mono ?_
        rintro e w1 ⟨rfl, q, hw1⟩
        have c1 : w1.cell? ⟨p, 0, none⟩ = some (.slice (some ⟨g, 0, none⟩) n c) := by rw [hw1]; exact c0
        have CWq := CW q
        rw [← hw1] at CWq
        have H1 := (H.out.drewN q)
        rw [← hw1] at H1
        have H1 := Lib.hid H1
        have HT1 := HT.out.drewN q
        rw [← hw1] at HT1
        have HT1 := Lib.hid HT1
        clear CW CL c0 hw1 HT H
        go_wp2_with fail
        rw [meth_swap _ p _ w1 (by decide) c1]
        go_wp2_with fail
        refine CWq.out.mono ?_
        rintro e w2 ⟨rfl, hO, hg⟩
        have X := H1.out.swap HB.out HA.out hO hg
        have H2 := Lib.hid X.1
        have HT2 := Lib.hid (HT1.out.trans X.2)
        have HU2 := HU.out.step ordS (by have := HKI.out; omega) HA.out (by rw [← HK.out]; exact HB.out) HL.out
        rw [← HK.out] at HU2
        have HU2 := Lib.hid HU2
        have HI2 : Hid (k < (swapL S' k i).length) := Lib.hid (by rw [swapL_len]; exact Nat.lt_trans HKI.out HI.out)
        have HP2 := Lib.hid ((swapL_perm HB.out HA.out).trans HP.out)
        clear hO hg X CWq c1 H1 HT1 HU HP
        go_wp2_with fail
        go_roundw
        case rel => exact ⟨k, _, hk1, rfl, HI2, HP2, HU2, H2, HT2⟩
        case measure => simp [intOf]; exact HKI.out
/-- A Boolean is answered. -/
def RetB (e : Ending) : Prop := ∃ b, e = .returned (.bool b)
set_option maxRecDepth 100000 in
set_option maxHeartbeats 4000000 in
theorem hdown_any (w0 : World) (p g n c m : Nat) (S : List Src) (w : World) (h : HpW w0 w p (.slice (some ⟨g, 0, none⟩) n c) S) (hm : m ≤ S.length) (hD : DnI lessS S 0 m) (hne : NeS m S) :
    Calls Try.prog 29 #[.iface 48 (.pointer (some ⟨p, 0, none⟩)), .int .i64 0, .int .i64 (m : Int)] w fun e w' => RetB e ∧ ∃ S', S'.Perm S ∧ HeapO lessS S' m ∧ (∀ k, m ≤ k → S'[k]? = S[k]?) ∧ HpW w0 w' p (.slice (some ⟨g, 0, none⟩) n c) S' ∧ Tn w0.heap.size mgT w w' := by
  have hmc : m ≤ 100000 := Nat.le_trans hm h.le
  have H := Lib.hid h
  have HM := Lib.hid hm
  have HD := Lib.hid hD
  have HNE := Lib.hid hne
  clear h hm hD hne
  go_enter Try.func29, Try.ntmps29
  go_wp2_with fail
  go_loopw [7] (fun x wr => ∃ (i : Nat) (S' : List Src), i ≤ 100000 ∧ x = .int .i64 (i : Int) ∧ Hid ((i = 0 ∨ i < m) ∧ m ≤ S'.length) ∧ Hid (S'.Perm S) ∧ Hid (∀ k, m ≤ k → S'[k]? = S[k]?) ∧ Hid (NeS m S') ∧ Hid (DnI lessS S' i m) ∧ Hid (HpW w0 wr p (.slice (some ⟨g, 0, none⟩) n c) S') ∧ Hid (Tn w0.heap.size mgT w wr)) (fun x _ => m - (intOf x).toNat)
  case atStart => exact ⟨0, S, by omega, rfl, Lib.hid ⟨Or.inl rfl, HM.out⟩, Lib.hid (List.Perm.refl _), Lib.hid (fun _ _ => rfl), HNE, HD, H, Lib.hid (Tn.refl _ _ _)⟩
  case round =>
    obtain ⟨i, S', hi, rfl, HI, HP, HE, HNX, HD, H, HT⟩ := hrel
    obtain ⟨j1, hj1⟩ : ∃ j1, j1 = 2 * i + 1 := ⟨_, rfl⟩
    obtain ⟨j2, hj2⟩ : ∃ j2, j2 = 2 * i + 2 := ⟨_, rfl⟩
    have d1 : wrap64 (2 * (i : Int)) = 2 * (i : Int) := by unfold wrap64; omega
    have d2 : wrap64 (2 * (i : Int) + 1) = (j1 : Int) := by unfold wrap64; omega
    have d3 : wrap64 ((j1 : Int) + 1) = (j2 : Int) := by unfold wrap64; omega
    have d4 : 2 * (i : Int) + 1 = (j1 : Int) := by omega
    have d5 : (j1 : Int) + 1 = (j2 : Int) := by omega
    have z0 : ¬ (j1 : Int) < 0 := by omega
    have J1 := Lib.hid hj1
    have J2 := Lib.hid hj2
    by_cases h1 : m ≤ j1
    · have e1 : (m : Int) ≤ (j1 : Int) := by omega
      have HO := Lib.hid (HD.out.none (by omega))
      clear h1 HD hj1 hj2
      go_wp2_with fail
      go_ret
      exact ⟨⟨_, rfl⟩, S', HP.out, HO.out, HE.out, H.out, HT.out⟩
    · have e1 : ¬ (m : Int) ≤ (j1 : Int) := by omega
      have h1 : j1 < m := by omega
      have him : i < m := by omega
      have HIM := Lib.hid him
      have ha := List.getElem?_eq_getElem (Nat.lt_of_lt_of_le h1 HI.out.2)
      have hb := List.getElem?_eq_getElem (Nat.lt_of_lt_of_le him HI.out.2)
      generalize S'[j1]'_ = a1 at ha
      generalize S'[i]'_ = b at hb
      have hnl := (own_reads H.out.hp.own).1
      have HN : Hid (n ≤ 1000000) := Lib.hid (by rw [hnl]; have := H.out.le; omega)
      have c0 : wr.cell? ⟨p, 0, none⟩ = some (.slice (some ⟨g, 0, none⟩) n c) := H.out.hp.blk.cell 0
      have kid : ∀ k, 0 < k → k < m → (k - 1) / 2 = i → k = j1 ∨ k = j2 := fun k _ _ _ => by omega
      have KID := Lib.hid kid
      have HA1 := Lib.hid ha
      have HB := Lib.hid hb
      have HLT := Lib.hid (show (j1 - 1) / 2 = i ∧ (j2 - 1) / 2 = i ∧ 0 < j1 ∧ 0 < j2 ∧ i < j1 ∧ i < j2 ∧ j2 ≤ 1000000 ∧ j1 < m by omega)
      by_cases h2 : j2 < m
      · have e2 : (j2 : Int) < (m : Int) := by omega
        have ha2 := List.getElem?_eq_getElem (Nat.lt_of_lt_of_le h2 HI.out.2)
        generalize S'[j2]'_ = a2 at ha2
        have HA2 := Lib.hid ha2
        have H2 := Lib.hid h2
        have CX := Lib.hid (sless_any g n c _ j2 j1 S' a2 a1 wr H.out.hp.own ha2 ha ⟨H.out.at_ ha2, HNX.out j2 a2 h2 ha2⟩ ⟨H.out.at_ ha, HNX.out j1 a1 h1 ha⟩ HN.out)
        cases hr : lessS a2 a1 with
        | true =>
          rw [hr] at CX
          have MIN : Hid (∀ k x, 0 < k → k < m → (k - 1) / 2 = i → S'[k]? = some x → lessS x a2 = false) := Lib.hid fun k x h0 h1 h2 hx => by
            rcases KID.out k h0 h1 h2 with rfl | rfl
            · rw [HA1.out] at hx; cases hx; exact ordS.asym _ _ hr
            · rw [HA2.out] at hx; cases hx; exact ordS.irr _
          clear hr ha ha2 hb hnl hj1 hj2 h1 him kid h2
          go_wp2_with fail
          rw [meth_less _ p _ wr (by decide) c0]
          go_wp2_with fail
          refine CX.out.mono ?_
          rintro e w4 ⟨rfl, q4, hw4⟩
          have c4 : w4.cell? ⟨p, 0, none⟩ = some (.slice (some ⟨g, 0, none⟩) n c) := by rw [hw4]; exact c0
          have H4 : Hid (HpW w0 w4 p (.slice (some ⟨g, 0, none⟩) n c) S') := Lib.hid (by rw [hw4]; exact H.out.drewN q4)
          have HT4 : Hid (Tn w0.heap.size mgT w w4) := Lib.hid (by rw [hw4]; exact HT.out.drewN q4)
          clear hw4 CX H HT c0
          cases hl : lessS a2 b with
          | false =>
            have HL := Lib.hid hl
            have CL := Lib.hid (sless_any g n c _ j2 i S' a2 b w4 H4.out.hp.own HA2.out HB.out ⟨H4.out.at_ HA2.out, HNX.out j2 a2 H2.out HA2.out⟩ ⟨H4.out.at_ HB.out, HNX.out i b HIM.out HB.out⟩ HN.out)
            rw [hl] at CL
            clear hl
            go_wp2_with fail
            rw [meth_less _ p _ w4 (by decide) c4]
            go_wp2_with fail
            refine CL.out.mono ?_
            rintro e w5 ⟨rfl, q5, rfl⟩
            go_wp2_with fail
            go_ret
            exact ⟨⟨_, rfl⟩, S', HP.out, HD.out.done ordS HLT.out.2.2.2.1 HLT.out.2.1 HA2.out HB.out MIN.out HL.out, HE.out, H4.out.drewN q5, HT4.out.drewN q5⟩
          | true =>
            have HL := Lib.hid hl
            have CL := Lib.hid (sless_any g n c _ j2 i S' a2 b w4 H4.out.hp.own HA2.out HB.out ⟨H4.out.at_ HA2.out, HNX.out j2 a2 H2.out HA2.out⟩ ⟨H4.out.at_ HB.out, HNX.out i b HIM.out HB.out⟩ HN.out)
            rw [hl] at CL
            clear hl
            go_wp2_with fail
            rw [meth_less _ p _ w4 (by decide) c4]
            go_wp2_with fail
            refine CL.out.mono ?_
            rintro e w5 ⟨rfl, q5, hw5⟩
            have c5 : w5.cell? ⟨p, 0, none⟩ = some (.slice (some ⟨g, 0, none⟩) n c) := by rw [hw5]; exact c4
            have H5 : Hid (HpW w0 w5 p (.slice (some ⟨g, 0, none⟩) n c) S') := Lib.hid (by rw [hw5]; exact H4.out.drewN q5)
            have HT5 : Hid (Tn w0.heap.size mgT w w5) := Lib.hid (by rw [hw5]; exact HT4.out.drewN q5)
            have CW := Lib.hid (sswap_any g n c _ i j2 S' b a2 w5 H5.out.hp.own HB.out HA2.out HN.out)
            clear CL hw5
            go_wp2_with fail
            rw [meth_swap _ p _ w5 (by decide) c5]
            go_wp2_with fail
            refine CW.out.mono ?_
            rintro e w6 ⟨rfl, hO, hg⟩
            have X := H5.out.swap HB.out HA2.out hO hg
            have H6 := Lib.hid X.1
            have HT6 := Lib.hid (HT5.out.trans X.2)
            have HD6 := Lib.hid (HD.out.step ordS HLT.out.2.2.2.1 H2.out HLT.out.2.1 HA2.out HB.out MIN.out HL.out)
            have HI6 : Hid ((j2 = 0 ∨ j2 < m) ∧ m ≤ (swapL S' i j2).length) := Lib.hid ⟨Or.inr H2.out, by rw [swapL_len]; exact HI.out.2⟩
            have HP6 := Lib.hid ((swapL_perm HB.out HA2.out).trans HP.out)
            have HE6 : Hid (∀ k, m ≤ k → (swapL S' i j2)[k]? = S[k]?) := Lib.hid fun k hk => by
              rw [swapL_at HB.out HA2.out, if_neg (by have := H2.out; omega), if_neg (by have := H2.out; have := HLT.out; omega)]
              exact HE.out k hk
            have HNX6 := Lib.hid (HNX.out.swap HB.out HA2.out HIM.out H2.out)
            have hjl : j2 ≤ 100000 := by have := H2.out; omega
            have ms : m - j2 < m - i := by have := H2.out; have := HLT.out; omega
            clear hO hg X CW c5 H5 HT5
            go_wp2_with fail
            go_roundw
            case rel => exact ⟨j2, _, hjl, rfl, HI6, HP6, HE6, HNX6, HD6, H6, HT6⟩
            case measure => simp [intOf]; exact ms
        | false =>
          rw [hr] at CX
          have MIN : Hid (∀ k x, 0 < k → k < m → (k - 1) / 2 = i → S'[k]? = some x → lessS x a1 = false) := Lib.hid fun k x h0 h1 h2 hx => by
            rcases KID.out k h0 h1 h2 with rfl | rfl
            · rw [HA1.out] at hx; cases hx; exact ordS.irr _
            · rw [HA2.out] at hx; cases hx; exact hr
          clear hr ha ha2 hb hnl hj1 hj2 h1 him kid h2
          go_wp2_with fail
          rw [meth_less _ p _ wr (by decide) c0]
          go_wp2_with fail
          refine CX.out.mono ?_
          rintro e w4 ⟨rfl, q4, hw4⟩
          have c4 : w4.cell? ⟨p, 0, none⟩ = some (.slice (some ⟨g, 0, none⟩) n c) := by rw [hw4]; exact c0
          have H4 : Hid (HpW w0 w4 p (.slice (some ⟨g, 0, none⟩) n c) S') := Lib.hid (by rw [hw4]; exact H.out.drewN q4)
          have HT4 : Hid (Tn w0.heap.size mgT w w4) := Lib.hid (by rw [hw4]; exact HT.out.drewN q4)
          clear hw4 CX H HT c0
          cases hl : lessS a1 b with
          | false =>
            have HL := Lib.hid hl
            have CL := Lib.hid (sless_any g n c _ j1 i S' a1 b w4 H4.out.hp.own HA1.out HB.out ⟨H4.out.at_ HA1.out, HNX.out j1 a1 HLT.out.2.2.2.2.2.2.2 HA1.out⟩ ⟨H4.out.at_ HB.out, HNX.out i b HIM.out HB.out⟩ HN.out)
            rw [hl] at CL
            clear hl
            go_wp2_with fail
            rw [meth_less _ p _ w4 (by decide) c4]
            go_wp2_with fail
            refine CL.out.mono ?_
            rintro e w5 ⟨rfl, q5, rfl⟩
            go_wp2_with fail
            go_ret
            exact ⟨⟨_, rfl⟩, S', HP.out, HD.out.done ordS HLT.out.2.2.1 HLT.out.1 HA1.out HB.out MIN.out HL.out, HE.out, H4.out.drewN q5, HT4.out.drewN q5⟩
          | true =>
            have HL := Lib.hid hl
            have CL := Lib.hid (sless_any g n c _ j1 i S' a1 b w4 H4.out.hp.own HA1.out HB.out ⟨H4.out.at_ HA1.out, HNX.out j1 a1 HLT.out.2.2.2.2.2.2.2 HA1.out⟩ ⟨H4.out.at_ HB.out, HNX.out i b HIM.out HB.out⟩ HN.out)
            rw [hl] at CL
            clear hl
            go_wp2_with fail
            rw [meth_less _ p _ w4 (by decide) c4]
            go_wp2_with fail
            refine CL.out.mono ?_
            rintro e w5 ⟨rfl, q5, hw5⟩
            have c5 : w5.cell? ⟨p, 0, none⟩ = some (.slice (some ⟨g, 0, none⟩) n c) := by rw [hw5]; exact c4
            have H5 : Hid (HpW w0 w5 p (.slice (some ⟨g, 0, none⟩) n c) S') := Lib.hid (by rw [hw5]; exact H4.out.drewN q5)
            have HT5 : Hid (Tn w0.heap.size mgT w w5) := Lib.hid (by rw [hw5]; exact HT4.out.drewN q5)
            have CW := Lib.hid (sswap_any g n c _ i j1 S' b a1 w5 H5.out.hp.own HB.out HA1.out HN.out)
            clear CL hw5
            go_wp2_with fail
            rw [meth_swap _ p _ w5 (by decide) c5]
            go_wp2_with fail
            refine CW.out.mono ?_
            rintro e w6 ⟨rfl, hO, hg⟩
            have X := H5.out.swap HB.out HA1.out hO hg
            have H6 := Lib.hid X.1
            have HT6 := Lib.hid (HT5.out.trans X.2)
            have HD6 := Lib.hid (HD.out.step ordS HLT.out.2.2.1 HLT.out.2.2.2.2.2.2.2 HLT.out.1 HA1.out HB.out MIN.out HL.out)
            have HI6 : Hid ((j1 = 0 ∨ j1 < m) ∧ m ≤ (swapL S' i j1).length) := Lib.hid ⟨Or.inr HLT.out.2.2.2.2.2.2.2, by rw [swapL_len]; exact HI.out.2⟩
            have HP6 := Lib.hid ((swapL_perm HB.out HA1.out).trans HP.out)
            have HE6 : Hid (∀ k, m ≤ k → (swapL S' i j1)[k]? = S[k]?) := Lib.hid fun k hk => by
              rw [swapL_at HB.out HA1.out, if_neg (by have := HLT.out.2.2.2.2.2.2.2; omega), if_neg (by have := HLT.out.2.2.2.2.2.2.2; have := HLT.out; omega)]
              exact HE.out k hk
            have HNX6 := Lib.hid (HNX.out.swap HB.out HA1.out HIM.out HLT.out.2.2.2.2.2.2.2)
            have hjl : j1 ≤ 100000 := by have := HLT.out.2.2.2.2.2.2.2; omega
            have ms : m - j1 < m - i := by have := HLT.out.2.2.2.2.2.2.2; have := HLT.out; omega
            clear hO hg X CW c5 H5 HT5
            go_wp2_with fail
            go_roundw
            case rel => exact ⟨j1, _, hjl, rfl, HI6, HP6, HE6, HNX6, HD6, H6, HT6⟩
            case measure => simp [intOf]; exact ms
      · have e2 : ¬ (j2 : Int) < (m : Int) := by omega
        have MIN : Hid (∀ k x, 0 < k → k < m → (k - 1) / 2 = i → S'[k]? = some x → lessS x a1 = false) := Lib.hid fun k x h0 h1 h3 hx => by
          rcases KID.out k h0 h1 h3 with rfl | rfl
          · rw [HA1.out] at hx; cases hx; exact ordS.irr _
          · exact absurd h1 h2
        clear ha hb hnl hj1 hj2 h1 him kid h2
        cases hl : lessS a1 b with
        | false =>
          have HL := Lib.hid hl
          have CL := Lib.hid (sless_any g n c _ j1 i S' a1 b wr H.out.hp.own HA1.out HB.out ⟨H.out.at_ HA1.out, HNX.out j1 a1 HLT.out.2.2.2.2.2.2.2 HA1.out⟩ ⟨H.out.at_ HB.out, HNX.out i b HIM.out HB.out⟩ HN.out)
          rw [hl] at CL
          clear hl
          go_wp2_with fail
          rw [meth_less _ p _ wr (by decide) c0]
          go_wp2_with fail
          refine CL.out.mono ?_
          rintro e w5 ⟨rfl, q5, rfl⟩
          go_wp2_with fail
          go_ret
          exact ⟨⟨_, rfl⟩, S', HP.out, HD.out.done ordS HLT.out.2.2.1 HLT.out.1 HA1.out HB.out MIN.out HL.out, HE.out, H.out.drewN q5, HT.out.drewN q5⟩
        | true =>
          have HL := Lib.hid hl
          have CL := Lib.hid (sless_any g n c _ j1 i S' a1 b wr H.out.hp.own HA1.out HB.out ⟨H.out.at_ HA1.out, HNX.out j1 a1 HLT.out.2.2.2.2.2.2.2 HA1.out⟩ ⟨H.out.at_ HB.out, HNX.out i b HIM.out HB.out⟩ HN.out)
          rw [hl] at CL
          clear hl
          go_wp2_with fail
          rw [meth_less _ p _ wr (by decide) c0]
          go_wp2_with fail
          refine CL.out.mono ?_
          rintro e w5 ⟨rfl, q5, hw5⟩
          have c5 : w5.cell? ⟨p, 0, none⟩ = some (.slice (some ⟨g, 0, none⟩) n c) := by rw [hw5]; exact c0
          have H5 : Hid (HpW w0 w5 p (.slice (some ⟨g, 0, none⟩) n c) S') := Lib.hid (by rw [hw5]; exact H.out.drewN q5)
          have HT5 : Hid (Tn w0.heap.size mgT w w5) := Lib.hid (by rw [hw5]; exact HT.out.drewN q5)
          have CW := Lib.hid (sswap_any g n c _ i j1 S' b a1 w5 H5.out.hp.own HB.out HA1.out HN.out)
          clear CL hw5
          go_wp2_with fail
          rw [meth_swap _ p _ w5 (by decide) c5]
          go_wp2_with fail
          refine CW.out.mono ?_
          rintro e w6 ⟨rfl, hO, hg⟩
          have X := H5.out.swap HB.out HA1.out hO hg
          have H6 := Lib.hid X.1
          have HT6 := Lib.hid (HT5.out.trans X.2)
          have HD6 := Lib.hid (HD.out.step ordS HLT.out.2.2.1 HLT.out.2.2.2.2.2.2.2 HLT.out.1 HA1.out HB.out MIN.out HL.out)
          have HI6 : Hid ((j1 = 0 ∨ j1 < m) ∧ m ≤ (swapL S' i j1).length) := Lib.hid ⟨Or.inr HLT.out.2.2.2.2.2.2.2, by rw [swapL_len]; exact HI.out.2⟩
          have HP6 := Lib.hid ((swapL_perm HB.out HA1.out).trans HP.out)
          have HE6 : Hid (∀ k, m ≤ k → (swapL S' i j1)[k]? = S[k]?) := Lib.hid fun k hk => by
            rw [swapL_at HB.out HA1.out, if_neg (by have := HLT.out.2.2.2.2.2.2.2; omega), if_neg (by have := HLT.out.2.2.2.2.2.2.2; have := HLT.out; omega)]
            exact HE.out k hk
          have HNX6 := Lib.hid (HNX.out.swap HB.out HA1.out HIM.out HLT.out.2.2.2.2.2.2.2)
          have hjl : j1 ≤ 100000 := by have := HLT.out.2.2.2.2.2.2.2; omega
          have ms : m - j1 < m - i := by have := HLT.out.2.2.2.2.2.2.2; have := HLT.out; omega
          clear hO hg X CW c5 H5 HT5
          go_wp2_with fail
          go_roundw
          case rel => exact ⟨j1, _, hjl, rfl, HI6, HP6, HE6, HNX6, HD6, H6, HT6⟩
          case measure => simp [intOf]; exact ms
end Go.Proofs.Yteackdafggomhaa

namespace Go.Proofs.Yteackdafggomhaa
open Go.RowKit

theorem HpW.slice {w0 w : World} {p : Nat} {v : Value} {S : List Src} (h : HpW w0 w p v S) (hS : 0 < S.length) : ∃ g c, v = .slice (some ⟨g, 0, none⟩) S.length c := by
  obtain ⟨g, c, e, _⟩ := src_slice h.hp.own hS
  exact ⟨g, c, e⟩
theorem NeS.push {S : List Src} {s : Src} (h : NeS S.length S) (hs : s.L ≠ []) : NeS (S ++ [s]).length (S ++ [s]) := fun k x _ hx => by
  rcases List.mem_append.1 (List.mem_of_getElem? hx) with hm | hm
  · obtain ⟨i, hi, e⟩ := List.getElem_of_mem hm
    exact h i x hi (by rw [List.getElem?_eq_getElem hi, e])
  · rw [List.mem_singleton.1 hm]; exact hs
theorem InS.push {w : World} {S : List Src} {s : Src} (h : InS w S) (hs : KeysAt w s.A s.n s.L ∧ s.n ≤ s.c) : InS w (S ++ [s]) := fun x hx => by
  rcases List.mem_append.1 hx with hx | hx
  · exact h x hx
  · rw [List.mem_singleton.1 hx]; exact hs
set_option maxRecDepth 100000 in
set_option maxHeartbeats 2000000 in
theorem hpush_any (w0 : World) (p : Nat) (v : Value) (S : List Src) (s : Src) (w : World) (h : HpW w0 w p v S) (hO : HeapO lessS S S.length) (hne : NeS S.length S) (hs : (KeysAt w0 s.A s.n s.L ∧ s.n ≤ s.c) ∧ s.L ≠ []) (hn : S.length + 1 ≤ 100000) :
    Calls Try.prog 23 #[.iface 48 (.pointer (some ⟨p, 0, none⟩)), .iface 43 (.agg #[.slice s.A s.n s.c, .int .i64 (s.k : Int)])] w fun e w' => e = .returned (.tuple #[]) ∧ ∃ v' S', S'.Perm (S ++ [s]) ∧ HeapO lessS S' S'.length ∧ HpW w0 w' p v' S' ∧ Tn w0.heap.size mgT w w' := by
  have CP := Lib.hid (spush_any w0.heap.size p v S s w h.hp (by omega))
  have H := Lib.hid h
  have HI := Lib.hid (h.ins.push hs.1)
  have HNE := Lib.hid (NeS.push hne hs.2)
  have HU := Lib.hid (hO.push s)
  obtain ⟨l, hl⟩ : ∃ l, (S ++ [s]).length = l := ⟨_, rfl⟩
  have HL := Lib.hid hl
  have hlm : l = S.length + 1 := by rw [← hl, List.length_append]; rfl
  have HLM := Lib.hid hlm
  have d1 : wrap64 ((l : Int) - 1) = (S.length : Int) := by unfold wrap64; omega
  have HN : Hid (l ≤ 100000) := Lib.hid (by omega)
  generalize S.length = m at *
  clear h hO hs hl hn hne hlm
  go_enter Try.func23, Try.ntmps23
  go_wp2_with fail
  refine CP.out.mono ?_
  rintro e w1 ⟨rfl, v1, h1, t1⟩
  have H1 : HpW w0 w1 p v1 (S ++ [s]) := ⟨h1, HI.out, H.out.bel.trans (t1.below H.out.bel.size), by rw [HL.out]; exact HN.out⟩
  obtain ⟨g, c, rfl⟩ := H1.slice (by rw [HL.out, HLM.out]; omega)
  have c1 : w1.cell? ⟨p, 0, none⟩ = some (.slice (some ⟨g, 0, none⟩) (S ++ [s]).length c) := h1.blk.cell 0
  have H1 : Hid (HpW w0 w1 p (.slice (some ⟨g, 0, none⟩) (S ++ [s]).length c) (S ++ [s])) := Lib.hid H1
  have T1 := Lib.hid t1
  have CL := Lib.hid (slen_any (some ⟨g, 0, none⟩) (S ++ [s]).length c w1)
  have CU := Lib.hid (hup_any w0 p g (S ++ [s]).length c m (S ++ [s]) w1 H1.out (by rw [HL.out, HLM.out]; omega) HU.out HNE.out)
  rw [HL.out] at CL CU c1 H1
  clear h1 t1 CP
  go_wp2_with fail
  rw [meth_len _ p _ w1 (by decide) c1]
  go_wp2_with fail
  refine CL.out.mono ?_
  rintro e w2 ⟨rfl, rfl⟩
  go_wp2_with fail
  refine CU.out.mono ?_
  rintro e w3 ⟨rfl, S', hp, ho, hh, ht⟩
  have F := Lib.hid (show ∃ v' S', S'.Perm (S ++ [s]) ∧ HeapO lessS S' S'.length ∧ HpW w0 w3 p v' S' ∧ Tn w0.heap.size mgT w w3 from ⟨_, S', hp, ho, hh, T1.out.trans ht⟩)
  clear hp ho hh ht
  go_wp2_with fail
  go_end0
  exact ⟨rfl, F.out⟩
/-- The first and the last change places. -/
theorem DnI.pop {α : Type} {lt : α → α → Bool} {S : List α} (h : DnI lt S 0 S.length) {a b : α} (ha : S[0]? = some a) (hb : S[S.length - 1]? = some b) : DnI lt (swapL S 0 (S.length - 1)) 0 (S.length - 1) := by
  have A := swapL_at ha hb
  refine ⟨fun c u v h0 hc hne hu hv => ?_, fun h0 => by omega⟩
  rw [A, if_neg (by omega), if_neg (by omega)] at hu
  rw [A, if_neg (by omega), if_neg hne] at hv
  exact h.all c u v h0 (by omega) hne hu hv
set_option maxRecDepth 100000 in
set_option maxHeartbeats 2000000 in
theorem hpop_any (w0 : World) (p m : Nat) (v : Value) (S : List Src) (a : Src) (w : World) (h : HpW w0 w p v S) (hO : DnI lessS S 0 S.length) (hm : S.length = m + 1) (ha : S[0]? = some a) (hne : ∀ k s, 0 < k → S[k]? = some s → s.L ≠ []) :
    Calls Try.prog 24 #[.iface 48 (.pointer (some ⟨p, 0, none⟩))] w fun e w' => (∃ x, e = .returned x) ∧ ∃ v' S', (a :: S').Perm S ∧ HeapO lessS S' S'.length ∧ HpW w0 w' p v' S' ∧ Tn w0.heap.size mgT w w' := by
  obtain ⟨g, c, rfl⟩ := h.slice (by omega)
  have hb := List.getElem?_eq_getElem (show m < S.length by omega)
  generalize S[m]'_ = b at hb
  have hle := h.le
  have c0 : w.cell? ⟨p, 0, none⟩ = some (.slice (some ⟨g, 0, none⟩) S.length c) := h.hp.blk.cell 0
  have CL := Lib.hid (slen_any (some ⟨g, 0, none⟩) S.length c w)
  have CS := Lib.hid (sswap_any g S.length c _ 0 m S a b w h.hp.own ha hb (by omega))
  have HX := Lib.hid (fun w' hO hg => h.swap (w' := w') ha hb hO hg)
  have hD := hO.pop ha (by rw [hm, Nat.add_sub_cancel]; exact hb)
  rw [hm, Nat.add_sub_cancel] at hD
  have HD := Lib.hid hD
  have HNE : Hid (NeS m (swapL S 0 m)) := Lib.hid fun k s hk hs => by
    rw [swapL_at ha hb, if_neg (by omega)] at hs
    split at hs
    · cases hs; exact hne m b (by omega) hb
    · exact hne k s (by omega) hs
  have d1 : wrap64 ((S.length : Int) - 1) = (m : Int) := by unfold wrap64; omega
  have HA := Lib.hid ha
  have HB := Lib.hid hb
  have HM := Lib.hid hm
  have HLE := Lib.hid hle
  generalize hn : S.length = n at *
  have HN := Lib.hid hn
  clear h hO hm ha hb hD hle hn hne
  go_enter Try.func24, Try.ntmps24
  go_wp2_with fail
  rw [meth_len _ p _ w (by decide) c0]
  go_wp2_with fail
  refine CL.out.mono ?_
  rintro e w1 ⟨rfl, rfl⟩
  go_wp2_with fail
  rw [meth_swap _ p _ w1 (by decide) c0]
  go_wp2_with fail
  refine CS.out.mono ?_
  rintro e w2 ⟨rfl, hO2, hg2⟩
  obtain ⟨h2, t2⟩ := HX.out w2 hO2 hg2
  have CD := Lib.hid (hdown_any w0 p g n c m (swapL S 0 m) w2 h2 (by rw [swapL_len, HN.out, HM.out]; omega) HD.out HNE.out)
  have T2 := Lib.hid t2
  clear hO2 hg2 h2 t2 c0 CL CS HX
  go_wp2_with fail
  refine CD.out.mono ?_
  rintro e w3 ⟨⟨bb, rfl⟩, S3, hp3, ho3, he3, h3, t3⟩
  have hl3 : S3.length = m + 1 := by rw [hp3.length_eq, swapL_len, HN.out, HM.out]
  have CP := Lib.hid (spop_any w0.heap.size p m _ S3 w3 h3.hp hl3 (by rw [hl3, ← HM.out]; exact Nat.le_trans HLE.out (by decide)))
  have hpm : (a :: S3.take m).Perm S := by
    have hx : S3[S.length - 1]? = some a := by
      rw [HN.out, HM.out, Nat.add_sub_cancel, he3 m (Nat.le_refl _), swapL_at HA.out HB.out, if_pos rfl]
    have := take_pop HA.out (hp3.trans (swapL_perm HA.out HB.out)) hx
    rwa [HN.out, HM.out, Nat.add_sub_cancel] at this
  have hO4 : HeapO lessS (S3.take m) (S3.take m).length := fun i x y h0 h1 hx hy => by
    have hlt : i < m := by rw [List.length_take, hl3, Nat.min_eq_left (by omega)] at h1; exact h1
    rw [List.getElem?_take_of_lt hlt] at hx
    rw [List.getElem?_take_of_lt (by omega)] at hy
    exact ho3 i x y h0 hlt hx hy
  have hins : InS w0 (S3.take m) := fun x hx => h3.ins x (List.mem_of_mem_take hx)
  have F : Hid (∀ w', (∃ v', HpS w' w0.heap.size p v' (S3.take m) ∧ Tn w0.heap.size mgT w3 w') → ∃ v' S', (a :: S').Perm S ∧ HeapO lessS S' S'.length ∧ HpW w0 w' p v' S' ∧ Tn w0.heap.size mgT w1 w') := Lib.hid fun w' ⟨v', hh, ht⟩ =>
    ⟨v', _, hpm, hO4, ⟨hh, hins, h3.bel.trans (ht.below h3.bel.size), by rw [List.length_take, hl3]; have := HLE.out; have := HM.out; omega⟩, (T2.out.trans t3).trans ht⟩
  clear hp3 ho3 he3 h3 t3 hl3 hpm hO4 hins CD
  go_wp2_with fail
  refine CP.out.mono ?_
  rintro e w4 ⟨⟨x, rfl⟩, hx⟩
  have F4 := Lib.hid (F.out w4 hx)
  clear hx F CP
  go_wp2_with fail
  go_ret
  exact ⟨⟨_, rfl⟩, F4.out⟩
set_option maxRecDepth 100000 in
set_option maxHeartbeats 2000000 in
theorem hfix_any (w0 : World) (p : Nat) (v : Value) (S : List Src) (w : World) (h : HpW w0 w p v S) (hS : 0 < S.length) (hD : DnI lessS S 0 S.length) (hne : NeS S.length S) :
    Calls Try.prog 26 #[.iface 48 (.pointer (some ⟨p, 0, none⟩)), .int .i64 0] w fun e w' => e = .returned (.tuple #[]) ∧ ∃ v' S', S'.Perm S ∧ HeapO lessS S' S'.length ∧ HpW w0 w' p v' S' ∧ Tn w0.heap.size mgT w w' := by
  obtain ⟨g, c, rfl⟩ := h.slice hS
  have c0 : w.cell? ⟨p, 0, none⟩ = some (.slice (some ⟨g, 0, none⟩) S.length c) := h.hp.blk.cell 0
  have CL := Lib.hid (slen_any (some ⟨g, 0, none⟩) S.length c w)
  have CD := Lib.hid (hdown_any w0 p g S.length c S.length S w h (Nat.le_refl _) hD hne)
  have HNE := Lib.hid hne
  have HS := Lib.hid hS
  generalize hn : S.length = n at *
  have HN := Lib.hid hn
  clear h hS hD hn hne
  go_enter Try.func26, Try.ntmps26
  go_wp2_with fail
  rw [meth_len _ p _ w (by decide) c0]
  go_wp2_with fail
  refine CL.out.mono ?_
  rintro e w1 ⟨rfl, rfl⟩
  go_wp2_with fail
  refine CD.out.mono ?_
  rintro e w2 ⟨⟨bb, rfl⟩, S2, hp2, ho2, _, h2, t2⟩
  have hl2 : S2.length = n := by rw [hp2.length_eq, HN.out]
  rw [← hl2] at ho2
  cases bb with
  | true =>
    have F := Lib.hid (show ∃ v' S', S'.Perm S ∧ HeapO lessS S' S'.length ∧ HpW w0 w2 p v' S' ∧ Tn w0.heap.size mgT w1 w2 from ⟨_, S2, hp2, ho2, h2, t2⟩)
    clear hp2 ho2 h2 t2 hl2
    go_wp2_with fail
    go_end0
    exact ⟨rfl, F.out⟩
  | false =>
    have CU := Lib.hid (hup_any w0 p g n c 0 S2 w2 h2 (by rw [hl2]; exact HS.out) (UpI.heap ho2) (NeS.perm (S := S) (by rw [HN.out]; exact HNE.out) hp2))
    have HP2 := Lib.hid hp2
    have T2 := Lib.hid t2
    clear hp2 ho2 h2 t2 hl2
    go_wp2_with fail
    refine CU.out.mono ?_
    rintro e w3 ⟨rfl, S3, hp3, ho3, h3, t3⟩
    have F := Lib.hid (show ∃ v' S', S'.Perm S ∧ HeapO lessS S' S'.length ∧ HpW w0 w3 p v' S' ∧ Tn w0.heap.size mgT w1 w3 from ⟨_, S3, hp3.trans HP2.out, ho3, h3, T2.out.trans t3⟩)
    clear hp3 ho3 h3 t3
    go_wp2_with fail
    go_end0
    exact ⟨rfl, F.out⟩
end Go.Proofs.Yteackdafggomhaa

namespace Go.Proofs.Yteackdafggomhaa
open Go.RowKit

/-- All pairs of all lists, rising; of several with one key that of the first list that has it. -/
structure IsMerge (Ls : List (List KV)) (R : List KV) : Prop where
  ris : risesK R = true
  mem : ∀ m, m ∈ R ↔ ∃ (i : Nat) (L : List KV), Ls[i]? = some L ∧ m ∈ L ∧ ∀ (j : Nat) (M : List KV), j < i → Ls[j]? = some M → ∀ x ∈ M, x.1 ≠ m.1
theorem rises_snoc {R : List KV} {p : KV} (h : risesK R = true) (h2 : ∀ o ∈ R, cmpT o.1 p.1 < 0) : risesK (R ++ [p]) = true := by
  refine rises_iff _ fun i a b ha hb => ?_
  have hl := (List.getElem?_eq_some_iff.1 hb).1
  rw [List.length_append, List.length_singleton] at hl
  rw [List.getElem?_append_left (by omega)] at ha
  by_cases e : i + 1 < R.length
  · rw [List.getElem?_append_left e] at hb
    exact rises_get h (Nat.lt_succ_self i) ha hb
  · have e : i + 1 = R.length := by omega
    rw [e, List.getElem?_concat_length] at hb
    cases hb
    exact h2 a (List.mem_of_getElem? ha)
theorem rises_ext : ∀ {A B : List KV}, risesK A = true → risesK B = true → (∀ m, m ∈ A ↔ m ∈ B) → A = B
  | [], [], _, _, _ => rfl
  | [], b :: B, _, _, h => absurd ((h b).2 List.mem_cons_self) (by simp)
  | a :: A, [], _, _, h => absurd ((h a).1 List.mem_cons_self) (by simp)
  | a :: A, b :: B, hA, hB, h => by
    obtain ⟨hA1, hA2⟩ := rises_tail hA
    obtain ⟨hB1, hB2⟩ := rises_tail hB
    have hab : a = b := by
      rcases List.mem_cons.1 ((h a).1 List.mem_cons_self) with e | e
      · exact e
      · rcases List.mem_cons.1 ((h b).2 List.mem_cons_self) with e2 | e2
        · exact e2.symm
        · have h1 := hB2 a e
          have h2 := hA2 b e2
          have := cmpT_swap a.1 b.1
          omega
    subst hab
    have ne : ∀ {C : List KV}, (∀ m ∈ C, cmpT a.1 m.1 < 0) → a ∉ C := fun hC hm => by
      have := hC a hm
      have := (cmpT_eq a.1 a.1).2 rfl
      omega
    refine congrArg (a :: ·) (rises_ext hA1 hB1 fun m => ⟨fun hm => ?_, fun hm => ?_⟩)
    · rcases List.mem_cons.1 ((h m).1 (List.mem_cons_of_mem _ hm)) with e | e
      · subst e; exact absurd hm (ne hA2)
      · exact e
    · rcases List.mem_cons.1 ((h m).2 (List.mem_cons_of_mem _ hm)) with e | e
      · subst e; exact absurd hm (ne hB2)
      · exact e
theorem IsMerge.uniq {Ls : List (List KV)} {A B : List KV} (hA : IsMerge Ls A) (hB : IsMerge Ls B) : A = B :=
  rises_ext hA.ris hB.ris fun m => (hA.mem m).trans (hB.mem m).symm
/-- Of numbers with a property there is a least one. -/
theorem least_nat {P : Nat → Prop} : ∀ n, P n → ∃ k, P k ∧ ∀ j, j < k → ¬ P j := by
  intro n
  induction n using Nat.strongRecOn with
  | ind n ih =>
    intro h
    by_cases e : ∃ j, j < n ∧ P j
    · obtain ⟨j, hj, hp⟩ := e
      exact ih j hj hp
    · exact ⟨n, h, fun j hj hp => e ⟨j, hj, hp⟩⟩
/-- A key is told where a list has it. -/
theorem IsMerge.key {Ls : List (List KV)} {R : List KV} (h : IsMerge Ls R) (k : ByteArray) : (∃ m ∈ R, m.1 = k) ↔ ∃ (i : Nat) (L : List KV), Ls[i]? = some L ∧ ∃ m ∈ L, m.1 = k := by
  constructor
  · rintro ⟨m, hm, e⟩
    obtain ⟨i, L, h1, h2, _⟩ := (h.mem m).1 hm
    exact ⟨i, L, h1, m, h2, e⟩
  · rintro ⟨i, L, h1, m, h2, e⟩
    obtain ⟨k', ⟨L', hL', m', hm', e'⟩, hmin⟩ := least_nat (P := fun i => ∃ L : List KV, Ls[i]? = some L ∧ ∃ m ∈ L, m.1 = k) i ⟨L, h1, m, h2, e⟩
    exact ⟨m', (h.mem m').2 ⟨k', L', hL', hm', fun j M hj hM x hx ex => hmin j hj ⟨M, hM, x, hx, ex.trans e'⟩⟩, e'⟩

/-- What holds while heads are taken: pos i of list i are told. -/
structure MInv (Ls : List (List KV)) (pos : Nat → Nat) (S : List Src) (out : List KV) : Prop where
  nod : (S.map (·.k)).Nodup
  src : ∀ s ∈ S, ∃ L, Ls[s.k]? = some L ∧ s.L = L.drop (pos s.k) ∧ pos s.k < L.length
  all : ∀ (i : Nat) (L : List KV), Ls[i]? = some L → pos i < L.length → ∃ s ∈ S, s.k = i
  le : ∀ (i : Nat) (L : List KV), Ls[i]? = some L → pos i ≤ L.length
  ris : ∀ (i : Nat) (L : List KV), Ls[i]? = some L → ∀ (t : Nat) (a b : KV), t < pos i → L[t]? = some a → L[t + 1]? = some b → cmpT a.1 b.1 < 0
  out1 : risesK out = true
  top : ∀ o ∈ out, ∀ s ∈ S, cmpT o.1 s.key ≤ 0
  has : ∀ (i : Nat) (L : List KV) (t : Nat) (m : KV), Ls[i]? = some L → t < pos i → L[t]? = some m → ∃ o ∈ out, o.1 = m.1
  mem : ∀ m, m ∈ out ↔ ∃ (i : Nat) (L : List KV), Ls[i]? = some L ∧ (∃ t, t < pos i ∧ L[t]? = some m) ∧ ∀ (j : Nat) (M : List KV), j < i → Ls[j]? = some M → ∀ (t : Nat) (x : KV), t < pos j → M[t]? = some x → x.1 ≠ m.1
  fst : ∀ s ∈ S, ∀ (i : Nat) (L : List KV) (t : Nat) (m : KV), Ls[i]? = some L → t < pos i → L[t]? = some m → m.1 = s.key → i < s.k
theorem MInv.perm {Ls : List (List KV)} {pos : Nat → Nat} {S T : List Src} {out : List KV} (h : MInv Ls pos S out) (hp : T.Perm S) : MInv Ls pos T out :=
  ⟨(hp.map _).nodup_iff.2 h.nod, fun s hs => h.src s (hp.mem_iff.1 hs), fun i L h1 h2 => by obtain ⟨s, hs, e⟩ := h.all i L h1 h2; exact ⟨s, hp.mem_iff.2 hs, e⟩, h.le, h.ris, h.out1, fun o ho s hs => h.top o ho s (hp.mem_iff.1 hs), h.has, h.mem, fun s hs => h.fst s (hp.mem_iff.1 hs)⟩
/-- All is told: what was told is what is asked, and every list rises. -/
theorem MInv.done {Ls : List (List KV)} {pos : Nat → Nat} {out : List KV} (h : MInv Ls pos [] out) : IsMerge Ls out ∧ ∀ L ∈ Ls, risesK L = true := by
  have full : ∀ i L, Ls[i]? = some L → pos i = L.length := fun i L hL => by
    have h1 := h.le i L hL
    by_cases e : pos i < L.length
    · obtain ⟨s, hs, _⟩ := h.all i L hL e
      cases hs
    · omega
  refine ⟨⟨h.out1, fun m => ?_⟩, fun L hL => ?_⟩
  · rw [h.mem m]
    constructor
    · rintro ⟨i, L, h1, ⟨t, h2, h3⟩, h4⟩
      refine ⟨i, L, h1, List.mem_of_getElem? h3, fun j M hj hM x hx => ?_⟩
      obtain ⟨t', ht', rfl⟩ := List.getElem_of_mem hx
      exact h4 j M hj hM t' _ (by rw [full j M hM]; exact ht') (List.getElem?_eq_getElem ht')
    · rintro ⟨i, L, h1, h2, h3⟩
      obtain ⟨t, ht, rfl⟩ := List.getElem_of_mem h2
      exact ⟨i, L, h1, ⟨t, by rw [full i L h1]; exact ht, List.getElem?_eq_getElem ht⟩, fun j M hj hM t' x _ hx => h3 j M hj hM x (List.mem_of_getElem? hx)⟩
  · obtain ⟨i, hi, rfl⟩ := List.getElem_of_mem hL
    have hL' := List.getElem?_eq_getElem hi
    refine rises_iff _ fun t a b ha hb => h.ris i _ hL' t a b ?_ ha hb
    have := (List.getElem?_eq_some_iff.1 hb).1
    rw [full i _ hL']
    omega
/-- The pair p of the least source is told, unless its key was. -/
def tellP (out : List KV) (p : KV) : List KV := match out.getLast? with
  | none => out ++ [p]
  | some o => if o.1 = p.1 then out else out ++ [p]
theorem tell_cases {Ls : List (List KV)} {pos : Nat → Nat} {S : List Src} {out : List KV} (h : MInv Ls pos S out) {a : Src} (ha : a ∈ S) {p : KV} (hk : p.1 = a.key) :
    (tellP out p = out ∧ ∃ o ∈ out, o.1 = p.1) ∨ (tellP out p = out ++ [p] ∧ ∀ o ∈ out, cmpT o.1 p.1 < 0) := by
  unfold tellP
  cases hl : out.getLast? with
  | none =>
    have : out = [] := by simpa using hl
    subst this
    exact Or.inr ⟨rfl, fun o ho => by cases ho⟩
  | some o =>
    have ho : o ∈ out := List.mem_of_getLast? hl
    by_cases e : o.1 = p.1
    · exact Or.inl ⟨by simp only []; rw [if_pos e], o, ho, e⟩
    · refine Or.inr ⟨by simp only []; rw [if_neg e], fun x hx => ?_⟩
      have h1 := h.top x hx a ha
      have h2 := h.top o ho a ha
      rw [← hk] at h1 h2
      have h3 : cmpT o.1 p.1 ≠ 0 := fun h0 => e ((cmpT_eq _ _).1 h0)
      rw [List.getLast?_eq_getElem?] at hl
      obtain ⟨t, ht, rfl⟩ := List.getElem_of_mem hx
      by_cases e2 : t = out.length - 1
      · rw [← e2, List.getElem?_eq_getElem ht] at hl
        cases hl
        omega
      · have := rises_get h.out1 (show t < out.length - 1 by omega) (List.getElem?_eq_getElem ht) hl
        exact cmpT_trans this (by omega)
theorem MInv.step {Ls : List (List KV)} {pos : Nat → Nat} {a : Src} {rest : List Src} {out : List KV} (h : MInv Ls pos (a :: rest) out) (hmin : ∀ s ∈ rest, lessS s a = false) {L0 : List KV} {p : KV} (hL0 : Ls[a.k]? = some L0) (hp : L0[pos a.k]? = some p) (hk : p.1 = a.key)
    (N : Option Src) (hN : match N with
      | none => L0.length = pos a.k + 1
      | some b => b.k = a.k ∧ b.L = L0.drop (pos a.k + 1) ∧ pos a.k + 1 < L0.length ∧ cmpT p.1 b.key < 0 ∧ ∀ y, L0[pos a.k + 1]? = some y → y.1 = b.key) :
    MInv Ls (fun i => if i = a.k then pos i + 1 else pos i) (N.toList ++ rest) (tellP out p) := by
  have hpl := (List.getElem?_eq_some_iff.1 hp).1
  have T := tell_cases h List.mem_cons_self hk
  have hsub : ∀ o ∈ out, o ∈ tellP out p := fun o ho => by
    rcases T with ⟨e, _⟩ | ⟨e, _⟩ <;> rw [e]
    · exact ho
    · exact List.mem_append_left _ ho
  have hin : ∀ o ∈ tellP out p, o ∈ out ∨ o = p := fun o ho => by
    rcases T with ⟨e, _⟩ | ⟨e, _⟩ <;> rw [e] at ho
    · exact Or.inl ho
    · rcases List.mem_append.1 ho with ho | ho
      · exact Or.inl ho
      · exact Or.inr (List.mem_singleton.1 ho)
  have hnew : ∃ o ∈ tellP out p, o.1 = p.1 := by
    rcases T with ⟨e, o, ho, e2⟩ | ⟨e, _⟩
    · exact ⟨o, hsub o ho, e2⟩
    · exact ⟨p, by rw [e]; exact List.mem_append_right _ List.mem_cons_self, rfl⟩
  have hnod := h.nod
  rw [List.map_cons, List.nodup_cons] at hnod
  have hne : ∀ s ∈ rest, s.k ≠ a.k := fun s hs e => hnod.1 (List.mem_map.2 ⟨s, hs, e⟩)
  have told : ∀ i t, t < (if i = a.k then pos i + 1 else pos i) ↔ t < pos i ∨ (i = a.k ∧ t = pos i) := fun i t => by
    by_cases e : i = a.k
    · rw [if_pos e]; omega
    · rw [if_neg e]; omega
  have outle : ∀ o ∈ out, cmpT o.1 p.1 ≤ 0 := fun o ho => by rw [hk]; exact h.top o ho a List.mem_cons_self
  have hN' : ∀ s ∈ N.toList, s.k = a.k ∧ s.L = L0.drop (pos a.k + 1) ∧ pos a.k + 1 < L0.length ∧ cmpT p.1 s.key < 0 := fun s hs => by
    cases N with
    | none => cases hs
    | some b =>
      have : s = b := by simpa using hs
      subst this
      exact ⟨hN.1, hN.2.1, hN.2.2.1, hN.2.2.2.1⟩
  refine ⟨?_, fun s hs => ?_, fun i L hL hlt => ?_, fun i L hL => ?_, fun i L hL t x y ht hx hy => ?_, ?_, fun o ho s hs => ?_, fun i L t m hL ht hm => ?_, fun m => ?_, fun s hs i L t m hL ht hm e => ?_⟩
  · cases N with
    | none => exact hnod.2
    | some b =>
      show ((b :: rest).map (·.k)).Nodup
      rw [List.map_cons, List.nodup_cons, hN.1]
      exact hnod
  · rcases List.mem_append.1 hs with hs | hs
    · obtain ⟨e1, e2, e3, _⟩ := hN' s hs
      refine ⟨L0, by rw [e1]; exact hL0, ?_, ?_⟩
      · rw [e1, if_pos rfl]; exact e2
      · rw [e1, if_pos rfl]; exact e3
    · obtain ⟨L, e1, e2, e3⟩ := h.src s (List.mem_cons_of_mem _ hs)
      exact ⟨L, e1, by rw [if_neg (hne s hs)]; exact e2, by rw [if_neg (hne s hs)]; exact e3⟩
  · by_cases e : i = a.k
    · subst e
      rw [if_pos rfl] at hlt
      rw [hL0] at hL
      cases hL
      cases N with
      | none => exact absurd hN (by omega)
      | some b => exact ⟨b, List.mem_append_left _ (by simp), hN.1⟩
    · rw [if_neg e] at hlt
      obtain ⟨s, hs, e2⟩ := h.all i L hL hlt
      rcases List.mem_cons.1 hs with rfl | hs
      · exact absurd e2.symm e
      · exact ⟨s, List.mem_append_right _ hs, e2⟩
  · by_cases e : i = a.k
    · subst e
      rw [if_pos rfl]
      rw [hL0] at hL
      cases hL
      omega
    · rw [if_neg e]; exact h.le i L hL
  · rcases (told i t).1 ht with ht | ⟨rfl, rfl⟩
    · exact h.ris i L hL t x y ht hx hy
    · rw [hL0] at hL
      cases hL
      rw [hp] at hx
      cases hx
      cases N with
      | none =>
        have := (List.getElem?_eq_some_iff.1 hy).1
        exact absurd hN (by omega)
      | some b => rw [hN.2.2.2.2 y hy]; exact hN.2.2.2.1
  · rcases T with ⟨e, _⟩ | ⟨e, hlt⟩ <;> rw [e]
    · exact h.out1
    · exact rises_snoc h.out1 hlt
  · rcases List.mem_append.1 hs with hs | hs
    · obtain ⟨_, _, _, hlt⟩ := hN' s hs
      rcases hin o ho with ho | rfl
      · exact Int.le_of_lt (cmpT_le_lt (outle o ho) hlt)
      · exact Int.le_of_lt hlt
    · rcases hin o ho with ho | rfl
      · exact h.top o ho s (List.mem_cons_of_mem _ hs)
      · rw [hk]
        rcases (lessS_not _ _).1 (hmin s hs) with h1 | ⟨h1, _⟩
        · omega
        · exact Int.le_of_eq ((cmpT_eq _ _).2 h1.symm)
  · rcases (told i t).1 ht with ht | ⟨rfl, rfl⟩
    · obtain ⟨o, ho, e⟩ := h.has i L t m hL ht hm
      exact ⟨o, hsub o ho, e⟩
    · rw [hL0] at hL
      cases hL
      rw [hp] at hm
      cases hm
      exact hnew
  · have hold : m ∈ out → ∀ (j : Nat) (M : List KV) (t : Nat) (x : KV), (∃ (i : Nat) (L : List KV), Ls[i]? = some L ∧ (∃ t, t < pos i ∧ L[t]? = some m) ∧ j < i ∧ ∀ (j : Nat) (M : List KV), j < i → Ls[j]? = some M → ∀ (t : Nat) (x : KV), t < pos j → M[t]? = some x → x.1 ≠ m.1) → Ls[j]? = some M → t < (if j = a.k then pos j + 1 else pos j) → M[t]? = some x → x.1 ≠ m.1 := by
      rintro hmo j M t x ⟨i, L, hL, ⟨t', ht', hm'⟩, hji, hmn⟩ hM ht hx e
      rcases (told j t).1 ht with ht | ⟨rfl, rfl⟩
      · exact hmn j M hji hM t x ht hx e
      · rw [hL0] at hM
        cases hM
        rw [hp] at hx
        cases hx
        have := h.fst a List.mem_cons_self i L t' m hL ht' hm' (by rw [← e]; exact hk)
        omega
    constructor
    · intro hm
      rcases T with ⟨e, _⟩ | ⟨e, hlt⟩
      · rw [e] at hm
        obtain ⟨i, L, hL, ⟨t, ht, hmt⟩, hmn⟩ := (h.mem m).1 hm
        exact ⟨i, L, hL, ⟨t, (told i t).2 (Or.inl ht), hmt⟩, fun j M hj hM t' x ht' hx => hold hm j M t' x ⟨i, L, hL, ⟨t, ht, hmt⟩, hj, hmn⟩ hM ht' hx⟩
      · rw [e] at hm
        rcases List.mem_append.1 hm with hm | hm
        · obtain ⟨i, L, hL, ⟨t, ht, hmt⟩, hmn⟩ := (h.mem m).1 hm
          exact ⟨i, L, hL, ⟨t, (told i t).2 (Or.inl ht), hmt⟩, fun j M hj hM t' x ht' hx => hold hm j M t' x ⟨i, L, hL, ⟨t, ht, hmt⟩, hj, hmn⟩ hM ht' hx⟩
        · obtain rfl := List.mem_singleton.1 hm
          refine ⟨a.k, L0, hL0, ⟨pos a.k, (told _ _).2 (Or.inr ⟨rfl, rfl⟩), hp⟩, fun j M hj hM t' x ht' hx ex => ?_⟩
          rcases (told j t').1 ht' with ht' | ⟨rfl, _⟩
          · obtain ⟨o, ho, eo⟩ := h.has j M t' x hM ht' hx
            have := hlt o ho
            rw [eo, ex, (cmpT_eq _ _).2 rfl] at this
            omega
          · omega
    · rintro ⟨i, L, hL, ⟨t, ht, hmt⟩, hmn⟩
      rcases (told i t).1 ht with ht | ⟨rfl, rfl⟩
      · exact hsub m ((h.mem m).2 ⟨i, L, hL, ⟨t, ht, hmt⟩, fun j M hj hM t' x ht' hx => hmn j M hj hM t' x ((told j t').2 (Or.inl ht')) hx⟩)
      · rw [hL0] at hL
        cases hL
        rw [hp] at hmt
        cases hmt
        rcases T with ⟨e, o, ho, eo⟩ | ⟨e, _⟩
        · exfalso
          obtain ⟨i', L', hL', ⟨t', ht', ho'⟩, _⟩ := (h.mem o).1 ho
          have hlt := h.fst a List.mem_cons_self i' L' t' o hL' ht' ho' (by rw [eo]; exact hk)
          exact hmn i' L' hlt hL' t' o ((told i' t').2 (Or.inl ht')) ho' eo
        · rw [e]; exact List.mem_append_right _ List.mem_cons_self
  · rcases List.mem_append.1 hs with hs | hs
    · exfalso
      obtain ⟨_, _, _, hlt⟩ := hN' s hs
      rcases (told i t).1 ht with ht | ⟨rfl, rfl⟩
      · obtain ⟨o, ho, eo⟩ := h.has i L t m hL ht hm
        have := cmpT_le_lt (outle o ho) hlt
        rw [eo, e, (cmpT_eq _ _).2 rfl] at this
        omega
      · rw [hL0] at hL
        cases hL
        rw [hp] at hm
        cases hm
        rw [e, (cmpT_eq _ _).2 rfl] at hlt
        omega
    · rcases (told i t).1 ht with ht | ⟨rfl, rfl⟩
      · exact h.fst s (List.mem_cons_of_mem _ hs) i L t m hL ht hm e
      · rw [hL0] at hL
        cases hL
        rw [hp] at hm
        cases hm
        rcases (lessS_not _ _).1 (hmin s hs) with h1 | ⟨_, h1⟩
        · rw [← hk, e, (cmpT_eq _ _).2 rfl] at h1
          omega
        · have := hne s hs
          omega
end Go.Proofs.Yteackdafggomhaa

namespace Go.Proofs.Yteackdafggomhaa
open Go.RowKit

/-- The lists Ls can be read at the slice A of length n. -/
structure ListsAt (w : World) (A : Option Addr) (n : Nat) (Ls : List (List KV)) : Prop where
  len : n = Ls.length
  at_ : ∀ (i : Nat) (L : List KV), Ls[i]? = some L → ∃ g off B ni ci, A = some ⟨g, off, none⟩ ∧ g < w.heap.size ∧ w.cell? ⟨g, off + i, none⟩ = some (.slice B ni ci) ∧ KeysAt w B ni L ∧ ni ≤ ci
theorem ListsAt.below {w w' : World} {A : Option Addr} {n : Nat} {Ls : List (List KV)} (h : ListsAt w A n Ls) (hb : Below w.heap.size w w') : ListsAt w' A n Ls :=
  ⟨h.len, fun i L hL => by
    obtain ⟨g, off, B, ni, ci, e, hg, h1, h2, h3⟩ := h.at_ i L hL
    exact ⟨g, off, B, ni, ci, e, Nat.lt_of_lt_of_le hg hb.size, (hb.cell (p := ⟨g, off + i, none⟩) hg).trans h1, h2.below hb, h3⟩⟩
/-- The heap of the first k lists. -/
structure BInv (Ls : List (List KV)) (k : Nat) (S : List Src) : Prop where
  nod : (S.map (·.k)).Nodup
  src : ∀ s ∈ S, s.k < k ∧ Ls[s.k]? = some s.L ∧ s.L ≠ []
  all : ∀ (i : Nat) (L : List KV), i < k → Ls[i]? = some L → L ≠ [] → ∃ s ∈ S, s.k = i
  len : S.length ≤ k
theorem BInv.perm {Ls : List (List KV)} {k : Nat} {S T : List Src} (h : BInv Ls k S) (hp : T.Perm S) : BInv Ls k T :=
  ⟨(hp.map _).nodup_iff.2 h.nod, fun s hs => h.src s (hp.mem_iff.1 hs), fun i L h1 h2 h3 => by obtain ⟨s, hs, e⟩ := h.all i L h1 h2 h3; exact ⟨s, hp.mem_iff.2 hs, e⟩, by rw [hp.length_eq]; exact h.len⟩
theorem BInv.none {Ls : List (List KV)} {k : Nat} {S : List Src} (h : BInv Ls k S) (hL : Ls[k]? = some []) : BInv Ls (k + 1) S :=
  ⟨h.nod, fun s hs => ⟨Nat.lt_succ_of_lt (h.src s hs).1, (h.src s hs).2⟩, fun i L h1 h2 h3 => by
    by_cases e : i = k
    · subst e; rw [hL] at h2; cases h2; exact absurd rfl h3
    · exact h.all i L (by omega) h2 h3, Nat.le_succ_of_le h.len⟩
theorem BInv.push {Ls : List (List KV)} {k : Nat} {S : List Src} (h : BInv Ls k S) {s : Src} (hk : s.k = k) (hL : Ls[k]? = some s.L) (hne : s.L ≠ []) : BInv Ls (k + 1) (S ++ [s]) := by
  refine ⟨?_, fun x hx => ?_, fun i L h1 h2 h3 => ?_, ?_⟩
  · rw [List.map_append, List.nodup_append]
    refine ⟨h.nod, by simp, fun a ha b hb e => ?_⟩
    obtain ⟨x, hx, rfl⟩ := List.mem_map.1 ha
    have hb : b = s.k := by simpa using hb
    have := (h.src x hx).1
    omega
  · rcases List.mem_append.1 hx with hx | hx
    · exact ⟨Nat.lt_succ_of_lt (h.src x hx).1, (h.src x hx).2⟩
    · rw [List.mem_singleton.1 hx]
      exact ⟨by omega, by rw [hk]; exact hL, hne⟩
  · by_cases e : i = k
    · exact ⟨s, List.mem_append_right _ List.mem_cons_self, hk.trans e.symm⟩
    · obtain ⟨x, hx, e⟩ := h.all i L (by omega) h2 h3
      exact ⟨x, List.mem_append_left _ hx, e⟩
  · rw [List.length_append, List.length_singleton]; have := h.len; omega
theorem BInv.ne {Ls : List (List KV)} {k : Nat} {S : List Src} (h : BInv Ls k S) : NeS S.length S := fun _ s _ hs => (h.src s (List.mem_of_getElem? hs)).2.2
/-- With all lists in the heap the heads may be taken. -/
theorem BInv.start {Ls : List (List KV)} {S : List Src} (h : BInv Ls Ls.length S) : MInv Ls (fun _ => 0) S [] := by
  refine ⟨h.nod, fun s hs => ⟨s.L, (h.src s hs).2.1, rfl, List.length_pos_iff.2 (h.src s hs).2.2⟩, fun i L h1 h2 => h.all i L (List.getElem?_eq_some_iff.1 h1).1 h1 (List.length_pos_iff.1 h2), fun _ _ _ => Nat.zero_le _, fun _ _ _ t _ _ ht => absurd ht (Nat.not_lt_zero _), rfl, fun o ho => (by cases ho), fun _ _ t _ _ ht => absurd ht (Nat.not_lt_zero _), fun m => ⟨fun hm => (by cases hm), fun ⟨_, _, _, ⟨t, ht, _⟩, _⟩ => absurd ht (Nat.not_lt_zero _)⟩, fun _ _ _ _ t _ _ ht => absurd ht (Nat.not_lt_zero _)⟩
theorem HpW.tn {w0 w w' : World} {p : Nat} {v : Value} {S : List Src} (h : HpW w0 w p v S) {T : Obj → Bool} (t : Tn w0.heap.size T w w') (h1 : ∀ cs fr, T (.cells cs 43 fr) = false) (h2 : ∀ cs fr, T (.cells cs 40 fr) = false) : HpW w0 w' p v S :=
  ⟨⟨t.blk h.hp.blk (h2 _ _), h.hp.own.tn t h1, h.hp.low⟩, h.ins, h.bel.trans (t.below h.bel.size), h.le⟩
theorem HpW.up {w0 w w' : World} {p : Nat} {v : Value} {S : List Src} (h : HpW w0 w p v S) (hb : Below w.heap.size w w') : HpW w0 w' p v S :=
  h.tn (T := fun _ => false) (Tn.of_below hb) (fun _ _ => rfl) (fun _ _ => rfl)
set_option maxRecDepth 100000 in
set_option maxHeartbeats 4000000 in
theorem begun_any (w0 : World) (A : Option Addr) (n c : Nat) (Ls : List (List KV)) (w : World) (h : ListsAt w0 A n Ls) (hb : Below w0.heap.size w0 w) (hn : n ≤ 90000) :
    Calls Try.prog 18 #[.slice A n c] w fun e w' => ∃ p v S, e = .returned v ∧ HpW w0 w' p v S ∧ HeapO lessS S S.length ∧ BInv Ls n S ∧ Tn w0.heap.size mgT w w' := by
  have H := Lib.hid h
  have HL := Lib.hid h.len
  have hnI : (n : Int) ≤ 90000 := by omega
  obtain ⟨w1, hw1⟩ : ∃ w1, w1 = w.alloc (.cells #[.slice none 0 0] 40) := ⟨_, rfl⟩
  have P0 : HpW w0 w1 w.heap.size (.slice none 0 0) [] := by
    refine ⟨⟨by rw [hw1]; exact Blk.new _ _ _, World.ownsRow_nil _ _ _ _, hb.size⟩, fun s hs => (by cases hs), (by rw [hw1]; exact below_alloc hb (Nat.le_refl _) _), by simp⟩
  have HP0 := Lib.hid P0
  have T0 : Hid (Tn w0.heap.size mgT w w1) := Lib.hid (by rw [hw1]; exact (Tn.refl _ _ w).alloc _)
  clear h P0 hb
  go_enter Try.func18, Try.ntmps18
  go_wp2_with fail
  rw [← hw1]
  clear hw1
  go_loopw [8] (fun i wr => ∃ (k : Nat) (v : Value) (S : List Src), k ≤ n ∧ i = .int .i64 (k : Int) ∧ Hid (HpW w0 wr w.heap.size v S) ∧ Hid (HeapO lessS S S.length) ∧ Hid (BInv Ls k S) ∧ Hid (Tn w0.heap.size mgT w wr)) (fun i _ => n - (intOf i).toNat)
  case atStart => exact ⟨0, _, [], by omega, rfl, HP0, Lib.hid (fun c x y _ hc => by simp at hc), Lib.hid ⟨List.nodup_nil, fun s hs => (by cases hs), fun i L hi => (by omega), Nat.le_refl _⟩, T0⟩
  case round =>
    obtain ⟨k, v, S, hk, rfl, HP, HO, HB, HT⟩ := hrel
    by_cases hl : k < n
    · have g1 : (k : Int) < (n : Int) := Int.ofNat_lt.2 hl
      have g2 : (0 : Int) ≤ (k : Int) := Int.natCast_nonneg k
      have w1' : wrap64 ((k : Int) + 1) = (k : Int) + 1 := by unfold wrap64; omega
      have hkL : k < Ls.length := by rw [← HL.out]; exact hl
      have hs := List.getElem?_eq_getElem hkL
      generalize Ls[k] = L at hs
      obtain ⟨g, off, B, ni, ci, rfl, hg, hc, hK, hcp⟩ := H.out.at_ k L hs
      have hc1 : wr.cell? ⟨g, off + k, none⟩ = some (.slice B ni ci) := (HP.out.bel.cell (p := ⟨g, off + k, none⟩) hg).trans hc
      have hlen := hK.len
      by_cases h0 : 0 < ni
      · have e0 : (0 : Int) < (ni : Int) := Int.ofNat_lt.2 h0
        have hne : L ≠ [] := fun e => by rw [e] at hlen; simp at hlen; omega
        have CP := Lib.hid (hpush_any w0 w.heap.size v S ⟨B, ni, ci, k, L⟩ wr HP.out HO.out HB.out.ne ⟨⟨hK, hcp⟩, hne⟩ (by have := HB.out.len; omega))
        have HB2 := Lib.hid (HB.out.push (s := ⟨B, ni, ci, k, L⟩) rfl hs hne)
        clear hs hkL hc hK hlen hne h0
        go_wp2_with fail
        refine CP.out.mono ?_
        rintro e w2 ⟨rfl, v2, S2, hp2, ho2, hh2, ht2⟩
        have HB3 := Lib.hid (HB2.out.perm hp2)
        have HH := Lib.hid hh2
        have HO2 := Lib.hid ho2
        have HT2 := Lib.hid (HT.out.trans ht2)
        clear hp2 ho2 hh2 ht2 CP HB2
        go_wp2_with fail
        go_roundw
        case rel => exact ⟨k + 1, v2, S2, hl, by go_num, HH, HO2, HB3, HT2⟩
        case measure => simp [intOf]; omega
      · have e0 : ¬ (0 : Int) < (ni : Int) := by omega
        have hL0 : L = [] := List.eq_nil_of_length_eq_zero (by omega)
        subst hL0
        have HB3 := Lib.hid (HB.out.none hs)
        clear hs hkL hc hK hlen h0
        go_wp2_with fail
        go_roundw
        case rel => exact ⟨k + 1, v, S, hl, by go_num, HP, HO, HB3, HT⟩
        case measure => simp [intOf]; omega
    · obtain rfl : k = n := by omega
      have g3 : ¬ (k : Int) < (k : Int) := Int.lt_irrefl _
      have c0 : wr.cell? ⟨w.heap.size, 0, none⟩ = some v := HP.out.hp.blk.cell 0
      obtain ⟨a, c', rfl⟩ := HP.out.hp.own.slice
      go_wp2_with fail
      go_ret
      exact ⟨_, _, rfl, S, HP.out, HO.out, HB.out, HT.out⟩
end Go.Proofs.Yteackdafggomhaa

namespace Go.Proofs.Yteackdafggomhaa
open Go.RowKit

/-- What a step answers, and where it gives up. -/
def StepP (w0 w : World) (p : Nat) (S : List Src) (a : Src) (e : Ending) (w' : World) : Prop :=
  Tn w0.heap.size mgT w w' ∧ match a.L with
  | x :: y :: r => if cmpT x.1 y.1 < 0 then e = .returned (.tuple #[]) ∧ ∃ v' S' b rest, (a :: rest).Perm S ∧ b.k = a.k ∧ b.L = y :: r ∧ S'.Perm (b :: rest) ∧ HeapO lessS S' S'.length ∧ HpW w0 w' p v' S'
      else e = .panicked [{ v := .iface 26 (.int .i64 32), recovered := false }]
  | _ => e = .returned (.tuple #[]) ∧ ∃ v' S', (a :: S').Perm S ∧ HeapO lessS S' S'.length ∧ HpW w0 w' p v' S'
abbrev gaveM : Ending := .panicked [{ v := .iface 26 (.int .i64 32), recovered := false }]
theorem set0_perm {α : Type} {S : List α} {a b : α} (h : S[0]? = some a) : ∃ rest, (a :: rest).Perm S ∧ S.set 0 b = b :: rest ∧ S = a :: rest := by
  cases S with
  | nil => simp at h
  | cons x r =>
    simp at h
    subst h
    exact ⟨r, List.Perm.refl _, rfl, rfl⟩
set_option maxRecDepth 100000 in
set_option maxHeartbeats 4000000 in
theorem sstep_any (w0 : World) (p : Nat) (v : Value) (S : List Src) (a : Src) (w : World) (h : HpW w0 w p v S) (hO : HeapO lessS S S.length) (hne : NeS S.length S) (ha : S[0]? = some a) (hL : a.L.length ≤ 1000000) :
    Calls Try.prog 19 #[.pointer (some ⟨p, 0, none⟩)] w (StepP w0 w p S a) := by
  have hS : 0 < S.length := (List.getElem?_eq_some_iff.1 ha).1
  obtain ⟨g, c, cur, ev, hgB, hcur⟩ := h.hp.own.some_ hS
  subst ev
  obtain ⟨x0, x1⟩ := src_cells h.hp.own ha
  have hK := h.at_ ha
  have hcap := (h.ins a (List.mem_of_getElem? ha)).2
  have hane := hne 0 a hS ha
  obtain ⟨ga, oa, ea, hga, k0, hn0, u, r, hLr, _⟩ := head_at hK hane
  have hal := hK.len
  rw [hLr] at hal
  have hal : a.n = r.length + 1 := hal
  obtain ⟨rest, hpr, hset, hSr⟩ := set0_perm ha (b := (⟨if a.c = 1 then some ⟨ga, oa, none⟩ else some ⟨ga, oa + 2, none⟩, r.length, a.c - 1, a.k, r⟩ : Src))
  generalize hb : (⟨if a.c = 1 then some ⟨ga, oa, none⟩ else some ⟨ga, oa + 2, none⟩, r.length, a.c - 1, a.k, r⟩ : Src) = b at hset hpr
  have bA : b.A = if a.c = 1 then some ⟨ga, oa, none⟩ else some ⟨ga, oa + 2, none⟩ := by rw [← hb]
  have bn : b.n = r.length := by rw [← hb]
  have bc : b.c = a.c - 1 := by rw [← hb]
  have bk : b.k = a.k := by rw [← hb]
  have bL : b.L = r := by rw [← hb]
  clear hb
  obtain ⟨w1, hw1⟩ : ∃ w1, w1 = w.setCell ⟨g, 0, none⟩ (.slice b.A b.n b.c) := ⟨_, rfl⟩
  have t1 : Tn w0.heap.size (cellsT 43) w w1 := by rw [hw1]; exact (Tn.refl _ _ w).setCell (p := ⟨g, 0, none⟩) (Or.inr ⟨hgB, _, hcur, by simp [cellsT]⟩) _
  have t2 : Tn w0.heap.size mgT w w1 := t1.mono fun o ho => by unfold mgT at ho; exact (Bool.or_eq_false_iff.1 ho).1
  have hOw : Own elSrc w1 w0.heap.size 43 (.slice (some ⟨g, 0, none⟩) S.length c) (S.set 0 b) := by
    have h1 := (World.ownsRow.stored (show w.ownsRow w0.heap.size 43 elSrc.sz (.slice (some ⟨g, 0, none⟩) S.length c) S.length (elSrc.row S) from h.hp.own) 0 (.slice b.A b.n b.c)).1
    rw [← hw1] at h1
    unfold Own
    rw [List.length_set]
    have e : (elSrc.row S).set 0 (.slice b.A b.n b.c) = elSrc.row (S.set 0 b) := by
      rw [hset, hSr]
      show ([Value.slice a.A a.n a.c, .int .i64 (a.k : Int)] ++ elSrc.row rest).set 0 _ = [Value.slice b.A b.n b.c, .int .i64 (b.k : Int)] ++ elSrc.row rest
      rw [bk]
      rfl
    rw [← e]
    exact h1
  have hKb : KeysAt w0 b.A b.n b.L ∧ b.n ≤ b.c := by
    have hK0 := (h.ins a (List.mem_of_getElem? ha)).1
    refine ⟨⟨by rw [bn, bL], fun i m hm => ?_⟩, by rw [bn, bc]; omega⟩
    rw [bL] at hm
    have hr := (List.getElem?_eq_some_iff.1 hm).1
    obtain ⟨g', o', e', hg', z0, z1⟩ := hK0.at_ (i + 1) m (by rw [hLr]; exact hm)
    rw [ea] at e'
    cases e'
    refine ⟨ga, oa + 2, by rw [bA, if_neg (by omega)], hg', ?_, ?_⟩
    · rw [show oa + 2 + i * 2 = oa + (i + 1) * 2 by omega]; exact z0
    · rw [show oa + 2 + i * 2 + 1 = oa + (i + 1) * 2 + 1 by omega]; exact z1
  have hins : InS w0 (S.set 0 b) := fun s hs => by
    rw [hset] at hs
    rcases List.mem_cons.1 hs with rfl | hs
    · exact hKb
    · exact h.ins s (by rw [hSr]; exact List.mem_cons_of_mem _ hs)
  have H1 : HpW w0 w1 p (.slice (some ⟨g, 0, none⟩) S.length c) (S.set 0 b) := ⟨⟨t1.blk h.hp.blk (cellsT_ne (by decide) _ _), hOw, h.hp.low⟩, hins, h.bel.trans (t2.below h.bel.size), by rw [List.length_set]; exact h.le⟩
  have hD := hO.set0 b
  have hlen : (S.set 0 b).length = S.length := List.length_set
  rw [← hlen] at hD
  have hb0 : (S.set 0 b)[0]? = some b := by rw [hset]; rfl
  have hne1 : ∀ k s, 0 < k → (S.set 0 b)[k]? = some s → s.L ≠ [] := fun k s hk hs => by
    rw [List.getElem?_set, if_neg (by omega)] at hs
    exact hne k s (List.getElem?_eq_some_iff.1 hs).1 hs
  have HSr := Lib.hid hSr
  have HSet := Lib.hid hset
  have HLr := Lib.hid hLr
  have HBK := Lib.hid bk
  have HBL := Lib.hid bL
  have HT2 := Lib.hid t2
  have H1 := Lib.hid H1
  have HD := Lib.hid hD
  have HB0 := Lib.hid hb0
  have HNE1 := Lib.hid hne1
  have HLN := Lib.hid hlen
  have HKb := Lib.hid (hKb.1.below (H1.out.bel))
  have HAL : Hid (r.length ≤ 1000000) := Lib.hid (by rw [hLr] at hL; simp at hL; omega)
  rw [ea, hal] at x0
  have c0 : w.cell? ⟨p, 0, none⟩ = some (.slice (some ⟨g, 0, none⟩) S.length c) := h.hp.blk.cell 0
  have y0 : w1.cell? ⟨g, 0, none⟩ = some (.slice b.A b.n b.c) := (src_cells hOw hb0).1
  have fz := h.hp.own.frozen_ 0
  have g1 : (0 : Int) < (S.length : Int) := Int.ofNat_lt.2 hS
  rw [bA, bn, bc] at hw1
  have HW1 := Lib.hid hw1
  cases r with
  | nil =>
    have hm : (S.set 0 b).length = (S.length - 1) + 1 := by rw [hlen]; omega
    have CP := Lib.hid (hpop_any w0 p (S.length - 1) _ (S.set 0 b) b w1 H1.out HD.out hm hb0 hne1)
    have F : Hid (∀ w', (∃ v' S', (b :: S').Perm (S.set 0 b) ∧ HeapO lessS S' S'.length ∧ HpW w0 w' p v' S' ∧ Tn w0.heap.size mgT w1 w') → StepP w0 w p S a (.returned (.tuple #[])) w') := Lib.hid (by
      rintro w' ⟨v', S', hp, ho, hh, ht⟩
      refine ⟨HT2.out.trans ht, ?_⟩
      rw [HLr.out]
      refine ⟨rfl, v', S', ?_, ho, hh⟩
      rw [HSet.out] at hp
      rw [HSr.out]
      exact (List.Perm.cons_inv hp).cons a)
    rw [bA, bn, bc] at y0
    generalize S.length = ln at *
    clear h hO hne ha hL hS hgB hcur x1 hK hcap hane ea hga hn0 hLr hal hpr hset hSr bA bn bc bk bL t1 t2 hOw hKb hins hD hlen hb0 hne1 hm hw1
    go_enter Try.func19, Try.ntmps19
    go_upto_region 3 with fail
    have HW2 := HW1.out
    rw [List.length_nil] at HW2 y0
    rw [← HW2]
    clear HW2 HW1 x0 c0 k0
    generalize (if a.c = 1 then (some ⟨ga, oa, none⟩ : Option Addr) else some ⟨ga, oa + 2, none⟩) = A' at *
    go_wp2_with fail
    refine CP.out.mono ?_
    rintro e w2 ⟨⟨x, rfl⟩, hx⟩
    have F2 := Lib.hid (F.out w2 hx)
    clear hx F CP
    go_wp2_with fail
    go_end0
    exact F2.out
  | cons y r' =>
    have hc1 : ¬ a.c = 1 := by have : a.n = r'.length + 1 + 1 := hal; omega
    rw [if_neg hc1] at bA hw1 HW1
    obtain ⟨_, _, e', _, q0, _⟩ := HKb.out.at_ 0 y (by rw [HBL.out]; rfl)
    rw [bA] at e'
    cases e'
    rw [Nat.zero_mul, Nat.add_zero] at q0
    have hky : b.key = y.1 := by unfold Src.key; rw [bL]; rfl
    have hcx : cmpT a.key y.1 = cmpT (a.key, u).1 y.1 := rfl
    have CC := fun W => Lib.hid ((compare_any a.key y.1 W).mono fun e w' h => (⟨h.1, h.2.symm⟩ : e = .returned (.int .i64 (cmpT a.key y.1)) ∧ w' = W))
    have nz2 : (0 : Int) < ((y :: r').length : Int) := Int.ofNat_lt.2 (Nat.succ_pos _)
    have nz : (((y :: r').length : Int) == 0) = false := beq_eq_false_iff_ne.2 (by omega)
    rw [bA, bn, bc] at y0
    by_cases hlt : cmpT a.key y.1 < 0
    · have e1 : decide ((0 : Int) ≤ cmpT a.key y.1) = false := decide_eq_false (by omega)
      have hne2 : NeS (S.set 0 b).length (S.set 0 b) := fun k s hk hs => by
        by_cases e : k = 0
        · subst e
          rw [hb0] at hs
          cases hs
          rw [bL]
          exact List.cons_ne_nil _ _
        · exact hne1 k s (by omega) hs
      have CF := Lib.hid (hfix_any w0 p _ (S.set 0 b) w1 H1.out (by rw [hlen]; exact hS) HD.out hne2)
      have F : Hid (∀ w', (∃ v' S', S'.Perm (S.set 0 b) ∧ HeapO lessS S' S'.length ∧ HpW w0 w' p v' S' ∧ Tn w0.heap.size mgT w1 w') → StepP w0 w p S a (.returned (.tuple #[])) w') := Lib.hid (by
        rintro w' ⟨v', S', hp, ho, hh, ht⟩
        refine ⟨HT2.out.trans ht, ?_⟩
        rw [HLr.out]
        show if cmpT a.key y.1 < 0 then _ else _
        rw [if_pos hlt]
        refine ⟨rfl, v', S', b, rest, by rw [HSr.out], HBK.out, HBL.out, ?_, ho, hh⟩
        rw [HSet.out] at hp
        exact hp)
      generalize cmpT a.key y.1 = cm at *
      generalize (y :: r').length = lr at *
      generalize S.length = ln at *
      clear h hO hne ha hL hS hgB hcur x1 hK hcap hane ea hga hn0 hLr hal hpr hset hSr bA bn bc bk bL t1 t2 hOw hKb hins hD hlen hb0 hne1 hw1 hne2 hlt hcx hky
      go_enter Try.func19, Try.ntmps19
      go_upto_region 3 with fail
      rw [← HW1.out]
      clear HW1 x0 c0 k0
      go_wp2_with fail
      refine (CC _).out.mono ?_
      rintro e w2 ⟨rfl, rfl⟩
      go_wp2_with fail
      refine CF.out.mono ?_
      rintro e w3 ⟨rfl, hx⟩
      have F2 := Lib.hid (F.out w3 hx)
      clear hx F CF
      go_wp2_with fail
      go_end0
      exact F2.out
    · have e1 : decide ((0 : Int) ≤ cmpT a.key y.1) = true := decide_eq_true (by omega)
      have F : Hid (∀ w', w' = w1 → StepP w0 w p S a gaveM w') := Lib.hid (by
        rintro w' rfl
        refine ⟨HT2.out, ?_⟩
        rw [HLr.out]
        show if cmpT a.key y.1 < 0 then _ else _
        rw [if_neg hlt])
      generalize cmpT a.key y.1 = cm at *
      generalize (y :: r').length = lr at *
      generalize S.length = ln at *
      clear h hO hne ha hL hS hgB hcur x1 hK hcap hane ea hga hn0 hLr hal hpr hset hSr bA bn bc bk bL t1 t2 hOw hKb hins hD hlen hb0 hne1 hw1 hlt hcx hky
      go_enter Try.func19, Try.ntmps19
      go_upto_region 3 with fail
      rw [← HW1.out]
      clear HW1 x0 c0 k0
      go_wp2_with fail
      refine (CC _).out.mono ?_
      rintro e w2 ⟨rfl, rfl⟩
      go_wp2_with fail
      exact ⟨rfl, F.out _ rfl⟩
end Go.Proofs.Yteackdafggomhaa

namespace Go.Proofs.Yteackdafggomhaa
open Go.RowKit

def bname (i k : Nat) : ByteArray := ⟨#[109, UInt8.ofNat (65 + i % 26), UInt8.ofNat (65 + i / 26 % 26), UInt8.ofNat (48 + k % 10), UInt8.ofNat (48 + k / 10 % 10), UInt8.ofNat (48 + k / 100 % 10)]⟩

end Go.Proofs.Yteackdafggomhaa

namespace Go.Proofs.Yteackdafggomhaa
open Go.RowKit

def elKeys : El (ByteArray × ByteArray) := ⟨fun x => [.string x.1, .string x.2], 2, by decide, fun _ => rfl, fun x u hu => by simp at hu; rcases hu with rfl | rfl <;> rfl, fun i k => (bname i k, ⟨#[]⟩)⟩
def okKeys (x : ByteArray × ByteArray) : Prop := x.1.size ≤ 9223372036854775807 ∧ x.2.size ≤ 9223372036854775807
theorem okmKeys (i start n : Nat) : ∀ x ∈ elKeys.marks i start n, okKeys x := by
  intro x hx
  obtain ⟨k, _, rfl⟩ := List.mem_map.1 hx
  exact ⟨by show (6 : Nat) ≤ _; decide, by show (0 : Nat) ≤ _; decide⟩
theorem infoKeys : (Try.prog.info? 33).map (fun i => (i.zero, i.size, i.bytes)) = some (some (.agg #[.string ⟨#[]⟩, .string ⟨#[]⟩]), elKeys.sz, 32) := by kernel_rfl
theorem underKeys : Try.prog.underlying 25 = some (.slice 33) := by kernel_rfl
theorem keysS2 (x y : ByteArray) (hx : x.size ≤ maxLen) (hy : y.size ≤ maxLen) : Try.prog.keyLits 2 33 [.string x, .string y] = some [.string x.data.toList, .string y.data.toList] := by
  have hc : Try.prog.cellsOf 9 = 1 := by kernel_rfl
  have r2 : List.range 2 = [0, 1] := rfl
  have hl : Try.prog.cellsOf 33 = 2 := by kernel_rfl
  unfold Program.keyLits
  rw [Try.underlying33]
  simp [hl, r2, hc, Program.keyLits, Try.underlying9, hx, hy]
theorem eqS2 (x y : ByteArray) (hx : x.size ≤ maxLen) (hy : y.size ≤ maxLen) (W : World) : (binOp .eql 33 (.agg #[.string x, .string y]) (.agg #[.string x, .string y])).run Try.prog W = .ok (.bool true) W := by
  rw [run_eql_struct]
  obtain ⟨r, hr, hiff⟩ := run_equalIn_deep (P := Try.prog) 9998 2 33 (by kernel_rfl) W 2 2 (.agg #[.string x, .string y]) (.agg #[.string x, .string y]) _ _ (by kernel_rfl) (by kernel_rfl) (keysS2 x y hx hy) (keysS2 x y hx hy)
  rw [show (10000 : Nat) = 9998 + 2 from rfl, hr]
  have : r = true := hiff.2 rfl
  subst this
  rfl

set_option maxRecDepth 100000 in
set_option maxHeartbeats 1000000 in
theorem sameKeys_any (A1 A2 : Option Addr) (n1 n2 c1 c2 B1 B2 : Nat) (L : List (ByteArray × ByteArray)) (w : World) (h1 : Own elKeys w B1 33 (.slice A1 n1 c1) L) (h2 : Own elKeys w B2 33 (.slice A2 n2 c2) L) (hL : L.length ≤ 1000000) (hok : ∀ x ∈ L, okKeys x) :
    Calls Try.prog 9 #[.slice A1 n1 c1, .slice A2 n2 c2] w fun e w' => e = .returned (.bool true) ∧ ∃ q, w' = w.drewN q := by
  have r1 := own_reads h1
  have r2 := own_reads h2
  obtain ⟨rfl, _, rd1⟩ := r1
  obtain ⟨rfl, _, rd2⟩ := r2
  have f1 := fun hn => Own.some_ h1 hn
  have f2 := fun hn => Own.some_ h2 hn
  obtain ⟨n, hn⟩ : ∃ n, n = L.length := ⟨_, rfl⟩
  have HL := Lib.hid hn
  rw [← hn] at f1 f2 hL ⊢
  have H1 := Lib.hid h1
  have H2 := Lib.hid h2
  have F1 := Lib.hid f1
  have F2 := Lib.hid f2
  have hL' : (n : Int) ≤ 1000000 := by omega
  clear h1 h2 rd1 rd2 f1 f2 hn
  go_enter Try.func9, Try.ntmps9
  go_wp2_with fail
  go_loopw [5] (fun i wr => ∃ k q : Nat, k ≤ n ∧ i = .int .i64 (k : Int) ∧ Hid (wr = w.drewN q)) (fun i _ => n - (intOf i).toNat)
  case atStart => exact ⟨0, 0, by omega, rfl, rfl⟩
  case round =>
    obtain ⟨k, q, hk, rfl, Hw⟩ := hrel
    by_cases hl : k < n
    · obtain ⟨g1, d1, cur1, e1, _⟩ := F1.out (by omega)
      obtain ⟨g2, d2, cur2, e2, _⟩ := F2.out (by omega)
      injection e1 with e1 e1b e1c
      injection e2 with e2 e2b e2c
      clear e1b e1c e2b e2c
      subst e1 e2
      have hkL : k < L.length := by rw [← HL.out]; exact hl
      obtain ⟨x, hx⟩ : ∃ x, L[k]? = some x := ⟨_, List.getElem?_eq_getElem hkL⟩
      have y0 : wr.cell? ⟨g1, k * 2, none⟩ = some (.string x.1) := by
        rw [Hw.out]
        have h9 := Own.cells (j := 0) H1.out hx (by decide) rfl
        rwa [show k * elKeys.sz + 0 = k * 2 from by show k * 2 + 0 = _; omega] at h9
      have y1 : wr.cell? ⟨g1, k * 2 + 1, none⟩ = some (.string x.2) := by
        rw [Hw.out]
        have h9 := Own.cells (j := 1) H1.out hx (by decide) rfl
        rwa [show k * elKeys.sz + 1 = k * 2 + 1 from by show k * 2 + 1 = _; omega] at h9
      have z0 : wr.cell? ⟨g2, k * 2, none⟩ = some (.string x.1) := by
        rw [Hw.out]
        have h9 := Own.cells (j := 0) H2.out hx (by decide) rfl
        rwa [show k * elKeys.sz + 0 = k * 2 from by show k * 2 + 0 = _; omega] at h9
      have z1 : wr.cell? ⟨g2, k * 2 + 1, none⟩ = some (.string x.2) := by
        rw [Hw.out]
        have h9 := Own.cells (j := 1) H2.out hx (by decide) rfl
        rwa [show k * elKeys.sz + 1 = k * 2 + 1 from by show k * 2 + 1 = _; omega] at h9
      have ox := hok x (List.mem_of_getElem? hx)
      obtain ⟨xa, xb⟩ := x
      have EQ := eqS2 xa xb ox.1 ox.2
      have hl1 : (k : Int) < (n : Int) := by omega
      clear hx hkL
      go_wp2_with fail
      go_quiet (fail)
      go_wp2_with fail
      go_roundw
      case rel => exact ⟨k + 1, _, by omega, by go_num, (by rw [Hw.out, World.drewN_drewN]; rfl)⟩
      case measure => simp [intOf]; omega
    · obtain rfl : k = n := by omega
      go_wp2_with fail
      go_ret
      exact ⟨rfl, q, Hw.out⟩
end Go.Proofs.Yteackdafggomhaa

namespace Go.Proofs.Yteackdafggomhaa
open Go.RowKit

set_option maxHeartbeats 400000 in
theorem mg_catch (a b : Nat) (x y : Value) (er : Int) (older : List PanicEntry) (w : World) (ha : w.cell? ⟨a, 0, none⟩ = some x) (hb : w.cell? ⟨b, 0, none⟩ = some y)
    (fa : w.frozen? ⟨a, 0, none⟩ = false) (fb : w.frozen? ⟨b, 0, none⟩ = false) (hab : a ≠ b) :
    CallsD Try.prog 16 #[.pointer (some ⟨a, 0, none⟩), .pointer (some ⟨b, 0, none⟩)] (.panicking ({ v := .iface 26 (.int .i64 er), recovered := false } :: older)) w fun e u' w' =>
      e = .returned (.tuple #[]) ∧ u' = .panicking ({ v := .iface 26 (.int .i64 er), recovered := true } :: older) ∧
        w' = (w.setCell ⟨a, 0, none⟩ (.slice none 0 0)).setCell ⟨b, 0, none⟩ (.int .i64 er) := by
  refine callsD_of_wpS Try.func16 rfl fun c₀ cs hu => ?_
  apply wpS_seq
  apply wpS_region
  simp [wpOpsS, go_sem, recoverD, hu, Try.ntmps16, Exit.thenS]
  refine wpS_of_wp ?_
  simp [Array.replicate]
  go_wp2_with fail
  refine (told_errno _ _).mono ?_
  rintro e w' ⟨rfl, rfl⟩
  go_wp2
  simp [bodyPostS, results, Try.results16]
set_option maxHeartbeats 400000 in
theorem mg_idle (a b : Value) (w : World) :
    CallsD Try.prog 16 #[a, b] .returning w fun e u' w' => e = .returned (.tuple #[]) ∧ u' = .returning ∧ w' = w := by
  refine callsD_of_wpS Try.func16 rfl fun c₀ cs hu => ?_
  apply wpS_seq
  apply wpS_region
  simp [wpOpsS, go_sem, recoverD, hu, Try.ntmps16, Exit.thenS]
  refine wpS_of_wp ?_
  simp [Array.replicate]
  go_wp2
  cases c₀
  simp_all [bodyPostS, results, Try.results16]
/-- What gave up is recovered: the results are set anew. -/
theorem mend_err (w2 : World) (p : Nat) (t : Array Value) (er : Int) (x y : Value) {R : Ending → World → Prop} (Ba : Blk w2 p 25 #[x]) (Bb : Blk w2 (p + 1) 26 #[y])
    (t2 : t[2]?.getD undef = .pointer (some ⟨p, 0, none⟩)) (t3 : t[3]?.getD undef = .pointer (some ⟨p + 1, 0, none⟩)) (h : R (.returned (.tuple #[.slice none 0 0, .int .i64 er])) ((w2.setCell ⟨p, 0, none⟩ (.slice none 0 0)).setCell ⟨p + 1, 0, none⟩ (.int .i64 er))) :
    bodyPostD Try.prog Try.f8 R (Exit.panic [{ v := .iface 26 (.int .i64 er), recovered := false }])
      { tmps := t, defers := [{ target := Target.fn (Fn.func 16) #[.pointer (some ⟨p, 0, none⟩), .pointer (some ⟨p + 1, 0, none⟩)], args := #[] }] } w2 := by
  have E0 := (Ba.set_ 0 (.slice none 0 0)).far (p := ⟨p + 1, 0, none⟩) (by dsimp only; omega) (.int .i64 er)
  have E1 := (Bb.far (p := ⟨p, 0, none⟩) (by dsimp only; omega) (.slice none 0 0)).set_ 0 (.int .i64 er)
  refine leaves_cons (f := 16) (args := #[.pointer (some ⟨p, 0, none⟩), .pointer (some ⟨p + 1, 0, none⟩)]) (by simp) (by simp [go_sem]) ?_
  refine (mg_catch p (p + 1) x y er [] _ (Ba.cell 0) (Bb.cell 0) (Ba.frozen 0) (Bb.frozen 0) (by omega)).mono ?_
  rintro e u' w'' ⟨rfl, rfl, rfl⟩
  generalize (w2.setCell ⟨p, 0, none⟩ (.slice none 0 0)).setCell ⟨p + 1, 0, none⟩ (.int .i64 er) = w3 at *
  have c0 : w3.cell? ⟨p, 0, none⟩ = some (.slice none 0 0) := E0.cell 0
  have e1 : w3.cell? ⟨p + 1, 0, none⟩ = some (.int .i64 er) := E1.cell 0
  simp [Leaves, settle, results, Try.results8, go_sem, c0, e1, t2, t3]
  exact h
/-- What is told stands in the results. -/
theorem mend_ok (w2 : World) (p : Nat) (t : Array Value) (A : Option Addr) (n c : Nat) {R : Ending → World → Prop} (Ba : Blk w2 p 25 #[.slice A n c]) (Bb : Blk w2 (p + 1) 26 #[.int .i64 0])
    (t2 : t[2]?.getD undef = .pointer (some ⟨p, 0, none⟩)) (t3 : t[3]?.getD undef = .pointer (some ⟨p + 1, 0, none⟩)) (h : R (.returned (.tuple #[.slice A n c, .int .i64 0])) w2) :
    bodyPostD Try.prog Try.f8 R Exit.ret
      { tmps := t, defers := [{ target := Target.fn (Fn.func 16) #[.pointer (some ⟨p, 0, none⟩), .pointer (some ⟨p + 1, 0, none⟩)], args := #[] }] } w2 := by
  have c0 : w2.cell? ⟨p, 0, none⟩ = some (.slice A n c) := Ba.cell 0
  have e1 : w2.cell? ⟨p + 1, 0, none⟩ = some (.int .i64 0) := Bb.cell 0
  refine leaves_cons (f := 16) (args := #[.pointer (some ⟨p, 0, none⟩), .pointer (some ⟨p + 1, 0, none⟩)]) (by simp) (by simp [go_sem]) ?_
  refine (mg_idle _ _ _).mono ?_
  rintro e u' w'' ⟨rfl, rfl, rfl⟩
  simp [Leaves, settle, results, Try.results8, go_sem, c0, e1, t2, t3]
  exact h
/-- How many pairs are left. -/
def leftS (S : List Src) : Nat := (S.map (·.L.length)).sum
theorem leftS_perm {S T : List Src} (h : S.Perm T) : leftS S = leftS T := (h.map _).sum_nat
/-- What Merge answers. -/
def MergeP (w : World) (Ls : List (List KV)) (e : Ending) (w' : World) : Prop :=
  w.grownBy w' none ∧ ((∀ L ∈ Ls, risesK L = true) → ∃ v R, e = .returned (.tuple #[v, .int .i64 0]) ∧ Own elKeys w' w.heap.size 33 v R ∧ IsMerge Ls R) ∧
    ((¬ ∀ L ∈ Ls, risesK L = true) → e = .returned (.tuple #[.slice none 0 0, .int .i64 32]))

/-- What lies while heads are taken: the heap, what is told, and the results' cells. -/
structure MgSt (w wr : World) (p : Nat) (v vo : Value) (S : List Src) (out : List KV) : Prop where
  hp : HpW w wr p v S
  heap : HeapO lessS S S.length
  own : Own elKeys wr w.heap.size 33 vo out
  bo : Blk wr w.heap.size 25 #[vo]
  be : Blk wr (w.heap.size + 1) 26 #[.int .i64 0]
theorem MInv.ne {Ls : List (List KV)} {pos : Nat → Nat} {S : List Src} {out : List KV} (h : MInv Ls pos S out) : NeS S.length S := fun k s _ hs e => by
  obtain ⟨L, h1, h2, h3⟩ := h.src s (List.mem_of_getElem? hs)
  have := congrArg List.length h2
  rw [e, List.length_drop] at this
  simp at this
  omega
theorem keysAlloc {w : World} {B : Nat} {v : Value} {L : List KV} (h : Own elKeys w B 33 v L) (o : Obj) : Own elKeys (w.alloc o) B 33 v L := World.ownsRow.alloc h o
theorem MgSt.alc {w wr : World} {p : Nat} {v vo : Value} {S : List Src} {out : List KV} (h : MgSt w wr p v vo S out) (o : Obj) : MgSt w (wr.alloc o) p v vo S out :=
  ⟨h.hp.up (below_alloc (Below.refl _ _) (Nat.le_refl _) _), h.heap, keysAlloc h.own o, h.bo.alloc o, h.be.alloc o⟩
theorem MgSt.drewN {w wr : World} {p : Nat} {v vo : Value} {S : List Src} {out : List KV} (h : MgSt w wr p v vo S out) (q : Nat) : MgSt w (wr.drewN q) p v vo S out :=
  ⟨h.hp.drewN q, h.heap, h.own.below (below_g (only_drewN (grefl wr none) q)), h.bo, h.be⟩
/-- The heap turned: what is told stays. -/
theorem MgSt.heaped {w wr w' : World} {p : Nat} {v vo v' : Value} {S S' : List Src} {out : List KV} (h : MgSt w wr p v vo S out) (hp : HpW w w' p v' S') (ho : HeapO lessS S' S'.length) (t : Tn w.heap.size mgT wr w') : MgSt w w' p v' vo S' out :=
  ⟨hp, ho, h.own.tn t (fun cs fr => mgT_ne (by decide) (by decide) cs fr), t.blk h.bo (mgT_ne (by decide) (by decide) _ _), t.blk h.be (mgT_ne (by decide) (by decide) _ _)⟩
/-- A pair more is told. -/
theorem MgSt.told {w wr w' : World} {p : Nat} {v vo vo' : Value} {S : List Src} {out out' : List KV} (h : MgSt w wr p v vo S out) (hg : wr.grownBy w' vo.ownBlock) (ho : Own elKeys w' w.heap.size 33 vo' out') : MgSt w (w'.setCell ⟨w.heap.size, 0, none⟩ vo') p v vo' S out' := by
  have t : Tn w.heap.size (cellsT 33) wr w' := (Tn.refl _ _ wr).grow h.own hg
  have b1 := t.blk h.bo (cellsT_ne (by decide) _ _)
  have b2 := t.blk h.be (cellsT_ne (by decide) _ _)
  have t2 : Tn w.heap.size (cellsT 25) w' (w'.setCell ⟨w.heap.size, 0, none⟩ vo') := (Tn.refl _ _ w').setCell (p := ⟨w.heap.size, 0, none⟩) (Or.inr ⟨Nat.le_refl _, _, b1, by simp [cellsT]⟩) _
  exact ⟨(h.hp.tn t (fun cs fr => cellsT_ne (by decide) cs fr) (fun cs fr => cellsT_ne (by decide) cs fr)).tn t2 (fun cs fr => cellsT_ne (by decide) cs fr) (fun cs fr => cellsT_ne (by decide) cs fr), h.heap, ho.tn t2 (fun cs fr => cellsT_ne (by decide) cs fr), b1.set_ 0 _, b2.far (p := ⟨w.heap.size, 0, none⟩) (by dsimp only; omega) _⟩
/-- A step of the heap, and of what holds. -/
theorem MInv.stepS {Ls : List (List KV)} {pos : Nat → Nat} {S : List Src} {out : List KV} (h : MInv Ls pos S out) (hO : HeapO lessS S S.length) {a : Src} (ha : S[0]? = some a) {x : KV} {r : List KV} (hL : a.L = x :: r) :
    ∃ L0, Ls[a.k]? = some L0 ∧ L0[pos a.k]? = some x ∧ (∀ i, r[i]? = L0[pos a.k + 1 + i]?) ∧ x.1 = a.key ∧
      (∀ rest, (a :: rest).Perm S → r = [] → MInv Ls (fun i => if i = a.k then pos i + 1 else pos i) rest (tellP out x)) ∧
      (∀ rest b y r', (a :: rest).Perm S → r = y :: r' → cmpT x.1 y.1 < 0 → b.k = a.k → b.L = r → MInv Ls (fun i => if i = a.k then pos i + 1 else pos i) (b :: rest) (tellP out x)) := by
  obtain ⟨L0, h1, h2, h3⟩ := h.src a (List.mem_of_getElem? ha)
  have hk : x.1 = a.key := by unfold Src.key; rw [hL]; rfl
  have hx : L0[pos a.k]? = some x := by
    have := congrArg (fun l : List KV => l[0]?) h2
    simp only [hL, List.getElem?_drop, List.getElem?_cons_zero, Nat.add_zero] at this
    exact this.symm
  have hr : L0.drop (pos a.k + 1) = r := by
    have := congrArg List.tail h2
    rw [hL, List.tail_drop] at this
    exact this.symm
  have hmin : ∀ rest, (a :: rest).Perm S → ∀ s ∈ rest, lessS s a = false := fun rest hp s hs => by
    obtain ⟨i, hi, e⟩ := List.getElem_of_mem (hp.mem_iff.1 (List.mem_cons_of_mem a hs))
    exact hO.first ordS (Nat.le_refl _) ha i s hi (by rw [List.getElem?_eq_getElem hi, e])
  refine ⟨L0, h1, hx, fun i => by rw [← hr, List.getElem?_drop], hk, fun rest hp e => ?_, fun rest b y r' hp e hlt hbk hbL => ?_⟩
  · refine (h.perm hp).step (hmin rest hp) h1 hx hk none ?_
    have := congrArg List.length hr
    rw [e, List.length_drop] at this
    simp at this
    show L0.length = pos a.k + 1
    omega
  · refine (h.perm hp).step (hmin rest hp) h1 hx hk (some b) ?_
    have hlen := congrArg List.length hr
    rw [e, List.length_drop, List.length_cons] at hlen
    have hbk2 : b.key = y.1 := by unfold Src.key; rw [hbL, e]; rfl
    refine ⟨hbk, by rw [hbL, hr], by omega, by rw [hbk2]; exact hlt, fun z hz => ?_⟩
    have h0 : r[0]? = L0[pos a.k + 1]? := by rw [← hr, List.getElem?_drop, Nat.add_zero]
    rw [← h0, e] at hz
    cases hz
    exact hbk2.symm
end Go.Proofs.Yteackdafggomhaa

namespace Go.Proofs.Yteackdafggomhaa
open Go.RowKit

theorem left_le {S : List Src} {b : Nat} (h : ∀ s ∈ S, s.L.length ≤ b) : leftS S ≤ S.length * b := by
  induction S with
  | nil => exact Nat.zero_le _
  | cons a r ih =>
    have h1 := ih fun s hs => h s (List.mem_cons_of_mem _ hs)
    have h2 := h a List.mem_cons_self
    have e : leftS (a :: r) = a.L.length + leftS r := by unfold leftS; simp
    rw [e, List.length_cons, Nat.add_mul, Nat.one_mul]
    omega
theorem eqlP' (a b : ByteArray) : (a.toList == b.toList) = decide (a = b) := by
  rw [Bool.eq_iff_iff, beq_iff_eq, decide_eq_true_eq]
  constructor
  · intro h
    rw [Lib.toList_data, Lib.toList_data] at h
    exact ByteArray.ext (Array.ext' h)
  · intro h; rw [h]
theorem out_cases (out : List KV) : out = [] ∨ ∃ o' o, out = o' ++ [o] := by
  rcases List.eq_nil_or_concat out with h | ⟨o', o, h⟩
  · exact Or.inl h
  · exact Or.inr ⟨o', o, by rw [h, List.concat_eq_append]⟩
/-- Is a pair told, and when. -/
theorem fresh_any (out : List KV) (x : KV) : ∃ fresh : Bool, (fresh = true → tellP out x = out ++ [x]) ∧ (fresh = false → tellP out x = out) ∧ (out = [] → fresh = true) ∧ (∀ o' o, out = o' ++ [o] → fresh = !(o.1.toList == x.1.toList)) := by
  rcases out_cases out with rfl | ⟨o', o, rfl⟩
  · exact ⟨true, fun _ => rfl, fun h => (by cases h), fun _ => rfl, fun o' o h => (by simp at h)⟩
  · have hgl : (o' ++ [o]).getLast? = some o := by simp
    have last : ∀ a' b', o' ++ [o] = a' ++ [b'] → b' = o := fun a' b' h => by
      have := congrArg List.getLast? h
      simp at this
      exact this.symm
    by_cases e : o.1 = x.1
    · refine ⟨false, fun h => (by cases h), fun _ => ?_, fun h => (by simp at h), fun a' b' h => ?_⟩
      · unfold tellP
        rw [hgl]
        simp only []
        rw [if_pos e]
      · rw [last a' b' h, e]
        simp
    · refine ⟨true, fun _ => ?_, fun h => (by cases h), fun _ => rfl, fun a' b' h => ?_⟩
      · unfold tellP
        rw [hgl]
        simp only []
        rw [if_neg e]
      · rw [last a' b' h, eqlP', decide_eq_false e]
        rfl
/-- What the results' cells turn. -/
def mgO (o : Obj) : Bool := cellsT 25 o || cellsT 26 o
theorem mgO_ne {t : TypeId} (h1 : t ≠ 25) (h2 : t ≠ 26) (cs : Array Value) (fr : Nat × Nat) : mgO (.cells cs t fr) = false := by
  unfold mgO
  rw [cellsT_ne h1, cellsT_ne h2]
  rfl
set_option maxRecDepth 100000 in
set_option maxHeartbeats 8000000 in
theorem mmerge_any (A : Option Addr) (n c : Nat) (Ls : List (List KV)) (w : World) (h : ListsAt w A n Ls) (hn : n ≤ 90000) (hlen : ∀ L ∈ Ls, L.length ≤ 1000000) :
    Calls Try.prog 8 #[.slice A n c] w (MergeP w Ls) := by
  have hmf : ∀ (fn : Fn) (first cap : Array Value) (w : World), (Instr.makeFunc fn first cap).run Try.prog w = .ok (.func fn first cap) w := fun _ _ _ _ => rfl
  have hb : Below w.heap.size w ((w.alloc (.cells #[.slice none 0 0] 25)).alloc (.cells #[.int .i64 0] 26)) := below_alloc (below_alloc (Below.refl _ _) (Nat.le_refl _) _) (Nat.le_refl _) _
  have b0 : Blk ((w.alloc (.cells #[.slice none 0 0] 25)).alloc (.cells #[.int .i64 0] 26)) w.heap.size 25 #[.slice none 0 0] := (Blk.new _ _ _).alloc _
  have b1 : Blk ((w.alloc (.cells #[.slice none 0 0] 25)).alloc (.cells #[.int .i64 0] 26)) (w.heap.size + 1) 26 #[.int .i64 0] := Blk.new' (by simp) _ _
  have CB := fun W (hW : Below w.heap.size w W) => Lib.hid (begun_any w A n c Ls W h hW hn)
  have HLEN := Lib.hid hlen
  have HLn := Lib.hid h.len
  have HN := Lib.hid hn
  clear h hlen hn
  go_enter_defers Try.func8, Try.ntmps8
  go_wp2_with fail
  generalize (w.alloc (.cells #[.slice none 0 0] 25)).alloc (.cells #[.int .i64 0] 26) = w1 at *
  have CB1 := CB w1 hb
  have HB0 := Lib.hid b0
  have HB1 := Lib.hid b1
  clear CB hb b0 b1
  refine CB1.out.mono ?_
  rintro e w4 ⟨p0, v, S, rfl, hp, ho, hbi, ht⟩
  have B0 := ht.blk HB0.out (mgT_ne (by decide) (by decide) _ _)
  have B1 := ht.blk HB1.out (mgT_ne (by decide) (by decide) _ _)
  obtain ⟨a0, c0, rfl⟩ := hp.hp.own.slice
  have hst : MgSt w (w4.alloc (.cells #[.slice a0 S.length c0] 40)) w4.heap.size (.slice a0 S.length c0) (.slice none 0 0) S [] :=
    ⟨⟨⟨Blk.new _ _ _, World.ownsRow.alloc hp.hp.own _, hp.bel.size⟩, hp.ins, below_alloc hp.bel (Nat.le_refl _) _, hp.le⟩, ho, World.ownsRow_nil _ _ _ _, B0.alloc _, B1.alloc _⟩
  have HST := Lib.hid hst
  have HMI : Hid (MInv Ls (fun _ => 0) S []) := Lib.hid (BInv.start (by rw [← HLn.out]; exact hbi))
  have HLE : Hid (([] : List KV).length + leftS S ≤ 90000000000) := Lib.hid (by
    have h1 := left_le (S := S) (b := 1000000) fun s hs => HLEN.out _ (List.mem_of_getElem? (hbi.src s hs).2.1)
    have h2 := hbi.len
    have h3 := HN.out
    have h4 : S.length * 1000000 ≤ 90000 * 1000000 := Nat.mul_le_mul_right _ (Nat.le_trans h2 h3)
    simp only [List.length_nil]
    omega)
  clear CB1 hp ho hbi ht B0 B1 hst HB0 HB1
  go_wp2_with fail
  generalize w4.alloc (.cells #[.slice a0 S.length c0] 40) = w5 at *
  generalize w4.heap.size = p at *
  go_loopg [] (leftS S) (fun k wr => ∃ (v vo : Value) (S : List Src) (out : List KV) (pos : Nat → Nat), Hid (MgSt w wr p v vo S out) ∧ Hid (MInv Ls pos S out) ∧ Hid (k = leftS S) ∧ Hid (out.length + leftS S ≤ 90000000000))
  case atStart => exact ⟨_, _, S, [], _, HST, HMI, Lib.hid rfl, HLE⟩
  case round =>
    obtain ⟨v, vo, S, out, pos, HS, HM, HG, HL⟩ := hrel
    obtain ⟨ao, co, rfl⟩ := HS.out.own.slice
    cases S with
    | nil =>
      obtain ⟨a', c', rfl⟩ := HS.out.hp.hp.own.slice
      have s0 : wr.cell? ⟨p, 0, none⟩ = some (.slice a' 0 c') := HS.out.hp.hp.blk.cell 0
      have Q0 := HS.out.bo
      have Q1 := HS.out.be
      have c0 : wr.cell? ⟨w.heap.size, 0, none⟩ = some (.slice ao out.length co) := Q0.cell 0
      have c1 : wr.cell? ⟨w.heap.size + 1, 0, none⟩ = some (.int .i64 0) := Q1.cell 0
      have f0 := Q0.frozen 0
      have f1 := Q1.frozen 0
      have X0 := Lib.hid ((Q0.set_ 0 (.slice ao out.length co)).far (p := ⟨w.heap.size + 1, 0, none⟩) (by dsimp only; omega) (.int .i64 0))
      have X1 := Lib.hid ((Q1.far (p := ⟨w.heap.size, 0, none⟩) (by dsimp only; omega) (.slice ao out.length co)).set_ 0 (.int .i64 0))
      have g1 : Tn 0 mgO wr (wr.setCell ⟨w.heap.size, 0, none⟩ (.slice ao out.length co)) := (Tn.refl 0 mgO wr).setCell (p := ⟨w.heap.size, 0, none⟩) (Or.inr ⟨Nat.zero_le _, _, Q0, by unfold mgO cellsT; simp⟩) _
      have g2 := g1.setCell (p := ⟨w.heap.size + 1, 0, none⟩) (Or.inr ⟨Nat.zero_le _, _, Q1.far (p := ⟨w.heap.size, 0, none⟩) (by dsimp only; omega) (.slice ao out.length co), by unfold mgO cellsT; simp⟩) (.int .i64 0)
      have XO := Lib.hid (HS.out.own.tn g2 (fun cs fr => mgO_ne (by decide) (by decide) cs fr))
      have XB := Lib.hid (below_setCell (below_setCell HS.out.hp.bel (p := ⟨w.heap.size, 0, none⟩) (Nat.le_refl _) (.slice ao out.length co)) (p := ⟨w.heap.size + 1, 0, none⟩) (by dsimp only; omega) (.int .i64 0))
      have HMD := Lib.hid HM.out.done
      clear Q0 Q1 g1 g2 HS HM HL HG HST HMI HLE
      generalize out.length = lo at *
      go_wp2_with fail
      exact mend_ok _ w.heap.size _ ao lo co X0.out X1.out rfl rfl ⟨g_below XB.out, fun _ => ⟨_, out, rfl, XO.out, HMD.out.1⟩, fun hnot => absurd HMD.out.2 hnot⟩
    | cons a rest =>
      have hst := HS.out
      obtain ⟨g, cs, rfl⟩ := hst.hp.slice (Nat.succ_pos _)
      have ha : (a :: rest)[0]? = some a := rfl
      obtain ⟨z0, z1⟩ := src_cells hst.hp.hp.own ha
      have hane := HM.out.ne 0 a (Nat.succ_pos _) ha
      obtain ⟨ga, oa, ea, hga, k0, hn0, u, r, hLr, k1⟩ := head_at (hst.hp.at_ ha) hane
      rw [ea, Nat.zero_mul] at z0
      have s0 : wr.cell? ⟨p, 0, none⟩ = some (.slice (some ⟨g, 0, none⟩) (a :: rest).length cs) := hst.hp.hp.blk.cell 0
      have g1 : (0 : Int) < ((a :: rest).length : Int) := Int.ofNat_lt.2 (Nat.succ_pos _)
      have g2 : (0 : Int) < (a.n : Int) := Int.ofNat_lt.2 hn0
      have g0 : decide (0 < (a :: rest).length) = true := decide_eq_true (Nat.succ_pos _)
      generalize hln : (a :: rest).length = ln at *
      have c0 : wr.cell? ⟨w.heap.size, 0, none⟩ = some (.slice ao out.length co) := hst.bo.cell 0
      obtain ⟨x, hx⟩ : ∃ x : KV, x = (a.key, u) := ⟨_, rfl⟩
      obtain ⟨L0, hL0, hpx, hri, hkx, M1, M2⟩ := HM.out.stepS hst.heap ha (show a.L = x :: r from by rw [hx]; exact hLr)
      have HH := Lib.hid (show a.L = x :: r from by rw [hx]; exact hLr)
      have D6 := Lib.hid (hst.alc (.cells #[.string a.key, .string u] 33))
      have Bq : Blk (wr.alloc (.cells #[.string a.key, .string u] 33)) wr.heap.size 33 #[.string a.key, .string u] := Blk.new _ _ _
      have BQ := Lib.hid Bq
      have HX := Lib.hid hx
      have hlo : out.length ≤ 90000000000 := by have := HL.out; omega
      obtain ⟨fresh, hf⟩ := fresh_any out x
      rw [hkx] at hf
      have HF := Lib.hid hf
      clear hf hx hLr hkx HST HMI HLE hst
      go_upto_region 5 with fail
      generalize wr.alloc (.cells #[.string a.key, .string u] 33) = w6 at *
      generalize wr.heap.size = q6 at *
      go_cut [32] from 18 to 32 (fun s wx => s = .bool fresh ∧ ∃ q, wx = w6.drewN q)
      case first =>
        as_aux_lemma =>
        have Bq := BQ.out
        have y0 : w6.cell? ⟨q6, 0, none⟩ = some (.string a.key) := Bq.cell 0
        have s2 : w6.cell? ⟨w.heap.size, 0, none⟩ = some (.slice ao out.length co) := D6.out.bo.cell 0
        rcases out_cases out with e | ⟨o', o, e⟩
        · have ef := HF.out.2.2.1 e
          subst ef
          rw [show out.length = 0 from by rw [e]; rfl] at s2
          clear Bq D6 HF
          go_quiet (fail)
          go_wp2_with fail
          go_meet
          exact ⟨rfl, _, rfl⟩
        · have ef := HF.out.2.2.2 o' o e
          have hlo2 : out.length = o'.length + 1 := by rw [e, List.length_append]; rfl
          have nz : ((out.length : Int) == 0) = false := beq_eq_false_iff_ne.2 (by omega)
          have d1 : wrap64 ((out.length : Int) - 1) = (o'.length : Int) := by unfold wrap64; omega
          have d4 : IntKind.i64.wrap ((out.length : Int) - 1) = (o'.length : Int) := by rw [IntKind.wrap_i64]; omega
          have d2 : (o'.length : Int) < (out.length : Int) := by omega
          have d3 : (0 : Int) ≤ (o'.length : Int) := by omega
          obtain ⟨go, co2, cur, ev, _, _⟩ := D6.out.own.some_ (by omega)
          have ho := D6.out.own
          rw [ev] at ho s2
          have hoo : out[o'.length]? = some o := by rw [e]; simp
          have y1 := Own.cells (j := 0) (u := .string o.1) ho hoo (by decide) rfl
          have y1 : w6.cell? ⟨go, o'.length * 2, none⟩ = some (.string o.1) := y1
          clear Bq D6 HF hoo ho ev e hlo2
          subst ef
          generalize out.length = lo at *
          generalize o'.length = lp at *
          cases hb : (o.1.toList == a.key.toList)
          all_goals
            go_quiet (fail)
            go_wp2_with fail
            go_meet
            exact ⟨by rw [hb]; rfl, _, rfl⟩
      case rest =>
      obtain ⟨rfl, qd, hwc⟩ := hcut
      have D7 := D6.out.drewN qd
      have B7 : Blk (w6.drewN qd) q6 33 #[.string a.key, .string u] := BQ.out
      rw [← hwc] at D7 B7
      have D7 := Lib.hid D7
      have BQ7 := Lib.hid B7
      have y0 : wc.cell? ⟨q6, 0, none⟩ = some (.string a.key) := B7.cell 0
      have y1 : wc.cell? ⟨q6, 1, none⟩ = some (.string u) := B7.cell 1
      have s2 : wc.cell? ⟨w.heap.size, 0, none⟩ = some (.slice ao out.length co) := D7.out.bo.cell 0
      clear hwc D6 BQ B7 s0 c0 k0 k1 z0 z1
      go_upto_if 32 with fail
      go_cut [36] from 33 to 36 (fun _ wx => ∃ vo', Hid (MgSt w wx p (.slice (some ⟨g, 0, none⟩) ln cs) vo' (a :: rest) (tellP out x)))
      case first =>
        cases fresh with
        | false =>
          have hf := HF.out.2.1 rfl
          go_wp2_with fail
          go_meet
          exact ⟨_, by rw [hf]; exact D7⟩
        | true =>
          have hf := HF.out.1 rfl
          rw [HX.out] at hf
          have Ha := keysAlloc D7.out.own (.cells #[.string a.key, .string u] 33)
          obtain ⟨v', w2, hr, hown, hgr, _, _⟩ := app_own (P := Try.prog) elKeys 25 33 (.agg #[.string ⟨#[]⟩, .string ⟨#[]⟩]) 32 underKeys infoKeys rfl (wc.alloc (.cells #[.string a.key, .string u] 33)) w.heap.size (.slice ao out.length co) out [(a.key, u)] Ha (some ⟨wc.heap.size, 0, none⟩) 1 (fun h => by cases h) (fun a' ha' j' u' hu' => by
            cases ha'
            rw [El.row_one] at hu'
            exact cells_new wc 33 [.string a.key, .string u] j' u' hu') (by unfold maxLen; simp; omega) (by simp; omega) (Nat.le_trans D7.out.hp.bel.size (by simp)) 1 rfl
          rw [← hf] at hown
          obtain ⟨av, cv, rfl⟩ : ∃ av cv, v' = .slice av (tellP out (a.key, u)).length cv := hown.slice
          obtain ⟨lt, hlt⟩ : ∃ lt, (tellP out (a.key, u)).length = lt := ⟨_, rfl⟩
          rw [hlt] at hr hown
          have DT := Lib.hid ((D7.out.alc (.cells #[.string a.key, .string u] 33)).told hgr hown)
          have HR := fun ty => Lib.hid (hr ty)
          have t1 : Tn w.heap.size (cellsT 33) (wc.alloc (.cells #[.string a.key, .string u] 33)) w2 := (Tn.refl _ _ _).grow Ha hgr
          have bo2 := t1.blk (D7.out.bo.alloc (.cells #[.string a.key, .string u] 33)) (cellsT_ne (by decide) _ _)
          have s3 : w2.cell? ⟨w.heap.size, 0, none⟩ = some (.slice ao out.length co) := bo2.cell 0
          have f3 := bo2.frozen 0
          rw [← HX.out] at DT
          clear hf Ha hr hown hgr t1 bo2 hlt
          generalize out.length = lo at *
          go_wp2_with (at_builtin; refine wpList_append_k _ w2 rfl (.tmp 33) (.tmp 35) 25 rfl _ _ (.slice av lt cv) rfl rfl (fun ty => (HR ty).out) ?_)
          go_meet
          exact ⟨_, DT⟩
      case rest =>
      obtain ⟨vo', DT⟩ := hcut
      have CS := Lib.hid (sstep_any w p _ (a :: rest) a wc DT.out.hp DT.out.heap HM.out.ne rfl (by
        obtain ⟨L1, h1, h2, _⟩ := HM.out.src a List.mem_cons_self
        rw [h2, List.length_drop]
        have := HLEN.out L1 (List.mem_of_getElem? h1)
        omega))
      clear D7 BQ7 y0 y1 s2 HF HS hane
      go_wp2_with fail
      refine CS.out.mono ?_
      intro e w9 hst9
      obtain ⟨t9, hm⟩ := hst9
      rw [HH.out] at hm
      have Q0 := Lib.hid (t9.blk DT.out.bo (mgT_ne (by decide) (by decide) _ _))
      have Q1 := Lib.hid (t9.blk DT.out.be (mgT_ne (by decide) (by decide) _ _))
      have KP : ∀ v' S', HpW w w9 p v' S' → HeapO lessS S' S'.length → Hid (MgSt w w9 p v' vo' S' (tellP out x)) := fun v' S' h1 h2 => Lib.hid (DT.out.heaped h1 h2 t9)
      have BW := Lib.hid (DT.out.hp.bel.trans (t9.below DT.out.hp.bel.size))
      have LEN : (tellP out x).length ≤ out.length + 1 := by
        unfold tellP
        split
        · simp
        · split <;> simp
      cases r with
      | nil =>
        obtain ⟨rfl, v', S', hp, ho, hh⟩ := hm
        have K := KP v' S' hh ho
        have hpr : S'.Perm rest := List.Perm.cons_inv hp
        have M3 := Lib.hid ((M1 rest (List.Perm.refl _) rfl).perm hpr)
        have e1 : leftS (a :: rest) = leftS S' + 1 := by
          rw [leftS_perm hpr]
          unfold leftS
          rw [List.map_cons, List.sum_cons, HH.out]
          simp
          omega
        have hg : leftS S' < gk := by rw [HG.out, e1]; omega
        have hl2 : Hid ((tellP out x).length + leftS S' ≤ 90000000000) := Lib.hid (by have := HL.out; omega)
        clear hp ho hh KP t9 CS M1 M2 hri hpx hL0 LEN e1
        go_wp2_with fail
        go_roundg (leftS S')
        case measure => exact hg
        case rel => exact ⟨v', vo', S', _, _, K, M3, Lib.hid rfl, hl2⟩
      | cons y r' =>
        by_cases hlt : cmpT x.1 y.1 < 0
        · have hm : if cmpT x.1 y.1 < 0 then _ else _ := hm
          rw [if_pos hlt] at hm
          obtain ⟨rfl, v', S', b, rs, hp, hbk, hbL, hpS, ho, hh⟩ := hm
          have K := KP v' S' hh ho
          have M3 := Lib.hid ((M2 rs b y r' hp rfl hlt hbk hbL).perm hpS)
          have e1 : leftS (a :: rest) = leftS S' + 1 := by
            rw [leftS_perm hpS, ← leftS_perm hp]
            unfold leftS
            rw [List.map_cons, List.map_cons, List.sum_cons, List.sum_cons, HH.out, hbL]
            simp
            omega
          have hg : leftS S' < gk := by rw [HG.out, e1]; omega
          have hl2 : Hid ((tellP out x).length + leftS S' ≤ 90000000000) := Lib.hid (by have := HL.out; omega)
          clear hp ho hh KP t9 CS M1 M2 hri hpx hL0 LEN e1 hlt hbk hbL hpS
          go_wp2_with fail
          go_roundg (leftS S')
          case measure => exact hg
          case rel => exact ⟨v', vo', S', _, _, K, M3, Lib.hid rfl, hl2⟩
        · have hm : if cmpT x.1 y.1 < 0 then _ else _ := hm
          rw [if_neg hlt] at hm
          subst hm
          have hno : Hid (¬ ∀ L ∈ Ls, risesK L = true) := Lib.hid fun hall => by
            have h1 := hall L0 (List.mem_of_getElem? hL0)
            have h2 := hri 0
            rw [Nat.add_zero] at h2
            exact hlt (rises_get h1 (Nat.lt_succ_self _) hpx h2.symm)
          clear KP t9 CS M1 M2 hri hpx hL0 LEN hlt
          go_wp2_with fail
          exact mend_err w9 w.heap.size _ 32 _ _ Q0.out Q1.out rfl rfl ⟨g_below (below_setCell (below_setCell BW.out (Nat.le_refl _) _) (by dsimp only; omega) _), fun hall => absurd hall hno.out, fun _ => rfl⟩
end Go.Proofs.Yteackdafggomhaa

namespace Go.Proofs.Yteackdafggomhaa
open Go.RowKit

/-- How long a key's head is: up to and with its first bytes 0 and 1 beside each other. -/
def headN : List UInt8 → Nat
  | a :: b :: r => if a = 0 ∧ b = 1 then 2 else headN (b :: r) + 1
  | l => l.length
theorem headN_le : ∀ l : List UInt8, headN l ≤ l.length
  | [] => Nat.le_refl _
  | [_] => Nat.le_refl _
  | a :: b :: r => by
    have h := headN_le (b :: r)
    rw [headN]
    split
    · simp
    · rw [List.length_cons]; omega
/-- A head. -/
def headT (s : ByteArray) : ByteArray := s.extract 0 (headN (bl s))
theorem headN_at (l : List UInt8) : ∀ k : Nat, (∀ i, i < k → ∀ a b, l[i]? = some a → l[i + 1]? = some b → ¬ (a = 0 ∧ b = 1)) → ∀ a b, l[k]? = some a → l[k + 1]? = some b → a = 0 ∧ b = 1 → headN l = k + 2 := by
  induction l with
  | nil => intro k _ a b ha; simp at ha
  | cons x r ih =>
    intro k hno a b ha hb hab
    cases r with
    | nil => simp at hb
    | cons y r =>
      cases k with
      | zero =>
        simp at ha hb
        subst ha hb
        rw [headN, if_pos hab]
      | succ k =>
        rw [headN, if_neg (hno 0 (by omega) x y rfl rfl), ih k (fun i hi a b h1 h2 => hno (i + 1) (by omega) a b h1 h2) a b ha hb hab]
theorem headN_none (l : List UInt8) (hno : ∀ i a b, l[i]? = some a → l[i + 1]? = some b → ¬ (a = 0 ∧ b = 1)) : headN l = l.length := by
  induction l with
  | nil => rfl
  | cons x r ih =>
    cases r with
    | nil => rfl
    | cons y r =>
      rw [headN, if_neg (hno 0 x y rfl rfl), ih (fun i a b h1 h2 => hno (i + 1) a b h1 h2)]
      rfl
/-- The heads of all keys, each once, in order. -/
def hasT (out : List ByteArray) (h : ByteArray) : Bool := out.any fun t => t.toList == h.toList
theorem hasT_mem (out : List ByteArray) (h : ByteArray) : hasT out h = true ↔ h ∈ out := by
  unfold hasT
  rw [List.any_eq_true]
  constructor
  · rintro ⟨t, ht, he⟩
    have he := beq_iff_eq.1 he
    rw [Lib.toList_data, Lib.toList_data] at he
    rw [← show t = h from ByteArray.ext (Array.ext' he)]
    exact ht
  · intro hm
    exact ⟨h, hm, beq_self_eq_true _⟩
def headsStep (out : List ByteArray) (m : KV) : List ByteArray := if hasT out (headT m.1) = true then out else out ++ [headT m.1]
def headsK (L : List KV) : List ByteArray := L.foldl headsStep []
theorem headsK_snoc (L : List KV) (m : KV) : headsK (L ++ [m]) = headsStep (headsK L) m := by
  unfold headsK
  rw [List.foldl_append]
  rfl
theorem headsStep_len (out : List ByteArray) (m : KV) : (headsStep out m).length ≤ out.length + 1 := by
  unfold headsStep
  split
  · omega
  · rw [List.length_append]; simp
theorem headsK_len (L : List KV) : (headsK L).length ≤ L.length := by
  have key : ∀ (L : List KV) (out : List ByteArray), (L.foldl headsStep out).length ≤ out.length + L.length := by
    intro L
    induction L with
    | nil => intro out; simp
    | cons m r ih =>
      intro out
      have h1 := ih (headsStep out m)
      have h2 := headsStep_len out m
      rw [List.foldl_cons, List.length_cons]
      omega
  have := key L []
  simpa [headsK] using this
theorem headsStep_mem (out : List ByteArray) (m : KV) (s : ByteArray) : s ∈ headsStep out m ↔ s ∈ out ∨ s = headT m.1 := by
  unfold headsStep
  split
  · rename_i h
    constructor
    · exact Or.inl
    · rintro (h1 | rfl)
      · exact h1
      · exact (hasT_mem _ _).1 h
  · rw [List.mem_append, List.mem_singleton]
theorem headsK_mem (L : List KV) (s : ByteArray) : s ∈ headsK L ↔ ∃ m ∈ L, s = headT m.1 := by
  have key : ∀ (L : List KV) (out : List ByteArray), s ∈ L.foldl headsStep out ↔ s ∈ out ∨ ∃ m ∈ L, s = headT m.1 := by
    intro L
    induction L with
    | nil => intro out; simp
    | cons m r ih =>
      intro out
      rw [List.foldl_cons, ih, headsStep_mem]
      constructor
      · rintro ((h | h) | ⟨m', h1, h2⟩)
        · exact Or.inl h
        · exact Or.inr ⟨m, List.mem_cons_self .., h⟩
        · exact Or.inr ⟨m', List.mem_cons_of_mem _ h1, h2⟩
      · rintro (h | ⟨m', h1, h2⟩)
        · exact Or.inl (Or.inl h)
        · rcases List.mem_cons.1 h1 with rfl | h1
          · exact Or.inl (Or.inr h2)
          · exact Or.inr ⟨m', h1, h2⟩
  have := key L []
  simpa [headsK] using this
theorem head_size (s : ByteArray) : (headT s).size ≤ s.size := by
  unfold headT
  rw [ByteArray.size_extract]
  omega

/-- Blocks: how many, the bytes of the last one, whether it takes more. -/
def blkStep (s : Nat × Nat × Bool) (m : KV) : Nat × Nat × Bool :=
  let z := (if s.2.2 then s.2.1 else 0) + m.1.size + m.2.size
  (if s.2.2 then s.1 else s.1 + 1, z, decide (z < 1024))
def blkSt (L : List KV) : Nat × Nat × Bool := L.foldl blkStep (0, 0, false)
def blocksK (L : List KV) : Nat := (blkSt L).1
theorem blkSt_snoc (L : List KV) (m : KV) : blkSt (L ++ [m]) = blkStep (blkSt L) m := by
  unfold blkSt
  rw [List.foldl_append]
  rfl
theorem blkStep_le (s : Nat × Nat × Bool) (m : KV) : s.1 ≤ (blkStep s m).1 ∧ (blkStep s m).1 ≤ s.1 + 1 := by
  unfold blkStep
  dsimp only
  split <;> omega
theorem blocks_le (L R : List KV) : blocksK L ≤ blocksK (L ++ R) := by
  have key : ∀ (R : List KV) (s : Nat × Nat × Bool), s.1 ≤ (R.foldl blkStep s).1 := by
    intro R
    induction R with
    | nil => intro s; exact Nat.le_refl _
    | cons m r ih =>
      intro s
      rw [List.foldl_cons]
      exact Nat.le_trans (blkStep_le s m).1 (ih _)
  unfold blocksK blkSt
  rw [List.foldl_append]
  exact key _ _
theorem blocks_len (L : List KV) : blocksK L ≤ L.length := by
  have key : ∀ (R : List KV) (s : Nat × Nat × Bool), (R.foldl blkStep s).1 ≤ s.1 + R.length := by
    intro R
    induction R with
    | nil => intro s; simp
    | cons m r ih =>
      intro s
      have h1 := ih (blkStep s m)
      have h2 := (blkStep_le s m).2
      rw [List.foldl_cons, List.length_cons]
      omega
  have := key L (0, 0, false)
  simpa [blocksK, blkSt] using this

/-- Pairs from a key on, at most so many. -/
def fromK (L : List KV) (key : ByteArray) (most : Int) : List KV :=
  if most < 0 then L.filter fun m => decide (0 ≤ cmpT m.1 key) else (L.filter fun m => decide (0 ≤ cmpT m.1 key)).take most.toNat
theorem fromK_len (L : List KV) (key : ByteArray) (most : Int) : (fromK L key most).length ≤ L.length := by
  have h := List.length_filter_le (fun m : KV => decide (0 ≤ cmpT m.1 key)) L
  unfold fromK
  split
  · exact h
  · rw [List.length_take]; omega
theorem fromK_mem {L : List KV} {key : ByteArray} {most : Int} {m : KV} (h : m ∈ fromK L key most) : m ∈ L ∧ 0 ≤ cmpT m.1 key := by
  have key2 : m ∈ L.filter (fun m => decide (0 ≤ cmpT m.1 key)) := by
    unfold fromK at h
    split at h
    · exact h
    · exact List.mem_of_mem_take h
  rw [List.mem_filter] at key2
  exact ⟨key2.1, of_decide_eq_true key2.2⟩
/-- What Write answers beside the bytes. -/
def writeE (L : List KV) : Int := if risesK L = false then 32 else if (buildP L).2 = 0 then (if L = [] then 1 else 0) else (buildP L).2
end Go.Proofs.Yteackdafggomhaa

namespace Go.Proofs.Yteackdafggomhaa
open Go.RowKit

theorem gv_ok : ∀ (l : List UInt8) (i a v n : Nat), gv l i a = .ok v n → i < n ∧ n ≤ i + l.length
  | [], i, a, v, n, h => by
    rw [gv] at h
    split at h <;> cases h
  | c :: r, i, a, v, n, h => by
    rw [gv] at h
    split at h
    · cases h
    · split at h
      · have := gv_ok r _ _ _ _ h
        simp only [List.length_cons]
        omega
      · split at h
        · cases h
        · cases h
          simp only [List.length_cons]
          omega
/-- Numbers read one behind the other. -/
def thr : Nat → List UInt8 → List Nat → Option (List Nat × List UInt8)
  | 0, r, acc => some (acc, r)
  | m + 1, r, acc => match gv r 0 0 with
    | .err _ => none
    | .ok v n => thr m (r.drop n) (acc ++ [v])
theorem thr_err {m : Nat} {r : List UInt8} {acc : List Nat} {e : Int} (h : gv r 0 0 = .err e) : thr (m + 1) r acc = none := by rw [thr, h]
theorem thr_ok {m : Nat} {r : List UInt8} {acc : List Nat} {v n : Nat} (h : gv r 0 0 = .ok v n) : thr (m + 1) r acc = thr m (r.drop n) (acc ++ [v]) := by rw [thr, h]
/-- What a pair's three numbers make of the rest. -/
def pairOf (last : List UInt8) (x y z : Nat) (t : List UInt8) : Option KV :=
  if last.length < x ∨ t.length < y ∨ t.length - y < z then none else some (⟨(last.take x ++ t.take y).toArray⟩, ⟨(t.drop y |>.take z).toArray⟩)
theorem readL_three (f : Nat) (last : List UInt8) (r : List UInt8) (hr : r ≠ []) :
    readL (f + 1) last r = match thr 3 r [] with
      | some ([x, y, z], t) => match pairOf last x y z t with
        | none => none
        | some m => (readL f (bl m.1) (t.drop (y + z))).map (m :: ·)
      | _ => none := by
  obtain ⟨c, r, rfl⟩ := List.exists_cons_of_ne_nil hr
  rw [readL, thr]
  cases h1 : gv (c :: r) 0 0 with
  | err e => rfl
  | ok x n1 =>
    dsimp only
    rw [thr]
    cases h2 : gv ((c :: r).drop n1) 0 0 with
    | err e => rfl
    | ok y n2 =>
      dsimp only
      rw [thr]
      cases h3 : gv (((c :: r).drop n1).drop n2) 0 0 with
      | err e => rfl
      | ok z n3 =>
        dsimp only
        rw [thr]
        dsimp only [List.nil_append, List.append_assoc, List.cons_append]
        unfold pairOf
        split
        · rfl
        · rfl
theorem readL_nil (f : Nat) (last : List UInt8) : readL f last [] = some [] := by cases f <;> rfl
/-- The pairs so far, and what the rest tells. -/
def goOn (l : List KV) : Option (List KV) → Option (List KV)
  | none => none
  | some r => some (l ++ r)
theorem goOn_nil (o : Option (List KV)) : goOn [] o = o := by cases o <;> rfl
theorem goOn_cons (l : List KV) (m : KV) (o : Option (List KV)) : goOn l (o.map (m :: ·)) = goOn (l ++ [m]) o := by
  cases o <;> simp [goOn]
end Go.Proofs.Yteackdafggomhaa

namespace Go.Proofs.Yteackdafggomhaa
open Go.RowKit

theorem cmp_empty (a : ByteArray) : 0 ≤ cmpT a ⟨#[]⟩ := by
  unfold cmpT
  cases h : a.data.toList with
  | nil => decide
  | cons x r => 
    show (0 : Int) ≤ 1
    decide
theorem fromK_empty (L : List KV) : fromK L ⟨#[]⟩ (-1) = L := by
  unfold fromK
  rw [if_pos (by decide)]
  exact List.filter_eq_self.2 fun m _ => decide_eq_true (cmp_empty m.1)
theorem fromK_first (L : List KV) (k : Nat) : fromK L ⟨#[]⟩ (k : Int) = L.take k := by
  unfold fromK
  rw [if_neg (by omega), show L.filter (fun m => decide (0 ≤ cmpT m.1 ⟨#[]⟩)) = L from List.filter_eq_self.2 fun m _ => decide_eq_true (cmp_empty m.1)]
  rfl
theorem rises_take : ∀ (L : List KV) (k : Nat), risesK L = true → risesK (L.take k) = true
  | _, 0, _ => rfl
  | [], _ + 1, _ => rfl
  | [a], k + 1, _ => by cases k <;> rfl
  | a :: b :: r, 1, _ => rfl
  | a :: b :: r, k + 2, h => by
    have h1 : decide (cmpT a.1 b.1 < 0) = true ∧ risesK (b :: r) = true := by
      rw [risesK, Bool.and_eq_true] at h
      exact h
    have h2 := rises_take (b :: r) (k + 1) h1.2
    show (decide (cmpT a.1 b.1 < 0) && risesK (b :: r.take k)) = true
    rw [h1.1, Bool.true_and]
    exact h2
end Go.Proofs.Yteackdafggomhaa
