/-
  The book of lists, of any kind: rows of lists; an element stored. No program is named.
-/
import Derived.Test.YtmagkkkecihgmaaGreatBkA
namespace Go.Proofs.YtmagkkkecihgmaaGreat
open Go.RowKit

/-- One of a row of lists. -/
theorem srow_at {w : World} {B m : Nat} {te : TypeId} {v : Value} {a : Nat → Value} (h : w.ownsRow B te 1 v m ((List.range m).map a)) {k : Nat} (hk : k < m) : ∃ g c, v = .slice (some ⟨g, 0, none⟩) m c ∧ B ≤ g ∧ g < w.heap.size ∧ w.cell? ⟨g, k, none⟩ = some (a k) := by
  rcases h.2 with ⟨_, h0⟩ | ⟨g, cap, cur, hv, hb, hh, _⟩
  · omega
  · subst hv
    refine ⟨g, cap, rfl, hb, (Array.getElem?_eq_some_iff.1 hh).1, ?_⟩
    have := World.ownsRow.cells h (g := g) rfl k (a k) (by rw [List.getElem?_map, List.getElem?_range hk]; rfl)
    rwa [Addr.add_lit, Nat.zero_add] at this
theorem srow_slice {w : World} {B m : Nat} {te : TypeId} {v : Value} {xs : List Value} (h : w.ownsRow B te 1 v m xs) : ∃ A c, v = .slice A m c := by
  rcases h.2 with ⟨rfl, h0⟩ | ⟨g, cap, cur, rfl, _⟩
  · exact ⟨none, 0, by rw [h0]⟩
  · exact ⟨_, _, rfl⟩

/-! ### Cells set one behind the other -/
def setAll : List Value → Nat → List Value → List Value
  | xs, _, [] => xs
  | xs, i, u :: us => setAll (xs.set i u) (i + 1) us
theorem setAll_split (us : List Value) : ∀ (pre mid post : List Value), mid.length = us.length → setAll (pre ++ mid ++ post) pre.length us = pre ++ us ++ post := by
  induction us with
  | nil => intro pre mid post h; have : mid = [] := List.eq_nil_of_length_eq_zero h; subst this; rfl
  | cons u us ih =>
    intro pre mid post h
    cases mid with
    | nil => simp at h
    | cons x mid =>
      have h1 := ih (pre ++ [u]) mid post (by simpa using h)
      have e : (pre ++ (x :: mid) ++ post).set pre.length u = pre ++ [u] ++ mid ++ post := by
        simp
      show setAll ((pre ++ (x :: mid) ++ post).set pre.length u) (pre.length + 1) us = _
      rw [e, show pre.length + 1 = (pre ++ [u]).length by simp, h1]
      simp
theorem El.row_set {α : Type} (E : El α) (L : List α) (j : Nat) (x : α) (hj : j < L.length) : E.row (L.set j x) = setAll (E.row L) (j * E.sz) (E.cl x) := by
  have h1 : L = L.take j ++ [L[j]] ++ L.drop (j + 1) := by
    have := List.take_append_drop j L
    rw [List.drop_eq_getElem_cons hj] at this
    rw [List.append_assoc]
    exact this.symm
  have h2 : L.set j x = L.take j ++ [x] ++ L.drop (j + 1) := by
    rw [List.set_eq_take_append_cons_drop, if_pos hj]
    simp
  have hl : (E.row (L.take j)).length = j * E.sz := by rw [E.row_length, List.length_take, Nat.min_eq_left (by omega)]
  have h3 := setAll_split (E.cl x) (E.row (L.take j)) (E.cl L[j]) (E.row (L.drop (j + 1))) (by rw [E.len, E.len])
  rw [hl] at h3
  rw [h2, E.row_append, E.row_append, E.row_one, ← h3]
  congr 1
  conv => rhs; rw [h1]
  rw [E.row_append, E.row_append, E.row_one]
def setCells : World → Nat → Nat → List Value → World
  | w, _, _, [] => w
  | w, g, i, u :: us => setCells (w.setCell ⟨g, i, none⟩ u) g (i + 1) us
theorem setCells_own {B : Nat} {e : TypeId} {sz g n c : Nat} (us : List Value) : ∀ (w : World) (i : Nat) (xs : List Value), w.ownsRow B e sz (.slice (some ⟨g, 0, none⟩) n c) n xs →
    (setCells w g i us).ownsRow B e sz (.slice (some ⟨g, 0, none⟩) n c) n (setAll xs i us) := by
  induction us with
  | nil => intro w i xs h; exact h
  | cons u us ih => intro w i xs h; exact ih _ _ _ (World.ownsRow.stored h i u).1
theorem setCells_grown {g : Nat} (us : List Value) : ∀ (w : World) (i : Nat), w.grownBy (setCells w g i us) (some g) := by
  induction us with
  | nil => intro w i; exact grefl w _
  | cons u us ih =>
    intro w i
    have h1 : w.grownBy (w.setCell ⟨g, i, none⟩ u) (some g) := only_setCell (grefl w _) (Or.inl rfl) u
    have h2 := ih (w.setCell ⟨g, i, none⟩ u) (i + 1)
    exact ⟨h2.os.trans h1.os, h2.tape.trans h1.tape, h2.output.trans h1.output, Nat.le_trans h1.size h2.size, fun k hk hne => (h2.block k (Nat.lt_of_lt_of_le hk h1.size) hne).trans (h1.block k hk hne)⟩

/-- One element stored into one of the rows. -/
theorem put_k {α : Type} {E : El α} {w : World} {B m k g n c j : Nat} {e : TypeId} {a : Nat → Value} {G : Nat → List α} {x : α} (hR : Rwk E w B e m a G) (hk : k < m) (hg : a k = .slice (some ⟨g, 0, none⟩) n c) (hj : j < (G k).length) :
    Rwk E (setCells w g (j * E.sz) (E.cl x)) B e m a (upk G k ((G k).set j x)) ∧ Tn B (cellsT e) w (setCells w g (j * E.sz) (E.cl x)) ∧
      (∀ v S M, Own E w S e v M → v.ownBlock ≠ some g → Own E (setCells w g (j * E.sz) (E.cl x)) S e v M) := by
  have hr := hR.each k hk
  have gr := setCells_grown (g := g) (E.cl x) w (j * E.sz)
  rw [hg] at hr
  obtain ⟨hnl, _, _⟩ := own_reads hr
  subst hnl
  have hst := setCells_own (g := g) (E.cl x) w (j * E.sz) _ hr
  rw [← E.row_set _ _ _ hj] at hst
  have other : ∀ v S M, Own E w S e v M → v.ownBlock ≠ some g → Own E (setCells w g (j * E.sz) (E.cl x)) S e v M := fun v S M h hne => World.ownsRow.kept h gr (Or.inr hne)
  refine ⟨⟨fun i hi => ?_, hR.apart⟩, (Tn.refl B _ w).grow hr gr, other⟩
  by_cases hik : i = k
  · subst hik
    rw [upk_at, hg]
    unfold Own
    rw [List.length_set]
    exact hst
  · rw [upk_ne _ _ hik]
    exact other _ _ _ (hR.each i hi) (fun h => hR.apart i k hi hk hik g h (by rw [hg]; rfl))
theorem Own.frozen_ {α : Type} {E : El α} {w : World} {B g n c : Nat} {e : TypeId} {L : List α} (h : Own E w B e (.slice (some ⟨g, 0, none⟩) n c) L) (j : Nat) : w.frozen? ⟨g, j, none⟩ = false := by
  obtain ⟨hn, _, _⟩ := own_reads h
  subst hn
  exact World.ownsRow.frozenAt h j
theorem Tn.fromDrew {B : Nat} {T : Obj → Bool} {w w' : World} (h : Tn B T w w') : Tn B T w.drew w'.drew := ⟨h.os, h.tape, h.output, h.size, h.block⟩
/-- A row that is new grew. -/
theorem Tn.growNew {B S : Nat} {T : Obj → Bool} {w w' w'' : World} {e : TypeId} {sz n : Nat} {v : Value} {xs : List Value} (h : Tn B T w w') (hown : w'.ownsRow S e sz v n xs) (hS : w.heap.size ≤ S) (g : w'.grownBy w'' v.ownBlock) : Tn B T w w'' :=
  h.row g (fun k hk => Or.inl (Nat.le_trans hS (World.ownsRow.lt hown k hk).1))
theorem Famk.marked2 {α : Type} {E : El α} {w w' : World} {B m k N p : Nat} {e : TypeId} {a b : Nat → Value} {F H : Nat → List α} {l l' : Value} (h : Famk E w B e m a (upk b k l) F (upk H k (E.marks k 0 N))) (hk : k < m)
    (hown : Own E w' B e l' (E.marks k 0 N ++ E.marks k N p)) (hgr : w.grownBy w' l.ownBlock) (hold : Own E w' B e l (E.marks k 0 N)) (hblk : l'.ownBlock = l.ownBlock ∨ ∀ g, l'.ownBlock = some g → w.heap.size ≤ g) :
    Famk E w' B e m a (upk b k l') F (upk H k (E.marks k 0 (N + p))) := by
  refine Famk.marked h hk ?_ hgr ?_ hblk
  · unfold Own at hown
    rw [List.length_append, E.marks_length, E.marks_length, E.row_append] at hown
    exact hown
  · unfold Own at hold
    rw [E.marks_length] at hold
    exact hold
theorem app_srow {P : Program} (tte te : TypeId) (ht : P.underlying tte = some (.slice te)) (hinfo : (P.info? te).map (fun i => (i.zero, i.size, i.bytes)) = some (some (.slice none 0 0), 1, 24))
    (w : World) (base : Nat) (v : Value) (n : Nat) (xs : List Value) (hown : w.ownsRow base te 1 v n xs) (u : Value) (hu : u.oneCell' = true) (g c : Nat) (hc : w.cell? ⟨g, 0, none⟩ = some u) (hn : n ≤ 100000) (hbase : base ≤ w.heap.size) :
    ∃ v' w', (∀ ty, (Builtin.append_ #[tte, tte] ty #[v, .slice (some ⟨g, 0, none⟩) 1 c]).run P w = .ok v' w') ∧ w'.ownsRow base te 1 v' (n + 1) (xs ++ [u]) ∧ w.grownBy w' v.ownBlock ∧ w'.ownsRow base te 1 v n xs ∧ (v'.ownBlock = v.ownBlock ∨ ∀ g, v'.ownBlock = some g → w.heap.size ≤ g) := by
  obtain ⟨i0, hi, hz, hsize, hby⟩ := info_parts hinfo
  have hnews : ∀ j x, [u][j]? = some x → w.cell? ((⟨g, 0, none⟩ : Addr).add j) = some x := fun j x hx => by
    match j, hx with
    | 0, hx => simp at hx; subst hx; simpa [Addr.add] using hc
  have h1 : ∀ x ∈ [u], x.oneCell' = true := fun x hx => by simp at hx; subst hx; exact hu
  obtain ⟨v', w', hr, h2, h3, _⟩ := run_append_own (P := P) w base tte 0 te i0 (.slice none 0 0) 1 24 ht hi hz hsize hby rfl (by decide) v n xs hown ⟨g, 0, none⟩ 1 c [u] rfl hnews h1 (by unfold maxLen; omega) (by omega) hbase
  obtain ⟨h4, h5⟩ := append_keep w base tte 0 te i0 (.slice none 0 0) 1 24 ht hi hz hsize hby v n xs hown ⟨g, 0, none⟩ 1 c [u] rfl hnews h1 (by unfold maxLen; omega) (by omega) v' w' hr
  exact ⟨v', w', fun ty => by rw [← hr]; rfl, h2, h3, h4, h5⟩
end Go.Proofs.YtmagkkkecihgmaaGreat
