/-
  The book of lists, of any kind: what is kept; one more. No program is named.
-/
import Derived.Test.YtmagkkkecihgmaaGreatBkB
namespace Go.Proofs.YtmagkkkecihgmaaGreat
open Go.RowKit

/-- The book's fields f and f + 1 keep the lists Z of a kind, and copies of them; each lies in a block of its own below S. -/
def KSt {α : Type} (E : El α) (ok : α → Prop) (e te : TypeId) (f : Nat) (w : World) (B : Nat) (bcs : Array Value) (Z : List (List α)) (S : Nat) : Prop :=
  ∃ v1 v2 a c, bcs[f]? = some v1 ∧ bcs[f + 1]? = some v2 ∧ w.ownsRow B te 1 v1 Z.length ((List.range Z.length).map a) ∧ w.ownsRow B te 1 v2 Z.length ((List.range Z.length).map c) ∧ Off v1 v2 ∧ Rwk E w B e Z.length a (fun i => Z.getD i []) ∧
    (∀ i, i < Z.length → Own E w B e (c i) (Z.getD i [])) ∧ (∀ i, i < Z.length → (Z.getD i []).length ≤ 100000 ∧ ∀ x ∈ Z.getD i [], ok x) ∧ (∀ i, i < Z.length → ∀ g, (a i).ownBlock = some g → g < S) ∧ Z.length ≤ 250
section
variable {α : Type} {E : El α} {ok : α → Prop} {e te tB : TypeId} {f : Nat} {w w' : World} {B bk S : Nat} {bcs : Array Value} {Z : List (List α)}
theorem KSt.tn (h : KSt E ok e te f w B bcs Z S) {B' : Nat} {T : Obj → Bool} (g : Tn B' T w w') (h1 : ∀ cs fr, T (.cells cs e fr) = false) (h2 : ∀ cs fr, T (.cells cs te fr) = false) : KSt E ok e te f w' B bcs Z S := by
  obtain ⟨v1, v2, a, c, f1, f2, r1, r2, o, ra, rc, hz, hs, hm⟩ := h
  exact ⟨v1, v2, a, c, f1, f2, g.own r1 h2, g.own r2 h2, o, ra.tn g h1, fun i hi => (rc i hi).tn g h1, hz, hs, hm⟩
theorem KSt.below (h : KSt E ok e te f w B bcs Z S) (g : Below w.heap.size w w') : KSt E ok e te f w' B bcs Z S := h.tn (Tn.of_below (B := 0) (T := fun _ => false) g) (fun _ _ => rfl) (fun _ _ => rfl)
theorem KSt.fields (h : KSt E ok e te f w B bcs Z S) {bcs' : Array Value} (h1 : bcs'[f]? = bcs[f]?) (h2 : bcs'[f + 1]? = bcs[f + 1]?) : KSt E ok e te f w B bcs' Z S := by
  obtain ⟨v1, v2, a, c, f1, f2, r⟩ := h
  exact ⟨v1, v2, a, c, h1.trans f1, h2.trans f2, r⟩
theorem KSt.up (h : KSt E ok e te f w B bcs Z S) {S' : Nat} (hS : S ≤ S') : KSt E ok e te f w B bcs Z S' := by
  obtain ⟨v1, v2, a, c, f1, f2, r1, r2, o, ra, rc, hz, hs, hm⟩ := h
  exact ⟨v1, v2, a, c, f1, f2, r1, r2, o, ra, rc, hz, fun i hi g hg => Nat.lt_of_lt_of_le (hs i hi g hg) hS, hm⟩
theorem KSt.nil (h1 : bcs[f]? = some (.slice none 0 0)) (h2 : bcs[f + 1]? = some (.slice none 0 0)) : KSt E ok e te f w B bcs [] S :=
  ⟨_, _, fun _ => .slice none 0 0, fun _ => .slice none 0 0, h1, h2, World.ownsRow_nil _ _ _ _, World.ownsRow_nil _ _ _ _, fun g hg => by simp [Value.ownBlock] at hg, ⟨fun i hi => by simp at hi, fun i j hi => by simp at hi⟩, fun i hi => by simp at hi, fun i hi => by simp at hi, fun i hi => by simp at hi, Nat.zero_le _⟩
end

theorem own_ne_k {w : World} {B : Nat} {e t : TypeId} {sz : Nat} {v : Value} {n : Nat} {xs : List Value} {p : Nat} {cs : Array Value} (h : w.ownsRow B e sz v n xs) (hb : Blk w p t cs) (hne : e ≠ t) : v.ownBlock ≠ some p := by
  rcases h.2 with ⟨rfl, _⟩ | ⟨g, cap, cur, rfl, _, hg, _⟩
  · intro h; cases h
  · intro h
    cases h
    unfold Blk at hb
    rw [hg] at hb
    cases hb
    exact hne rfl
def twoT (te tB : TypeId) : Obj → Bool := fun o => cellsT te o || cellsT tB o
theorem twoT_ne {te tB t : TypeId} (h1 : t ≠ te) (h2 : t ≠ tB) (cs : Array Value) (fr : Nat × Nat) : twoT te tB (.cells cs t fr) = false := by
  unfold twoT
  rw [cellsT_ne h1, cellsT_ne h2]
  rfl
theorem Tn.two_l {B : Nat} {te tB : TypeId} {w w' : World} (h : Tn B (cellsT te) w w') : Tn B (twoT te tB) w w' := h.mono fun o ho => by unfold twoT at ho; rw [Bool.or_eq_false_iff] at ho; exact ho.1
theorem Tn.two_blk {B g : Nat} {te tB : TypeId} {w w' : World} {cs : Array Value} (h : Tn B (twoT te tB) w w') (hb : Blk w' g tB cs) (hB : B ≤ g) (i : Nat) (u : Value) : Tn B (twoT te tB) w (w'.setCell ⟨g, i, none⟩ u) :=
  h.setCell (p := ⟨g, i, none⟩) (Or.inr ⟨hB, _, hb, by unfold twoT; simp [cellsT]⟩) u

/-- A row of lists, one more at its end, and the field of the book that tells it. -/
theorem keep_row {P : Program} {tte te tB : TypeId} (ht : P.underlying tte = some (.slice te)) (hinfo : (P.info? te).map (fun i => (i.zero, i.size, i.bytes)) = some (some (.slice none 0 0), 1, 24)) (hne : te ≠ tB)
    {w : World} {B bk f m : Nat} {bcs : Array Value} {v u : Value} {xs : List Value} {r2 : Value} {m2 : Nat} {ys : List Value} (hb : Blk w bk tB bcs) (hB : B ≤ w.heap.size) (hBk : B ≤ bk) (hv : w.ownsRow B te 1 v m xs) (hr2 : w.ownsRow B te 1 r2 m2 ys) (hoff : Off v r2) (hm : m ≤ 250) (hu : u.oneCell' = true) :
    ∃ A d w1, (∀ ty, (Builtin.append_ #[tte, tte] ty #[v, .slice (some ⟨w.heap.size, 0, none⟩) 1 1]).run P (w.alloc (.cells #[u] te)) = .ok (.slice A (m + 1) d) w1) ∧ Blk w1 bk tB bcs ∧
      Blk (w1.setCell ⟨bk, f, none⟩ (.slice A (m + 1) d)) bk tB (bcs.setIfInBounds f (.slice A (m + 1) d)) ∧ (w1.setCell ⟨bk, f, none⟩ (.slice A (m + 1) d)).ownsRow B te 1 (.slice A (m + 1) d) (m + 1) (xs ++ [u]) ∧
      (w1.setCell ⟨bk, f, none⟩ (.slice A (m + 1) d)).ownsRow B te 1 r2 m2 ys ∧ Off (.slice A (m + 1) d) r2 ∧ Tn B (twoT te tB) w (w1.setCell ⟨bk, f, none⟩ (.slice A (m + 1) d)) := by
  have g0 : w.grownBy (w.alloc (.cells #[u] te)) none := World.grownBy_alloc _ _ _
  have hv0 := World.ownsRow.alloc hv (.cells #[u] te)
  have hr0 := World.ownsRow.alloc hr2 (.cells #[u] te)
  have hb0 := hb.alloc (.cells #[u] te)
  obtain ⟨v', w1, hr, hown, hgr, _, hblk⟩ := app_srow (P := P) tte te ht hinfo (w.alloc (.cells #[u] te)) B v m xs hv0 u hu w.heap.size 1 ((Blk.new w te #[u]).cell 0) (by omega) (Nat.le_trans hB (by simp))
  obtain ⟨A, d, rfl⟩ := srow_slice hown
  have hb1 : Blk w1 bk tB bcs := hb0.grown hgr (fun e => own_ne_k hv0 hb0 hne e.symm)
  have hr1 : w1.ownsRow B te 1 r2 m2 ys := World.ownsRow.kept hr0 hgr (offk_none hoff)
  have gs : ∀ u, w1.grownBy (w1.setCell ⟨bk, f, none⟩ u) (some bk) := fun u => only_setCell (grefl w1 _) (Or.inl rfl) u
  refine ⟨A, d, w1, hr, hb1, hb1.set_ f _, hown.kept (gs _) (Or.inr (own_ne_k hown hb1 hne)), hr1.kept (gs _) (Or.inr (own_ne_k hr1 hb1 hne)), fun g hg hv' => ?_, ?_⟩
  · rcases hblk with e | e
    · exact hoff g (e ▸ hg) hv'
    · have h1 := e g hg
      have h2 := (World.ownsRow.lt hr2 g hv').2
      simp at h1
      omega
  · exact Tn.two_blk ((Tn.two_l ((Tn.of_grown g0).grow hv0 hgr))) hb1 hBk f _

theorem getDk_lt {α : Type} (l : List α) (x d : α) {i : Nat} (h : i < l.length) : (l ++ [x]).getD i d = l.getD i d := by
  rw [List.getD_eq_getElem?_getD, List.getElem?_append_left h, ← List.getD_eq_getElem?_getD]
theorem getDk_eq {α : Type} (l : List α) (x d : α) {i : Nat} (h : i = l.length) : (l ++ [x]).getD i d = x := by
  subst h
  rw [List.getD_eq_getElem?_getD, List.getElem?_append_right (Nat.le_refl _)]
  simp
/-- One more is kept. -/
theorem KSt.add {α : Type} {E : El α} {ok : α → Prop} {e te : TypeId} {f : Nat} {w : World} {B S S' lo : Nat} {bcs : Array Value} {Z : List (List α)} {L : List α} {a c : Nat → Value} {v1 v2 x cp : Value}
    (f1 : bcs[f]? = some v1) (f2 : bcs[f + 1]? = some v2) (r1 : w.ownsRow B te 1 v1 (Z.length + 1) ((List.range Z.length).map a ++ [x])) (r2 : w.ownsRow B te 1 v2 (Z.length + 1) ((List.range Z.length).map c ++ [cp])) (o : Off v1 v2)
    (ra : Rwk E w B e Z.length a (fun i => Z.getD i [])) (rc : ∀ i, i < Z.length → Own E w B e (c i) (Z.getD i [])) (hz : ∀ i, i < Z.length → (Z.getD i []).length ≤ 100000 ∧ ∀ x ∈ Z.getD i [], ok x) (hs : ∀ i, i < Z.length → ∀ g, (a i).ownBlock = some g → g < S) (hm : Z.length < 250)
    (hx : Own E w lo e x L) (hc : Own E w B e cp L) (hSl : S ≤ lo) (hBl : B ≤ lo) (hL : L.length ≤ 100000 ∧ ∀ y ∈ L, ok y) (hS : ∀ g, x.ownBlock = some g → g < S') (hSS : S ≤ S') : KSt E ok e te f w B bcs (Z ++ [L]) S' := by
  rw [range_upk] at r1 r2
  have hl : (Z ++ [L]).length = Z.length + 1 := by simp
  have key : ∀ i, i < Z.length → Off (a i) x := fun i hi g hg hv => by
    have h1 := hs i hi g hg
    have h2 := (hx.lt hv).1
    omega
  refine ⟨v1, v2, upk a Z.length x, upk c Z.length cp, f1, f2, by rw [hl]; exact r1, by rw [hl]; exact r2, o, ⟨fun i hi => ?_, fun i j hi hj hij => ?_⟩, fun i hi => ?_, fun i hi => ?_, fun i hi g hg => ?_, by omega⟩
  · rw [hl] at hi
    by_cases hil : i < Z.length
    · rw [upk_ne _ _ (by omega), getDk_lt _ _ _ hil]
      exact ra.each i hil
    · obtain rfl : i = Z.length := by omega
      rw [upk_at, getDk_eq _ _ _ rfl]
      exact hx.low hBl
  · rw [hl] at hi hj
    by_cases hil : i < Z.length
    · rw [upk_ne _ _ (show i ≠ Z.length by omega)]
      by_cases hjl : j < Z.length
      · rw [upk_ne _ _ (show j ≠ Z.length by omega)]
        exact ra.apart i j hil hjl hij
      · rw [show j = Z.length by omega, upk_at]
        exact key i hil
    · rw [show i = Z.length by omega, upk_at, upk_ne _ _ (show j ≠ Z.length by omega)]
      exact (key j (by omega)).symm
  · rw [hl] at hi
    by_cases hil : i < Z.length
    · rw [upk_ne _ _ (by omega), getDk_lt _ _ _ hil]
      exact rc i hil
    · obtain rfl : i = Z.length := by omega
      rw [upk_at, getDk_eq _ _ _ rfl]
      exact hc
  · rw [hl] at hi
    by_cases hil : i < Z.length
    · rw [getDk_lt _ _ _ hil]
      exact hz i hil
    · rw [getDk_eq _ _ _ (by omega)]
      exact hL
  · rw [hl] at hi
    by_cases hil : i < Z.length
    · rw [upk_ne _ _ (by omega)] at hg
      have := hs i hil g hg
      omega
    · rw [show i = Z.length by omega, upk_at] at hg
      exact hS g hg
/-- A kind's lists, while marks are put. -/
structure PSt {α : Type} (E : El α) (e te : TypeId) (w : World) (B : Nat) (v1 : Value) (a : Nat → Value) (m : Nat) (F : Nat → List α) : Prop where
  r1 : w.ownsRow B te 1 v1 m ((List.range m).map a)
  ra : Rwk E w B e m a F
theorem PSt.tn {α : Type} {E : El α} {e te : TypeId} {w w' : World} {B : Nat} {v1 : Value} {a : Nat → Value} {m : Nat} {F : Nat → List α} (h : PSt E e te w B v1 a m F) {B' : Nat} {T : Obj → Bool} (g : Tn B' T w w') (h1 : ∀ cs fr, T (.cells cs e fr) = false) (h2 : ∀ cs fr, T (.cells cs te fr) = false) : PSt E e te w' B v1 a m F := ⟨g.own h.r1 h2, h.ra.tn g h1⟩
end Go.Proofs.YtmagkkkecihgmaaGreat
