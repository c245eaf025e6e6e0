/-
  The book of lists: what is kept, as lists of numbers alone.
-/
import Derived.Test.YtalacionlbmcpaaGreatDoorBook16
namespace Go.Proofs.YtalacionlbmcpaaGreatDoor
open Go.RowKit

/-- The book at bk keeps the lists Z, each in a block of its own below S. -/
def Kept (w : World) (B bk : Nat) (Z : List (List Int)) (S : Nat) : Prop :=
  ∃ v1 v2 L C, VBook w B bk v1 v2 L C ∧ L.length = Z.length ∧ C.length = Z.length ∧ Rws w B Z.length (fun i => L.getD i (.slice none 0 0)) (fun i => Z.getD i [])
    ∧ (∀ i, i < Z.length → Nums w B 3 (C.getD i (.slice none 0 0)) (Z.getD i [])) ∧ (∀ i, i < Z.length → (Z.getD i []).length ≤ 1000 ∧ ∀ z ∈ Z.getD i [], (Lit.int .i64 z).wf = true)
    ∧ ∀ i, i < Z.length → ∀ g, (L.getD i (.slice none 0 0)).ownBlock = some g → g < S
/-- A row that waits to be kept. -/
def Pend (w : World) (lo hi : Nat) (v : Value) (zs : List Int) : Prop := Nums w lo 3 v zs ∧ ∀ g, v.ownBlock = some g → g < hi
theorem Pend.keep {w w' : World} {lo hi : Nat} {v : Value} {zs : List Int} (h : Pend w lo hi v zs) (hk : KeepT 3 w w') : Pend w' lo hi v zs := ⟨h.1.keep hk, h.2⟩
theorem Pend.mk' {w : World} {lo : Nat} {v : Value} {zs : List Int} (h : Nums w lo 3 v zs) : Pend w lo w.heap.size v zs := ⟨h, fun _ hg => (h.lt_ hg).2⟩

theorem getD_snoc_lt {α : Type} (l : List α) (x d : α) {i : Nat} (h : i < l.length) : (l ++ [x]).getD i d = l.getD i d := by
  rw [List.getD_eq_getElem?_getD, List.getElem?_append_left h, ← List.getD_eq_getElem?_getD]
theorem getD_snoc_eq {α : Type} (l : List α) (x d : α) {i : Nat} (h : i = l.length) : (l ++ [x]).getD i d = x := by
  subst h
  rw [List.getD_eq_getElem?_getD, List.getElem?_append_right (Nat.le_refl _)]
  simp

theorem Kept.below {w w' : World} {B bk S : Nat} {Z : List (List Int)} (h : Kept w B bk Z S) {B' : Nat} (hb : Below B' w w') (hB : w.heap.size ≤ B') : Kept w' B bk Z S := by
  obtain ⟨v1, v2, L, C, hV, hL, hC, hR, hN, hW, hS⟩ := h
  exact ⟨v1, v2, L, C, hV.below hb hB, hL, hC, hR.below hb hB, fun i hi => (hN i hi).below hb hB, hW, hS⟩

theorem kept_add {w : World} {B bk S hi : Nat} {Z : List (List Int)} {A : Option Addr} {n c : Nat} {zs : List Int} (h : Kept w B bk Z S) (hp : Pend w S hi (.slice A n c) zs) (hSB : B ≤ S) (hSh : S ≤ hi) (h250 : Z.length < 250) (hlen : zs.length ≤ 1000) (hwf : ∀ z ∈ zs, (Lit.int .i64 z).wf = true) (hB : B ≤ w.heap.size) :
    Calls Tryz.prog 28 #[.pointer (some ⟨bk, 0, none⟩), .slice A n c] w fun e w' => e = .returned (.tuple #[]) ∧ Kept w' B bk (Z ++ [zs]) hi ∧ KeepT 3 w w' ∧ Below B w w' := by
  obtain ⟨v1, v2, L, C, hV, hL, hC, hR, hN, hW, hS⟩ := h
  have hnz : n = zs.length := by
    obtain ⟨a, c', e⟩ := own_slice hp.1
    injection e
  refine (bvec_any B bk v1 v2 L C A n c zs w hV (by omega) (by omega) (fun W hk => ?_) (by omega) hB).mono ?_
  · obtain ⟨A', c', e, I, _⟩ := (hp.1.keep hk).ints hwf
    injection e with e1 e2 e3
    subst e1
    subst e2
    exact I
  · rintro e w' ⟨rfl, u1, u2, cp, hV2, hcp, hk, hb⟩
    refine ⟨rfl, ⟨u1, u2, _, _, hV2, by simp [hL], by simp [hC], ⟨fun i hi => ?_, fun i j hi hj hij => ?_⟩, fun i hi => ?_, fun i hi => ?_, fun i hi g hg => ?_⟩, hk, hb⟩
    · rw [List.length_append, List.length_singleton] at hi
      by_cases hil : i < Z.length
      · rw [getD_snoc_lt _ _ _ (by omega), getD_snoc_lt _ _ _ hil]
        exact (hR.each i hil).keep hk
      · rw [getD_snoc_eq _ _ _ (by omega), getD_snoc_eq _ _ _ (by omega)]
        exact (hp.1.keep hk).low hSB
    · rw [List.length_append, List.length_singleton] at hi hj
      have key : ∀ i, i < Z.length → Off (L.getD i (.slice none 0 0)) (.slice A n c) := fun i hi g hg hv => by
        have h1 := hS i hi g hg
        have h2 := (hp.1.lt_ hv).1
        omega
      by_cases hil : i < Z.length
      · rw [getD_snoc_lt _ _ _ (by omega)]
        by_cases hjl : j < Z.length
        · rw [getD_snoc_lt _ _ _ (by omega)]
          exact hR.apart i j hil hjl hij
        · rw [getD_snoc_eq _ _ _ (by omega)]
          exact key i hil
      · rw [getD_snoc_eq _ _ _ (by omega), getD_snoc_lt _ _ _ (by omega)]
        exact (key j (by omega)).symm
    · rw [List.length_append, List.length_singleton] at hi
      by_cases hil : i < Z.length
      · rw [getD_snoc_lt _ _ _ (by omega), getD_snoc_lt _ _ _ hil]
        exact (hN i hil).keep hk
      · rw [getD_snoc_eq _ _ _ (by omega), getD_snoc_eq _ _ _ (by omega)]
        exact hcp.low hB
    · rw [List.length_append, List.length_singleton] at hi
      by_cases hil : i < Z.length
      · rw [getD_snoc_lt _ _ _ hil]
        exact hW i hil
      · rw [getD_snoc_eq _ _ _ (by omega)]
        exact ⟨hlen, hwf⟩
    · rw [List.length_append, List.length_singleton] at hi
      by_cases hil : i < Z.length
      · rw [getD_snoc_lt _ _ _ (by omega)] at hg
        have := hS i hil g hg
        omega
      · rw [getD_snoc_eq _ _ _ (by omega)] at hg
        exact hp.2 g hg

theorem kept_apart {w : World} {B bk S : Nat} {Z : List (List Int)} (h : Kept w B bk Z S) (h250 : Z.length ≤ 250) (hB : B ≤ w.heap.size) :
    Calls Tryz.prog 29 #[.pointer (some ⟨bk, 0, none⟩)] w fun e w' => e = .returned (.bool true) ∧ Below B w w' := by
  obtain ⟨v1, v2, L, C, hV, hL, hC, hR, hN, hW, hS⟩ := h
  have seen : ∀ M : List Value, M.length = Z.length → (∀ i, i < Z.length → Nums w B 3 (M.getD i (.slice none 0 0)) (Z.getD i [])) → Seen w M Z := by
    intro M hM hh
    refine ⟨hM, fun i hi => ?_⟩
    obtain ⟨A, c, e, I, _⟩ := (hh i (by omega)).ints (hW i (by omega)).2
    refine ⟨A, _, c, ?_, I⟩
    rw [← e, List.getD_eq_getElem?_getD, List.getElem?_eq_getElem hi]
    rfl
  refine apart_any B bk Z.length v1 v2 L C (fun i => L.getD i (.slice none 0 0)) Z w hV hL h250 (fun i hi => ?_) hR (seen L hL hR.each) (seen C hC hN) (fun i hi => Nat.le_trans (hW i hi).1 (by decide)) hB
  rw [List.getD_eq_getElem?_getD, List.getElem?_eq_getElem (by omega)]
  rfl
end Go.Proofs.YtalacionlbmcpaaGreatDoor
