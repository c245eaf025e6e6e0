/-
  The book of lists, Ints: one more is kept. (Written by wip/gen/gen_bk.py.)
-/
import Derived.Test.YtmagkkkecihgmaaGreatBkInts3
import Derived.Test.YtmagkkkecihgmaaGreatBkC
import Derived.Deep.RegionLaw
namespace Go.Proofs.YtmagkkkecihgmaaGreat
open Go.RowKit

abbrev KStInts := @KSt (Int) elInts okInts 3 68 2
set_option maxRecDepth 100000 in
set_option maxHeartbeats 4000000 in
theorem keepInts_any (B bk S lo : Nat) (bcs : Array Value) (Z : List (List (Int))) (A : Option Addr) (n c : Nat) (L : List (Int)) (w : World) (hb : Blk w bk 53 bcs) (h : KStInts w B bcs Z S) (hx : Own elInts w lo 3 (.slice A n c) L) (hSl : S ≤ lo) (hBl : B ≤ lo) (hBk : B ≤ bk) (hB : B ≤ w.heap.size) (hS0 : S ≤ w.heap.size) (hL : L.length ≤ 100000 ∧ ∀ y ∈ L, okInts y) :
    Calls Tryz.prog 22 #[.pointer (some ⟨bk, 0, none⟩), .slice A n c] w fun e w' => e = .returned (.tuple #[]) ∧ ∃ bcs' Z', Blk w' bk 53 bcs' ∧ KStInts w' B bcs' Z' w.heap.size ∧ (∀ j, j ≠ 2 → j ≠ 3 → bcs'[j]? = bcs[j]?) ∧ Tn B (twoT 68 53) w w' ∧ (Z' = Z ++ [L] ∨ Z' = Z) := by
  have h0 := h
  obtain ⟨v1, v2, a, c', f1, f2, r1, r2, o, ra, rc, hz, hs, hm2⟩ := h
  obtain ⟨A1, p1, rfl⟩ := srow_slice r1
  obtain ⟨A2, p2, rfl⟩ := srow_slice r2
  have d1 : w.cell? ⟨bk, 2, none⟩ = some (.slice A1 Z.length p1) := by rw [hb.cell 2, f1]
  by_cases hm : Z.length < 250
  · obtain ⟨A3, d3, w1, hr1, hb1, hb2, q1, q2, qo, hT⟩ := keep_row (P := Tryz.prog) (f := 2) sunderInts sinfoInts (show 68 ≠ 53 by decide) (u := .slice A n c) hb hB hBk r1 r2 o (by omega) rfl
    have hsz : 3 < bcs.size := (Array.getElem?_eq_some_iff.1 f2).1
    have g1 : w1.cell? ⟨bk, 2, none⟩ = some (.slice A1 Z.length p1) := by rw [hb1.cell 2, f1]
    have g1f := hb1.frozen 2
    have eT : ∀ cs fr, twoT 68 53 (.cells cs 3 fr) = false := fun cs fr => twoT_ne (by decide) (by decide) _ _
    have hx2 := hx.tn hT eT
    have ra2 := ra.tn hT eT
    have rc2 := fun i hi => (rc i hi).tn hT eT
    have hB2 := Nat.le_trans hB hT.size
    have HR1 := fun ty => Lib.hid (hr1 ty)
    obtain ⟨w2, hw2⟩ : ∃ w2, w1.setCell ⟨bk, 2, none⟩ (.slice A3 (Z.length + 1) d3) = w2 := ⟨_, rfl⟩
    rw [hw2] at hb2 q1 q2 hT hx2 ra2 rc2 hB2
    have d2 : w2.cell? ⟨bk, 3, none⟩ = some (.slice A2 Z.length p2) := by
      rw [hb2.cell 3, Array.getElem?_setIfInBounds_ne (by decide), f2]
    have CP : Hid (Calls Tryz.prog 39 #[.slice A n c] w2.drew fun e w' => ∃ a3 c3, e = .returned (.slice a3 n c3) ∧ Own elInts w' w2.heap.size 3 (.slice a3 n c3) L ∧ w2.drew.grownBy w' none) :=
      copyInts_any A n c lo L w2.drew (hx2.below ⟨rfl, rfl, rfl, Nat.le_refl _, fun _ _ => rfl⟩) (by omega)
    have KP : ∀ w3 a3 c3, Own elInts w3 w2.heap.size 3 (.slice a3 n c3) L → w2.drew.grownBy w3 none → Hid (∃ A5 d5 w5, (∀ ty, (Builtin.append_ #[39, 39] ty #[.slice A2 Z.length p2, .slice (some ⟨w3.heap.size, 0, none⟩) 1 1]).run Tryz.prog (w3.alloc (.cells #[.slice a3 n c3] 68)) = .ok (.slice A5 (Z.length + 1) d5) w5) ∧
        w5.cell? ⟨bk, 3, none⟩ = some (.slice A2 Z.length p2) ∧ w5.frozen? ⟨bk, 3, none⟩ = false ∧ Hid (∃ bcs' Z', Blk (w5.setCell ⟨bk, 3, none⟩ (.slice A5 (Z.length + 1) d5)) bk 53 bcs' ∧ KStInts (w5.setCell ⟨bk, 3, none⟩ (.slice A5 (Z.length + 1) d5)) B bcs' Z' w.heap.size ∧ (∀ j, j ≠ 2 → j ≠ 3 → bcs'[j]? = bcs[j]?) ∧ Tn B (twoT 68 53) w (w5.setCell ⟨bk, 3, none⟩ (.slice A5 (Z.length + 1) d5)) ∧ (Z' = Z ++ [L] ∨ Z' = Z))) := by
      intro w3 a3 c3 hO hg
      have hg2 : w2.grownBy w3 none := ⟨hg.os, hg.tape, hg.output, hg.size, hg.block⟩
      have T3 : Tn B (twoT 68 53) w2 w3 := Tn.of_grown hg2
      have b3 : Blk w3 bk 53 (bcs.setIfInBounds 2 (.slice A3 (Z.length + 1) d3)) := hb2.grown hg2 (by simp)
      have g3 := below_g hg2
      have q13 := (Tn.of_below (B := 0) (T := fun _ => false) g3).own q1 (fun _ _ => rfl)
      have q23 := (Tn.of_below (B := 0) (T := fun _ => false) g3).own q2 (fun _ _ => rfl)
      obtain ⟨A5, d5, w5, hr5, hb5, hb6, s1, s2, so, hT5⟩ := keep_row (P := Tryz.prog) (f := 3) sunderInts sinfoInts (show 68 ≠ 53 by decide) (u := .slice a3 n c3) b3 (Nat.le_trans hB2 hg2.size) hBk q23 q13 qo.symm (by omega) rfl
      have T6 := (hT.trans T3).trans hT5
      refine ⟨A5, d5, w5, hr5, ?_, hb5.frozen _, (bcs.setIfInBounds 2 (.slice A3 (Z.length + 1) d3)).setIfInBounds 3 (.slice A5 (Z.length + 1) d5), Z ++ [L], hb6, ?_, fun j h1 h2 => ?_, T6, Or.inl rfl⟩
      · rw [hb5.cell 3, Array.getElem?_setIfInBounds_ne (by decide), f2]
      · refine KSt.add (S := S) (lo := lo) (v1 := .slice A3 (Z.length + 1) d3) (v2 := .slice A5 (Z.length + 1) d5) (x := .slice A n c) (cp := .slice a3 n c3) (a := a) (c := c') ?_ ?_ s2 s1 so.symm (ra.tn T6 eT) (fun i hi => (rc i hi).tn T6 eT) hz hs hm (hx.tn T6 eT) ((hO.tn hT5 eT).low hB2) hSl hBl hL (fun g hg' => (hx.lt hg').2) hS0
        · rw [Array.getElem?_setIfInBounds_ne (by decide), Array.getElem?_setIfInBounds_self_of_lt (by omega)]
        · rw [Array.getElem?_setIfInBounds_self_of_lt (by simp; omega)]
      · rw [Array.getElem?_setIfInBounds_ne (fun h => h2 h.symm), Array.getElem?_setIfInBounds_ne (fun h => h1 h.symm)]
    have m1 : (Z.length : Int) < 250 := by omega
    have D2 : w2.drew.cell? ⟨bk, 3, none⟩ = some (.slice A2 Z.length p2) := d2
    have HW2 := Lib.hid hw2
    clear h0 r1 r2 o ra rc hz hs hb1 hb2 q1 q2 qo hT hx hx2 ra2 rc2 hr1 f1 f2 hb hm2 hw2
    generalize Z.length = m at *
    go_enter Tryz.func22, Tryz.ntmps22
    go_wp2_with (at_builtin; refine wpList_append_k _ w1 rfl (.tmp 14) (.tmp 16) 39 rfl _ _ (.slice A3 (m + 1) d3) rfl rfl (fun ty => (HR1 ty).out) ?_)
    rw [HW2.out]
    go_region_law (first
      | (go_simp; go_at_call 39; refine CP.out.mono ?_; rintro e w3 ⟨a3, c3, rfl, hO3, hg3⟩; obtain ⟨A5, d5, w5, hr5, c5, z5, KF⟩ := (KP w3 a3 c3 hO3 hg3).out; have c3' : w3.cell? ⟨bk, 3, none⟩ = some (.slice A2 m p2) := hg3.cell D2 (by simp); have c4' : (w3.alloc (.cells #[.slice a3 n c3] 68)).cell? ⟨bk, 3, none⟩ = some (.slice A2 m p2) := (World.grownBy_alloc w3 _ none).cell c3' (by simp))
      | (refine step_append_k rfl (.tmp 24) (.tmp 27) 39 rfl _ _ (.slice A5 (m + 1) d5) (by simp [Act.eval]) (by simp [Act.eval]) (hr5 _) ?_))
    all_goals
      go_wp2_with fail
      go_end0
      obtain ⟨b9, Z9, k1, k2, k3, k4, k5⟩ := KF.out
      first | exact ⟨rfl, b9, Z9, k1, k2, k3, k4, k5⟩ | exact ⟨rfl, b9, k1, Z9, k2, k3, k4, k5⟩
  · have m1 : ¬ (Z.length : Int) < 250 := by omega
    have H0 := Lib.hid h0
    have HB := Lib.hid hb
    clear h0 r1 r2 o ra rc hz hs f1 f2 hb hx
    go_enter Tryz.func22, Tryz.ntmps22
    go_wp2_with fail
    go_end0
    exact ⟨rfl, bcs, HB.out, Z, H0.out.up hS0, fun _ _ _ => rfl, Tn.refl _ _ _, Or.inr rfl⟩
end Go.Proofs.YtmagkkkecihgmaaGreat
