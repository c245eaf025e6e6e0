/-
  Package net, part 9: Drop, Twice.
-/
import Derived.Test.YtlogdbbaefpapaaNet8
namespace Go.Proofs.Ytlogdbbaefpapaa
open Go.RowKit Go.Maps

theorem NetAt.up {B p k : Nat} {x : N8} {W W' : World} (h : NetAt B p k W x) (hW : W.grownBy W' none) : NetAt B p k W' x := h.fr (Fr.of_grown (B := B) (T := fun _ => false) hW) (fun _ _ => rfl)
/-- A net's count of lost ones, turned. -/
theorem NetAt.lose {B p k : Nat} {x : N8} {W : World} (h : NetAt B p k W x) : ∃ _c3 : W.cell? ⟨p, 3, none⟩ = some (.int .i64 x.lost), W.frozen? ⟨p, 3, none⟩ = false ∧ NetAt B p k (W.setCell ⟨p, 3, none⟩ (.int .i64 (x.lost + 1))) { x with lost := x.lost + 1 } ∧ Fr B netObj W (W.setCell ⟨p, 3, none⟩ (.int .i64 (x.lost + 1))) := by
  obtain ⟨m, sl, hP, hM, hR, hp, hm⟩ := h
  obtain ⟨s1, s2⟩ := net_set hP hM hR 3 (.int .i64 (x.lost + 1))
  exact ⟨hP.cell 3, hP.frozen 3, ⟨m, sl, hP.set_ 3 _, s1, s2, hp, hm⟩, (Fr.refl B netObj W).setCell (p := ⟨p, 3, none⟩) (Or.inr (mayNet hP hp (Or.inl rfl))) _⟩
theorem NetAt.row2 {B p k : Nat} {x : N8} {W : World} (h : NetAt B p k W x) : ∃ A c, W.cell? ⟨p, 2, none⟩ = some (.slice A x.L.length c) := by
  obtain ⟨m, sl, hP, hM, hR, hp, hm⟩ := h
  obtain ⟨A, c, rfl⟩ := owns_shape hR
  exact ⟨A, c, hP.cell 2⟩

set_option maxRecDepth 100000 in
set_option maxHeartbeats 2000000 in
theorem dropstep_no (b0 b1 : Nat) (PV : Value) (i er : Int) (w : World) (B0 : Blk w b0 24 #[PV]) (B1 : Blk w b1 3 #[.int .i64 i])
    (hnb : Calls Try.prog 33 #[PV, .int .i64 i] w fun e w' => e = gaveUp er ∧ w.grownBy w' none) :
    Calls Try.prog 36 #[.pointer (some ⟨b0, 0, none⟩), .pointer (some ⟨b1, 0, none⟩)] w fun e w' => e = gaveUp er ∧ w.grownBy w' none := by
  have d0 : w.cell? ⟨b0, 0, none⟩ = some PV := B0.cell 0
  have d1 : w.cell? ⟨b1, 0, none⟩ = some (.int .i64 i) := B1.cell 0
  have H := Lib.hid hnb
  clear hnb
  go_enter Try.func36, Try.ntmps36
  go_wp2_with fail
  refine H.out.mono ?_
  rintro e w1 ⟨rfl, g⟩
  exact ⟨rfl, rfl, g⟩

set_option maxRecDepth 100000 in
set_option maxHeartbeats 2000000 in
theorem dropstep_ok (b0 b1 B p k : Nat) (x : N8) (i : Nat) (m : Int × Int × ByteArray) (w : World) (B0 : Blk w b0 24 #[.pointer (some ⟨p, 0, none⟩)]) (B1 : Blk w b1 3 #[.int .i64 (i : Int)])
    (hN : NetAt B p k w x) (hn : x.n ≠ 0) (hi : x.L[i]? = some m) (h0 : 0 ≤ x.lost) (h1 : x.lost < 9223372036854775807) :
    Calls Try.prog 36 #[.pointer (some ⟨b0, 0, none⟩), .pointer (some ⟨b1, 0, none⟩)] w fun e w' =>
      e = .returned (.tuple #[]) ∧ NetAt B p k w' { outP x (i : Int) with lost := x.lost + 1 } ∧ Fr B netObj w w' := by
  have d0 : w.cell? ⟨b0, 0, none⟩ = some (.pointer (some ⟨p, 0, none⟩)) := B0.cell 0
  have d1 : w.cell? ⟨b1, 0, none⟩ = some (.int .i64 (i : Int)) := B1.cell 0
  have H := Lib.hid (number_net hN hn (i : Int))
  rw [atP_in hi] at H
  have R := fun W (h : w.grownBy W none) => Lib.hid (remove_net (hN.up h) i m hi)
  have Z0 := Lib.hid h0
  have Z1 := Lib.hid h1
  clear hN hn hi h0 h1
  go_enter Try.func36, Try.ntmps36
  go_wp2_with fail
  refine H.out.mono ?_
  rintro e w1 ⟨⟨m', hm', rfl⟩ | ⟨h, _⟩, g⟩
  · clear hm'
    have e0 : w1.cell? ⟨b0, 0, none⟩ = some (.pointer (some ⟨p, 0, none⟩)) := (B0.grown g (by simp)).cell 0
    have e1 : w1.cell? ⟨b1, 0, none⟩ = some (.int .i64 (i : Int)) := (B1.grown g (by simp)).cell 0
    have HG := Lib.hid g
    clear g
    unfold msgV
    go_wp2_with fail
    refine (R _ HG.out).out.mono ?_
    rintro e w2 ⟨rfl, hN2, hF2, _⟩
    have f0 : w2.cell? ⟨b0, 0, none⟩ = some (.pointer (some ⟨p, 0, none⟩)) := (hF2.blk (B0.grown HG.out (by simp)) rfl).cell 0
    obtain ⟨c3, z3, hN3, hF3⟩ := hN2.lose
    have L := Lib.hid (lose_any p x.lost w2 c3 z3 Z0.out Z1.out)
    have K1 := Lib.hid hN3
    have K2 := Lib.hid (((Fr.of_grown HG.out).trans hF2).trans hF3)
    clear hN2 hF2 c3 z3 hN3 hF3
    go_wp2_with fail
    refine L.out.mono ?_
    rintro e w3 ⟨rfl, rfl⟩
    go_wp2
    go_end0
    exact ⟨rfl, K1.out, K2.out⟩
  · cases h

set_option maxRecDepth 100000 in
set_option maxHeartbeats 2000000 in
/-- Drop, whatever its steps do. -/
theorem drop_of (PV : Value) (i er : Int) (w : World) (Z : World → Prop) (hPV : (∃ p, PV = .pointer (some ⟨p, 0, none⟩)) ∨ PV = .pointer none)
    (T : Calls Try.prog 26 #[.func (Fn.func 36) #[] #[.pointer (some ⟨w.heap.size, 0, none⟩), .pointer (some ⟨w.heap.size + 1, 0, none⟩)]]
      ((w.alloc (.cells #[PV] 24)).alloc (.cells #[.int .i64 i] 3)) fun e w' => e = .returned (.int .i64 er) ∧ Z w') :
    Calls Try.prog 16 #[PV, .int .i64 i] w fun e w' => e = .returned (.int .i64 er) ∧ Z w' := by
  have hmf : ∀ (fn : Fn) (first cap : Array Value) (w : World), (Instr.makeFunc fn first cap).run Try.prog w = .ok (.func fn first cap) w := fun _ _ _ _ => rfl
  have T := Lib.hid T
  rcases hPV with ⟨p, rfl⟩ | rfl
  · go_enter Try.func16, Try.ntmps16
    go_wp2_with fail
    refine T.out.mono ?_
    rintro e w1 ⟨rfl, h⟩
    have H := Lib.hid h
    clear h
    go_wp2_with fail
    go_ret
    exact ⟨rfl, H.out⟩
  · go_enter Try.func16, Try.ntmps16
    go_wp2_with fail
    refine T.out.mono ?_
    rintro e w1 ⟨rfl, h⟩
    have H := Lib.hid h
    clear h
    go_wp2_with fail
    go_ret
    exact ⟨rfl, H.out⟩

/-- Two new blocks. -/
def w2 (w : World) (PV : Value) (i : Int) : World := (w.alloc (.cells #[PV] 24)).alloc (.cells #[.int .i64 i] 3)
theorem w2_grown (w : World) (PV : Value) (i : Int) : w.grownBy (w2 w PV i) none := kgrow_none (World.grownBy_alloc _ _ _) (World.grownBy_alloc _ _ _)
theorem w2_size (w : World) (PV : Value) (i : Int) : (w2 w PV i).heap.size = w.heap.size + 2 := by simp [w2]
theorem w2_b0 (w : World) (PV : Value) (i : Int) : Blk (w2 w PV i) w.heap.size 24 #[PV] := (Blk.new _ _ _).alloc _
theorem w2_b1 (w : World) (PV : Value) (i : Int) : Blk (w2 w PV i) (w.heap.size + 1) 3 #[.int .i64 i] := Blk.new' (by simp) _ _

theorem endP_ne {er : Int} (h : er ≠ 0) : gaveUp er = endP er := by unfold endP; rw [if_neg h]
theorem drop_no (PV : Value) (i er : Int) (w : World) (hne : er ≠ 0) (hPV : (∃ p, PV = .pointer (some ⟨p, 0, none⟩)) ∨ PV = .pointer none)
    (hnb : ∀ W, w.grownBy W none → Calls Try.prog 33 #[PV, .int .i64 i] W fun e w' => e = gaveUp er ∧ W.grownBy w' none) :
    Calls Try.prog 16 #[PV, .int .i64 i] w fun e w' => e = .returned (.int .i64 er) ∧ w.grownBy w' none := by
  refine drop_of PV i er w (fun w' => w.grownBy w' none) hPV ?_
  have h3 := w2_grown w PV i
  have b0 := (w2_b0 w PV i).alloc (.cells #[.int .i64 0] 33)
  have b1 := (w2_b1 w PV i).alloc (.cells #[.int .i64 0] 33)
  show Calls _ _ _ (w2 w PV i) _
  generalize w2 w PV i = w4 at *
  refine tried_none _ _ w w4 er (fun _ => rfl) h3 ?_
  refine (dropstep_no _ _ PV i er _ b0 b1 (hnb _ (kgrow_none h3 (World.grownBy_alloc _ _ _)))).mono ?_
  rintro e w' ⟨rfl, hg⟩
  exact ⟨endP_ne hne, hg⟩

/-- Drop, of a net. -/
theorem drop_any {B p k : Nat} {x : N8} {w : World} (hN : NetAt B p k w x) (hn : x.n ≠ 0) (i : Int) (h0 : 0 ≤ x.lost) (h1 : x.lost < 9223372036854775807) :
    Calls Try.prog 16 #[.pointer (some ⟨p, 0, none⟩), .int .i64 i] w fun e w' => e = .returned (.int .i64 (dropP x i).1) ∧ NetAt B p k w' (dropP x i).2 ∧ Fr B netObj w w' := by
  by_cases ho : i < 0 ∨ (x.L.length : Int) ≤ i
  · have ha := atP_out ho
    refine (drop_no (.pointer (some ⟨p, 0, none⟩)) i 5 w (by decide) (Or.inl ⟨p, rfl⟩) (fun W hW => (number_net (hN.up hW) hn i).mono ?_)).mono ?_
    · rintro e w' ⟨⟨m, h, _⟩ | ⟨_, he⟩, hg⟩
      · rw [ha] at h; cases h
      · exact ⟨he, hg⟩
    · rintro e w' ⟨rfl, hg⟩
      unfold dropP
      rw [ha]
      exact ⟨rfl, hN.up hg, Fr.of_grown hg⟩
  · obtain ⟨j, rfl⟩ : ∃ j : Nat, i = (j : Int) := ⟨i.toNat, by omega⟩
    have hj : j < x.L.length := by omega
    have hm : x.L[j]? = some x.L[j] := List.getElem?_eq_getElem hj
    generalize x.L[j] = m at hm
    have e1 : dropP x (j : Int) = (0, { outP x (j : Int) with lost := x.lost + 1 }) := by unfold dropP; rw [atP_in hm]
    rw [e1]
    refine drop_of (.pointer (some ⟨p, 0, none⟩)) j 0 w (fun w' => NetAt B p k w' { outP x (j : Int) with lost := x.lost + 1 } ∧ Fr B netObj w w') (Or.inl ⟨p, rfl⟩) ?_
    have h3 := w2_grown w (.pointer (some ⟨p, 0, none⟩)) j
    have b0 := (w2_b0 w (.pointer (some ⟨p, 0, none⟩)) j).alloc (.cells #[.int .i64 0] 33)
    have b1 := (w2_b1 w (.pointer (some ⟨p, 0, none⟩)) j).alloc (.cells #[.int .i64 0] 33)
    show Calls _ _ _ (w2 w (.pointer (some ⟨p, 0, none⟩)) j) _
    generalize w2 w (.pointer (some ⟨p, 0, none⟩)) j = w4 at *
    refine tried_net _ _ w w4 B p k _ 0 (fun _ => rfl) h3 ?_
    refine (dropstep_ok _ _ B p k x j m _ b0 b1 (hN.up (kgrow_none h3 (World.grownBy_alloc _ _ _))) hn hm h0 h1).mono ?_
    rintro e w' ⟨rfl, h⟩
    exact ⟨rfl, h⟩
end Go.Proofs.Ytlogdbbaefpapaa
