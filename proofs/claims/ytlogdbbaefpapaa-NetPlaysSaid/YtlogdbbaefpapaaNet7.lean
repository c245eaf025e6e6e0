/-
  Package net, part 7: the steps of Peek, Deliver, Drop.
-/
import Derived.Test.YtlogdbbaefpapaaNet6
import Derived.Deep.Cut
namespace Go.Proofs.Ytlogdbbaefpapaa
open Go.RowKit Go.Maps

/-- The message that has number i. -/
def atP (x : N8) (i : Int) : Option (Int × Int × ByteArray) := if 0 ≤ i then x.L[i.toNat]? else none
def erOf (er : Int) : Option (Int × Int × ByteArray) → Int
  | some _ => 0
  | none => er
def noMsg : Int × Int × ByteArray := (0, 0, ⟨#[]⟩)
def outP (x : N8) (i : Int) : N8 := { x with L := x.L.take i.toNat ++ x.L.drop (i.toNat + 1) }
def peekP (x : N8) (i : Int) : Int × (Int × Int × ByteArray) := match atP x i with
  | some m => (0, m)
  | none => (5, noMsg)
def deliverP (x : N8) (i : Int) : N8 := match atP x i with
  | some _ => outP x i
  | none => x
def dropP (x : N8) (i : Int) : Int × N8 := match atP x i with
  | some _ => (0, { outP x i with lost := x.lost + 1 })
  | none => (5, x)
theorem atP_in {x : N8} {k : Nat} {m : Int × Int × ByteArray} (h : x.L[k]? = some m) : atP x (k : Int) = some m := by
  unfold atP
  rw [if_pos (by omega)]
  exact h
theorem atP_out {x : N8} {i : Int} (h : i < 0 ∨ (x.L.length : Int) ≤ i) : atP x i = none := by
  unfold atP
  by_cases h0 : 0 ≤ i
  · rw [if_pos h0]
    exact List.getElem?_eq_none (by omega)
  · rw [if_neg h0]

theorem grow_up {a b : World} (h : a.grownBy b none) (row : Option Nat) : a.grownBy b row := ⟨h.os, h.tape, h.output, h.size, fun k hk _ => h.block k hk (by simp)⟩
theorem grow_down {a b c : World} {q : Nat} (h : a.grownBy b none) (g : b.grownBy c (some q)) (hq : a.heap.size ≤ q) : a.grownBy c none :=
  ⟨g.os.trans h.os, g.tape.trans h.tape, g.output.trans h.output, Nat.le_trans h.size g.size, fun k hk _ => (g.block k (Nat.lt_of_lt_of_le hk h.size) (fun e => by cases e; omega)).trans (h.block k hk (by simp))⟩
theorem only_set3 {w w1 : World} {q : Nat} (h : w.grownBy w1 (some q)) (a b c : Value) : w.grownBy (((w1.setCell ⟨q, 0, none⟩ a).setCell ⟨q, 1, none⟩ b).setCell ⟨q, 2, none⟩ c) (some q) :=
  only_setCell (p := ⟨q, 2, none⟩) (only_setCell (p := ⟨q, 1, none⟩) (only_setCell (p := ⟨q, 0, none⟩) h (Or.inl rfl) a) (Or.inl rfl) b) (Or.inl rfl) c
/-- number, of a net. -/
theorem number_net {B p k : Nat} {x : N8} {W : World} (hN : NetAt B p k W x) (hn : x.n ≠ 0) (i : Int) :
    Calls Try.prog 33 #[.pointer (some ⟨p, 0, none⟩), .int .i64 i] W fun e w' =>
      ((∃ m, atP x i = some m ∧ e = .returned (msgV m)) ∨ (atP x i = none ∧ e = gaveUp 5)) ∧ W.grownBy w' none := by
  obtain ⟨m, sl, hP, hM, hR, _⟩ := hN
  refine (number_any p x.n i _ sl _ B x.L W hn hP hR).mono ?_
  rintro e w' ⟨⟨k, m, rfl, hk, rfl⟩ | ⟨h, rfl⟩, g⟩
  · exact ⟨Or.inl ⟨m, atP_in hk, rfl⟩, g⟩
  · exact ⟨Or.inr ⟨atP_out h, rfl⟩, g⟩

set_option maxRecDepth 100000 in
set_option maxHeartbeats 2000000 in
/-- Peek's steps, whatever number says. -/
theorem peekstep_any (b0 b1 q : Nat) (PV : Value) (i er : Int) (o : Option (Int × Int × ByteArray)) (w : World) (B0 : Blk w b0 24 #[PV]) (B1 : Blk w b1 3 #[.int .i64 i]) (E : Blk w q 58 #[.int .i64 0, .int .i64 0, .string ⟨#[]⟩]) (hne : er ≠ 0)
    (hnb : Calls Try.prog 33 #[PV, .int .i64 i] w fun e w' => ((∃ m, o = some m ∧ e = .returned (msgV m)) ∨ (o = none ∧ e = gaveUp er)) ∧ w.grownBy w' none) :
    Calls Try.prog 32 #[.pointer (some ⟨b0, 0, none⟩), .pointer (some ⟨b1, 0, none⟩), .pointer (some ⟨q, 0, none⟩)] w fun e w' =>
      e = endP (erOf er o) ∧ Blk w' q 58 (msgC (o.getD noMsg)).toArray ∧ w.grownBy w' (some q) := by
  have d0 : w.cell? ⟨b0, 0, none⟩ = some PV := B0.cell 0
  have d1 : w.cell? ⟨b1, 0, none⟩ = some (.int .i64 i) := B1.cell 0
  have H := Lib.hid hnb
  have HE := Lib.hid E
  have hnz : Hid (endP er = gaveUp er) := by show endP er = _; unfold endP; rw [if_neg hne]
  clear hnb E hne
  obtain ⟨pv, hpv⟩ : ∃ pv, pv = PV := ⟨_, rfl⟩
  go_enter Try.func32, Try.ntmps32
  go_wp2_with fail
  refine H.out.mono ?_
  rintro e w1 ⟨⟨m, rfl, rfl⟩ | ⟨rfl, rfl⟩, g⟩
  · obtain ⟨a, b, s⟩ := m
    have E1 := HE.out.grown g (by simp)
    have c0 := E1.cell 0
    have c1 := E1.cell 1
    have c2 := E1.cell 2
    have z0 := E1.frozen 0
    have z1 := E1.frozen 1
    have z2 := E1.frozen 2
    have H1 := Lib.hid E1
    have HG := Lib.hid g
    clear E1 g
    unfold msgV
    go_wp2
    go_end0
    exact ⟨rfl, ((H1.out.set_ 0 _).set_ 1 _).set_ 2 _, only_set3 (grow_up HG.out _) _ _ _⟩
  · exact ⟨rfl, hnz.out.symm, HE.out.grown g (by simp), grow_up g _⟩

set_option maxRecDepth 100000 in
set_option maxHeartbeats 2000000 in
/-- Deliver's steps where there is no such message. -/
theorem deliverstep_no (b0 b1 q : Nat) (PV : Value) (i er : Int) (w : World) (B0 : Blk w b0 24 #[PV]) (B1 : Blk w b1 3 #[.int .i64 i])
    (hnb : Calls Try.prog 33 #[PV, .int .i64 i] w fun e w' => e = gaveUp er ∧ w.grownBy w' none) :
    Calls Try.prog 34 #[.pointer (some ⟨b0, 0, none⟩), .pointer (some ⟨b1, 0, none⟩), .pointer (some ⟨q, 0, none⟩)] w fun e w' => e = gaveUp er ∧ w.grownBy w' none := by
  have d0 : w.cell? ⟨b0, 0, none⟩ = some PV := B0.cell 0
  have d1 : w.cell? ⟨b1, 0, none⟩ = some (.int .i64 i) := B1.cell 0
  have H := Lib.hid hnb
  clear hnb
  go_enter Try.func34, Try.ntmps34
  go_wp2_with fail
  refine H.out.mono ?_
  rintro e w1 ⟨rfl, g⟩
  exact ⟨rfl, rfl, g⟩

/-- remove, of a net. -/
theorem remove_net {B p k : Nat} {x : N8} {W : World} (hN : NetAt B p k W x) (i : Nat) (m : Int × Int × ByteArray) (hi : x.L[i]? = some m) :
    Calls Try.prog 35 #[.pointer (some ⟨p, 0, none⟩), .int .i64 (i : Int)] W fun e w' =>
      e = .returned (.tuple #[]) ∧ NetAt B p k w' (outP x (i : Int)) ∧ Fr B netObj W w' ∧ (∀ q cs, Blk W q 58 cs → (∀ W0 : World, NetAt B p k W0 x → W0.grownBy W none → W0.heap.size ≤ q → Blk w' q 58 cs)) := by
  obtain ⟨mb, sl, hP, hM, hR, hp, hm⟩ := hN
  have hil := (List.getElem?_eq_some_iff.1 hi).1
  have hR0 := hR
  rcases hR.2 with ⟨h, h'⟩ | ⟨g, cap, cur, rfl, h1, h2, h3, h4, h5, h6⟩
  · omega
  · refine (remove_any p _ _ _ g cap i B x.L W h1 cur h2 h3 h4 h5 h6 hil hP).mono ?_
    rintro e w' ⟨rfl, sl', w1, hP', hR', hg, rfl⟩
    have hM1 : CutMap w1 mb k x.C := hM.grown hg (own_map hR hM)
    have hP1 : Blk w1 p 47 #[.int .i64 x.n, .map (some mb), .slice (some ⟨g, 0, none⟩) x.L.length cap, .int .i64 x.lost] := hP.grown hg (fun e => own_ne hR hP (by decide) e.symm)
    have hF1 : Fr B netObj W w1 := (Fr.refl B netObj W).row hg (fun y hy => by cases hy; exact Or.inr ⟨h1, _, h2, rfl⟩)
    obtain ⟨s1, s2⟩ := net_set hP1 hM1 hR' 2 sl'
    refine ⟨rfl, ⟨mb, sl', hP', s1, ?_, hp, hm⟩, hF1.setCell (Or.inr (mayNet hP1 hp (Or.inl rfl))) _, fun q cs hq W0 hN0 hg0 hq0 => ?_⟩
    · unfold outP
      simp only [Int.toNat_natCast]
      exact s2
    · obtain ⟨mb0, sl0, hP0, _, hR0', _⟩ := hN0
      have e1 := hP0.grown hg0 (by simp)
      unfold Blk at e1 hP
      rw [hP] at e1
      injection e1 with e1
      injection e1 with e1 _ _
      have e2 : sl0 = .slice (some ⟨g, 0, none⟩) x.L.length cap := by
        have := congrArg (fun a : Array Value => a[2]?) e1
        simpa using this.symm
      have hgl := (hR0'.lt g (by rw [e2]; rfl)).2
      have hpl : p < W0.heap.size := hP0.lt
      exact (hq.grown hg (fun e => by cases e; omega)).far (p := ⟨p, 2, none⟩) (by dsimp only; omega) _

set_option maxRecDepth 100000 in
set_option maxHeartbeats 2000000 in
/-- Deliver's steps: the message is taken off. -/
theorem deliverstep_ok (b0 b1 q B p k : Nat) (x : N8) (i : Nat) (m : Int × Int × ByteArray) (W0 w : World) (B0 : Blk w b0 24 #[.pointer (some ⟨p, 0, none⟩)]) (B1 : Blk w b1 3 #[.int .i64 (i : Int)]) (E : Blk w q 58 #[.int .i64 0, .int .i64 0, .string ⟨#[]⟩])
    (hN : NetAt B p k W0 x) (hn : x.n ≠ 0) (hi : x.L[i]? = some m) (hg0 : W0.grownBy w none) (hq : W0.heap.size ≤ q) (hb0 : b0 ≠ q) (hb1 : b1 ≠ q) (hBq : B ≤ q) :
    Calls Try.prog 34 #[.pointer (some ⟨b0, 0, none⟩), .pointer (some ⟨b1, 0, none⟩), .pointer (some ⟨q, 0, none⟩)] w fun e w' =>
      e = .returned (.tuple #[]) ∧ NetAt B p k w' (outP x (i : Int)) ∧ Blk w' q 58 (msgC m).toArray ∧ Fr B netObj w w' := by
  have fr0 : ∀ {W : World}, W0.grownBy W none → NetAt B p k W x := fun h => hN.fr (Fr.of_grown (B := B) (T := fun _ => false) h) (fun _ _ => rfl)
  have H := Lib.hid (number_net (fr0 hg0) hn (i : Int))
  rw [atP_in hi] at H
  have R := fun W (h : W0.grownBy W none) => Lib.hid (remove_net (fr0 h) i m hi)
  have HN := Lib.hid hN
  have d0 : w.cell? ⟨b0, 0, none⟩ = some (.pointer (some ⟨p, 0, none⟩)) := B0.cell 0
  have d1 : w.cell? ⟨b1, 0, none⟩ = some (.int .i64 (i : Int)) := B1.cell 0
  have HE := Lib.hid E
  clear E hN hn hi fr0
  obtain ⟨a, b, s⟩ := m
  go_enter Try.func34, Try.ntmps34
  go_wp2_with fail
  refine H.out.mono ?_
  rintro e w1 ⟨⟨m', hm', rfl⟩ | ⟨h, _⟩, g⟩
  · cases hm'
    have E1 := HE.out.grown g (by simp)
    have c0 := E1.cell 0
    have c1 := E1.cell 1
    have c2 := E1.cell 2
    have z0 := E1.frozen 0
    have z1 := E1.frozen 1
    have z2 := E1.frozen 2
    have S1 := Lib.hid (((E1.set_ 0 (.int .i64 a)).set_ 1 (.int .i64 b)).set_ 2 (.string s))
    have G1 : Hid (W0.grownBy (((w1.setCell ⟨q, 0, none⟩ (.int .i64 a)).setCell ⟨q, 1, none⟩ (.int .i64 b)).setCell ⟨q, 2, none⟩ (.string s)) none) := grown_set (grown_set (grown_set (kgrow_none hg0 g) hq _) hq _) hq _
    have F1 : Hid (Fr B netObj w (((w1.setCell ⟨q, 0, none⟩ (.int .i64 a)).setCell ⟨q, 1, none⟩ (.int .i64 b)).setCell ⟨q, 2, none⟩ (.string s))) :=
      (((Fr.of_grown g).setCell (p := ⟨q, 0, none⟩) (Or.inr (mayNet E1 hBq (Or.inr rfl))) _).setCell (p := ⟨q, 1, none⟩) (Or.inr (mayNet (E1.set_ 0 (.int .i64 a)) hBq (Or.inr rfl))) _).setCell (p := ⟨q, 2, none⟩) (Or.inr (mayNet ((E1.set_ 0 (.int .i64 a)).set_ 1 (.int .i64 b)) hBq (Or.inr rfl))) _
    have C0 := Lib.hid ((((B0.grown g (by simp)).far (p := ⟨q, 0, none⟩) hb0 (.int .i64 a)).far (p := ⟨q, 1, none⟩) hb0 (.int .i64 b)).far (p := ⟨q, 2, none⟩) hb0 (.string s))
    have C1 := Lib.hid ((((B1.grown g (by simp)).far (p := ⟨q, 0, none⟩) hb1 (.int .i64 a)).far (p := ⟨q, 1, none⟩) hb1 (.int .i64 b)).far (p := ⟨q, 2, none⟩) hb1 (.string s))
    clear E1 g
    unfold msgV
    go_upto_region 1 with fail
    generalize ((w1.setCell ⟨q, 0, none⟩ (.int .i64 a)).setCell ⟨q, 1, none⟩ (.int .i64 b)).setCell ⟨q, 2, none⟩ (.string s) = w2 at S1 G1 F1 C0 C1 ⊢
    clear c0 c1 c2 z0 z1 z2 d0 d1
    have d0 : w2.cell? ⟨b0, 0, none⟩ = some (.pointer (some ⟨p, 0, none⟩)) := C0.out.cell 0
    have d1 : w2.cell? ⟨b1, 0, none⟩ = some (.int .i64 (i : Int)) := C1.out.cell 0
    go_wp2_with fail
    refine (R _ G1.out).out.mono ?_
    rintro e w3 ⟨rfl, hN3, hF3, hb3⟩
    have K1 := Lib.hid hN3
    have K2 := Lib.hid hF3
    have K3 := Lib.hid (hb3 q _ S1.out W0 HN.out G1.out hq)
    clear hN3 hF3 hb3
    go_wp2
    go_end0
    exact ⟨rfl, K1.out, K3.out, F1.out.trans K2.out⟩
  · cases h
end Go.Proofs.Ytlogdbbaefpapaa
