/-
  NetCuts: a way that is cut loses what is sent from then on.
-/
import Derived.Test.YtlogdbbaefpapaaNet12
namespace Go.Proofs.Ytlogdbbaefpapaa
open Go.RowKit Go.Maps

theorem fr_below {w w' : World} {B : Nat} {T : Obj → Bool} (h : Below w.heap.size w w') : Fr B T w w' := ⟨h.os, h.tape, h.output, h.size, fun k _o hk _ => (h.block k (Array.getElem?_eq_some_iff.1 hk).1).trans hk⟩
theorem sendP_on {n f t : Int} {L : List (Int × Int × ByteArray)} {C : List (Int × Int)} {lo : Int} {s : ByteArray} (hw : wayB n f t = true) (hs : s.size ≤ 3000) (hc : C.contains (f, t) = false) (hl : decide (400 ≤ L.length) = false) : sendP ⟨n, L, C, lo⟩ f t s = (0, ⟨n, L ++ [(f, t, s)], C, lo⟩) := by
  unfold sendP
  have h1 : decide (65536 < s.size) = false := decide_eq_false (by omega)
  show (if !wayB n f t then _ else if decide (65536 < s.size) then _ else if C.contains (f, t) || decide (400 ≤ L.length) then _ else _) = _
  rw [hw, h1, hc, hl]
  rfl
theorem sendP_cut {n f t : Int} {L : List (Int × Int × ByteArray)} {C : List (Int × Int)} {lo : Int} {s : ByteArray} (hw : wayB n f t = true) (hs : s.size ≤ 3000) (hc : C.contains (f, t) = true) : sendP ⟨n, L, C, lo⟩ f t s = (0, ⟨n, L, C, lo + 1⟩) := by
  unfold sendP
  have h1 : decide (65536 < s.size) = false := decide_eq_false (by omega)
  show (if !wayB n f t then _ else if decide (65536 < s.size) then _ else if C.contains (f, t) || decide (400 ≤ L.length) then _ else _) = _
  rw [hw, h1, hc]
  rfl
set_option maxRecDepth 100000 in
set_option maxHeartbeats 4000000 in
theorem netcuts_some (a b c : ByteArray) (ha : a.size ≤ 3000) (hb : b.size ≤ 3000) (hc : c.size ≤ 3000) (hsum : a.size + b.size + c.size ≤ 3000) (w : World) :
    Calls Try.prog 6 #[.string a, .string b, .string c] w fun e w' => e = .returned (.bool true) ∧ Below w.heap.size w w' := by
  have s1 : ∀ p W, NetAt w.heap.size p 0 W ⟨2, [], [], 0⟩ → w.heap.size ≤ W.heap.size → Hid (Calls Try.prog 10 #[.pointer (some ⟨p, 0, none⟩), .int .i64 0, .int .i64 1, .string a] W fun e w' => e = .returned (.int .i64 0) ∧ NetAt w.heap.size p 0 w' ⟨2, [(0, 1, a)], [], 0⟩ ∧ Fr w.heap.size netObj W w') :=
    fun p W hN hB => by
      have h := send_any w.heap.size p 0 ⟨2, [], [], 0⟩ 0 1 a W hN (by dsimp only; decide) (by dsimp only; decide) (by simp) (by decide) (by decide) (by omega) hB
      rw [show sendP ⟨2, [], [], 0⟩ 0 1 a = (0, ⟨2, [(0, 1, a)], [], 0⟩) from (sendP_on (by decide) (by assumption) (by decide) (by rfl))] at h
      exact h
  have s2 : ∀ p W, NetAt w.heap.size p 0 W ⟨2, [(0, 1, a)], [], 0⟩ → w.heap.size ≤ W.heap.size → Hid (Calls Try.prog 20 #[.pointer (some ⟨p, 0, none⟩), .int .i64 0, .int .i64 1, .bool true] W fun e w' => e = .returned (.int .i64 0) ∧ NetAt w.heap.size p 1 w' ⟨2, [(0, 1, a)], [(0, 1)], 0⟩ ∧ Fr w.heap.size netObj W w') :=
    fun p W hN hB => cut_any hN 0 1 true (by decide) (by decide) (by decide)
  have s3 : ∀ p W, NetAt w.heap.size p 1 W ⟨2, [(0, 1, a)], [(0, 1)], 0⟩ → w.heap.size ≤ W.heap.size → Hid (Calls Try.prog 10 #[.pointer (some ⟨p, 0, none⟩), .int .i64 0, .int .i64 1, .string b] W fun e w' => e = .returned (.int .i64 0) ∧ NetAt w.heap.size p 1 w' ⟨2, [(0, 1, a)], [(0, 1)], 1⟩ ∧ Fr w.heap.size netObj W w') :=
    fun p W hN hB => by
      have h := send_any w.heap.size p 1 ⟨2, [(0, 1, a)], [(0, 1)], 0⟩ 0 1 b W hN (by dsimp only; decide) (by dsimp only; decide) (by simp) (by decide) (by decide) (by omega) hB
      rw [show sendP ⟨2, [(0, 1, a)], [(0, 1)], 0⟩ 0 1 b = (0, ⟨2, [(0, 1, a)], [(0, 1)], 1⟩) from (sendP_cut (by decide) (by assumption) (by decide))] at h
      exact h
  have s4 : ∀ p W, NetAt w.heap.size p 1 W ⟨2, [(0, 1, a)], [(0, 1)], 1⟩ → w.heap.size ≤ W.heap.size → Hid (Calls Try.prog 10 #[.pointer (some ⟨p, 0, none⟩), .int .i64 1, .int .i64 0, .string b] W fun e w' => e = .returned (.int .i64 0) ∧ NetAt w.heap.size p 1 w' ⟨2, [(0, 1, a), (1, 0, b)], [(0, 1)], 1⟩ ∧ Fr w.heap.size netObj W w') :=
    fun p W hN hB => by
      have h := send_any w.heap.size p 1 ⟨2, [(0, 1, a)], [(0, 1)], 1⟩ 1 0 b W hN (by dsimp only; decide) (by dsimp only; decide) (by simp) (by decide) (by decide) (by omega) hB
      rw [show sendP ⟨2, [(0, 1, a)], [(0, 1)], 1⟩ 1 0 b = (0, ⟨2, [(0, 1, a), (1, 0, b)], [(0, 1)], 1⟩) from (sendP_on (by decide) (by assumption) (by decide) (by rfl))] at h
      exact h
  have s5 : ∀ p W, NetAt w.heap.size p 1 W ⟨2, [(0, 1, a), (1, 0, b)], [(0, 1)], 1⟩ → w.heap.size ≤ W.heap.size → Hid (Calls Try.prog 24 #[.pointer (some ⟨p, 0, none⟩), .int .i64 0, .int .i64 1] W fun e w' => e = .returned (.bool true) ∧ NetAt w.heap.size p 1 w' ⟨2, [(0, 1, a), (1, 0, b)], [(0, 1)], 1⟩ ∧ Fr w.heap.size netObj W w') :=
    fun p W hN hB => (iscut_any hN 0 1 (by decide) (by decide)).mono fun e w' h => ⟨h.1, hN.up h.2, Fr.of_grown h.2⟩
  have s6 : ∀ p W, NetAt w.heap.size p 1 W ⟨2, [(0, 1, a), (1, 0, b)], [(0, 1)], 1⟩ → w.heap.size ≤ W.heap.size → Hid (Calls Try.prog 24 #[.pointer (some ⟨p, 0, none⟩), .int .i64 1, .int .i64 0] W fun e w' => e = .returned (.bool false) ∧ NetAt w.heap.size p 1 w' ⟨2, [(0, 1, a), (1, 0, b)], [(0, 1)], 1⟩ ∧ Fr w.heap.size netObj W w') :=
    fun p W hN hB => (iscut_any hN 1 0 (by decide) (by decide)).mono fun e w' h => ⟨h.1, hN.up h.2, Fr.of_grown h.2⟩
  have s7 : ∀ p W, NetAt w.heap.size p 1 W ⟨2, [(0, 1, a), (1, 0, b)], [(0, 1)], 1⟩ → w.heap.size ≤ W.heap.size → Hid (Calls Try.prog 22 #[.pointer (some ⟨p, 0, none⟩)] W fun e w' => e = .returned (.int .i64 2) ∧ NetAt w.heap.size p 1 w' ⟨2, [(0, 1, a), (1, 0, b)], [(0, 1)], 1⟩ ∧ Fr w.heap.size netObj W w') :=
    fun p W hN hB => (len_any hN).mono fun e w' h => ⟨h.1, h.2 ▸ hN, h.2 ▸ Fr.refl _ _ _⟩
  have s8 : ∀ p W, NetAt w.heap.size p 1 W ⟨2, [(0, 1, a), (1, 0, b)], [(0, 1)], 1⟩ → w.heap.size ≤ W.heap.size → Hid (Calls Try.prog 23 #[.pointer (some ⟨p, 0, none⟩)] W fun e w' => e = .returned (.int .i64 1) ∧ NetAt w.heap.size p 1 w' ⟨2, [(0, 1, a), (1, 0, b)], [(0, 1)], 1⟩ ∧ Fr w.heap.size netObj W w') :=
    fun p W hN hB => (lost_any hN).mono fun e w' h => ⟨h.1, h.2 ▸ hN, h.2 ▸ Fr.refl _ _ _⟩
  have s9 : ∀ p W, NetAt w.heap.size p 1 W ⟨2, [(0, 1, a), (1, 0, b)], [(0, 1)], 1⟩ → w.heap.size ≤ W.heap.size → Hid (Calls Try.prog 20 #[.pointer (some ⟨p, 0, none⟩), .int .i64 0, .int .i64 1, .bool false] W fun e w' => e = .returned (.int .i64 0) ∧ NetAt w.heap.size p 2 w' ⟨2, [(0, 1, a), (1, 0, b)], [], 1⟩ ∧ Fr w.heap.size netObj W w') :=
    fun p W hN hB => cut_any hN 0 1 false (by decide) (by decide) (by decide)
  have s10 : ∀ p W, NetAt w.heap.size p 2 W ⟨2, [(0, 1, a), (1, 0, b)], [], 1⟩ → w.heap.size ≤ W.heap.size → Hid (Calls Try.prog 10 #[.pointer (some ⟨p, 0, none⟩), .int .i64 0, .int .i64 1, .string c] W fun e w' => e = .returned (.int .i64 0) ∧ NetAt w.heap.size p 2 w' ⟨2, [(0, 1, a), (1, 0, b), (0, 1, c)], [], 1⟩ ∧ Fr w.heap.size netObj W w') :=
    fun p W hN hB => by
      have h := send_any w.heap.size p 2 ⟨2, [(0, 1, a), (1, 0, b)], [], 1⟩ 0 1 c W hN (by dsimp only; decide) (by dsimp only; decide) (by simp) (by decide) (by decide) (by omega) hB
      rw [show sendP ⟨2, [(0, 1, a), (1, 0, b)], [], 1⟩ 0 1 c = (0, ⟨2, [(0, 1, a), (1, 0, b), (0, 1, c)], [], 1⟩) from (sendP_on (by decide) (by assumption) (by decide) (by rfl))] at h
      exact h
  have s11 : ∀ p W, NetAt w.heap.size p 2 W ⟨2, [(0, 1, a), (1, 0, b), (0, 1, c)], [], 1⟩ → w.heap.size ≤ W.heap.size → Hid (Calls Try.prog 14 #[.pointer (some ⟨p, 0, none⟩), .int .i64 0] W fun e w' => e = .returned (.tuple #[.int .i64 0, .int .i64 1, .string a, .int .i64 0]) ∧ NetAt w.heap.size p 2 w' ⟨2, [(1, 0, b), (0, 1, c)], [], 1⟩ ∧ Fr w.heap.size netObj W w') :=
    fun p W hN hB => deliver_any hN (by dsimp only; decide) 0 hB
  have s12 : ∀ p W, NetAt w.heap.size p 2 W ⟨2, [(1, 0, b), (0, 1, c)], [], 1⟩ → w.heap.size ≤ W.heap.size → Hid (Calls Try.prog 14 #[.pointer (some ⟨p, 0, none⟩), .int .i64 0] W fun e w' => e = .returned (.tuple #[.int .i64 1, .int .i64 0, .string b, .int .i64 0]) ∧ NetAt w.heap.size p 2 w' ⟨2, [(0, 1, c)], [], 1⟩ ∧ Fr w.heap.size netObj W w') :=
    fun p W hN hB => deliver_any hN (by dsimp only; decide) 0 hB
  have s13 : ∀ p W, NetAt w.heap.size p 2 W ⟨2, [(0, 1, c)], [], 1⟩ → w.heap.size ≤ W.heap.size → Hid (Calls Try.prog 14 #[.pointer (some ⟨p, 0, none⟩), .int .i64 0] W fun e w' => e = .returned (.tuple #[.int .i64 0, .int .i64 1, .string c, .int .i64 0]) ∧ NetAt w.heap.size p 2 w' ⟨2, [], [], 1⟩ ∧ Fr w.heap.size netObj W w') :=
    fun p W hN hB => deliver_any hN (by dsimp only; decide) 0 hB
  have s15 : ∀ p W, NetAt w.heap.size p 2 W ⟨2, [], [], 1⟩ → w.heap.size ≤ W.heap.size → Hid (Calls Try.prog 22 #[.pointer (some ⟨p, 0, none⟩)] W fun e w' => e = .returned (.int .i64 0) ∧ NetAt w.heap.size p 2 w' ⟨2, [], [], 1⟩ ∧ Fr w.heap.size netObj W w') :=
    fun p W hN hB => (len_any hN).mono fun e w' h => ⟨h.1, h.2 ▸ hN, h.2 ▸ Fr.refl _ _ _⟩
  have s0 := Lib.hid (new_any 2 w (by decide) (by decide))
  have hal : ∀ p W, NetAt w.heap.size p 2 W ⟨2, [], [], 1⟩ → w.heap.size ≤ W.heap.size → Hid (Calls Try.prog 8 #[] W fun e w' => e = .returned (.bool true) ∧ NetAt w.heap.size p 2 w' ⟨2, [], [], 1⟩ ∧ Fr w.heap.size netObj W w') :=
    fun p W hN hB => (alive8_any W).mono fun e w' h => ⟨h.1, hN.fr (fr_below (B := 0) (T := fun _ => false) h.2) (fun _ _ => rfl), fr_below h.2⟩
  have gs : decide (3000 < (a.size : Int) + (b.size : Int) + (c.size : Int)) = false := decide_eq_false (by omega)
  have gw1 : wrap64 ((a.size : Int) + (b.size : Int)) = (a.size : Int) + (b.size : Int) := by unfold wrap64; omega
  have gw2 : wrap64 ((a.size : Int) + (b.size : Int) + (c.size : Int)) = (a.size : Int) + (b.size : Int) + (c.size : Int) := by unfold wrap64; omega
  clear ha hb hc hsum
  go_enter Try.func6, Try.ntmps6
  go_wp2_with fail
  refine s0.out.mono ?_
  rintro e w1 ⟨p, rfl, hN, hg⟩
  have N0 := Lib.hid hN
  have G0 := Lib.hid (Fr.of_grown (B := w.heap.size) (T := netObj) hg)
  unfold newP at N0
  clear hN hg s0
  go_wp2_with fail
  refine (s1 p _ N0.out G0.out.size).out.mono ?_
  rintro e v1 ⟨rfl, hN, hg⟩
  have N1 := Lib.hid hN
  have G1 := Lib.hid (G0.out.trans hg)
  clear hN hg N0 G0 s1
  go_wp2_with fail
  refine (s2 p _ N1.out G1.out.size).out.mono ?_
  rintro e v2 ⟨rfl, hN, hg⟩
  have N2 := Lib.hid hN
  have G2 := Lib.hid (G1.out.trans hg)
  clear hN hg N1 G1 s2
  go_wp2_with fail
  refine (s3 p _ N2.out G2.out.size).out.mono ?_
  rintro e v3 ⟨rfl, hN, hg⟩
  have N3 := Lib.hid hN
  have G3 := Lib.hid (G2.out.trans hg)
  clear hN hg N2 G2 s3
  go_wp2_with fail
  refine (s4 p _ N3.out G3.out.size).out.mono ?_
  rintro e v4 ⟨rfl, hN, hg⟩
  have N4 := Lib.hid hN
  have G4 := Lib.hid (G3.out.trans hg)
  clear hN hg N3 G3 s4
  go_wp2_with fail
  refine (s5 p _ N4.out G4.out.size).out.mono ?_
  rintro e v5 ⟨rfl, hN, hg⟩
  have N5 := Lib.hid hN
  have G5 := Lib.hid (G4.out.trans hg)
  clear hN hg N4 G4 s5
  go_wp2_with fail
  refine (s6 p _ N5.out G5.out.size).out.mono ?_
  rintro e v6 ⟨rfl, hN, hg⟩
  have N6 := Lib.hid hN
  have G6 := Lib.hid (G5.out.trans hg)
  clear hN hg N5 G5 s6
  go_wp2_with fail
  refine (s7 p _ N6.out G6.out.size).out.mono ?_
  rintro e v7 ⟨rfl, hN, hg⟩
  have N7 := Lib.hid hN
  have G7 := Lib.hid (G6.out.trans hg)
  clear hN hg N6 G6 s7
  go_wp2_with fail
  refine (s8 p _ N7.out G7.out.size).out.mono ?_
  rintro e v8 ⟨rfl, hN, hg⟩
  have N8 := Lib.hid hN
  have G8 := Lib.hid (G7.out.trans hg)
  clear hN hg N7 G7 s8
  go_wp2_with fail
  refine (s9 p _ N8.out G8.out.size).out.mono ?_
  rintro e v9 ⟨rfl, hN, hg⟩
  have N9 := Lib.hid hN
  have G9 := Lib.hid (G8.out.trans hg)
  clear hN hg N8 G8 s9
  go_wp2_with fail
  refine (s10 p _ N9.out G9.out.size).out.mono ?_
  rintro e v10 ⟨rfl, hN, hg⟩
  have N10 := Lib.hid hN
  have G10 := Lib.hid (G9.out.trans hg)
  clear hN hg N9 G9 s10
  go_wp2_with fail
  refine (s11 p _ N10.out G10.out.size).out.mono ?_
  rintro e v11 ⟨rfl, hN, hg⟩
  have N11 := Lib.hid hN
  have G11 := Lib.hid (G10.out.trans hg)
  clear hN hg N10 G10 s11
  go_wp2_with fail
  refine (s12 p _ N11.out G11.out.size).out.mono ?_
  rintro e v12 ⟨rfl, hN, hg⟩
  have N12 := Lib.hid hN
  have G12 := Lib.hid (G11.out.trans hg)
  clear hN hg N11 G11 s12
  go_wp2_with fail
  refine (s13 p _ N12.out G12.out.size).out.mono ?_
  rintro e v13 ⟨rfl, hN, hg⟩
  have N13 := Lib.hid hN
  have G13 := Lib.hid (G12.out.trans hg)
  clear hN hg N12 G12 s13
  go_wp2_with fail
  refine (hal p _ N13.out G13.out.size).out.mono ?_
  rintro e v14 ⟨rfl, hN, hg⟩
  have N14 := Lib.hid hN
  have G14 := Lib.hid (G13.out.trans hg)
  clear hN hg N13 G13 hal
  go_wp2_with fail
  refine (s15 p _ N14.out G14.out.size).out.mono ?_
  rintro e v15 ⟨rfl, hN, hg⟩
  have N15 := Lib.hid hN
  have G15 := Lib.hid (G14.out.trans hg)
  clear hN hg N14 G14 s15
  go_wp2_with fail
  go_ret
  exact ⟨rfl, G15.out.below (Nat.le_refl _)⟩

set_option maxRecDepth 100000 in
set_option maxHeartbeats 1000000 in
theorem netcuts_long (a b c : ByteArray) (ha : a.size ≤ 140737488351232) (hb : b.size ≤ 140737488351232) (hc : c.size ≤ 140737488351232) (hsum : 3000 < a.size + b.size + c.size) (w : World) :
    Calls Try.prog 6 #[.string a, .string b, .string c] w fun e w' => e = .returned (.bool true) ∧ Below w.heap.size w w' := by
  have gs : decide (3000 < (a.size : Int) + (b.size : Int) + (c.size : Int)) = true := decide_eq_true (by omega)
  have gw1 : wrap64 ((a.size : Int) + (b.size : Int)) = (a.size : Int) + (b.size : Int) := by unfold wrap64; omega
  have gw2 : wrap64 ((a.size : Int) + (b.size : Int) + (c.size : Int)) = (a.size : Int) + (b.size : Int) + (c.size : Int) := by unfold wrap64; omega
  have al := Lib.hid (alive8_any w)
  clear ha hb hc hsum
  go_enter Try.func6, Try.ntmps6
  go_wp2_with fail
  refine al.out.mono ?_
  rintro e w1 ⟨rfl, h⟩
  have H := Lib.hid h
  clear h
  go_wp2_with fail
  go_ret
  exact ⟨rfl, H.out⟩

theorem lawNetCuts (a : ByteArray) (ha : a.size ≤ 140737488351232) (b : ByteArray) (hb : b.size ≤ 140737488351232) (c : ByteArray) (hc : c.size ≤ 140737488351232) (w : World) :
    Calls Try.prog 6 #[.string a, .string b, .string c] w fun e w' => e = .returned (.bool true) ∧ Below w.heap.size w w' := by
  by_cases h : 3000 < a.size + b.size + c.size
  · exact netcuts_long a b c ha hb hc h w
  · exact netcuts_some a b c (by omega) (by omega) (by omega) (by omega) w
end Go.Proofs.Ytlogdbbaefpapaa
