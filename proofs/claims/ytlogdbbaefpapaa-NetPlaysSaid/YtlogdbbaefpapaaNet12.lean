/-
  Package net, part 12: New, Len, Lost, IsCut; the first call whose answer is fixed.
-/
import Derived.Test.YtlogdbbaefpapaaNet11
namespace Go.Proofs.Ytlogdbbaefpapaa
open Go.RowKit Go.Maps

def newP (n : Int) : N8 := ⟨n, [], [], 0⟩
set_option maxHeartbeats 2000000 in
theorem new_any (n : Int) (w : World) (h1 : 1 ≤ n) (h8 : n ≤ 8) :
    Calls Try.prog 9 #[.int .i64 n] w fun e w' => ∃ p, e = .returned (.pointer (some ⟨p, 0, none⟩)) ∧ NetAt w.heap.size p 0 w' (newP n) ∧ w.grownBy w' none := by
  have hmm := @run_makeMap Try.prog
  have g1 : decide (n < 1) = false := decide_eq_false (by omega)
  have g2 : decide (8 < n) = false := decide_eq_false (by omega)
  have HM : Hid (((w.alloc (.map #[] 0)).alloc (.cells #[.int .i64 n, .map (some w.heap.size), .slice none 0 0, .int .i64 0] 47)).ownsMap Try.prog 55 (unitElem (H := Unit)) w.heap.size 0 (.map [])) := (World.ownsMap_made w _ _ _).alloc _
  have HP : Hid (Blk ((w.alloc (.map #[] 0)).alloc (.cells #[.int .i64 n, .map (some w.heap.size), .slice none 0 0, .int .i64 0] 47)) (w.heap.size + 1) 47 #[.int .i64 n, .map (some w.heap.size), .slice none 0 0, .int .i64 0]) := Blk.new' (by simp) _ _
  have HG : Hid (w.grownBy ((w.alloc (.map #[] 0)).alloc (.cells #[.int .i64 n, .map (some w.heap.size), .slice none 0 0, .int .i64 0] 47)) none) := kgrow_none (World.grownBy_alloc _ _ _) (World.grownBy_alloc _ _ _)
  clear h1 h8
  go_enter Try.func9, Try.ntmps9
  go_wp2
  go_ret
  exact ⟨w.heap.size + 1, rfl, ⟨w.heap.size, _, HP.out, ⟨_, HM.out, fun a b _ _ => rfl⟩, World.ownsRow_nil _ _ _ _, Nat.le_succ _, Nat.le_refl _⟩, HG.out⟩

set_option maxHeartbeats 400000 in
theorem new_none (n : Int) (w : World) (h : n < 1 ∨ 8 < n) :
    Calls Try.prog 9 #[.int .i64 n] w fun e w' => e = .returned (.pointer none) ∧ w' = w := by
  by_cases h1 : n < 1
  · have g1 : decide (n < 1) = true := decide_eq_true h1
    clear h h1
    go_enter Try.func9, Try.ntmps9
    go_wp2
    go_ret
    exact ⟨rfl, rfl⟩
  · have g1 : decide (n < 1) = false := decide_eq_false h1
    have g2 : decide (8 < n) = true := decide_eq_true (by omega)
    clear h h1
    go_enter Try.func9, Try.ntmps9
    go_wp2
    go_ret
    exact ⟨rfl, rfl⟩

set_option maxHeartbeats 400000 in
theorem len_any {B p k : Nat} {x : N8} {w : World} (hN : NetAt B p k w x) :
    Calls Try.prog 22 #[.pointer (some ⟨p, 0, none⟩)] w fun e w' => e = .returned (.int .i64 (x.L.length : Int)) ∧ w' = w := by
  obtain ⟨A, c, c2⟩ := hN.row2
  generalize x.L.length = n at *
  clear hN
  go_enter Try.func22, Try.ntmps22
  go_wp2
  go_ret
  exact ⟨rfl, rfl⟩
set_option maxHeartbeats 400000 in
theorem len_at (p : Nat) (A : Option Addr) (n c : Nat) (w : World) (c2 : w.cell? ⟨p, 2, none⟩ = some (.slice A n c)) :
    Calls Try.prog 22 #[.pointer (some ⟨p, 0, none⟩)] w fun e w' => e = .returned (.int .i64 (n : Int)) ∧ w' = w := by
  go_enter Try.func22, Try.ntmps22
  go_wp2
  go_ret
  exact ⟨rfl, rfl⟩
set_option maxHeartbeats 400000 in
theorem len_nil (w : World) : Calls Try.prog 22 #[.pointer none] w fun e w' => e = .returned (.int .i64 0) ∧ w' = w := by
  go_enter Try.func22, Try.ntmps22
  go_wp2
  go_ret
  exact ⟨rfl, rfl⟩
set_option maxHeartbeats 400000 in
theorem lost_at (p : Nat) (y : Int) (w : World) (c3 : w.cell? ⟨p, 3, none⟩ = some (.int .i64 y)) :
    Calls Try.prog 23 #[.pointer (some ⟨p, 0, none⟩)] w fun e w' => e = .returned (.int .i64 y) ∧ w' = w := by
  go_enter Try.func23, Try.ntmps23
  go_wp2
  go_ret
  exact ⟨rfl, rfl⟩
theorem lost_any {B p k : Nat} {x : N8} {w : World} (hN : NetAt B p k w x) :
    Calls Try.prog 23 #[.pointer (some ⟨p, 0, none⟩)] w fun e w' => e = .returned (.int .i64 x.lost) ∧ w' = w := by
  obtain ⟨c3, _⟩ := hN.lose
  exact lost_at p x.lost w c3
set_option maxHeartbeats 400000 in
theorem lost_nil (w : World) : Calls Try.prog 23 #[.pointer none] w fun e w' => e = .returned (.int .i64 0) ∧ w' = w := by
  go_enter Try.func23, Try.ntmps23
  go_wp2
  go_ret
  exact ⟨rfl, rfl⟩
set_option maxHeartbeats 400000 in
theorem iscut_nil (a b : Int) (w : World) : Calls Try.prog 24 #[.pointer none, .int .i64 a, .int .i64 b] w fun e w' => e = .returned (.bool false) ∧ w' = w := by
  go_enter Try.func24, Try.ntmps24
  go_wp2
  go_ret
  exact ⟨rfl, rfl⟩
set_option maxHeartbeats 1000000 in
/-- IsCut, whatever the look-up says. -/
theorem iscut_of (p : Nat) (mv : Option Nat) (a b : Int) (c : Bool) (w : World) (c1 : w.cell? ⟨p, 1, none⟩ = some (.map mv))
    (l0 : (Instr.lookup 44 (.map mv) (.agg #[.int .i64 a, .int .i64 b]) true).run Try.prog w = .ok (.tuple #[.agg #[], .bool c]) w) :
    Calls Try.prog 24 #[.pointer (some ⟨p, 0, none⟩), .int .i64 a, .int .i64 b] w fun e w' => e = .returned (.bool c) ∧ w.grownBy w' none := by
  have hg : Hid (w.grownBy (w.alloc (.cells #[] 59)) none) := World.grownBy_alloc _ _ _
  go_enter Try.func24, Try.ntmps24
  go_wp2
  go_ret
  exact ⟨rfl, hg.out⟩
theorem iscut_any {B p k : Nat} {x : N8} {w : World} (hN : NetAt B p k w x) (a b : Int) (ha : (Lit.int .i64 a).wf = true) (hb : (Lit.int .i64 b).wf = true) :
    Calls Try.prog 24 #[.pointer (some ⟨p, 0, none⟩), .int .i64 a, .int .i64 b] w fun e w' => e = .returned (.bool (x.C.contains (a, b))) ∧ w.grownBy w' none := by
  obtain ⟨m, sl, hP, hM, _⟩ := hN
  exact iscut_of p (some m) a b _ w (hP.cell 1) (look_way hM ha hb)
theorem iscut_zero (p : Nat) (a b : Int) (w : World) (c1 : w.cell? ⟨p, 1, none⟩ = some (.map none)) (ha : (Lit.int .i64 a).wf = true) (hb : (Lit.int .i64 b).wf = true) :
    Calls Try.prog 24 #[.pointer (some ⟨p, 0, none⟩), .int .i64 a, .int .i64 b] w fun e w' => e = .returned (.bool false) ∧ w.grownBy w' none :=
  iscut_of p none a b false w c1 (Maps.look_nil true wayLaw Try.underlying44 (zero59 w) (key_at ha hb))

def aS : ByteArray := ⟨#[97]⟩
def bS : ByteArray := ⟨#[98]⟩
set_option maxRecDepth 100000 in
set_option maxHeartbeats 4000000 in
theorem alive8_any (w : World) : Calls Try.prog 8 #[] w fun e w' => e = .returned (.bool true) ∧ Below w.heap.size w w' := by
  have S1 : ∀ p W, NetAt w.heap.size p 0 W (newP 2) → w.heap.size ≤ W.heap.size → Hid (Calls Try.prog 10 #[.pointer (some ⟨p, 0, none⟩), .int .i64 0, .int .i64 1, .string ⟨#[97]⟩] W fun e w' => e = .returned (.int .i64 0) ∧ NetAt w.heap.size p 0 w' ⟨2, [(0, 1, aS)], [], 0⟩ ∧ Fr w.heap.size netObj W w') :=
    fun p W hN hB => send_any w.heap.size p 0 (newP 2) 0 1 ⟨#[97]⟩ W hN (by decide) (by decide) (by decide) (by decide) (by decide) (by decide) hB
  have S2 : ∀ p W, NetAt w.heap.size p 0 W ⟨2, [(0, 1, aS)], [], 0⟩ → w.heap.size ≤ W.heap.size → Hid (Calls Try.prog 10 #[.pointer (some ⟨p, 0, none⟩), .int .i64 0, .int .i64 1, .string ⟨#[98]⟩] W fun e w' => e = .returned (.int .i64 0) ∧ NetAt w.heap.size p 0 w' ⟨2, [(0, 1, aS), (0, 1, bS)], [], 0⟩ ∧ Fr w.heap.size netObj W w') :=
    fun p W hN hB => send_any w.heap.size p 0 ⟨2, [(0, 1, aS)], [], 0⟩ 0 1 ⟨#[98]⟩ W hN (by decide) (by decide) (by decide) (by decide) (by decide) (by decide) hB
  have S3 : ∀ p W, NetAt w.heap.size p 0 W ⟨2, [(0, 1, aS), (0, 1, bS)], [], 0⟩ → w.heap.size ≤ W.heap.size → Hid (Calls Try.prog 18 #[.pointer (some ⟨p, 0, none⟩), .int .i64 0] W fun e w' => e = .returned (.int .i64 0) ∧ NetAt w.heap.size p 0 w' ⟨2, [(0, 1, aS), (0, 1, bS), (0, 1, aS)], [], 0⟩ ∧ Fr w.heap.size netObj W w') :=
    fun p W hN hB => twice_any hN (by decide) 0 (by decide) hB
  have S4 : ∀ p W, NetAt w.heap.size p 0 W ⟨2, [(0, 1, aS), (0, 1, bS), (0, 1, aS)], [], 0⟩ → w.heap.size ≤ W.heap.size → Hid (Calls Try.prog 14 #[.pointer (some ⟨p, 0, none⟩), .int .i64 1] W fun e w' => e = .returned (.tuple #[.int .i64 0, .int .i64 1, .string ⟨#[98]⟩, .int .i64 0]) ∧ NetAt w.heap.size p 0 w' ⟨2, [(0, 1, aS), (0, 1, aS)], [], 0⟩ ∧ Fr w.heap.size netObj W w') :=
    fun p W hN hB => deliver_any hN (by decide) 1 hB
  have S5 : ∀ p W, NetAt w.heap.size p 0 W ⟨2, [(0, 1, aS), (0, 1, aS)], [], 0⟩ → Hid (Calls Try.prog 22 #[.pointer (some ⟨p, 0, none⟩)] W fun e w' => e = .returned (.int .i64 2) ∧ w' = W) :=
    fun p W hN => len_any hN
  have S0 := Lib.hid (new_any 2 w (by decide) (by decide))
  go_enter Try.func8, Try.ntmps8
  go_wp2_with fail
  refine S0.out.mono ?_
  rintro e w1 ⟨p, rfl, hN, hg⟩
  have N1 := Lib.hid hN
  have G1 := Lib.hid (Fr.of_grown (B := w.heap.size) (T := netObj) hg)
  clear hN hg S0
  go_wp2_with fail
  refine (S1 p _ N1.out G1.out.size).out.mono ?_
  rintro e w2 ⟨rfl, hN, hg⟩
  have N2 := Lib.hid hN
  have G2 := Lib.hid (G1.out.trans hg)
  clear hN hg N1 G1
  go_wp2_with fail
  refine (S2 p _ N2.out G2.out.size).out.mono ?_
  rintro e w3 ⟨rfl, hN, hg⟩
  have N3 := Lib.hid hN
  have G3 := Lib.hid (G2.out.trans hg)
  clear hN hg N2 G2
  go_wp2_with fail
  refine (S3 p _ N3.out G3.out.size).out.mono ?_
  rintro e w4 ⟨rfl, hN, hg⟩
  have N4 := Lib.hid hN
  have G4 := Lib.hid (G3.out.trans hg)
  clear hN hg N3 G3
  go_wp2_with fail
  refine (S4 p _ N4.out G4.out.size).out.mono ?_
  rintro e w5 ⟨rfl, hN, hg⟩
  have N5 := Lib.hid hN
  have G5 := Lib.hid (G4.out.trans hg)
  clear hN hg N4 G4
  go_wp2_with fail
  refine (S5 p _ N5.out).out.mono ?_
  rintro e w6 ⟨rfl, h6⟩
  subst h6
  go_wp2_with fail
  go_ret
  exact ⟨rfl, G5.out.below (Nat.le_refl _)⟩
end Go.Proofs.Ytlogdbbaefpapaa
