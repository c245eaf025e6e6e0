/-
  NetPlays: every call, in every order.
-/
import Derived.Test.YtlogdbbaefpapaaNetP
import Derived.LoopTactic
import Derived.Deep.CutBlock
import Derived.Deep.CutRange
namespace Go.Proofs.Ytlogdbbaefpapaa
open Go.RowKit Go.Maps

set_option maxRecDepth 100000 in
set_option maxHeartbeats 1000000 in
theorem netplays_long (m : Int) (A : Option Addr) (n c : Nat) (w : World) (h : 300 < n) :
    Calls Try.prog 3 #[.int .i64 m, .slice A n c] w fun e w' => e = .returned (.bool true) ∧ Below w.heap.size w w' := by
  have al := Lib.hid (alive8_any w)
  have g1 : (300 : Int) < (n : Int) := by omega
  clear h
  go_enter Try.func3, Try.ntmps3
  go_wp2_with fail
  refine al.out.mono ?_
  rintro e w1 ⟨rfl, h⟩
  have H := Lib.hid h
  clear h
  go_wp2_with fail
  go_ret
  exact ⟨rfl, H.out⟩
set_option maxRecDepth 100000 in
set_option maxHeartbeats 2000000 in
theorem netplays_none (m : Int) (A : Option Addr) (n c : Nat) (w : World) (h : n ≤ 300) (hm : m < 1 ∨ 8 < m) :
    Calls Try.prog 3 #[.int .i64 m, .slice A n c] w fun e w' => e = .returned (.bool true) ∧ Below w.heap.size w w' := by
  have al := Lib.hid (alive8_any w)
  have s0 := Lib.hid (new_none m w hm)
  have g1 : ¬ (300 : Int) < (n : Int) := by omega
  clear h
  by_cases h1 : m < 1
  · clear hm
    go_enter Try.func3, Try.ntmps3
    go_wp2_with fail
    refine s0.out.mono ?_
    rintro e w1 ⟨rfl, rfl⟩
    go_wp2_with fail
    refine al.out.mono ?_
    rintro e w1 ⟨rfl, h⟩
    have H := Lib.hid h
    clear h
    go_wp2_with fail
    go_ret
    exact ⟨rfl, H.out⟩
  · have h2 : 8 < m := by omega
    clear hm
    go_enter Try.func3, Try.ntmps3
    go_wp2_with fail
    refine s0.out.mono ?_
    rintro e w1 ⟨rfl, rfl⟩
    go_wp2_with fail
    refine al.out.mono ?_
    rintro e w1 ⟨rfl, h⟩
    have H := Lib.hid h
    clear h
    go_wp2_with fail
    go_ret
    exact ⟨rfl, H.out⟩

set_option maxRecDepth 100000 in
set_option maxHeartbeats 16000000 in
theorem netplays_some (m : Int) (A : Option Addr) (n c : Nat) (K X Y : Nat → Int) (D : Nat → ByteArray) (w : World) (I : NOpsIn w A n K X Y D) (h : n ≤ 300) (hm1 : 1 ≤ m) (hm8 : m ≤ 8) :
    Calls Try.prog 3 #[.int .i64 m, .slice A n c] w fun e w' => e = .returned (.bool true) ∧ Below w.heap.size w w' := by
  have g1 : ¬ (300 : Int) < (n : Int) := by omega
  have g3 : ¬ m < 1 := by omega
  have g4 : ¬ 8 < m := by omega
  have HI := Lib.hid I
  have HA := fun W => Lib.hid (alive8_any W)
  have s0 := Lib.hid (new_any m w hm1 hm8)
  have V0 : Hid (Inv 0 0 ⟨m, [], [], 0⟩) := ⟨hm1, hm8, Int.le_refl 0, Int.le_refl 0, Nat.zero_le _, Nat.zero_le _⟩
  clear I hm1 hm8
  have mixed : Try.prog.follows .mixedOrders = true := by kernel_rfl
  go_enter Try.func3, Try.ntmps3
  go_wp2_with fail
  refine s0.out.mono ?_
  rintro e w1 ⟨p, rfl, hN, hg⟩
  have N1 := Lib.hid hN
  have B1 := Lib.hid ((Fr.of_grown (B := w.heap.size) (T := fun _ => false) hg).below (Nat.le_refl _))
  unfold newP at N1
  clear hN hg s0
  have G2 : w1.grownBy (w1.alloc (.cells #[.int .i64 m, .slice none 0 0, .slice none 0 0, .int .i64 0] 30)) none := World.grownBy_alloc _ _ _
  have N2 := Lib.hid (N1.out.up G2)
  have R2 : Hid (RAt w.heap.size w1.heap.size (w1.alloc (.cells #[.int .i64 m, .slice none 0 0, .slice none 0 0, .int .i64 0] 30)) ⟨m, [], [], 0⟩) := ⟨_, _, Blk.new _ _ _, World.ownsRow_nil _ _ _ _, World.ownsRow_nil _ _ _ _, B1.out.size, fun m hm => by cases hm⟩
  have B2 := Lib.hid (B1.out.trans ((Fr.of_grown (B := w1.heap.size) (T := fun _ => false) G2).below (Nat.le_refl _) |>.mono B1.out.size))
  clear N1 B1 G2
  go_wp2_with fail
  generalize w1.alloc (.cells #[.int .i64 m, .slice none 0 0, .slice none 0 0, .int .i64 0] 30) = w2 at *
  generalize w1.heap.size = q at *
  go_loopw [7] (fun i wr => ∃ (k : Nat) (x : N8), k ≤ n ∧ i = .int .i64 (k : Int) ∧ Hid (Inv (31 * k) k x) ∧ Hid (NetAt w.heap.size p k wr x) ∧ Hid (RAt w.heap.size q wr x) ∧ Hid (Below w.heap.size w wr)) (fun i _ => n - (intOf i).toNat)
  case atStart => exact ⟨0, _, by omega, rfl, V0, N2, R2, B2⟩
  case round =>
    obtain ⟨k, x, hk, rfl, V, N, R, Bw⟩ := hrel
    clear V0 N2 R2 B2
    by_cases hl : k < n
    · obtain ⟨b0, off, rfl, hcc⟩ := HI.out.at hl
      obtain ⟨wx, wy, hzs⟩ := HI.out.wf k hl
      obtain ⟨x0, x1, x2, x3⟩ := hcc _ Bw.out
      have g2 : (k : Int) < (n : Int) := by omega
      have hk2 : k < 1000 := by omega
      have hM : 31 * k ≤ 100000 := by omega
      clear hcc
      generalize K k = kd at *
      generalize X k = f at *
      generalize Y k = t at *
      generalize D k = s at *
      have S0 : Hid (St2 w p q wr.heap.size k x x #[.int .i64 kd, .int .i64 f, .int .i64 t, .string s] (wr.alloc (.cells #[.int .i64 kd, .int .i64 f, .int .i64 t, .string s] 32))) :=
        ⟨N.out.up (World.grownBy_alloc _ _ _), R.out.up (World.grownBy_alloc _ _ _), Blk.new _ _ _, Bw.out.alloc Bw.out.size _⟩
      clear N R Bw
      by_cases hbig : 70000 < s.size
      · have g5 : (70000 : Int) < (s.size : Int) := by omega
        go_wp2_with fail
        go_ret
        exact ⟨rfl, S0.out.below⟩
      have g5 : ¬ (70000 : Int) < (s.size : Int) := by omega
      obtain ⟨pr, hpr, hpw⟩ : ∃ pr : Int, (s.size : Int) * (n : Int) = pr ∧ wrap64 pr = pr := by
        refine ⟨_, rfl, ?_⟩
        have h1 : s.size * n ≤ 70000 * 300 := Nat.mul_le_mul (by omega) h
        have h2 : (s.size : Int) * (n : Int) = ((s.size * n : Nat) : Int) := by push_cast; rfl
        rw [h2]
        unfold wrap64
        omega
      by_cases hpb : 400000 < pr
      · go_wp2_with fail
        go_ret
        exact ⟨rfl, S0.out.below⟩
      clear hbig
      go_upto_block 2 with fail
      generalize wr.alloc (.cells #[.int .i64 kd, .int .i64 f, .int .i64 t, .string s] 32) = W0 at *
      generalize wr.heap.size = b at *
      go_cut [9, 10, 11, 12, 13, 14, 15, 16, 17, 18, 19, 20, 21, 22, 23, 24, 25] from 52 to 257 (fun s9 s10 s11 s12 s13 s14 s15 s16 s17 s18 s19 s20 s21 s22 s23 s24 s25 wx => ∃ x4, Hid (Inv (31 * (k + 1)) (k + 1) x4) ∧ Hid (St2 w p q b (k + 1) x4 x4 #[.int .i64 kd, .int .i64 f, .int .i64 t, .string s] wx))
      case first =>
        by_cases k1 : kd = 1
        · as_aux_lemma =>
          subst k1
          obtain ⟨er, x4, e1⟩ : ∃ er x4, sendP x f t s = (er, x4) := ⟨_, _, rfl⟩
          have V4 : Hid (Inv (31 * (k + 1)) (k + 1) x4) := by have := V.out.send f t s; rw [e1] at this; exact this.mono (by omega) (by omega)
          have C1 := fun W S => Lib.hid (st_send (w := w) (p := p) (q := q) (b := b) (k := k) (y := x) (cs := #[.int .i64 1, .int .i64 f, .int .i64 t, .string s]) (W := W) S V.out hM f t s wx wy hzs e1)
          have C2 := fun W S => Lib.hid (st_rsend (w := w) (p := p) (q := q) (b := b) (k := k) (x := x4) (cs := #[.int .i64 1, .int .i64 f, .int .i64 t, .string s]) (W := W) S V.out hM f t s wx wy e1)
          clear e1 V
          go_wp2_with fail
          have S1 := S0.out.drew
          go_region_held3 (fun W => W.cell? ⟨b, 0, none⟩ = some (.int .i64 1) ∧ W.cell? ⟨b, 1, none⟩ = some (.int .i64 f) ∧ W.cell? ⟨b, 2, none⟩ = some (.int .i64 t) ∧ W.cell? ⟨b, 3, none⟩ = some (.string s))
            (first | exact S1.cells4 | exact St2.cells4 (by assumption))
            (first
              | (go_at_call 10; refine (C1 _ S1).out.mono ?_; rintro e w5 ⟨rfl, S5⟩)
              | (go_at_call 11; refine (C2 _ S5).out.mono ?_; rintro e w6 ⟨rfl, S6⟩))
          have S4 := Lib.hid (S6.mono (Nat.le_succ k))
          clear S5 S6 S1 C1 C2 S0
          go_wp2_with fail
          go_meet
          exact ⟨x4, V4, S4⟩
        have k1' : (kd == 1) = false := by rw [beq_eq_false_iff_ne]; exact k1
        clear k1
        by_cases k2 : kd = 2
        · as_aux_lemma =>
          subst k2
          obtain ⟨er, mm, e1⟩ : ∃ er mm, peekP x f = (er, mm) := ⟨_, _, rfl⟩
          obtain ⟨x4, e2⟩ : ∃ x4, x4 = x := ⟨_, rfl⟩
          have V4 : Hid (Inv (31 * (k + 1)) (k + 1) x4) := by rw [e2]; exact V.out.mono (by omega) (by omega)
          obtain ⟨ma, mb, mt⟩ := mm
          have C1 := fun W S => Lib.hid (st_peek (w := w) (p := p) (q := q) (b := b) (k := k) (y := x) (cs := #[.int .i64 2, .int .i64 f, .int .i64 t, .string s]) (W := W) S V.out f e1)
          have C2 := fun W S => Lib.hid (st_rpeek (w := w) (p := p) (q := q) (b := b) (k := k) (x := x) (cs := #[.int .i64 2, .int .i64 f, .int .i64 t, .string s]) (W := W) S f e1)
          dsimp only at C1 C2
          subst e2
          clear e1 V k1'
          obtain ⟨z0, z1, z2, z3⟩ := S0.out.cells4
          go_wp2_with fail
          refine (C1 _ S0.out).out.mono ?_
          rintro e w5 ⟨rfl, S5⟩
          clear z0 z1 z2 z3
          obtain ⟨y0, y1, y2, y3⟩ := S5.cells4
          go_wp2_with fail
          refine (C2 _ S5).out.mono ?_
          rintro e w6 ⟨rfl, S6⟩
          clear y0 y1 y2 y3
          have S4 := Lib.hid (S6.mono (Nat.le_succ k))
          clear S5 S6 C1 C2 S0
          go_wp2_with fail
          go_meet
          exact ⟨x4, V4, S4⟩
        have k2' : (kd == 2) = false := by rw [beq_eq_false_iff_ne]; exact k2
        clear k2
        by_cases k3 : kd = 3
        · as_aux_lemma =>
          subst k3
          obtain ⟨er, mm, e1⟩ : ∃ er mm, peekP x f = (er, mm) := ⟨_, _, rfl⟩
          obtain ⟨x4, e2⟩ : ∃ x4, deliverP x f = x4 := ⟨_, rfl⟩
          have V4 : Hid (Inv (31 * (k + 1)) (k + 1) x4) := by have := V.out.deliver f; rw [e2] at this; exact this.mono (by omega) (by omega)
          obtain ⟨ma, mb, mt⟩ := mm
          have C1 := fun W S => Lib.hid (st_deliver (w := w) (p := p) (q := q) (b := b) (k := k) (y := x) (cs := #[.int .i64 3, .int .i64 f, .int .i64 t, .string s]) (W := W) S V.out f e1 e2)
          have C2 := fun W S => Lib.hid (st_rdeliver (w := w) (p := p) (q := q) (b := b) (k := k) (x := x4) (cs := #[.int .i64 3, .int .i64 f, .int .i64 t, .string s]) (W := W) S V.out f e1 e2)
          dsimp only at C1 C2
          clear e1 e2 V k1' k2'
          obtain ⟨z0, z1, z2, z3⟩ := S0.out.cells4
          go_wp2_with fail
          refine (C1 _ S0.out).out.mono ?_
          rintro e w5 ⟨rfl, S5⟩
          clear z0 z1 z2 z3
          obtain ⟨y0, y1, y2, y3⟩ := S5.cells4
          go_wp2_with fail
          refine (C2 _ S5).out.mono ?_
          rintro e w6 ⟨rfl, S6⟩
          clear y0 y1 y2 y3
          have S4 := Lib.hid (S6.mono (Nat.le_succ k))
          clear S5 S6 C1 C2 S0
          go_wp2_with fail
          go_meet
          exact ⟨x4, V4, S4⟩
        have k3' : (kd == 3) = false := by rw [beq_eq_false_iff_ne]; exact k3
        clear k3
        by_cases k4 : kd = 4
        · as_aux_lemma =>
          subst k4
          obtain ⟨er, x4, e1⟩ : ∃ er x4, dropP x f = (er, x4) := ⟨_, _, rfl⟩
          have V4 : Hid (Inv (31 * (k + 1)) (k + 1) x4) := by have := V.out.drop f; rw [e1] at this; exact this.mono (by omega) (by omega)
          have C1 := fun W S => Lib.hid (st_drop (w := w) (p := p) (q := q) (b := b) (k := k) (y := x) (cs := #[.int .i64 4, .int .i64 f, .int .i64 t, .string s]) (W := W) S V.out hM f e1)
          have C2 := fun W S => Lib.hid (st_rdrop (w := w) (p := p) (q := q) (b := b) (k := k) (x := x4) (cs := #[.int .i64 4, .int .i64 f, .int .i64 t, .string s]) (W := W) S V.out hM f e1)
          clear e1 V
          go_wp2_with fail
          have S1 := S0.out.drew
          go_region_held3 (fun W => W.cell? ⟨b, 0, none⟩ = some (.int .i64 4) ∧ W.cell? ⟨b, 1, none⟩ = some (.int .i64 f) ∧ W.cell? ⟨b, 2, none⟩ = some (.int .i64 t) ∧ W.cell? ⟨b, 3, none⟩ = some (.string s))
            (first | exact S1.cells4 | exact St2.cells4 (by assumption))
            (first
              | (go_at_call 16; refine (C1 _ S1).out.mono ?_; rintro e w5 ⟨rfl, S5⟩)
              | (go_at_call 17; refine (C2 _ S5).out.mono ?_; rintro e w6 ⟨rfl, S6⟩))
          have S4 := Lib.hid (S6.mono (Nat.le_succ k))
          clear S5 S6 S1 C1 C2 S0
          go_wp2_with fail
          go_meet
          exact ⟨x4, V4, S4⟩
        have k4' : (kd == 4) = false := by rw [beq_eq_false_iff_ne]; exact k4
        clear k4
        by_cases k5 : kd = 5
        · as_aux_lemma =>
          subst k5
          obtain ⟨er, x4, e1⟩ : ∃ er x4, twiceP x f = (er, x4) := ⟨_, _, rfl⟩
          have V4 : Hid (Inv (31 * (k + 1)) (k + 1) x4) := by have := V.out.twice f; rw [e1] at this; exact this.mono (by omega) (by omega)
          have C1 := fun W S => Lib.hid (st_twice (w := w) (p := p) (q := q) (b := b) (k := k) (y := x) (cs := #[.int .i64 5, .int .i64 f, .int .i64 t, .string s]) (W := W) S V.out f e1)
          have C2 := fun W S => Lib.hid (st_rtwice (w := w) (p := p) (q := q) (b := b) (k := k) (x := x4) (cs := #[.int .i64 5, .int .i64 f, .int .i64 t, .string s]) (W := W) S f e1)
          clear e1 V
          go_wp2_with fail
          have S1 := S0.out.drew
          go_region_held3 (fun W => W.cell? ⟨b, 0, none⟩ = some (.int .i64 5) ∧ W.cell? ⟨b, 1, none⟩ = some (.int .i64 f) ∧ W.cell? ⟨b, 2, none⟩ = some (.int .i64 t) ∧ W.cell? ⟨b, 3, none⟩ = some (.string s))
            (first | exact S1.cells4 | exact St2.cells4 (by assumption))
            (first
              | (go_at_call 18; refine (C1 _ S1).out.mono ?_; rintro e w5 ⟨rfl, S5⟩)
              | (go_at_call 19; refine (C2 _ S5).out.mono ?_; rintro e w6 ⟨rfl, S6⟩))
          have S4 := Lib.hid (S6.mono (Nat.le_succ k))
          clear S5 S6 S1 C1 C2 S0
          go_wp2_with fail
          go_meet
          exact ⟨x4, V4, S4⟩
        have k5' : (kd == 5) = false := by rw [beq_eq_false_iff_ne]; exact k5
        clear k5
        by_cases k6 : kd = 6
        · as_aux_lemma =>
          subst k6
          obtain ⟨er, x4, e1⟩ : ∃ er x4, cutP x f t true = (er, x4) := ⟨_, _, rfl⟩
          have V4 : Hid (Inv (31 * (k + 1)) (k + 1) x4) := by have := V.out.cut f t true; rw [e1] at this; exact this.mono (by omega) (by omega)
          have C1 := fun W S => Lib.hid (st_cut (w := w) (p := p) (q := q) (b := b) (k := k) (y := x) (cs := #[.int .i64 6, .int .i64 f, .int .i64 t, .string s]) (W := W) S hk2 f t true wx wy e1)
          have C2 := fun W S => Lib.hid (st_rcut (w := w) (p := p) (q := q) (b := b) (k := k + 1) (x := x4) (cs := #[.int .i64 6, .int .i64 f, .int .i64 t, .string s]) (W := W) S V.out (by omega) f t true wx wy e1)
          clear e1 V
          go_wp2_with fail
          have S1 := S0.out.drew
          go_region_held3 (fun W => W.cell? ⟨b, 0, none⟩ = some (.int .i64 6) ∧ W.cell? ⟨b, 1, none⟩ = some (.int .i64 f) ∧ W.cell? ⟨b, 2, none⟩ = some (.int .i64 t) ∧ W.cell? ⟨b, 3, none⟩ = some (.string s))
            (first | exact S1.cells4 | exact St2.cells4 (by assumption))
            (first
              | (go_at_call 20; refine (C1 _ S1).out.mono ?_; rintro e w5 ⟨rfl, S5⟩)
              | (go_at_call 21; refine (C2 _ S5).out.mono ?_; rintro e w6 ⟨rfl, S6⟩))
          have S4 := Lib.hid (S6)
          clear S5 S6 S1 C1 C2 S0
          go_wp2_with fail
          go_meet
          exact ⟨x4, V4, S4⟩
        have k6' : (kd == 6) = false := by rw [beq_eq_false_iff_ne]; exact k6
        clear k6
        by_cases k7 : kd = 7
        · as_aux_lemma =>
          subst k7
          obtain ⟨er, x4, e1⟩ : ∃ er x4, cutP x f t false = (er, x4) := ⟨_, _, rfl⟩
          have V4 : Hid (Inv (31 * (k + 1)) (k + 1) x4) := by have := V.out.cut f t false; rw [e1] at this; exact this.mono (by omega) (by omega)
          have C1 := fun W S => Lib.hid (st_cut (w := w) (p := p) (q := q) (b := b) (k := k) (y := x) (cs := #[.int .i64 7, .int .i64 f, .int .i64 t, .string s]) (W := W) S hk2 f t false wx wy e1)
          have C2 := fun W S => Lib.hid (st_rcut (w := w) (p := p) (q := q) (b := b) (k := k + 1) (x := x4) (cs := #[.int .i64 7, .int .i64 f, .int .i64 t, .string s]) (W := W) S V.out (by omega) f t false wx wy e1)
          clear e1 V
          go_wp2_with fail
          have S1 := S0.out.drew
          go_region_held3 (fun W => W.cell? ⟨b, 0, none⟩ = some (.int .i64 7) ∧ W.cell? ⟨b, 1, none⟩ = some (.int .i64 f) ∧ W.cell? ⟨b, 2, none⟩ = some (.int .i64 t) ∧ W.cell? ⟨b, 3, none⟩ = some (.string s))
            (first | exact S1.cells4 | exact St2.cells4 (by assumption))
            (first
              | (go_at_call 20; refine (C1 _ S1).out.mono ?_; rintro e w5 ⟨rfl, S5⟩)
              | (go_at_call 21; refine (C2 _ S5).out.mono ?_; rintro e w6 ⟨rfl, S6⟩))
          have S4 := Lib.hid (S6)
          clear S5 S6 S1 C1 C2 S0
          go_wp2_with fail
          go_meet
          exact ⟨x4, V4, S4⟩
        have k7' : (kd == 7) = false := by rw [beq_eq_false_iff_ne]; exact k7
        clear k7
        by_cases k8 : kd = 8
        · as_aux_lemma =>
          subst k8
          have xs : Hid ((⟨#[120]⟩ : ByteArray).size ≤ 9223372036854775807) := Lib.hid (by decide)
          go_wp2_with fail
          obtain ⟨wo, hwo⟩ : ∃ wo, wo = wr := ⟨_, rfl⟩
          clear hwo
          go_loopw [25] (fun i wr => ∃ (j : Nat) (z : N8), j ≤ 30 ∧ i = .int .i64 (j : Int) ∧ Hid (Inv (31 * k + j) k z) ∧ Hid (St2 w p q b k z z #[.int .i64 8, .int .i64 f, .int .i64 t, .string s] wr)) (fun i _ => 30 - (intOf i).toNat)
          case atStart => exact ⟨0, x, by omega, rfl, V, S0⟩
          case round =>
            obtain ⟨j, z, hj, rfl, Vz, Sz⟩ := hrel
            clear V S0
            by_cases hlj : j < 30
            · have g9 : (j : Int) < 30 := by omega
              obtain ⟨er, z4, e1⟩ : ∃ er z4, sendP z 0 1 ⟨#[120]⟩ = (er, z4) := ⟨_, _, rfl⟩
              have Vz4 : Hid (Inv (31 * k + (j + 1)) k z4) := by have := Vz.out.send 0 1 ⟨#[120]⟩; rw [e1] at this; exact this.mono (by omega) (Nat.le_refl _)
              have C1 := fun W S => Lib.hid (st_send (w := w) (p := p) (q := q) (b := b) (k := k) (y := z) (cs := #[.int .i64 8, .int .i64 f, .int .i64 t, .string s]) (W := W) S Vz.out (by omega) 0 1 ⟨#[120]⟩ (by decide) (by decide) xs.out e1)
              have C2 := fun W S => Lib.hid (st_rsend (w := w) (p := p) (q := q) (b := b) (k := k) (x := z4) (cs := #[.int .i64 8, .int .i64 f, .int .i64 t, .string s]) (W := W) S Vz.out (by omega) 0 1 ⟨#[120]⟩ (by decide) (by decide) e1)
              clear e1 Vz
              go_wp2_with fail
              refine (C1 _ Sz.out).out.mono ?_
              rintro e w5 ⟨rfl, S5⟩
              go_wp2_with fail
              refine (C2 _ S5).out.mono ?_
              rintro e w6 ⟨rfl, S6⟩
              have Sz4 := Lib.hid S6
              clear S5 S6 C1 C2 Sz
              go_wp2_with fail
              go_roundw
              case rel => exact ⟨j + 1, z4, by omega, by go_num, Vz4, Sz4⟩
              case measure => simp [intOf]; omega
            · obtain rfl : j = 30 := by omega
              clear hlj hj
              have S4 := Lib.hid (Sz.out.mono (Nat.le_succ k))
              have V4 : Hid (Inv (31 * (k + 1)) (k + 1) z) := Vz.out.mono (by omega) (by omega)
              clear Sz Vz k1' k2' k3' k4' k5' k6' k7'
              go_wp2_with fail
              go_meet
              exact ⟨z, V4, S4⟩
        have k8' : (kd == 8) = false := by rw [beq_eq_false_iff_ne]; exact k8
        clear k8
        as_aux_lemma =>
        have S4 := Lib.hid (S0.out.mono (Nat.le_succ k))
        have V4 : Hid (Inv (31 * (k + 1)) (k + 1) x) := V.out.mono (by omega) (by omega)
        clear S0 V
        go_wp2_with fail
        go_meet
        exact ⟨x, V4, S4⟩
      case rest =>
      as_aux_lemma =>
      obtain ⟨x4, V4, S4⟩ := hcut
      clear V S0
      obtain ⟨A4, c4, cu4, d0, d1, d2, d3, _⟩ := S4.out.ref.cells
      obtain ⟨r4, hr4⟩ : ∃ r4, x4.C.contains (f, t) = r4 := ⟨_, rfl⟩
      obtain ⟨y0, y1, y2, y3⟩ := S4.out.cells4
      have T1 := fun W (hW : wc.grownBy W none) => Lib.hid (in_len S4.out hW)
      have T2 := fun W (hW : wc.grownBy W none) => Lib.hid (in_lost S4.out hW)
      have T3 := fun W (hW : wc.grownBy W none) => Lib.hid (in_iscut S4.out hW f t wx wy hr4)
      have T4 := fun W (hW : wc.grownBy W none) => Lib.hid (in_riscut S4.out hW f t wx wy hr4)
      clear hr4 d0 d2
      generalize x4.L.length = l4 at *
      generalize x4.lost = lo4 at *
      go_wp2_with fail
      refine wp_region_class (fun W => wc.grownBy W none) (by kernel_rfl) (by kernel_rfl) (kgrow_drew wc) ?_
      repeat' (first
        | (refine wpQuiet_skip (by rfl) ?_; try simp only [Act.put, List.setIfInBounds_toArray, List.set_cons_zero, List.set_cons_succ])
        | (refine wpQuiet_take (by rfl) ?_ (fun W hW => ?_) ?_
           rotate_left
           focus
             have e1 : W.cell? ⟨q, 1, none⟩ = _ := hW.cell d1 (by simp)
             have e3 : W.cell? ⟨q, 3, none⟩ = _ := hW.cell d3 (by simp)
             have z1 : W.cell? ⟨b, 1, none⟩ = _ := hW.cell y1 (by simp)
             have z2 : W.cell? ⟨b, 2, none⟩ = _ := hW.cell y2 (by simp)
             go_simp
             first
               | done
               | with_reducible rfl
               | (go_at_call 22; exact (T1 _ hW).out)
               | (go_at_call 23; exact (T2 _ hW).out)
               | (go_at_call 24; exact (T3 _ hW).out)
               | (go_at_call 25; exact (T4 _ hW).out)
           try simp only [Act.put, List.setIfInBounds_toArray, List.set_cons_zero, List.set_cons_succ]))
      refine wpQuiet_nil (fun w9 S9 => ?_)
      have S9 := Lib.hid (S4.out.up S9)
      go_wp2_with fail
      go_roundw
      case rel => exact ⟨k + 1, x4, by omega, by go_num, V4, S9.out.net, S9.out.ref, S9.out.below⟩
      case measure => simp [intOf]; omega
    · as_aux_lemma =>
      obtain rfl : k = n := by omega
      have g2 : ¬ (k : Int) < (k : Int) := by omega
      obtain ⟨A4, c4, cu4, d0, d1, d2, d3, _, _, _, hA4, hle4, hm4, hcc4⟩ := R.out.cells
      obtain ⟨l4, hl4⟩ : ∃ l4, l4 = x.L.length := ⟨_, rfl⟩
      have hll : l4 ≤ 400 := by rw [hl4]; exact V.out.len
      have hn0 : x.n ≠ 0 := by have := V.out.n1; omega
      have Hcc := Lib.hid hcc4
      have HA4 := Lib.hid hA4
      rw [← hl4] at d1
      have Hl4 := Lib.hid hl4
      clear hl hk d0 d2 d3 hA4 hle4 hm4 hcc4 hl4
      obtain ⟨wo, hwo⟩ : ∃ wo, wr = wo := ⟨_, rfl⟩
      rw [hwo] at N R Bw d1 Hcc
      go_wp2_with fail
      go_loopw [26] (fun i wr => ∃ j : Nat, j ≤ l4 ∧ i = .int .i64 (j : Int) ∧ Hid (wo.grownBy wr none)) (fun i _ => l4 - (intOf i).toNat)
      case atStart => exact ⟨0, by omega, rfl, Lib.hid (kgrow_refl _ _)⟩
      case round =>
        obtain ⟨j, hj, rfl, G⟩ := hrel
        have d1r : wr.cell? ⟨q, 1, none⟩ = some (.slice A4 l4 c4) := G.out.cell d1 (by simp)
        by_cases hlj : j < l4
        · have hjx : j < x.L.length := by rw [← Hl4.out]; exact hlj
          have hmm : x.L[j]? = some x.L[j] := List.getElem?_eq_getElem hjx
          obtain ⟨a4, rfl⟩ : ∃ a4, A4 = some a4 := by
            cases A4 with
            | none => rw [HA4.out rfl] at hjx; exact absurd hjx (by simp)
            | some a => exact ⟨a, rfl⟩
          obtain ⟨ea, hcell⟩ := Hcc.out a4 rfl
          rw [ea] at d1r
          have rr := rowC_at x.L j _ hmm
          have z0 := G.out.cell (hcell _ _ rr.1) (by simp)
          have z1 := G.out.cell (hcell _ _ rr.2.1) (by simp)
          have z2 := G.out.cell (hcell _ _ rr.2.2) (by simp)
          have C1 := peek_any (N.out.up G.out) hn0 (j : Int)
          rw [show peekP x (j : Int) = (0, x.L[j]) by unfold peekP; rw [atP_in hmm]] at C1
          generalize x.L[j] = mm at *
          obtain ⟨ma, mb, mt⟩ := mm
          unfold ansP at C1
          have C1 := Lib.hid C1
          dsimp only at z0 z1 z2
          generalize a4.block = g4 at *
          have g9 : (j : Int) < (l4 : Int) := by omega
          clear hmm hjx rr hcell ea
          go_wp2_with fail
          refine C1.out.mono ?_
          rintro e w5 ⟨rfl, hg5⟩
          have G5 := Lib.hid (kgrow_none G.out hg5)
          have d5 : w5.cell? ⟨q, 1, none⟩ = _ := hg5.cell d1r (by simp)
          replace z0 : w5.cell? _ = _ := hg5.cell z0 (by simp)
          replace z1 : w5.cell? _ = _ := hg5.cell z1 (by simp)
          replace z2 : w5.cell? _ = _ := hg5.cell z2 (by simp)
          clear hg5 C1 G d1r
          go_wp2_with fail
          go_roundw
          case rel => exact ⟨j + 1, by omega, by go_num, G5⟩
          case measure => simp [intOf]; omega
        · have g9 : ¬ (j : Int) < (l4 : Int) := by omega
          have B5 := Lib.hid (Bw.out.trans ((Fr.of_grown (B := wo.heap.size) (T := fun _ => false) G.out).below (Nat.le_refl _) |>.mono Bw.out.size))
          clear hlj hj G
          go_wp2_with fail
          refine (HA _).out.mono ?_
          rintro e w2 ⟨rfl, hb⟩
          have H := Lib.hid (B5.out.trans (hb.mono B5.out.size))
          clear hb
          go_wp2_with fail
          go_ret
          exact ⟨rfl, H.out⟩

theorem lawNetPlays (m : Int) (_hm : (Lit.int .i64 m).wf = true) (A : Option Addr) (n c : Nat) (K X Y : Nat → Int) (D : Nat → ByteArray) (w : World) (I : NOpsIn w A n K X Y D) :
    Calls Try.prog 3 #[.int .i64 m, .slice A n c] w fun e w' => e = .returned (.bool true) ∧ Below w.heap.size w w' := by
  by_cases h : 300 < n
  · exact netplays_long m A n c w h
  · by_cases hm : m < 1 ∨ 8 < m
    · exact netplays_none m A n c w (by omega) hm
    · exact netplays_some m A n c K X Y D w I (by omega) (by omega) (by omega)
end Go.Proofs.Ytlogdbbaefpapaa
