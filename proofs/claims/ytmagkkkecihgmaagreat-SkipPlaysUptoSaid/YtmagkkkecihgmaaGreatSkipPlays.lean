/-
  SkipPlays: every call, in every order; lists kept, marked, grown.
-/
import Derived.Test.YtmagkkkecihgmaaGreatSkP3
import Derived.Test.YtmagkkkecihgmaaGreatView5
import Derived.Test.YtmagkkkecihgmaaGreatQuiet
import Derived.LoopTactic
import Derived.Deep.CutBlock
import Derived.Deep.CutRange
import Derived.Deep.RegionHeld3
namespace Go.Proofs.YtmagkkkecihgmaaGreat
open Go.RowKit

set_option maxRecDepth 100000 in
set_option maxHeartbeats 1000000 in
theorem skipplays_long (z : Bool) (A : Option Addr) (n c : Nat) (w : World) (h : 250 < n) :
    Calls Tryz.prog 3 #[.bool z, .slice A n c] w fun e w' => e = .returned (.bool true) ∧ Below w.heap.size w w' := by
  have HA := Lib.hid (alive10_any w)
  have g1 : (250 : Int) < (n : Int) := by omega
  clear h
  go_enter Tryz.func3, Tryz.ntmps3
  go_wp2_with fail
  refine HA.out.mono ?_
  rintro e w1 ⟨rfl, h⟩
  have H := Lib.hid (below_g h)
  clear h
  go_wp2_with fail
  go_ret
  exact ⟨rfl, H.out⟩
set_option maxRecDepth 100000 in
set_option maxHeartbeats 16000000 in
theorem skipplays_some (z : Bool) (A : Option Addr) (n c : Nat) (K X : Nat → Int) (Y D : Nat → ByteArray) (w : World) (I : SOpsIn w A n K X Y D) (h : n ≤ 250) :
    Calls Tryz.prog 3 #[.bool z, .slice A n c] w fun e w' => e = .returned (.bool true) ∧ Below w.heap.size w w' := by
  have g1 : ¬ (250 : Int) < (n : Int) := by omega
  have HI := Lib.hid I
  have HA := Lib.hid (alive10_any w)
  clear I
  go_enter Tryz.func3, Tryz.ntmps3
  go_wp2_with fail
  refine HA.out.mono ?_
  rintro e w1 ⟨rfl, hg⟩
  have B1 := Lib.hid (below_g hg)
  have HN := Lib.hid (sknew_any w1)
  clear hg
  go_wp2_with fail
  refine HN.out.mono ?_
  rintro e w2 ⟨rfl, rfl⟩
  have P1 := Lib.hid (skz_new (B := w.heap.size) (Blk.new w1 36 newC) B1.out.size)
  have B2 := Lib.hid (B1.out.alloc B1.out.size (.cells newC 36))
  generalize w1.alloc (.cells newC 36) = w2 at *
  generalize w1.heap.size = p0 at *
  clear HN HA B1
  go_upto_if 32 with fail
  have P2 := Lib.hid (P1.out.up (World.grownBy_alloc w2 (.cells #[.slice none 0 0, .bool false] 29) none))
  have R2 := Lib.hid (skr_new (B := w.heap.size) (Blk.new w2 29 #[.slice none 0 0, .bool false]) B2.out.size)
  have B3 := Lib.hid (B2.out.alloc B2.out.size (.cells #[.slice none 0 0, .bool false] 29))
  generalize w2.alloc (.cells #[.slice none 0 0, .bool false] 29) = w3 at *
  generalize w2.heap.size = q at *
  clear P1 B2
  go_cut [5] from 33 to 34 (fun s5 wx => ∃ p Z, s5 = .pointer (some ⟨p, 0, none⟩) ∧ Hid (SkZ w.heap.size p wx ⟨[], false⟩ Z) ∧ Hid (SkR w.heap.size q wx ⟨[], false⟩) ∧ Hid (Below w.heap.size w wx))
  case first =>
    cases z
    · go_wp2_with fail
      go_meet
      exact ⟨p0, [], rfl, P2, R2, B3⟩
    · have P3 := Lib.hid (skz_new (B := w.heap.size) (Blk.new w3 36 newC) B3.out.size)
      have R3 := Lib.hid (R2.out.up (World.grownBy_alloc w3 (.cells newC 36) none))
      have B4 := Lib.hid (B3.out.alloc B3.out.size (.cells newC 36))
      unfold newC at P3 R3 B4
      go_wp2_with fail
      go_meet
      exact ⟨w3.heap.size, [], rfl, P3, R3, B4⟩
  case rest =>
  obtain ⟨p, Z, rfl, HZ, HR, HB⟩ := hcut
  have S1 := Lib.hid (st_start HZ.out HR.out HB.out)
  unfold bookNil at S1
  clear HZ HR HB P2 R2 B3
  go_upto_region 9 with fail
  generalize wc.alloc _ = w4 at *
  generalize wc.heap.size = bk at *
  go_wp2_with fail
  go_loopw [8] (fun i wr => ∃ (k : Nat) (x : S10), k ≤ n ∧ i = .int .i64 (k : Int) ∧ Hid (x.L.length ≤ k) ∧ Hid (St10 w p q bk 0 x x #[] wr)) (fun i _ => n - (intOf i).toNat)
  case atStart => exact ⟨0, _, by omega, rfl, Lib.hid (Nat.le_refl _), S1⟩
  case round =>
    obtain ⟨k, x, hk, rfl, V, S⟩ := hrel
    clear S1
    by_cases hl : k < n
    · obtain ⟨b0, off, rfl, hcc⟩ := HI.out.at hl
      obtain ⟨wx, hkey, hval⟩ := HI.out.wf k hl
      obtain ⟨x0, x1, x2, x3⟩ := hcc _ S.out.below
      have g2 : (k : Int) < (n : Int) := by omega
      have hx : x.L.length ≤ 100000 := by have := V.out; omega
      have Hx := Lib.hid hx
      clear hcc
      generalize K k = kd at *
      generalize X k = nn at *
      generalize Y k = key at *
      generalize D k = val at *
      have S0 := Lib.hid (S.out.withOp #[.int .i64 kd, .int .i64 nn, .string key, .string val])
      clear S
      have Hkey := Lib.hid hkey
      have hadd : wrap64 ((key.size : Int) + (val.size : Int)) = (key.size : Int) + (val.size : Int) := by
        unfold wrap64
        omega
      by_cases hbig : 70000 < key.size + val.size
      · have g5 : (70000 : Int) < (key.size : Int) + (val.size : Int) := by omega
        clear hkey hval hx hbig
        go_wp2_with fail
        go_ret
        exact ⟨rfl, S0.out.below⟩
      have g5 : ¬ (70000 : Int) < (key.size : Int) + (val.size : Int) := by omega
      clear hbig hkey hval hx
      go_upto_block 2 with fail
      generalize wr.alloc (.cells #[.int .i64 kd, .int .i64 nn, .string key, .string val] 55) = W0 at *
      generalize wr.heap.size = b at *
      go_cut [10, 11, 12, 13, 14, 15, 16, 17, 18, 19, 20] from 57 to 168 (fun s10 s11 s12 s13 s14 s15 s16 s17 s18 s19 s20 wx => ∃ x4, Hid (x4.L.length ≤ k + 1) ∧ Hid (St10 w p q bk b x4 x4 #[.int .i64 kd, .int .i64 nn, .string key, .string val] wx))
      case first =>
        by_cases k1 : kd = 1
        · as_aux_lemma =>
          subst k1
          obtain ⟨er, x4, e1⟩ : ∃ er x4, putL x key val nn = (er, x4) := ⟨_, _, rfl⟩
          have V4 : Hid (x4.L.length ≤ k + 1) := by have h1 := putP_len x key val nn; rw [e1] at h1; exact Lib.hid (Nat.le_trans h1 (Nat.succ_le_succ V.out))
          have C1 := fun W S => Lib.hid (st_put1 (w := w) (p := p) (q := q) (bk := bk) (b := b) (x := x) (y := x) (cs := #[.int .i64 1, .int .i64 nn, .string key, .string val]) (W := W) S Hx.out e1)
          have C2 := fun W S => Lib.hid (st_put2 (w := w) (p := p) (q := q) (bk := bk) (b := b) (x := x4) (y := x) (cs := #[.int .i64 1, .int .i64 nn, .string key, .string val]) (W := W) S Hx.out e1 Hkey.out)
          clear e1 V
          go_wp2_with fail
          have S1 := S0.out.drew
          go_region_held3 (fun W => W.cell? ⟨b, 0, none⟩ = some (.int .i64 1) ∧ W.cell? ⟨b, 1, none⟩ = some (.int .i64 nn) ∧ W.cell? ⟨b, 2, none⟩ = some (.string key) ∧ W.cell? ⟨b, 3, none⟩ = some (.string val))
            (first | exact S1.cells4 | exact St10.cells4 (by assumption))
            (first
              | (go_at_call 6; refine (C1 _ S1).out.mono ?_; rintro e w5 ⟨rfl, S5⟩)
              | (go_at_call 7; refine (C2 _ S5).out.mono ?_; rintro e w6 ⟨rfl, S6⟩))
          have S4 := Lib.hid S6
          clear S5 S6 S1 C1 C2 S0
          go_wp2_with fail
          go_meet
          exact ⟨x4, V4, S4⟩
        have k1' : (kd == 1) = false := by rw [beq_eq_false_iff_ne]; exact k1
        clear k1
        by_cases k2 : kd = 2
        · as_aux_lemma =>
          subst k2
          obtain ⟨ga, ge, e1⟩ : ∃ ga ge, getL x.L key = (ga, ge) := ⟨_, _, rfl⟩
          have V4 : Hid (x.L.length ≤ k + 1) := Lib.hid (Nat.le_succ_of_le V.out)
          have C1 := fun W S => Lib.hid (st_get1 (w := w) (p := p) (q := q) (bk := bk) (b := b) (x := x) (y := x) (cs := #[.int .i64 2, .int .i64 nn, .string key, .string val]) (W := W) S Hx.out e1)
          have C2 := fun W S => Lib.hid (st_get2 (w := w) (p := p) (q := q) (bk := bk) (b := b) (x := x) (y := x) (cs := #[.int .i64 2, .int .i64 nn, .string key, .string val]) (W := W) S e1 Hkey.out)
          clear e1 V
          obtain ⟨z0, z1, z2, z3⟩ := S0.out.cells4
          go_wp2_with fail
          refine (C1 _ S0.out).out.mono ?_
          rintro e w5 ⟨rfl, S5⟩
          clear z0 z1 z2 z3
          obtain ⟨y0, y1, y2, y3⟩ := S5.cells4
          go_wp2_with fail
          refine (C2 _ S5).out.mono ?_
          rintro e w6 ⟨rfl, S6⟩
          clear y0 y1 y2 y3
          have S4 := Lib.hid S6
          clear S5 S6 C1 C2 S0
          go_wp2_with fail
          go_meet
          exact ⟨x, V4, S4⟩
        have k2' : (kd == 2) = false := by rw [beq_eq_false_iff_ne]; exact k2
        clear k2
        by_cases k3 : kd = 3
        · as_aux_lemma =>
          subst k3
          obtain ⟨L, e1⟩ : ∃ L, fromL x.L key nn = L := ⟨_, rfl⟩
          have V4 : Hid (x.L.length ≤ k + 1) := Lib.hid (Nat.le_succ_of_le V.out)
          have hF := Lib.hid (S0.out.okF Hx.out key nn)
          rw [e1] at hF
          have C1 := Lib.hid (st_from1 S0.out Hx.out e1)
          have C2 := fun W (S : St10 w p q bk b x x #[.int .i64 3, .int .i64 nn, .string key, .string val] W) => Lib.hid (st_from2 S Hx.out e1 Hkey.out)
          clear e1 V
          obtain ⟨z0, z1, z2, z3⟩ := S0.out.cells4
          go_wp2_with fail
          refine C1.out.mono ?_
          rintro e w5 ⟨A1, n1, c1, rfl, ho, hg⟩
          clear z0 z1 z2 z3
          have C3 := Lib.hid (st_keys S0.out hg ho hF.out)
          clear ho hg C1
          go_wp2_with fail
          refine C3.out.mono ?_
          rintro e w6 ⟨rfl, S6, ho6, _⟩
          obtain ⟨y0, y1, y2, y3⟩ := S6.cells4
          have O6 := Lib.hid ho6
          have C4 := C2 _ S6
          clear C3 ho6 S6
          go_wp2_with fail
          refine C4.out.mono ?_
          rintro e w7 ⟨A2, n2, c2, rfl, ho7, S7, hg7⟩
          clear y0 y1 y2 y3
          have C5 := Lib.hid (st_same S7 (O6.out.below (below_g hg7)) ho7 hF.out)
          clear C4 ho7 S7 hg7 O6 C2
          go_wp2_with fail
          refine C5.out.mono ?_
          rintro e w8 ⟨rfl, S8⟩
          have S4 := Lib.hid S8
          clear S8 C5 S0
          go_wp2_with fail
          go_meet
          exact ⟨x, V4, S4⟩
        have k3' : (kd == 3) = false := by rw [beq_eq_false_iff_ne]; exact k3
        clear k3
        by_cases k4 : kd = 4
        · as_aux_lemma =>
          subst k4
          obtain ⟨ga, gb, ge, e1⟩ : ∃ ga gb ge, lastL x.L key = (ga, gb, ge) := ⟨_, _, _, rfl⟩
          have V4 : Hid (x.L.length ≤ k + 1) := Lib.hid (Nat.le_succ_of_le V.out)
          have C1 := fun W S => Lib.hid (st_last1 (w := w) (p := p) (q := q) (bk := bk) (b := b) (x := x) (y := x) (cs := #[.int .i64 4, .int .i64 nn, .string key, .string val]) (W := W) S Hx.out e1)
          have C2 := fun W S => Lib.hid (st_last2 (w := w) (p := p) (q := q) (bk := bk) (b := b) (x := x) (y := x) (cs := #[.int .i64 4, .int .i64 nn, .string key, .string val]) (W := W) S e1 Hkey.out)
          clear e1 V
          obtain ⟨z0, z1, z2, z3⟩ := S0.out.cells4
          go_wp2_with fail
          refine (C1 _ S0.out).out.mono ?_
          rintro e w5 ⟨rfl, S5⟩
          clear z0 z1 z2 z3
          obtain ⟨y0, y1, y2, y3⟩ := S5.cells4
          go_wp2_with fail
          refine (C2 _ S5).out.mono ?_
          rintro e w6 ⟨rfl, S6⟩
          clear y0 y1 y2 y3
          have S4 := Lib.hid S6
          clear S5 S6 C1 C2 S0
          go_wp2_with fail
          go_meet
          exact ⟨x, V4, S4⟩
        have k4' : (kd == 4) = false := by rw [beq_eq_false_iff_ne]; exact k4
        clear k4
        by_cases k5 : kd = 5
        · as_aux_lemma =>
          subst k5
          have V4 : Hid (x.L.length ≤ k + 1) := Lib.hid (Nat.le_succ_of_le V.out)
          have C1 := Lib.hid (st_skfreeze S0.out)
          clear V
          go_wp2_with fail
          refine C1.out.mono ?_
          rintro e w5 ⟨rfl, S5⟩
          have S4 := Lib.hid S5.froz
          obtain ⟨sl, r1, r2, r3, r4⟩ := S5.ref
          have c1 := r1.cell 1
          have f1 := r1.frozen 1
          clear C1 S0 S5 r1 r2 r3 r4
          go_wp2_with fail
          go_meet
          exact ⟨{ x with frozen := true }, V4, S4⟩
        have k5' : (kd == 5) = false := by rw [beq_eq_false_iff_ne]; exact k5
        clear k5
        by_cases k6 : kd = 6
        · as_aux_lemma =>
          subst k6
          obtain ⟨z4, e1⟩ : ∃ z4 : Int, stepsL x.L key = z4 := ⟨_, rfl⟩
          obtain ⟨x4, e4⟩ : ∃ x4, x4 = x := ⟨_, rfl⟩
          have V4 : Hid (x4.L.length ≤ k + 1) := by rw [e4]; exact Lib.hid (Nat.le_succ_of_le V.out)
          have C1 := fun W S => Lib.hid (st_steps1 (w := w) (p := p) (q := q) (bk := bk) (b := b) (x := x) (y := x) (cs := #[.int .i64 6, .int .i64 nn, .string key, .string val]) (W := W) S Hx.out e1)
          have C2 := fun W S => Lib.hid (st_steps2 (w := w) (p := p) (q := q) (bk := bk) (b := b) (x := x) (y := x) (cs := #[.int .i64 6, .int .i64 nn, .string key, .string val]) (W := W) S Hx.out e1 Hkey.out)
          clear e1 V
          go_wp2_with fail
          have S1 := S0.out.drew
          go_region_held3 (fun W => W.cell? ⟨b, 0, none⟩ = some (.int .i64 6) ∧ W.cell? ⟨b, 1, none⟩ = some (.int .i64 nn) ∧ W.cell? ⟨b, 2, none⟩ = some (.string key) ∧ W.cell? ⟨b, 3, none⟩ = some (.string val))
            (first | exact S1.cells4 | exact St10.cells4 (by assumption))
            (first
              | (go_at_call 17; refine (C1 _ S1).out.mono ?_; rintro e w5 ⟨rfl, S5⟩)
              | (go_at_call 18; refine (C2 _ S5).out.mono ?_; rintro e w6 ⟨rfl, S6⟩))
          have S4 := Lib.hid S6
          subst e4
          clear S5 S6 S1 C1 C2 S0
          go_wp2_with fail
          go_meet
          exact ⟨x4, V4, S4⟩
        have k6' : (kd == 6) = false := by rw [beq_eq_false_iff_ne]; exact k6
        clear k6
        as_aux_lemma =>
        have V4 : Hid (x.L.length ≤ k + 1) := Lib.hid (Nat.le_succ_of_le V.out)
        clear V
        go_wp2_with fail
        go_meet
        exact ⟨x, V4, S0⟩
      case rest =>
      as_aux_lemma =>
      obtain ⟨x4, V4, S4⟩ := hcut
      clear V S0 Hx
      obtain ⟨A4, c4, hC⟩ := S4.out.ref.cells
      have d0 := hC.c0
      have d1 := hC.c1
      have T1 := fun W (hW : wc.grownBy W none) => Lib.hid (in_count S4.out hW)
      have T2 := fun W (hW : wc.grownBy W none) => Lib.hid (in_frozen S4.out hW)
      clear hC
      generalize x4.L.length = l4 at d0 T1
      generalize x4.frozen = f4 at d1 T2
      go_upto_region 40 with fail
      refine wp_region_class (fun W => wc.grownBy W none) (by kernel_rfl) (by kernel_rfl) (only_drew (grefl wc none)) ?_
      repeat' (first
        | (refine wpQuiet_skip (by rfl) ?_; try simp only [Act.put, List.setIfInBounds_toArray, List.set_cons_zero, List.set_cons_succ])
        | (refine wpQuiet_take (by rfl) ?_ (fun W hW => ?_) ?_
           rotate_left
           focus
             have e0 : W.cell? ⟨q, 0, none⟩ = _ := hW.cell d0 (by simp)
             have e1 : W.cell? ⟨q, 1, none⟩ = _ := hW.cell d1 (by simp)
             go_simp
             first
               | done
               | with_reducible rfl
               | (go_at_call 19; exact (T1 _ hW).out)
               | (go_at_call 20; exact (T2 _ hW).out)
           try simp only [Act.put, List.setIfInBounds_toArray, List.set_cons_zero, List.set_cons_succ]))
      refine wpQuiet_nil (fun w9 S9 => ?_)
      have S9 := Lib.hid (S4.out.up S9)
      go_wp2_with fail
      go_roundw
      case rel => exact ⟨k + 1, x4, by omega, by go_num, V4, Lib.hid S9.out.noOp⟩
      case measure => simp [intOf]; omega
    · as_aux_lemma =>
      obtain rfl : k = n := by omega
      have g2 : ¬ (k : Int) < (k : Int) := by omega
      have Hx : Hid (x.L.length ≤ 100000) := Lib.hid (by have := V.out; omega)
      obtain ⟨L, e1⟩ : ∃ L, fromL x.L ⟨#[]⟩ (-1) = L := ⟨_, rfl⟩
      obtain ⟨M, e2⟩ : ∃ M, lanesTo x.L (hiL x.L) = M := ⟨_, rfl⟩
      obtain ⟨bz, e3⟩ : ∃ bz : Int, (bytesL x.L : Int) = bz := ⟨_, rfl⟩
      have hF := Lib.hid (S.out.okF Hx.out ⟨#[]⟩ (-1))
      have hM := Lib.hid (lanes_ok x.L)
      rw [e1] at hF
      rw [e2] at hM
      have E1 := Lib.hid e1
      have E2 := Lib.hid e2
      have E3 := Lib.hid e3
      have C1 := Lib.hid (st_from1 S.out Hx.out e1)
      clear e1 e2 e3 V hl hk
      go_wp2_with fail
      refine C1.out.mono ?_
      rintro e w5 ⟨A1, n1, c1, rfl, ho, hg⟩
      have C2 := Lib.hid (st_lanes1 (S.out.up hg) E2.out)
      have O5 := Lib.hid ho
      have G5 := Lib.hid hg
      clear C1 ho hg
      go_wp2_with fail
      refine C2.out.mono ?_
      rintro e w6 ⟨A2, n2, c2, rfl, ho2, hg2⟩
      have C3 := Lib.hid (st_keys S.out (gnone G5.out hg2) (O5.out.below (below_g hg2)) hF.out)
      have O6 := Lib.hid ho2
      have hw5 : Hid (w.heap.size ≤ w5.heap.size) := Lib.hid (Nat.le_trans S.out.size G5.out.size)
      have hw6 : Hid (w5.heap.size ≤ w6.heap.size) := Lib.hid hg2.size
      clear C2 ho2 hg2
      go_wp2_with fail
      refine C3.out.mono ?_
      rintro e w7 ⟨rfl, S7, ho7, ht7⟩
      have C4 := Lib.hid (st_ints S7 (O6.out.tn ht7 (fun _ _ => rfl)) hw5.out hM.out (Nat.le_trans hw6.out ht7.size))
      have O7 := Lib.hid ho7
      have O7i := Lib.hid (O6.out.tn ht7 (fun _ _ => rfl))
      clear C3 ho7 S7 ht7 O6 O5 G5 hw5 hw6
      go_wp2_with fail
      refine C4.out.mono ?_
      rintro e w8 ⟨rfl, F8, ht8⟩
      have O8 := Lib.hid (O7.out.tn ht8 (fun _ _ => rfl))
      have O8i := Lib.hid (O7i.out.tn ht8 (fun _ _ => rfl))
      have F8' := Lib.hid F8
      have C5 := Lib.hid (fin_rfrom F8 Hx.out E1.out (by decide))
      clear C4 O7 O7i F8 ht8
      go_wp2_with fail
      refine C5.out.mono ?_
      rintro e w9 ⟨A3, n3, c3, rfl, ho9, hg9⟩
      have C6 := Lib.hid (sameKeys_any A1 A3 n1 n3 c1 c3 _ _ L w9 (O8.out.below (below_g hg9)) ho9 (Nat.le_trans hF.out.1 (by decide)) hF.out.2)
      have F9 := Lib.hid (F8'.out.up hg9)
      have O9i := Lib.hid (O8i.out.below (below_g hg9))
      clear C5 ho9 hg9 F8' O8 O8i
      go_wp2_with fail
      refine C6.out.mono ?_
      rintro e w10 ⟨rfl, j, hj⟩
      have hg10 : w9.grownBy w10 none := by rw [hj]; exact only_drewN (grefl w9 none) j
      have F10 := Lib.hid (F9.out.up hg10)
      have O10i := Lib.hid (O9i.out.below (below_g hg10))
      have C7 := Lib.hid (fin_rlanes F10.out Hx.out E2.out)
      clear C6 hj hg10 F9 O9i
      go_wp2_with fail
      refine C7.out.mono ?_
      rintro e w11 ⟨A4, n4, c4, rfl, ho11, hg11⟩
      have C8 := Lib.hid (sameInts_any A2 A4 n2 n4 c2 c4 _ _ M w11 (O10i.out.below (below_g hg11)) ho11 (Nat.le_trans hM.out.1 (by decide)) hM.out.2)
      have F11 := Lib.hid (F10.out.up hg11)
      clear C7 ho11 hg11 F10 O10i
      go_wp2_with fail
      refine C8.out.mono ?_
      rintro e w12 ⟨rfl, j, hj⟩
      have hg12 : w11.grownBy w12 none := by rw [hj]; exact only_drewN (grefl w11 none) j
      have F12 := Lib.hid (F11.out.up hg12)
      have C9 := Lib.hid (fin_bytes F12.out E3.out)
      clear C8 hj hg12 F11
      go_wp2_with fail
      refine C9.out.mono ?_
      rintro e w13 ⟨rfl, hg13⟩
      have F13 := Lib.hid (F12.out.up hg13)
      have C10 := Lib.hid (fin_rbytes F13.out Hx.out E3.out)
      clear C9 hg13 F12
      go_wp2_with fail
      refine C10.out.mono ?_
      rintro e w14 ⟨rfl, hg14⟩
      have F14 := Lib.hid (F13.out.up hg14)
      have C11 := Lib.hid (fin_apart F14.out)
      clear C10 hg14 F13 F14
      go_wp2_with fail
      refine C11.out.mono ?_
      rintro e w15 ⟨rfl, hb⟩
      have H := Lib.hid hb
      clear hb C11
      go_wp2_with fail
      go_ret
      exact ⟨rfl, H.out⟩

theorem lawSkipPlays (z : Bool) (A : Option Addr) (n c : Nat) (K X : Nat → Int) (Y D : Nat → ByteArray) (w : World) (I : SOpsIn w A n K X Y D) :
    Calls Tryz.prog 3 #[.bool z, .slice A n c] w fun e w' => e = .returned (.bool true) ∧ Below w.heap.size w w' := by
  by_cases h : 250 < n
  · exact skipplays_long z A n c w h
  · exact skipplays_some z A n c K X Y D w I (by omega)
end Go.Proofs.YtmagkkkecihgmaaGreat
