/-
  StampRises: times that are given out rise, and are above what was asked and seen; a clock never goes back.
-/
import Derived.Test.YtalacionlbmcpaaStamp3
import Derived.Test.YtalacionlbmcpaaView2
import Derived.LoopTactic
namespace Go.Proofs.Ytalacionlbmcpaa
open Go.RowKit

theorem ops_cells {w W : World} {b off n k : Nat} {K N : Nat → Int} {F : Nat → Nat} (hlt : b < w.heap.size) (hc : ∀ j, j < n → w.cell? ⟨b, off + j * 3, none⟩ = some (.int .i64 (K j)) ∧ w.cell? ⟨b, off + j * 3 + 1, none⟩ = some (.int .i64 (N j)) ∧ w.cell? ⟨b, off + j * 3 + 2, none⟩ = some (.float .f64 (F j)))
    (hk : k < n) (hb : Below w.heap.size w W) : W.cell? ⟨b, off + k * 3, none⟩ = some (.int .i64 (K k)) ∧ W.cell? ⟨b, off + k * 3 + 1, none⟩ = some (.int .i64 (N k)) ∧ W.cell? ⟨b, off + k * 3 + 2, none⟩ = some (.float .f64 (F k)) :=
  ⟨(hb.cell (p := ⟨b, off + k * 3, none⟩) hlt).trans (hc k hk).1, (hb.cell (p := ⟨b, off + k * 3 + 1, none⟩) hlt).trans (hc k hk).2.1, (hb.cell (p := ⟨b, off + k * 3 + 2, none⟩) hlt).trans (hc k hk).2.2⟩

set_option maxRecDepth 100000 in
set_option maxHeartbeats 4000000 in
theorem lawStampRises (d : Nat) (_hd : (Lit.float .f64 d).wf = true) (A : Option Addr) (n c : Nat) (K N : Nat → Int) (F : Nat → Nat) (w : World) (I : OpsIn w A n K N F) :
    Calls Try.prog 4 #[.float .f64 d, .slice A n c] w fun e w' => e = .returned (.bool true) ∧ Below w.heap.size w w' := by
  have hmx := I.max
  by_cases hbig : 300 < n
  · have hb1 : (300 : Int) < (n : Int) := by omega
    clear I hmx
    go_enter Try.func4, Try.ntmps4
    go_wp2_with fail
    refine (alive4_any _).mono ?_
    rintro e w1 ⟨rfl, hb⟩
    go_wp2_with fail
    go_ret
    exact ⟨rfl, hb⟩
  have hb1 : ¬ (300 : Int) < (n : Int) := by omega
  have I := Lib.hid I
  clear hmx
  go_enter Try.func4, Try.ntmps4
  go_wp2_with fail
  refine (snew_clk d w).mono ?_
  rintro e w1 ⟨p, rfl, q1, s1, A1, hb⟩
  replace A1 := Lib.hid A1
  have q1 := Lib.hid q1
  have hb := Lib.hid hb
  clear s1
  go_wp2_with fail
  go_loopw [6, 7, 8] (fun la nw i wr => ∃ (k : Nat) (t l : Int) (f : Nat), k ≤ n ∧ i = .int .i64 (k : Int) ∧ la = .int .i64 l ∧ nw = .int .i64 t ∧ 0 ≤ t ∧ t ≤ 281474976710655 ∧ 0 ≤ l ∧ l ≤ 281474976710655 ∧ Hid (Blk wr p 30 (clk t l f)) ∧ Hid (Below w.heap.size w wr)) (fun _ _ i _ => n - (intOf i).toNat)
  case atStart => exact ⟨0, 0, 0, d, by omega, rfl, rfl, rfl, by decide, by decide, by decide, by decide, A1.out, hb.out⟩
  case round =>
    obtain ⟨k, t, l, f, hk, rfl, rfl, rfl, t0, t1, l0, l1, B, hbw⟩ := hrel
    by_cases hl : k < n
    · obtain ⟨b, off, rfl, hlt, hc⟩ := I.out.some (by omega)
      have CC := fun W h => Lib.hid (ops_cells (W := W) hlt hc hl h)
      obtain ⟨x0, x1, x2⟩ := (CC _ hbw.out).out
      have hl1 : (k : Int) < (n : Int) := by omega
      generalize K k = kd at *
      generalize N k = m at *
      generalize F k = g at *
      clear hlt hc
      by_cases k1 : kd = 1
      · subst k1
        obtain ⟨T0, T1⟩ := tickN_bd m f t0
        have T2 := tickN_up m f t1
        have C := Lib.hid (stick_clk m B.out t0 t1)
        generalize tickN t m f = t' at *
        clear CC
        go_wp2_with fail
        refine C.out.mono ?_
        rintro e w4 ⟨rfl, B4, G⟩
        replace B4 := Lib.hid B4
        have hb4 := Lib.hid (below_grow hbw.out G (Nat.le_refl _) q1.out)
        clear G C B hbw x0 x1 x2
        go_wp2_with fail
        refine (snow_any p _ _ _ _ B4.out).mono ?_
        rintro e w7 ⟨rfl, rfl⟩
        go_wp2_with fail
        refine (slast_any p _ _ _ _ B4.out).mono ?_
        rintro e w7 ⟨rfl, rfl⟩
        go_wp2_with fail
        refine (snow_any p _ _ _ _ B4.out).mono ?_
        rintro e w7 ⟨rfl, rfl⟩
        go_wp2_with fail
        go_roundw
        case rel => exact ⟨k + 1, t', l, f, by omega, by go_num, rfl, rfl, by omega, by omega, by omega, by omega, B4.out, hb4.out⟩
        case measure => simp [intOf]; omega
      have k1' : (kd == 1) = false := by rw [beq_eq_false_iff_ne]; exact k1
      clear k1
      by_cases k2 : kd = 2
      · subst k2
        obtain ⟨r, hr⟩ : ∃ r, nextN t l m = r := ⟨_, rfl⟩
        cases r with
        | none =>
          have C := Lib.hid (snext_over p t l m f wr B.out hr)
          clear hr CC k1'
          go_wp2_with fail
          refine C.out.mono ?_
          rintro e w4 ⟨rfl, rfl⟩
          go_wp2_with fail
          go_roundw
          case rel => exact ⟨k + 1, t, l, f, by omega, by go_num, rfl, rfl, by omega, by omega, by omega, by omega, B.out, hbw.out⟩
          case measure => simp [intOf]; omega
        | some s =>
          have C := Lib.hid (snext_clk m B.out t0 l0 hr)
          have h3 := nextN_some hr
          have g1 : decide (s ≤ l) = false := decide_eq_false (by omega)
          have g2 : decide (s ≤ m) = false := decide_eq_false (by omega)
          have g3 : decide (s < t) = false := decide_eq_false (by omega)
          have g4 : decide (281474976710656 ≤ s) = false := decide_eq_false (by omega)
          have g5 : 0 ≤ s ∧ s ≤ 281474976710655 := by omega
          clear hr h3 k1'
          go_wp2_with fail
          refine C.out.mono ?_
          rintro e w4 ⟨rfl, B4, G⟩
          replace B4 := Lib.hid B4
          have hb4 := Lib.hid (below_grow hbw.out G (Nat.le_refl _) q1.out)
          obtain ⟨y0, y1, y2⟩ := (CC _ hb4.out).out
          clear G C B hbw x0 x1 x2 CC
          go_wp2_with fail
          refine (snow_any p _ _ _ _ B4.out).mono ?_
          rintro e w7 ⟨rfl, rfl⟩
          go_wp2_with fail
          refine (snow_any p _ _ _ _ B4.out).mono ?_
          rintro e w7 ⟨rfl, rfl⟩
          go_wp2_with fail
          refine (slast_any p _ _ _ _ B4.out).mono ?_
          rintro e w7 ⟨rfl, rfl⟩
          go_wp2_with fail
          refine (snow_any p _ _ _ _ B4.out).mono ?_
          rintro e w7 ⟨rfl, rfl⟩
          go_wp2_with fail
          go_roundw
          case rel => exact ⟨k + 1, t, s, f, by omega, by go_num, rfl, rfl, by omega, by omega, by omega, by omega, B4.out, hb4.out⟩
          case measure => simp [intOf]; omega
      have k2' : (kd == 2) = false := by rw [beq_eq_false_iff_ne]; exact k2
      clear k2
      by_cases k3 : kd = 3
      · subst k3
        have C := Lib.hid (sseen_clk m B.out)
        clear k1' k2'
        by_cases h1 : 281474976710655 < m
        · have hs : seenN l m = l := by unfold seenN; rw [if_pos h1]
          rw [hs] at C
          have g1 : decide (m < 281474976710656) = false := decide_eq_false (by omega)
          clear hs
          go_wp2_with fail
          refine C.out.mono ?_
          rintro e w4 ⟨rfl, B4, G⟩
          replace B4 := Lib.hid B4
          have hb4 := Lib.hid (below_grow hbw.out G (Nat.le_refl _) q1.out)
          obtain ⟨y0, y1, y2⟩ := (CC _ hb4.out).out
          clear G C B hbw x0 x1 x2 CC
          go_wp2_with fail
          refine (snow_any p _ _ _ _ B4.out).mono ?_
          rintro e w7 ⟨rfl, rfl⟩
          go_wp2_with fail
          refine (slast_any p _ _ _ _ B4.out).mono ?_
          rintro e w7 ⟨rfl, rfl⟩
          go_wp2_with fail
          refine (snow_any p _ _ _ _ B4.out).mono ?_
          rintro e w7 ⟨rfl, rfl⟩
          go_wp2_with fail
          go_roundw
          case rel => exact ⟨k + 1, t, l, f, by omega, by go_num, rfl, rfl, by omega, by omega, by omega, by omega, B4.out, hb4.out⟩
          case measure => simp [intOf]; omega
        · have g1 : decide (m < 281474976710656) = true := decide_eq_true (by omega)
          have hmax := run_max l m
          by_cases h2 : l < m
          · have hs : seenN l m = m := by unfold seenN; rw [if_neg h1, if_pos h2]
            rw [hs] at C
            rw [if_pos h2] at hmax
            have h3 : 0 ≤ m ∧ m ≤ 281474976710655 := by omega
            clear hs
            go_wp2_with fail
            refine C.out.mono ?_
            rintro e w4 ⟨rfl, B4, G⟩
            replace B4 := Lib.hid B4
            have hb4 := Lib.hid (below_grow hbw.out G (Nat.le_refl _) q1.out)
            obtain ⟨y0, y1, y2⟩ := (CC _ hb4.out).out
            clear G C B hbw x0 x1 x2 CC
            go_wp2_with fail
            refine (snow_any p _ _ _ _ B4.out).mono ?_
            rintro e w7 ⟨rfl, rfl⟩
            go_wp2_with fail
            refine (slast_any p _ _ _ _ B4.out).mono ?_
            rintro e w7 ⟨rfl, rfl⟩
            go_wp2_with fail
            refine (snow_any p _ _ _ _ B4.out).mono ?_
            rintro e w7 ⟨rfl, rfl⟩
            go_wp2_with fail
            go_roundw
            case rel => exact ⟨k + 1, t, m, f, by omega, by go_num, rfl, rfl, by omega, by omega, by omega, by omega, B4.out, hb4.out⟩
            case measure => simp [intOf]; omega
          · have hs : seenN l m = l := by unfold seenN; rw [if_neg h1, if_neg h2]
            rw [hs] at C
            rw [if_neg h2] at hmax
            clear hs
            go_wp2_with fail
            refine C.out.mono ?_
            rintro e w4 ⟨rfl, B4, G⟩
            replace B4 := Lib.hid B4
            have hb4 := Lib.hid (below_grow hbw.out G (Nat.le_refl _) q1.out)
            obtain ⟨y0, y1, y2⟩ := (CC _ hb4.out).out
            clear G C B hbw x0 x1 x2 CC
            go_wp2_with fail
            refine (snow_any p _ _ _ _ B4.out).mono ?_
            rintro e w7 ⟨rfl, rfl⟩
            go_wp2_with fail
            refine (slast_any p _ _ _ _ B4.out).mono ?_
            rintro e w7 ⟨rfl, rfl⟩
            go_wp2_with fail
            refine (snow_any p _ _ _ _ B4.out).mono ?_
            rintro e w7 ⟨rfl, rfl⟩
            go_wp2_with fail
            go_roundw
            case rel => exact ⟨k + 1, t, l, f, by omega, by go_num, rfl, rfl, by omega, by omega, by omega, by omega, B4.out, hb4.out⟩
            case measure => simp [intOf]; omega
      have k3' : (kd == 3) = false := by rw [beq_eq_false_iff_ne]; exact k3
      clear k3
      by_cases k4 : kd = 4
      · subst k4
        have C := Lib.hid (sdrift_clk g B.out)
        clear k1' k2' k3' CC
        go_wp2_with fail
        refine C.out.mono ?_
        rintro e w4 ⟨rfl, B4, G⟩
        replace B4 := Lib.hid B4
        have hb4 := Lib.hid (below_grow hbw.out G (Nat.le_refl _) q1.out)
        clear G C B hbw x0 x1 x2
        go_wp2_with fail
        refine (snow_any p _ _ _ _ B4.out).mono ?_
        rintro e w7 ⟨rfl, rfl⟩
        go_wp2_with fail
        refine (slast_any p _ _ _ _ B4.out).mono ?_
        rintro e w7 ⟨rfl, rfl⟩
        go_wp2_with fail
        refine (snow_any p _ _ _ _ B4.out).mono ?_
        rintro e w7 ⟨rfl, rfl⟩
        go_wp2_with fail
        go_roundw
        case rel => exact ⟨k + 1, t, l, g, by omega, by go_num, rfl, rfl, by omega, by omega, by omega, by omega, B4.out, hb4.out⟩
        case measure => simp [intOf]; omega
      have k4' : (kd == 4) = false := by rw [beq_eq_false_iff_ne]; exact k4
      clear k4 CC
      have B4 := B
      have hb4 := hbw
      clear B hbw
      go_wp2_with fail
      refine (snow_any p _ _ _ _ B4.out).mono ?_
      rintro e w7 ⟨rfl, rfl⟩
      go_wp2_with fail
      refine (slast_any p _ _ _ _ B4.out).mono ?_
      rintro e w7 ⟨rfl, rfl⟩
      go_wp2_with fail
      refine (snow_any p _ _ _ _ B4.out).mono ?_
      rintro e w7 ⟨rfl, rfl⟩
      go_wp2_with fail
      go_roundw
      case rel => exact ⟨k + 1, t, l, f, by omega, by go_num, rfl, rfl, by omega, by omega, by omega, by omega, B4.out, hb4.out⟩
      case measure => simp [intOf]; omega
    · have hl1 : ¬ (k : Int) < (n : Int) := by omega
      clear hl
      go_wp2_with fail
      refine (alive4_any _).mono ?_
      rintro e w5 ⟨rfl, hb5⟩
      have hb6 := hbw.out.trans (hb5.mono hbw.out.size)
      go_wp2_with fail
      go_ret
      exact ⟨rfl, hb6⟩
end Go.Proofs.Ytalacionlbmcpaa
