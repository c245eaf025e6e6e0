/-
  StampPlays: every call, in every order, at every speed: what the clock tells is what the document's own one tells.
-/
import Derived.Test.YtalacionlbmcpaaStamp3
import Derived.Test.YtalacionlbmcpaaStampRises
import Derived.Deep.QuietTactic
import Derived.BigQuiet
namespace Go.Proofs.Ytalacionlbmcpaa
open Go.RowKit

set_option maxRecDepth 100000 in
set_option maxHeartbeats 1000000 in
theorem stampPlays_big (d : Nat) (z : Bool) (A : Option Addr) (n c : Nat) (w : World) (hbig : 300 < n) (hm : n ≤ 9223372036854775807) :
    Calls Try.prog 3 #[.float .f64 d, .bool z, .slice A n c] w fun e w' => e = .returned (.bool true) ∧ Below w.heap.size w w' := by
  have hb1 : (300 : Int) < (n : Int) := by omega
  go_enter Try.func3, Try.ntmps3
  go_wp2_with fail
  refine (alive4_any _).mono ?_
  rintro e w1 ⟨rfl, hb⟩
  go_wp2_with fail
  go_ret
  exact ⟨rfl, hb⟩

set_option maxRecDepth 100000 in
set_option maxHeartbeats 4000000 in
theorem lawStampPlays (d : Nat) (_hd : (Lit.float .f64 d).wf = true) (z : Bool) (A : Option Addr) (n c : Nat) (K N : Nat → Int) (F : Nat → Nat) (w : World) (I : OpsIn w A n K N F) :
    Calls Try.prog 3 #[.float .f64 d, .bool z, .slice A n c] w fun e w' => e = .returned (.bool true) ∧ Below w.heap.size w w' := by
  have hmx := I.max
  by_cases hbig : 300 < n
  · exact stampPlays_big d z A n c w hbig hmx
  have hb1 : ¬ (300 : Int) < (n : Int) := by omega
  have I := Lib.hid I
  have hst := run_put_f64
  clear hmx
  cases z
  · go_enter Try.func3, Try.ntmps3
    go_wp2_with fail
    refine (snew_clk d w).mono ?_
    rintro e w1 ⟨p, rfl, q1, s1, A1, hb⟩
    go_wp2_with fail
    refine (rnew_clk d _).mono ?_
    rintro e w2 ⟨q, rfl, q2, s2, A2, hb2⟩
    have npq := Lib.hid (show p ≠ q by omega)
    replace A1 := Lib.hid (A1.below hb2 s1)
    replace A2 := Lib.hid A2
    have q2 := Lib.hid (show w.heap.size ≤ q by have := hb.size; omega)
    have q1 := Lib.hid q1
    replace hb := Lib.hid (hb.trans (hb2.mono hb.size))
    clear s1 s2 hb2
    go_wp2_with fail
    go_loopw [9] (fun i wr => ∃ (k : Nat) (t l : Int) (f : Nat), k ≤ n ∧ i = .int .i64 (k : Int) ∧ 0 ≤ t ∧ t ≤ 281474976710655 ∧ 0 ≤ l ∧ l ≤ 281474976710655 ∧ Hid (Blk wr p 30 (clk t l f)) ∧ Hid (Blk wr q 39 (clk t l f)) ∧ Hid (Below w.heap.size w wr)) (fun i _ => n - (intOf i).toNat)
    case atStart => exact ⟨0, 0, 0, d, by omega, rfl, by decide, by decide, by decide, by decide, A1.out, A2.out, hb.out⟩
    case round =>
      obtain ⟨k, t, l, f, hk, rfl, t0, t1, l0, l1, B, Q, hbw⟩ := hrel
      by_cases hl : k < n
      · obtain ⟨b, off, rfl, hlt, hc⟩ := I.out.some (by omega)
        have CC := fun W h => Lib.hid (ops_cells (W := W) hlt hc hl h)
        obtain ⟨x0, x1, x2⟩ := (CC _ hbw.out).out
        have hl1 : (k : Int) < (n : Int) := by omega
        generalize K k = kd at *
        generalize N k = m at *
        generalize F k = g at *
        clear hlt hc
        by_cases k1 : kd = 1
        · subst k1
          obtain ⟨T0, T1⟩ := tickN_bd m f t0
          have C := Lib.hid (stick_clk m B.out t0 t1)
          have D := fun W h => Lib.hid (rtick_clk (p := q) (w := W) (l := l) m (f := f) h t0 t1)
          generalize tickN t m f = t' at *
          go_wp2_with fail
          refine C.out.mono ?_
          rintro e w3 ⟨rfl, B3, G⟩
          have Q3 := Lib.hid (blk_by Q.out G npq.out.symm)
          have B3 := Lib.hid B3
          have hb3 := Lib.hid (below_grow hbw.out G (Nat.le_refl _) q1.out)
          obtain ⟨y0, y1, y2⟩ := (CC _ hb3.out).out
          clear G C B Q hbw x0 x1 x2
          go_wp2_with fail
          refine ((D _ Q3.out).out).mono ?_
          rintro e w4 ⟨rfl, Q4, G⟩
          have B4 := Lib.hid (blk_by B3.out G npq.out)
          have Q4 := Lib.hid Q4
          have hb4 := Lib.hid (below_grow hb3.out G (Nat.le_refl _) q2.out)
          clear G B3 Q3 hb3 y0 y1 y2 CC
          have d0 := Q4.out.cell 0
          have d1 := Q4.out.cell 1
          simp only [clk] at d0 d1
          go_wp2_with fail
          go_quiet (first
            | (go_at_call 18; refine Calls.quiet_of_same (snow_any p _ _ _ _ (B4.out.drewN _)))
            | (go_at_call 19; refine Calls.quiet_of_same (slast_any p _ _ _ _ (B4.out.drewN _))))
          go_wp2_with fail
          go_roundw
          case rel => exact ⟨k + 1, t', l, f, by omega, by go_num, by omega, by omega, by omega, by omega, B4.out.drewN _, Q4.out.drewN _, below_drewN hb4.out _⟩
          case measure => simp [intOf]; omega
        have k1' : (kd == 1) = false := by rw [beq_eq_false_iff_ne]; exact k1
        clear k1
        by_cases k2 : kd = 2
        · subst k2
          obtain ⟨sx, hr⟩ : ∃ r, nextN t l m = r := ⟨_, rfl⟩
          cases sx with
          | none =>
            have C := Lib.hid (snext_over p t l m f wr B.out hr)
            have D := Lib.hid (rnext_over m Q.out t0 t1 l0 l1 hr)
            clear hr CC k1'
            go_wp2_with fail
            refine C.out.mono ?_
            rintro e w4 ⟨rfl, rfl⟩
            go_wp2_with fail
            refine D.out.mono ?_
            rintro e w5 ⟨rfl, rfl⟩
            have B4 := B
            have Q4 := Q
            have hb4 := hbw
            clear B Q hbw C D x0 x1 x2
            have d0 := Q4.out.cell 0
            have d1 := Q4.out.cell 1
            simp only [clk] at d0 d1
            go_wp2_with fail
            go_quiet (first
              | (go_at_call 18; refine Calls.quiet_of_same (snow_any p _ _ _ _ (B4.out.drewN _)))
              | (go_at_call 19; refine Calls.quiet_of_same (slast_any p _ _ _ _ (B4.out.drewN _))))
            go_wp2_with fail
            go_roundw
            case rel => exact ⟨k + 1, t, l, f, by omega, by go_num, by omega, by omega, by omega, by omega, B4.out.drewN _, Q4.out.drewN _, below_drewN hb4.out _⟩
            case measure => simp [intOf]; omega
          | some s =>
            have C := Lib.hid (snext_clk m B.out t0 l0 hr)
            have D := fun W h => Lib.hid (rnext_clk (p := q) (w := W) m (s := s) (f := f) h t0 t1 l0 hr)
            have h3 := nextN_some hr
            have g5 : 0 ≤ s ∧ s ≤ 281474976710655 := by omega
            clear hr h3 k1'
            go_wp2_with fail
            refine C.out.mono ?_
            rintro e w3 ⟨rfl, B3, G⟩
            have Q3 := Lib.hid (blk_by Q.out G npq.out.symm)
            have B3 := Lib.hid B3
            have hb3 := Lib.hid (below_grow hbw.out G (Nat.le_refl _) q1.out)
            obtain ⟨y0, y1, y2⟩ := (CC _ hb3.out).out
            clear G C B Q hbw x0 x1 x2
            go_wp2_with fail
            refine ((D _ Q3.out).out).mono ?_
            rintro e w4 ⟨rfl, Q4, G⟩
            have B4 := Lib.hid (blk_by B3.out G npq.out)
            have Q4 := Lib.hid Q4
            have hb4 := Lib.hid (below_grow hb3.out G (Nat.le_refl _) q2.out)
            clear G B3 Q3 hb3 y0 y1 y2 CC
            have d0 := Q4.out.cell 0
            have d1 := Q4.out.cell 1
            simp only [clk] at d0 d1
            go_wp2_with fail
            go_quiet (first
              | (go_at_call 18; refine Calls.quiet_of_same (snow_any p _ _ _ _ (B4.out.drewN _)))
              | (go_at_call 19; refine Calls.quiet_of_same (slast_any p _ _ _ _ (B4.out.drewN _))))
            go_wp2_with fail
            go_roundw
            case rel => exact ⟨k + 1, t, s, f, by omega, by go_num, by omega, by omega, by omega, by omega, B4.out.drewN _, Q4.out.drewN _, below_drewN hb4.out _⟩
            case measure => simp [intOf]; omega
        have k2' : (kd == 2) = false := by rw [beq_eq_false_iff_ne]; exact k2
        clear k2
        by_cases k3 : kd = 3
        · subst k3
          have C := Lib.hid (sseen_clk m B.out)
          have D := fun W h => Lib.hid (rseen_clk (p := q) (w := W) (t := t) (l := l) m (f := f) h)
          have g5 : 0 ≤ seenN l m ∧ seenN l m ≤ 281474976710655 := by unfold seenN; split <;> (try split) <;> omega
          generalize seenN l m = s at *
          clear k1' k2'
          go_wp2_with fail
          refine C.out.mono ?_
          rintro e w3 ⟨rfl, B3, G⟩
          have Q3 := Lib.hid (blk_by Q.out G npq.out.symm)
          have B3 := Lib.hid B3
          have hb3 := Lib.hid (below_grow hbw.out G (Nat.le_refl _) q1.out)
          obtain ⟨y0, y1, y2⟩ := (CC _ hb3.out).out
          clear G C B Q hbw x0 x1 x2
          go_wp2_with fail
          refine ((D _ Q3.out).out).mono ?_
          rintro e w4 ⟨rfl, Q4, G⟩
          have B4 := Lib.hid (blk_by B3.out G npq.out)
          have Q4 := Lib.hid Q4
          have hb4 := Lib.hid (below_grow hb3.out G (Nat.le_refl _) q2.out)
          clear G B3 Q3 hb3 y0 y1 y2 CC
          have d0 := Q4.out.cell 0
          have d1 := Q4.out.cell 1
          simp only [clk] at d0 d1
          go_wp2_with fail
          go_quiet (first
            | (go_at_call 18; refine Calls.quiet_of_same (snow_any p _ _ _ _ (B4.out.drewN _)))
            | (go_at_call 19; refine Calls.quiet_of_same (slast_any p _ _ _ _ (B4.out.drewN _))))
          go_wp2_with fail
          go_roundw
          case rel => exact ⟨k + 1, t, s, f, by omega, by go_num, by omega, by omega, by omega, by omega, B4.out.drewN _, Q4.out.drewN _, below_drewN hb4.out _⟩
          case measure => simp [intOf]; omega
        have k3' : (kd == 3) = false := by rw [beq_eq_false_iff_ne]; exact k3
        clear k3
        by_cases k4 : kd = 4
        · subst k4
          have C := Lib.hid (sdrift_clk g B.out)
          clear k1' k2' k3'
          go_wp2_with fail
          refine C.out.mono ?_
          rintro e w3 ⟨rfl, B3, G⟩
          have Q3 := blk_by Q.out G npq.out.symm
          have B3 := Lib.hid B3
          have hb3 := Lib.hid (below_grow hbw.out G (Nat.le_refl _) q1.out)
          obtain ⟨y0, y1, y2⟩ := (CC _ hb3.out).out
          have e2 := Q3.cell 2
          have z2 := Q3.frozen 2
          simp only [clk] at e2
          have Q4 := Lib.hid (Q3.set_ 2 (.float .f64 g))
          have B4 := Lib.hid (B3.out.far (p := ⟨q, 2, none⟩) npq.out (.float .f64 g))
          have hb4 := Lib.hid (below_setCell hb3.out (p := ⟨q, 2, none⟩) q2.out (.float .f64 g))
          clear G C B Q hbw x0 x1 x2 Q3 B3 hb3 CC
          go_wp2_with fail
          clear e2 z2 y0 y1 y2
          generalize w3.setCell ⟨q, 2, none⟩ (.float .f64 g) = w4 at *
          have d0 : w4.cell? ⟨q, 0, none⟩ = some (.int .i64 t) := Q4.out.cell 0
          have d1 : w4.cell? ⟨q, 1, none⟩ = some (.int .i64 l) := Q4.out.cell 1
          go_wp2_with fail
          go_quiet (first
            | (go_at_call 18; refine Calls.quiet_of_same (snow_any p _ _ _ _ (B4.out.drewN _)))
            | (go_at_call 19; refine Calls.quiet_of_same (slast_any p _ _ _ _ (B4.out.drewN _))))
          go_wp2_with fail
          go_roundw
          case rel => exact ⟨k + 1, t, l, g, by omega, by go_num, by omega, by omega, by omega, by omega, B4.out.drewN _, Q4.out.drewN _, below_drewN hb4.out _⟩
          case measure => simp [intOf]; omega
        have k4' : (kd == 4) = false := by rw [beq_eq_false_iff_ne]; exact k4
        clear k4 CC
        have B4 := B
        have Q4 := Q
        have hb4 := hbw
        clear B Q hbw x1 x2
        have d0 := Q4.out.cell 0
        have d1 := Q4.out.cell 1
        simp only [clk] at d0 d1
        go_wp2_with fail
        go_quiet (first
          | (go_at_call 18; refine Calls.quiet_of_same (snow_any p _ _ _ _ (B4.out.drewN _)))
          | (go_at_call 19; refine Calls.quiet_of_same (slast_any p _ _ _ _ (B4.out.drewN _))))
        go_wp2_with fail
        go_roundw
        case rel => exact ⟨k + 1, t, l, f, by omega, by go_num, by omega, by omega, by omega, by omega, B4.out.drewN _, Q4.out.drewN _, below_drewN hb4.out _⟩
        case measure => simp [intOf]; omega
      · have hl1 : ¬ (k : Int) < (n : Int) := by omega
        clear hl
        go_wp2_with fail
        refine (alive4_any _).mono ?_
        rintro e w5 ⟨rfl, hb5⟩
        have hb6 := hbw.out.trans (hb5.mono hbw.out.size)
        go_wp2_with fail
        go_ret
        exact ⟨rfl, hb6⟩
  · go_enter Try.func3, Try.ntmps3
    go_wp2_with fail
    refine (snew_clk d w).mono ?_
    rintro e w1 ⟨p0, rfl, _, _, _, hb⟩
    go_wp2_with fail
    refine (rnew_clk d w1).mono ?_
    rintro e w2 ⟨q0, rfl, _, _, _, hb2⟩
    replace hb := hb.trans (hb2.mono hb.size)
    clear hb2
    go_wp2_with fail
    have A1 := Blk.new w2 30 (clk 0 0 0)
    have q1 := hb.size
    have s1 : w2.heap.size < (w2.alloc (.cells (clk 0 0 0) 30)).heap.size := by simp
    replace hb := below_alloc hb (Nat.le_refl _) (.cells (clk 0 0 0) 30)
    simp only [clk] at A1 s1 hb
    generalize w2.alloc (.cells #[.int .i64 0, .int .i64 0, .float .f64 0] 30) = w3 at *
    generalize w2.heap.size = p at *
    refine (rnew_clk 0 _).mono ?_
    rintro e w2 ⟨q, rfl, q2, s2, A2, hb2⟩
    have npq := Lib.hid (show p ≠ q by omega)
    replace A1 := Lib.hid (A1.below hb2 s1)
    replace A2 := Lib.hid A2
    have q2 := Lib.hid (show w.heap.size ≤ q by have := hb.size; omega)
    have q1 := Lib.hid q1
    replace hb := Lib.hid (hb.trans (hb2.mono hb.size))
    clear s1 s2 hb2
    go_wp2_with fail
    go_loopw [9] (fun i wr => ∃ (k : Nat) (t l : Int) (f : Nat), k ≤ n ∧ i = .int .i64 (k : Int) ∧ 0 ≤ t ∧ t ≤ 281474976710655 ∧ 0 ≤ l ∧ l ≤ 281474976710655 ∧ Hid (Blk wr p 30 (clk t l f)) ∧ Hid (Blk wr q 39 (clk t l f)) ∧ Hid (Below w.heap.size w wr)) (fun i _ => n - (intOf i).toNat)
    case atStart => exact ⟨0, 0, 0, 0, by omega, rfl, by decide, by decide, by decide, by decide, A1.out, A2.out, hb.out⟩
    case round =>
      obtain ⟨k, t, l, f, hk, rfl, t0, t1, l0, l1, B, Q, hbw⟩ := hrel
      by_cases hl : k < n
      · obtain ⟨b, off, rfl, hlt, hc⟩ := I.out.some (by omega)
        have CC := fun W h => Lib.hid (ops_cells (W := W) hlt hc hl h)
        obtain ⟨x0, x1, x2⟩ := (CC _ hbw.out).out
        have hl1 : (k : Int) < (n : Int) := by omega
        generalize K k = kd at *
        generalize N k = m at *
        generalize F k = g at *
        clear hlt hc
        by_cases k1 : kd = 1
        · subst k1
          obtain ⟨T0, T1⟩ := tickN_bd m f t0
          have C := Lib.hid (stick_clk m B.out t0 t1)
          have D := fun W h => Lib.hid (rtick_clk (p := q) (w := W) (l := l) m (f := f) h t0 t1)
          generalize tickN t m f = t' at *
          go_wp2_with fail
          refine C.out.mono ?_
          rintro e w3 ⟨rfl, B3, G⟩
          have Q3 := Lib.hid (blk_by Q.out G npq.out.symm)
          have B3 := Lib.hid B3
          have hb3 := Lib.hid (below_grow hbw.out G (Nat.le_refl _) q1.out)
          obtain ⟨y0, y1, y2⟩ := (CC _ hb3.out).out
          clear G C B Q hbw x0 x1 x2
          go_wp2_with fail
          refine ((D _ Q3.out).out).mono ?_
          rintro e w4 ⟨rfl, Q4, G⟩
          have B4 := Lib.hid (blk_by B3.out G npq.out)
          have Q4 := Lib.hid Q4
          have hb4 := Lib.hid (below_grow hb3.out G (Nat.le_refl _) q2.out)
          clear G B3 Q3 hb3 y0 y1 y2 CC
          have d0 := Q4.out.cell 0
          have d1 := Q4.out.cell 1
          simp only [clk] at d0 d1
          go_wp2_with fail
          go_quiet (first
            | (go_at_call 18; refine Calls.quiet_of_same (snow_any p _ _ _ _ (B4.out.drewN _)))
            | (go_at_call 19; refine Calls.quiet_of_same (slast_any p _ _ _ _ (B4.out.drewN _))))
          go_wp2_with fail
          go_roundw
          case rel => exact ⟨k + 1, t', l, f, by omega, by go_num, by omega, by omega, by omega, by omega, B4.out.drewN _, Q4.out.drewN _, below_drewN hb4.out _⟩
          case measure => simp [intOf]; omega
        have k1' : (kd == 1) = false := by rw [beq_eq_false_iff_ne]; exact k1
        clear k1
        by_cases k2 : kd = 2
        · subst k2
          obtain ⟨sx, hr⟩ : ∃ r, nextN t l m = r := ⟨_, rfl⟩
          cases sx with
          | none =>
            have C := Lib.hid (snext_over p t l m f wr B.out hr)
            have D := Lib.hid (rnext_over m Q.out t0 t1 l0 l1 hr)
            clear hr CC k1'
            go_wp2_with fail
            refine C.out.mono ?_
            rintro e w4 ⟨rfl, rfl⟩
            go_wp2_with fail
            refine D.out.mono ?_
            rintro e w5 ⟨rfl, rfl⟩
            have B4 := B
            have Q4 := Q
            have hb4 := hbw
            clear B Q hbw C D x0 x1 x2
            have d0 := Q4.out.cell 0
            have d1 := Q4.out.cell 1
            simp only [clk] at d0 d1
            go_wp2_with fail
            go_quiet (first
              | (go_at_call 18; refine Calls.quiet_of_same (snow_any p _ _ _ _ (B4.out.drewN _)))
              | (go_at_call 19; refine Calls.quiet_of_same (slast_any p _ _ _ _ (B4.out.drewN _))))
            go_wp2_with fail
            go_roundw
            case rel => exact ⟨k + 1, t, l, f, by omega, by go_num, by omega, by omega, by omega, by omega, B4.out.drewN _, Q4.out.drewN _, below_drewN hb4.out _⟩
            case measure => simp [intOf]; omega
          | some s =>
            have C := Lib.hid (snext_clk m B.out t0 l0 hr)
            have D := fun W h => Lib.hid (rnext_clk (p := q) (w := W) m (s := s) (f := f) h t0 t1 l0 hr)
            have h3 := nextN_some hr
            have g5 : 0 ≤ s ∧ s ≤ 281474976710655 := by omega
            clear hr h3 k1'
            go_wp2_with fail
            refine C.out.mono ?_
            rintro e w3 ⟨rfl, B3, G⟩
            have Q3 := Lib.hid (blk_by Q.out G npq.out.symm)
            have B3 := Lib.hid B3
            have hb3 := Lib.hid (below_grow hbw.out G (Nat.le_refl _) q1.out)
            obtain ⟨y0, y1, y2⟩ := (CC _ hb3.out).out
            clear G C B Q hbw x0 x1 x2
            go_wp2_with fail
            refine ((D _ Q3.out).out).mono ?_
            rintro e w4 ⟨rfl, Q4, G⟩
            have B4 := Lib.hid (blk_by B3.out G npq.out)
            have Q4 := Lib.hid Q4
            have hb4 := Lib.hid (below_grow hb3.out G (Nat.le_refl _) q2.out)
            clear G B3 Q3 hb3 y0 y1 y2 CC
            have d0 := Q4.out.cell 0
            have d1 := Q4.out.cell 1
            simp only [clk] at d0 d1
            go_wp2_with fail
            go_quiet (first
              | (go_at_call 18; refine Calls.quiet_of_same (snow_any p _ _ _ _ (B4.out.drewN _)))
              | (go_at_call 19; refine Calls.quiet_of_same (slast_any p _ _ _ _ (B4.out.drewN _))))
            go_wp2_with fail
            go_roundw
            case rel => exact ⟨k + 1, t, s, f, by omega, by go_num, by omega, by omega, by omega, by omega, B4.out.drewN _, Q4.out.drewN _, below_drewN hb4.out _⟩
            case measure => simp [intOf]; omega
        have k2' : (kd == 2) = false := by rw [beq_eq_false_iff_ne]; exact k2
        clear k2
        by_cases k3 : kd = 3
        · subst k3
          have C := Lib.hid (sseen_clk m B.out)
          have D := fun W h => Lib.hid (rseen_clk (p := q) (w := W) (t := t) (l := l) m (f := f) h)
          have g5 : 0 ≤ seenN l m ∧ seenN l m ≤ 281474976710655 := by unfold seenN; split <;> (try split) <;> omega
          generalize seenN l m = s at *
          clear k1' k2'
          go_wp2_with fail
          refine C.out.mono ?_
          rintro e w3 ⟨rfl, B3, G⟩
          have Q3 := Lib.hid (blk_by Q.out G npq.out.symm)
          have B3 := Lib.hid B3
          have hb3 := Lib.hid (below_grow hbw.out G (Nat.le_refl _) q1.out)
          obtain ⟨y0, y1, y2⟩ := (CC _ hb3.out).out
          clear G C B Q hbw x0 x1 x2
          go_wp2_with fail
          refine ((D _ Q3.out).out).mono ?_
          rintro e w4 ⟨rfl, Q4, G⟩
          have B4 := Lib.hid (blk_by B3.out G npq.out)
          have Q4 := Lib.hid Q4
          have hb4 := Lib.hid (below_grow hb3.out G (Nat.le_refl _) q2.out)
          clear G B3 Q3 hb3 y0 y1 y2 CC
          have d0 := Q4.out.cell 0
          have d1 := Q4.out.cell 1
          simp only [clk] at d0 d1
          go_wp2_with fail
          go_quiet (first
            | (go_at_call 18; refine Calls.quiet_of_same (snow_any p _ _ _ _ (B4.out.drewN _)))
            | (go_at_call 19; refine Calls.quiet_of_same (slast_any p _ _ _ _ (B4.out.drewN _))))
          go_wp2_with fail
          go_roundw
          case rel => exact ⟨k + 1, t, s, f, by omega, by go_num, by omega, by omega, by omega, by omega, B4.out.drewN _, Q4.out.drewN _, below_drewN hb4.out _⟩
          case measure => simp [intOf]; omega
        have k3' : (kd == 3) = false := by rw [beq_eq_false_iff_ne]; exact k3
        clear k3
        by_cases k4 : kd = 4
        · subst k4
          have C := Lib.hid (sdrift_clk g B.out)
          clear k1' k2' k3'
          go_wp2_with fail
          refine C.out.mono ?_
          rintro e w3 ⟨rfl, B3, G⟩
          have Q3 := blk_by Q.out G npq.out.symm
          have B3 := Lib.hid B3
          have hb3 := Lib.hid (below_grow hbw.out G (Nat.le_refl _) q1.out)
          obtain ⟨y0, y1, y2⟩ := (CC _ hb3.out).out
          have e2 := Q3.cell 2
          have z2 := Q3.frozen 2
          simp only [clk] at e2
          have Q4 := Lib.hid (Q3.set_ 2 (.float .f64 g))
          have B4 := Lib.hid (B3.out.far (p := ⟨q, 2, none⟩) npq.out (.float .f64 g))
          have hb4 := Lib.hid (below_setCell hb3.out (p := ⟨q, 2, none⟩) q2.out (.float .f64 g))
          clear G C B Q hbw x0 x1 x2 Q3 B3 hb3 CC
          go_wp2_with fail
          clear e2 z2 y0 y1 y2
          generalize w3.setCell ⟨q, 2, none⟩ (.float .f64 g) = w4 at *
          have d0 : w4.cell? ⟨q, 0, none⟩ = some (.int .i64 t) := Q4.out.cell 0
          have d1 : w4.cell? ⟨q, 1, none⟩ = some (.int .i64 l) := Q4.out.cell 1
          go_wp2_with fail
          go_quiet (first
            | (go_at_call 18; refine Calls.quiet_of_same (snow_any p _ _ _ _ (B4.out.drewN _)))
            | (go_at_call 19; refine Calls.quiet_of_same (slast_any p _ _ _ _ (B4.out.drewN _))))
          go_wp2_with fail
          go_roundw
          case rel => exact ⟨k + 1, t, l, g, by omega, by go_num, by omega, by omega, by omega, by omega, B4.out.drewN _, Q4.out.drewN _, below_drewN hb4.out _⟩
          case measure => simp [intOf]; omega
        have k4' : (kd == 4) = false := by rw [beq_eq_false_iff_ne]; exact k4
        clear k4 CC
        have B4 := B
        have Q4 := Q
        have hb4 := hbw
        clear B Q hbw x1 x2
        have d0 := Q4.out.cell 0
        have d1 := Q4.out.cell 1
        simp only [clk] at d0 d1
        go_wp2_with fail
        go_quiet (first
          | (go_at_call 18; refine Calls.quiet_of_same (snow_any p _ _ _ _ (B4.out.drewN _)))
          | (go_at_call 19; refine Calls.quiet_of_same (slast_any p _ _ _ _ (B4.out.drewN _))))
        go_wp2_with fail
        go_roundw
        case rel => exact ⟨k + 1, t, l, f, by omega, by go_num, by omega, by omega, by omega, by omega, B4.out.drewN _, Q4.out.drewN _, below_drewN hb4.out _⟩
        case measure => simp [intOf]; omega
      · have hl1 : ¬ (k : Int) < (n : Int) := by omega
        clear hl
        go_wp2_with fail
        refine (alive4_any _).mono ?_
        rintro e w5 ⟨rfl, hb5⟩
        have hb6 := hbw.out.trans (hb5.mono hbw.out.size)
        go_wp2_with fail
        go_ret
        exact ⟨rfl, hb6⟩
end Go.Proofs.Ytalacionlbmcpaa
