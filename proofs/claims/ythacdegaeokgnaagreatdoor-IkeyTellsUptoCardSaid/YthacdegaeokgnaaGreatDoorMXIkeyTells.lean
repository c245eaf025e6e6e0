/-
  IkeyTells: the law.
-/
import Derived.Test.YthacdegaeokgnaaGreatDoorM6
namespace Go.Proofs.YthacdegaeokgnaaGreatDoor
open Go.RowKit

set_option maxRecDepth 100000 in
set_option maxHeartbeats 16000000 in
theorem lawIkeyTells (key : ByteArray) (A : Option Addr) (n c : Nat) (o x kd : Int) (nu : Nat) (it : Int) (tx : ByteArray) (xs : List Int) (s : ByteArray) (hs : s.size ≤ 140737488351232) (w : World) (V : VerIn w key A n xs o x kd nu it tx) :
    Calls Tryz.prog 3 #[verV key A n c o x kd nu it tx, .string s] w fun e w' => e = .returned (.bool true) ∧ Below w.heap.size w w' := by
  obtain rfl := V.ints.len
  have HV := Lib.hid V
  have hks := V.ks
  have hmx := V.ints.max
  have Hwf := Lib.hid V.ints.wf
  clear V
  have Al := fun W => Lib.hid (kalive_any W)
  unfold verV
  have B0 : Hid (Blk (w.alloc (.cells #[.string key, .slice A xs.length c, .int .i64 o, .int .i64 x, .int .i64 kd, .float .f64 nu, .int .i64 it, .string tx] 28)) w.heap.size 28 (verC key A xs.length c o x kd nu it tx)) := Blk.new w _ _
  have hb0 : Hid (Below w.heap.size w (w.alloc (.cells #[.string key, .slice A xs.length c, .int .i64 o, .int .i64 x, .int .i64 kd, .float .f64 nu, .int .i64 it, .string tx] 28))) := (Below.refl _ w).alloc (Nat.le_refl _) _
  obtain ⟨c0, c1, c2, c3, c4, c5, c6, c7⟩ := ver_cells B0.out
  by_cases h1 : key.size ≤ 3000
  · have h1' : ¬ (3000 : Int) < (key.size : Int) := by omega
    by_cases h2 : xs.length ≤ 60
    · have h2' : ¬ (60 : Int) < (xs.length : Int) := by omega
      by_cases h3 : s.size ≤ 3000
      · have h3' : ¬ (3000 : Int) < (s.size : Int) := by omega
        have K0 : Hid (Kept ((w.alloc (.cells #[.string key, .slice A xs.length c, .int .i64 o, .int .i64 x, .int .i64 kd, .float .f64 nu, .int .i64 it, .string tx] 28)).alloc (.cells (bookV (.slice none 0 0) (.slice none 0 0)) 46)) (w.heap.size + 1) (w.heap.size + 1) [] (w.heap.size + 2)) := mkept_start2 w _
        have P0 : Hid (Blk ((w.alloc (.cells #[.string key, .slice A xs.length c, .int .i64 o, .int .i64 x, .int .i64 kd, .float .f64 nu, .int .i64 it, .string tx] 28)).alloc (.cells (bookV (.slice none 0 0) (.slice none 0 0)) 46)) w.heap.size 28 (verC key A xs.length c o x kd nu it tx)) := B0.out.alloc _
        have hb1 : Hid (Below w.heap.size w ((w.alloc (.cells #[.string key, .slice A xs.length c, .int .i64 o, .int .i64 x, .int .i64 kd, .float .f64 nu, .int .i64 it, .string tx] 28)).alloc (.cells (bookV (.slice none 0 0) (.slice none 0 0)) 46))) := below_alloc hb0.out (Nat.le_refl _) _
        have hz1 : Hid (((w.alloc (.cells #[.string key, .slice A xs.length c, .int .i64 o, .int .i64 x, .int .i64 kd, .float .f64 nu, .int .i64 it, .string tx] 28)).alloc (.cells (bookV (.slice none 0 0) (.slice none 0 0)) 46)).heap.size = w.heap.size + 2) := by unfold Hid; simp
        clear B0 hb0
        go_enter Tryz.func3, Tryz.ntmps3
        go_wp2_with fail
        obtain ⟨Wb, hWb⟩ : ∃ Wb, (w.alloc (.cells #[.string key, .slice A xs.length c, .int .i64 o, .int .i64 x, .int .i64 kd, .float .f64 nu, .int .i64 it, .string tx] 28)).alloc (.cells (bookV (.slice none 0 0) (.slice none 0 0)) 46) = Wb := ⟨_, rfl⟩
        rw [hWb] at K0 P0 hb1 hz1
        unfold bookV at hWb
        rw [hWb]
        clear hWb c0 c1 c2 c3 c4 c5 c6 c7 h1' h2' h3'
        go_loopw [6] (fun i W0 => ∃ (j : Nat) (Z : List (List Int)) (S : Nat), j ≤ 2 ∧ i = .int .i64 (j : Int) ∧ Hid (Kept W0 (w.heap.size + 1) (w.heap.size + 1) Z S) ∧ Hid (Z.length = j) ∧ Hid (w.heap.size + 1 ≤ S ∧ S ≤ W0.heap.size) ∧ Hid (Below w.heap.size w W0) ∧
          Hid (Blk W0 w.heap.size 28 (verC key A xs.length c o x kd nu it tx))) (fun i _ => 2 - (intOf i).toNat)
        case atStart => exact ⟨0, [], w.heap.size + 2, by omega, rfl, K0, rfl, ⟨Nat.le_succ _, Nat.le_of_eq hz1.out.symm⟩, hb1, P0⟩
        case round =>
          obtain ⟨j, Z, S, hj, rfl, K, HZ, HS, HB, HP⟩ := hrel
          clear K0 P0 hb1 hz1
          by_cases hj2 : j < 2
          · have hj3 : (j : Int) < 2 := by omega
            have hst := run_sto_f64
            obtain ⟨c0, c1, c2, c3, c4, c5, c6, c7⟩ := ver_cells HP.out
            obtain ⟨d0, d1, d2, d3, d4, d5, d6, d7⟩ := ver_cells (HP.out.alloc (.cells #[.string key, .slice A xs.length c, .int .i64 o, .int .i64 x, .int .i64 kd, .float .f64 nu, .int .i64 it, .string tx] 28))
            have X1 : Hid (Blk (wr.alloc (.cells #[.string key, .slice A xs.length c, .int .i64 o, .int .i64 x, .int .i64 kd, .float .f64 nu, .int .i64 it, .string tx] 28)) wr.heap.size 28 (verC key A xs.length c o x kd nu it tx)) := Blk.new wr _ _
            have Ba : Hid (Below wr.heap.size wr (wr.alloc (.cells #[.string key, .slice A xs.length c, .int .i64 o, .int .i64 x, .int .i64 kd, .float .f64 nu, .int .i64 it, .string tx] 28))) := below_alloc (Below.refl _ _) (Nat.le_refl _) _
            have LC := Lib.hid (lent_any A xs.length c xs _ (HV.out.below (HB.out.trans (Ba.out.mono HB.out.size))).ints (by omega))
            go_wp2_with fail
            refine LC.out.mono ?_
            rintro e w2 ⟨v, rfl, hX, hb2⟩
            obtain ⟨ax, cx, rfl⟩ := mlent_shape hX
            have X2 := Lib.hid (X1.out.below hb2 X1.out.lt)
            have Bb := Lib.hid (Ba.out.trans (hb2.mono Ba.out.size))
            have hq1 : wr.heap.size < (wr.alloc (.cells #[.string key, .slice A xs.length c, .int .i64 o, .int .i64 x, .int .i64 kd, .float .f64 nu, .int .i64 it, .string tx] 28)).heap.size := X1.out.lt
            have HX3 := Lib.hid (mlent_set hX hq1 1 (.slice ax xs.length cx))
            have X3 := Lib.hid (ver_set_1 X2.out ax xs.length cx)
            have Bc := Lib.hid (below_setCell Bb.out (p := ⟨wr.heap.size, 1, none⟩) (Nat.le_refl _) (.slice ax xs.length cx))
            have z1 := X2.out.frozen 1
            have e1 : w2.cell? ⟨wr.heap.size, 1, none⟩ = some (.slice A xs.length c) := X2.out.cell 1
            clear hX hb2 X1 Ba LC c0 c1 c2 c3 c4 c5 c6 c7 d0 d1 d2 d3 d4 d5 d6 d7
            obtain ⟨c0, c1, c2, c3, c4, c5, c6, c7⟩ := ver_cells X3.out
            go_wp2_with fail
            clear hst z1 e1 X2 Bb hq1
            generalize hBx : (wr.alloc (.cells #[.string key, .slice A xs.length c, .int .i64 o, .int .i64 x, .int .i64 kd, .float .f64 nu, .int .i64 it, .string tx] 28)).heap.size = Bx at *
            clear hBx
            generalize w2.setCell ⟨wr.heap.size, 1, none⟩ (.slice ax xs.length cx) = W3 at *
            have P3 := Lib.hid (HP.out.below Bc.out HP.out.lt)
            have K3 := Lib.hid (K.out.below Bc.out (Nat.le_refl _))
            have B3 := Lib.hid (HB.out.trans (Bc.out.mono HB.out.size))
            have V3 := HV.out.below B3.out
            have VX3 : Hid (VerIn W3 key ax xs.length xs o x kd nu it tx) := ⟨mnums_ints HX3.out.nums Hwf.out, V3.ks, V3.ow, V3.xw, V3.kw, V3.nw, V3.iw, V3.ts⟩
            have S3 : Hid (S ≤ W3.heap.size) := Nat.le_trans HS.out.2 Bc.out.size
            have HS := Lib.hid HS.out.1
            clear Bc HP K HB V3
            have C4 := kput_one key ax xs.length cx o x kd nu it tx xs W3 VX3.out
            simp only [verV] at C4
            refine C4.mono ?_
            rintro e W4 ⟨rfl, hb⟩
            clear C4
            have P4 := Lib.hid (P3.out.below hb P3.out.lt)
            have X4 := Lib.hid (X3.out.below hb X3.out.lt)
            have L4 := Lib.hid (HX3.out.below hb (Nat.le_refl _))
            have K4 := Lib.hid (K3.out.below hb (Nat.le_refl _))
            have B4 := Lib.hid (B3.out.trans (hb.mono B3.out.size))
            have S4 : Hid (S ≤ W4.heap.size) := Nat.le_trans S3.out hb.size
            clear hb P3 X3 HX3 K3 B3 S3 VX3 c0 c1 c2 c3 c4 c5 c6 c7
            obtain ⟨c0, c1, c2, c3, c4, c5, c6, c7⟩ := ver_cells P4.out
            go_wp2_with fail
            have C5 := rput_one key A xs.length c o x kd nu it tx xs W4 (HV.out.below B4.out)
            simp only [verV] at C5
            refine C5.mono ?_
            rintro e W5 ⟨rfl, hb⟩
            clear C5
            have P5 := Lib.hid (P4.out.below hb P4.out.lt)
            have X5 := Lib.hid (X4.out.below hb X4.out.lt)
            have L5 := Lib.hid (L4.out.below hb (Nat.le_refl _))
            have K5 := Lib.hid (K4.out.below hb (Nat.le_refl _))
            have B5 := Lib.hid (B4.out.trans (hb.mono B4.out.size))
            have S5 : Hid (S ≤ W5.heap.size) := Nat.le_trans S4.out hb.size
            clear hb P4 X4 L4 K4 B4 S4 c0 c1 c2 c3 c4 c5 c6 c7
            generalize hSt : putS key.data.toList xs o x = St at *
            generalize hEt : putE key.data.toList xs o x = Et at *
            clear hSt hEt
            go_wp2_with fail
            refine (kget_one s W5 hs).mono ?_
            rintro e W6 ⟨⟨k1, A1, q1, o1, x1, ys, er, rfl, hN, G⟩, hb⟩
            unfold verV
            have G := Lib.hid G
            have Y6 := Lib.hid (Pend.mk' (hN.low S5.out))
            have Hy := Lib.hid (got_wf G.out)
            have P6 := Lib.hid (P5.out.below hb P5.out.lt)
            have X6 := Lib.hid (X5.out.below hb X5.out.lt)
            have L6 := Lib.hid (L5.out.below hb (Nat.le_refl _))
            have K6 := Lib.hid (K5.out.below hb (Nat.le_refl _))
            have B6 := Lib.hid (B5.out.trans (hb.mono B5.out.size))
            have S6 : Hid (S ≤ W6.heap.size) := Nat.le_trans S5.out hb.size
            clear hN hb P5 X5 L5 K5 B5 S5
            have Yv7 : Hid (Blk (W6.alloc (.cells #[.string k1, .slice A1 ys.length q1, .int .i64 o1, .int .i64 x1, .int .i64 0, .float .f64 0, .int .i64 0, .string ByteArray.empty] 28)) W6.heap.size 28 (verC k1 A1 ys.length q1 o1 x1 0 0 0 ByteArray.empty)) := Blk.new W6 _ _
            have hb : Below W6.heap.size W6 (W6.alloc (.cells #[.string k1, .slice A1 ys.length q1, .int .i64 o1, .int .i64 x1, .int .i64 0, .float .f64 0, .int .i64 0, .string ByteArray.empty] 28)) := below_alloc (Below.refl _ _) (Nat.le_refl _) _
            have P7 := Lib.hid (P6.out.below hb P6.out.lt)
            have X7 := Lib.hid (X6.out.below hb X6.out.lt)
            have L7 := Lib.hid (L6.out.below hb (Nat.le_refl _))
            have K7 := Lib.hid (K6.out.below hb (Nat.le_refl _))
            have B7 := Lib.hid (B6.out.trans (hb.mono B6.out.size))
            have Y7 := Lib.hid (Y6.out.keep (KeepT.of_below hb (Nat.le_refl _)))
            have hz7 : Hid (W6.heap.size ≤ (W6.alloc (.cells #[.string k1, .slice A1 ys.length q1, .int .i64 o1, .int .i64 x1, .int .i64 0, .float .f64 0, .int .i64 0, .string ByteArray.empty] 28)).heap.size) := hb.size
            clear hb P6 X6 L6 K6 B6 Y6
            have hst := run_sto_f64
            go_wp2_with fail
            clear hst
            generalize W6.alloc (.cells #[.string k1, .slice A1 ys.length q1, .int .i64 o1, .int .i64 x1, .int .i64 0, .float .f64 0, .int .i64 0, .string ByteArray.empty] 28) = W7 at *
            generalize W6.heap.size = hi at *
            refine (rget_one s W7 (by omega) G.out).mono ?_
            rintro e W8 ⟨⟨A2, q2, rfl, hN⟩, hb⟩
            unfold verV
            have N8 := Lib.hid hN
            have P8 := Lib.hid (P7.out.below hb P7.out.lt)
            have X8 := Lib.hid (X7.out.below hb X7.out.lt)
            have L8 := Lib.hid (L7.out.below hb (Nat.le_refl _))
            have K8 := Lib.hid (K7.out.below hb (Nat.le_refl _))
            have B8 := Lib.hid (B7.out.trans (hb.mono B7.out.size))
            have Y8 := Lib.hid (Y7.out.keep (KeepT.of_below hb (Nat.le_refl _)))
            have Yv8 := Lib.hid (Yv7.out.below hb Yv7.out.lt)
            have hz8 := Lib.hid (Nat.le_trans hz7.out hb.size)
            clear hN hb P7 X7 L7 K7 B7 Y7 Yv7 hz7
            have Zv9 : Hid (Blk (W8.alloc (.cells #[.string k1, .slice A2 ys.length q2, .int .i64 o1, .int .i64 x1, .int .i64 0, .float .f64 0, .int .i64 0, .string ByteArray.empty] 28)) W8.heap.size 28 (verC k1 A2 ys.length q2 o1 x1 0 0 0 ByteArray.empty)) := Blk.new W8 _ _
            have hb : Below W8.heap.size W8 (W8.alloc (.cells #[.string k1, .slice A2 ys.length q2, .int .i64 o1, .int .i64 x1, .int .i64 0, .float .f64 0, .int .i64 0, .string ByteArray.empty] 28)) := below_alloc (Below.refl _ _) (Nat.le_refl _) _
            have N9 := Lib.hid (N8.out.below hb (Nat.le_refl _))
            have P9 := Lib.hid (P8.out.below hb P8.out.lt)
            have X9 := Lib.hid (X8.out.below hb X8.out.lt)
            have L9 := Lib.hid (L8.out.below hb (Nat.le_refl _))
            have K9 := Lib.hid (K8.out.below hb (Nat.le_refl _))
            have B9 := Lib.hid (B8.out.trans (hb.mono B8.out.size))
            have Y9 := Lib.hid (Y8.out.keep (KeepT.of_below hb (Nat.le_refl _)))
            have Yv9 := Lib.hid (Yv8.out.below hb Yv8.out.lt)
            have hz9 := Lib.hid (Nat.le_trans hz8.out hb.size)
            clear hb N8 P8 X8 L8 K8 B8 Y8 Yv8 hz8
            have hst := run_sto_f64
            go_wp2_with fail
            clear hst
            generalize W8.alloc (.cells #[.string k1, .slice A2 ys.length q2, .int .i64 o1, .int .i64 x1, .int .i64 0, .float .f64 0, .int .i64 0, .string ByteArray.empty] 28) = W9 at *
            generalize W8.heap.size = g9 at *
            refine (kkey_one s W9 hs G.out).mono ?_
            rintro e W10 ⟨rfl, hb⟩
            have N10 := Lib.hid (N9.out.below hb (Nat.le_refl _))
            have P10 := Lib.hid (P9.out.below hb P9.out.lt)
            have X10 := Lib.hid (X9.out.below hb X9.out.lt)
            have L10 := Lib.hid (L9.out.below hb (Nat.le_refl _))
            have K10 := Lib.hid (K9.out.below hb (Nat.le_refl _))
            have B10 := Lib.hid (B9.out.trans (hb.mono B9.out.size))
            have Y10 := Lib.hid (Y9.out.keep (KeepT.of_below hb (Nat.le_refl _)))
            have Yv10 := Lib.hid (Yv9.out.below hb Yv9.out.lt)
            have Zv10 := Lib.hid (Zv9.out.below hb Zv9.out.lt)
            have hz10 := Lib.hid (Nat.le_trans hz9.out hb.size)
            clear hb N9 P9 X9 L9 K9 B9 Y9 Yv9 Zv9 hz9 G
            have VV := Lib.hid (HV.out.below B10.out)
            have VX : Hid (VerIn W10 key ax xs.length xs o x kd nu it tx) := ⟨mnums_ints L10.out.nums Hwf.out, VV.out.ks, VV.out.ow, VV.out.xw, VV.out.kw, VV.out.nw, VV.out.iw, VV.out.ts⟩
            have IY := Lib.hid (mnums_ints Y10.out.1 Hy.out.2)
            have IZ := Lib.hid (mnums_ints N10.out Hy.out.2)
            have Keep : Hid (∀ W, Below W10.heap.size W10 W → _ ∧ _ ∧ _ ∧ _) := fun W h => ⟨ver_cells (P10.out.below h P10.out.lt), ver_cells (X10.out.below h X10.out.lt), ver_cells (Yv10.out.below h Yv10.out.lt), ver_cells (Zv10.out.below h Zv10.out.lt)⟩
            have C11 : ∀ W, Below W10.heap.size W10 W → Hid (Calls Tryz.prog 11 #[verV k1 A1 ys.length q1 o1 x1 0 0 0 ByteArray.empty, verV k1 A2 ys.length q2 o1 x1 0 0 0 ByteArray.empty] W fun e w' => e = .returned (.bool true) ∧ Below W10.heap.size W10 w') := fun W hW => cls_call hW (by
              have h := rsamever_any k1 A1 ys.length q1 o1 x1 0 0 0 ByteArray.empty ys k1 A2 ys.length q2 o1 x1 0 0 0 ByteArray.empty ys W (IY.out.below hW) (IZ.out.below hW) (by decide) (by decide)
              rw [sameVerN_self] at h
              exact h)
            have C12 := fun W (hW : Below W10.heap.size W10 W) => Lib.hid (cls_call hW (kvalid_any key ax xs.length cx o x kd nu it tx xs W (VX.out.below hW)))
            have C13 := fun W (hW : Below W10.heap.size W10 W) => Lib.hid (cls_call hW (rvalid5_any key A xs.length c o x kd nu it tx xs W (VV.out.below hW)))
            have C14 := fun W (hW : Below W10.heap.size W10 W) => Lib.hid (cls_call hW ((kiskey_any key W hks).mono fun _ _ h => ⟨h.1, below_of_eq h.2⟩))
            have C15 := fun W (hW : Below W10.heap.size W10 W) => Lib.hid (cls_call hW ((riskey_any key W hks).mono fun _ _ h => ⟨h.1, below_of_eq h.2⟩))
            have C16 := fun W (hW : Below W10.heap.size W10 W) => Lib.hid (cls_call hW (khead_any key W (by omega)))
            have C17 := fun W (hW : Below W10.heap.size W10 W) => Lib.hid (cls_call hW (rhead_any key W (by omega)))
            have C18 := fun W (hW : Below W10.heap.size W10 W) => Lib.hid (cls_call hW (mstays_self Bx (.slice ax xs.length cx) xs A xs.length c W (L10.out.below hW (Nat.le_refl _)) Hwf.out (by omega) (VV.out.below hW).ints))
            simp only [verV] at C11 C12 C13
            generalize okV key.data.toList xs o x = qv at *
            generalize isKeyL key.data.toList = qk at *
            generalize (⟨(headL key.data.toList).toArray⟩ : ByteArray) = hd at *
            go_wp2_with fail
            refine wp_region_class (fun W => Below W10.heap.size W10 W) (by kernel_rfl) (by kernel_rfl) ((Below.refl _ W10).drew) ?_
            repeat' (first
              | (refine wpQuiet_skip (by rfl) ?_; try simp only [Act.put, List.setIfInBounds_toArray, List.set_cons_zero, List.set_cons_succ])
              | (refine wpQuiet_take (by rfl) ?_ (fun W hW => ?_) ?_
                 rotate_left
                 focus
                   obtain ⟨⟨a0, a1, a2, a3, a4, a5, a6, a7⟩, ⟨b0, b1, b2, b3, b4, b5, b6, b7⟩, ⟨c0, c1, c2, c3, c4, c5, c6, c7⟩, ⟨d0, d1, d2, d3, d4, d5, d6, d7⟩⟩ := Keep.out _ hW
                   go_simp
                   first
                     | done
                     | with_reducible rfl
                     | (go_at_call 11; exact (C11 _ hW).out)
                     | (go_at_call 12; exact (C12 _ hW).out)
                     | (go_at_call 13; exact (C13 _ hW).out)
                     | (go_at_call 14; exact (C14 _ hW).out)
                     | (go_at_call 15; exact (C15 _ hW).out)
                     | (go_at_call 16; exact (C16 _ hW).out)
                     | (go_at_call 17; exact (C17 _ hW).out)
                     | (go_at_call 18; exact (C18 _ hW).out)
                 try simp only [Act.put, List.setIfInBounds_toArray, List.set_cons_zero, List.set_cons_succ]))
            refine wpQuiet_nil (fun w9 S9 => ?_)
            clear C11 C12 C13 C14 C15 C16 C17 C18 Keep VV VX IY IZ N10 L10 X10 Zv10
            have K11 := Lib.hid (K10.out.below S9 (Nat.le_refl _))
            have P11 := Lib.hid (P10.out.below S9 P10.out.lt)
            have B11 := Lib.hid (B10.out.trans (S9.mono B10.out.size))
            have Y11 := Lib.hid (Y10.out.keep (KeepT.of_below S9 (Nat.le_refl _)))
            have Yv11 := Lib.hid (Yv10.out.below S9 Yv10.out.lt)
            have hz11 := Lib.hid (Nat.le_trans hz10.out S9.size)
            clear S9 K10 P10 B10 Y10 Yv10 hz10
            obtain ⟨c0, c1, c2, c3, c4, c5, c6, c7⟩ := ver_cells Yv11.out
            go_wp2_with fail
            refine (kept_add K11.out Y11.out HS.out S6.out (by have := HZ.out; omega) (by have := Hy.out.1; omega) Hy.out.2 (by have := HS.out; have := S6.out; have := hz11.out; omega)).mono ?_
            rintro e W12 ⟨rfl, hK, hk, hb⟩
            have K12 := Lib.hid hK
            have P12 := Lib.hid (P11.out.below hb (Nat.lt_succ_self _))
            have B12 := Lib.hid (B11.out.trans (hb.mono (Nat.le_succ _)))
            have hz12 := Lib.hid (Nat.le_trans hz11.out hb.size)
            clear hK hk hb K11 P11 B11 Y11 Yv11 hz11 c0 c1 c2 c3 c4 c5 c6 c7
            go_wp2_with fail
            go_roundw
            case rel => exact ⟨j + 1, Z ++ [ys], hi, by omega, by go_num, K12, (by have := HZ.out; unfold Hid; simp; omega), ⟨Nat.le_trans HS.out S6.out, hz12.out⟩, B12, P12⟩
            case measure => simp [intOf]; omega
          · obtain rfl : j = 2 := by omega
            go_wp2_with fail
            refine (Al _).out.mono ?_
            rintro e W1 ⟨rfl, hb⟩
            have hz : w.heap.size + 1 ≤ wr.heap.size := Nat.le_trans HS.out.1 HS.out.2
            have KA := Lib.hid (kept_apart (K.out.below hb (Nat.le_refl _)) (by have := HZ.out; omega) (Nat.le_trans hz hb.size))
            have HB1 := Lib.hid (HB.out.trans (hb.mono HB.out.size))
            clear hb K HP
            go_wp2_with fail
            refine KA.out.mono ?_
            rintro e W2 ⟨rfl, hb⟩
            have HB2 := HB1.out.trans (hb.mono (Nat.le_succ _))
            go_wp2_with fail
            go_ret
            exact ⟨rfl, HB2⟩
      · have h3' : (3000 : Int) < (s.size : Int) := by omega
        go_enter Tryz.func3, Tryz.ntmps3
        go_wp2_with fail
        refine (Al _).out.mono ?_
        rintro e w1 ⟨rfl, hb⟩
        have HB := hb0.out.trans (hb.mono hb0.out.size)
        go_wp2_with fail
        go_ret
        exact ⟨rfl, HB⟩
    · have h2' : (60 : Int) < (xs.length : Int) := by omega
      go_enter Tryz.func3, Tryz.ntmps3
      go_wp2_with fail
      refine (Al _).out.mono ?_
      rintro e w1 ⟨rfl, hb⟩
      have HB := hb0.out.trans (hb.mono hb0.out.size)
      go_wp2_with fail
      go_ret
      exact ⟨rfl, HB⟩
  · have h1' : (3000 : Int) < (key.size : Int) := by omega
    go_enter Tryz.func3, Tryz.ntmps3
    go_wp2_with fail
    refine (Al _).out.mono ?_
    rintro e w1 ⟨rfl, hb⟩
    have HB := hb0.out.trans (hb.mono hb0.out.size)
    go_wp2_with fail
    go_ret
    exact ⟨rfl, HB⟩
end Go.Proofs.YthacdegaeokgnaaGreatDoor
