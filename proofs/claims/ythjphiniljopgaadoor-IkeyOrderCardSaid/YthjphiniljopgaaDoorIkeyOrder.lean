/-
  IkeyOrder: bytes of a lesser key come first, whatever it has; of one key those of the greater stamp.
-/
import Derived.Test.YthjphiniljopgaaDoorIkC
import Derived.Test.YthjphiniljopgaaDoorIkT
import Derived.Test.YthjphiniljopgaaDoorQuiet
namespace Go.Proofs.YthjphiniljopgaaDoor
open Go.RowKit

/-- What stands while the law runs: the two versions, and all that was there. -/
structure Ord5 (w : World) (ka : ByteArray) (Aa : Option Addr) (na ca : Nat) (oa xa kda : Int) (nua : Nat) (ita : Int) (txa : ByteArray) (kb : ByteArray) (Ab : Option Addr) (nb cb : Nat) (ob xb kdb : Int) (nub : Nat) (itb : Int) (txb : ByteArray) (W : World) : Prop where
  a : Blk W w.heap.size 28 (verC ka Aa na ca oa xa kda nua ita txa)
  b : Blk W (w.heap.size + 1) 28 (verC kb Ab nb cb ob xb kdb nub itb txb)
  below : Below w.heap.size w W
section
variable {w W : World} {ka kb : ByteArray} {Aa Ab : Option Addr} {na ca nb cb : Nat} {oa xa kda ob xb kdb : Int} {nua nub : Nat} {ita itb : Int} {txa txb : ByteArray} {xsa xsb : List Int}
theorem Ord5.on {W' : World} (h : Ord5 w ka Aa na ca oa xa kda nua ita txa kb Ab nb cb ob xb kdb nub itb txb W) (hb : Below W.heap.size W W') : Ord5 w ka Aa na ca oa xa kda nua ita txa kb Ab nb cb ob xb kdb nub itb txb W' :=
  ⟨h.a.below hb h.a.lt, h.b.below hb h.b.lt, h.below.trans (hb.mono h.below.size)⟩
theorem Ord5.drew (h : Ord5 w ka Aa na ca oa xa kda nua ita txa kb Ab nb cb ob xb kdb nub itb txb W) : Ord5 w ka Aa na ca oa xa kda nua ita txa kb Ab nb cb ob xb kdb nub itb txb W.drew := ⟨h.a, h.b, h.below.drew⟩
theorem alive5_held (h : Ord5 w ka Aa na ca oa xa kda nua ita txa kb Ab nb cb ob xb kdb nub itb txb W) :
    Calls Tryd.prog 8 #[] W fun e w' => e = .returned (.bool true) ∧ Ord5 w ka Aa na ca oa xa kda nua ita txa kb Ab nb cb ob xb kdb nub itb txb w' := (kalive_any W).mono fun _ _ ⟨he, hb⟩ => ⟨he, h.on hb⟩
theorem head5_held (s : ByteArray) (hs : s.size ≤ 100000) (h : Ord5 w ka Aa na ca oa xa kda nua ita txa kb Ab nb cb ob xb kdb nub itb txb W) :
    Calls Tryd.prog 13 #[.string s] W fun e w' => e = .returned (.string ⟨(headL s.data.toList).toArray⟩) ∧ Ord5 w ka Aa na ca oa xa kda nua ita txa kb Ab nb cb ob xb kdb nub itb txb w' := (khead_any s W hs).mono fun _ _ ⟨he, hb⟩ => ⟨he, h.on hb⟩
theorem time5_held (key : ByteArray) (A : Option Addr) (n c : Nat) (o x kd : Int) (nu : Nat) (it : Int) (tx : ByteArray) (xs : List Int) (V : VerIn w key A n xs o x kd nu it tx) (hk : okV key.data.toList xs o x = true) (h : Ord5 w ka Aa na ca oa xa kda nua ita txa kb Ab nb cb ob xb kdb nub itb txb W) :
    Calls Tryd.prog 14 #[verV key A n c o x kd nu it tx] W fun e w' => e = .returned (.int .i64 (timeN xs o)) ∧ Ord5 w ka Aa na ca oa xa kda nua ita txa kb Ab nb cb ob xb kdb nub itb txb w' :=
  (rtime_any key A n c o x kd nu it tx xs W (V.below h.below) (okV_of hk).at_ (okV_of hk).o0 (okV_of hk).o1).mono fun _ _ ⟨he, hb⟩ => ⟨he, h.on hb⟩
end

theorem puts_front {a : List UInt8} {xs : List Int} {o x : Int} (hk : okV a xs o x = true) : (((⟨(headL a).toArray⟩ : ByteArray).size : Int) < ((⟨(putVL a xs o x).toArray⟩ : ByteArray).size : Int)) ∧ (((⟨(putVL a xs o x).toArray⟩ : ByteArray).extract 0 (⟨(headL a).toArray⟩ : ByteArray).size).toList == (⟨(headL a).toArray⟩ : ByteArray).toList) = true := by
  have hl := putVL_length (okV_of hk)
  have hs : (⟨(headL a).toArray⟩ : ByteArray).size ≤ (⟨(putVL a xs o x).toArray⟩ : ByteArray).size := by rw [size_mk, size_mk]; omega
  refine ⟨by rw [size_mk, size_mk]; omega, (str_front hs).2 ⟨tailL (timeN xs o).toNat o.toNat x.toNat (vecB xs), ?_⟩⟩
  rw [mk_data, mk_data]
  rfl

set_option maxRecDepth 100000 in
set_option maxHeartbeats 8000000 in
theorem lawIkeyOrder (ka : ByteArray) (Aa : Option Addr) (na ca : Nat) (oa xa kda : Int) (nua : Nat) (ita : Int) (txa : ByteArray) (xsa : List Int) (kb : ByteArray) (Ab : Option Addr) (nb cb : Nat) (ob xb kdb : Int) (nub : Nat) (itb : Int) (txb : ByteArray) (xsb : List Int) (w : World) (Va : VerIn w ka Aa na xsa oa xa kda nua ita txa) (Vb : VerIn w kb Ab nb xsb ob xb kdb nub itb txb) :
    Calls Tryd.prog 4 #[verV ka Aa na ca oa xa kda nua ita txa, verV kb Ab nb cb ob xb kdb nub itb txb] w fun e w' => e = .returned (.bool true) ∧ Below w.heap.size w w' := by
  unfold verV
  have PA := fun W h => Lib.hid (kput_any ka Aa na ca oa xa kda nua ita txa xsa W h)
  have PB := fun W h => Lib.hid (kput_any kb Ab nb cb ob xb kdb nub itb txb xsb W h)
  simp only [verV] at PA PB
  have S0 : Ord5 w ka Aa na ca oa xa kda nua ita txa kb Ab nb cb ob xb kdb nub itb txb ((w.alloc (.cells #[.string ka, .slice Aa na ca, .int .i64 oa, .int .i64 xa, .int .i64 kda, .float .f64 nua, .int .i64 ita, .string txa] 28)).alloc (.cells #[.string kb, .slice Ab nb cb, .int .i64 ob, .int .i64 xb, .int .i64 kdb, .float .f64 nub, .int .i64 itb, .string txb] 28)) :=
    ⟨(Blk.new w _ _).alloc _, Blk.new' (by simp) _ _, ((Below.refl _ w).alloc (Nat.le_refl _) _).alloc (by simp) _⟩
  have Va := Lib.hid Va
  have Vb := Lib.hid Vb
  go_enter Tryd.func4, Tryd.ntmps4
  go_wp2_with fail
  generalize (w.alloc (.cells #[.string ka, .slice Aa na ca, .int .i64 oa, .int .i64 xa, .int .i64 kda, .float .f64 nua, .int .i64 ita, .string txa] 28)).alloc (.cells #[.string kb, .slice Ab nb cb, .int .i64 ob, .int .i64 xb, .int .i64 kdb, .float .f64 nub, .int .i64 itb, .string txb] 28) = w0 at S0 ⊢
  refine (PA _ (Va.out.below S0.below)).out.mono ?_
  rintro e w1 ⟨hA, h1⟩
  have S1 := S0.on h1
  clear S0 h1
  obtain ⟨b0, b1, b2, b3, b4, b5, b6, b7⟩ := ver_cells S1.b
  have S1 := Lib.hid S1
  rcases hA with ⟨hka, rfl⟩ | ⟨_, rfl⟩
  · have hka := Lib.hid hka
    go_wp2_with fail
    refine (PB _ (Vb.out.below S1.out.below)).out.mono ?_
    rintro e w2 ⟨hB, h2⟩
    have S2 := S1.out.on h2
    clear S1 h2 b0 b1 b2 b3 b4 b5 b6 b7 PA PB
    rcases hB with ⟨hkb, rfl⟩ | ⟨_, rfl⟩
    · have hka := hka.out
      have zka : ka.size ≤ 100000 := by
        rw [str_size]
        have := (isKeyL_of (okV_of hka).key).2
        omega
      have zkb : kb.size ≤ 100000 := by
        rw [str_size]
        have := (isKeyL_of (okV_of hkb).key).2
        omega
      obtain ⟨a0, a1, a2, a3, a4, a5, a6, a7⟩ := ver_cells S2.a
      obtain ⟨b0, b1, b2, b3, b4, b5, b6, b7⟩ := ver_cells S2.b
      by_cases hkk : (ka.toList == kb.toList) = true
      · have Va := Va.out
        have Vb := Vb.out
        have FR := puts_front hka
        have U1 := FR.1
        have U2 := FR.2
        clear FR
        have sS : ((⟨(putVL ka.data.toList xsa oa xa).toArray⟩ : ByteArray).size : Int) ≤ 300 := by
          rw [size_mk]
          have := putVL_length (okV_of hka)
          omega
        have HA := fun W h => Lib.hid (head5_held (w := w) (W := W) (ka := ka) (kb := kb) (Aa := Aa) (Ab := Ab) (na := na) (ca := ca) (nb := nb) (cb := cb) (oa := oa) (xa := xa) (kda := kda) (ob := ob) (xb := xb) (kdb := kdb) (nua := nua) (nub := nub) (ita := ita) (itb := itb) (txa := txa) (txb := txb) ka zka h)
        have TA := fun W h => Lib.hid (time5_held (w := w) (W := W) (ka := ka) (kb := kb) (Aa := Aa) (Ab := Ab) (na := na) (ca := ca) (nb := nb) (cb := cb) (oa := oa) (xa := xa) (kda := kda) (ob := ob) (xb := xb) (kdb := kdb) (nua := nua) (nub := nub) (ita := ita) (itb := itb) (txa := txa) (txb := txb) ka Aa na ca oa xa kda nua ita txa xsa Va hka h)
        have TB := fun W h => Lib.hid (time5_held (w := w) (W := W) (ka := ka) (kb := kb) (Aa := Aa) (Ab := Ab) (na := na) (ca := ca) (nb := nb) (cb := cb) (oa := oa) (xa := xa) (kda := kda) (ob := ob) (xb := xb) (kdb := kdb) (nua := nua) (nub := nub) (ita := ita) (itb := itb) (txa := txa) (txb := txb) kb Ab nb cb ob xb kdb nub itb txb xsb Vb hkb h)
        simp only [verV] at TA TB
        have kk : kb.data.toList = ka.data.toList := by
          rw [str_eq, decide_eq_true_eq] at hkk
          exact hkk.symm
        have P : ¬ (timeN xsa oa = timeN xsb ob ∧ oa = ob ∧ xa = xb) → Op.bytesLess (⟨(putVL ka.data.toList xsa oa xa).toArray⟩ : ByteArray).toList (⟨(putVL kb.data.toList xsb ob xb).toArray⟩ : ByteArray).toList = decide (timeN xsb ob < timeN xsa oa ∨ (timeN xsa oa = timeN xsb ob ∧ (ob < oa ∨ (oa = ob ∧ xb < xa)))) := by
          intro hn
          rw [str_less, mk_data, mk_data, kk]
          rw [kk] at hkb
          exact putVL_stamp (okV_of hka) (okV_of hkb) hn
        generalize (⟨(putVL ka.data.toList xsa oa xa).toArray⟩ : ByteArray) = S at *
        generalize (⟨(putVL kb.data.toList xsb ob xb).toArray⟩ : ByteArray) = U at *
        generalize (⟨(headL ka.data.toList).toArray⟩ : ByteArray) = X at *
        generalize timeN xsa oa = ta at *
        generalize timeN xsb ob = tb at *
        clear kk hka hkb Va Vb zka zkb
        rcases Int.lt_trichotomy ta tb with h1 | h1 | h1
        · have P1 : Op.bytesLess S.toList U.toList = false := (P (by omega)).trans (decide_eq_false (by omega))
          have e1 : decide (tb < ta) = false := decide_eq_false (by omega)
          have e2 : (ta == tb) = false := by rw [beq_eq_false_iff_ne]; omega
          clear P h1
          go_wp2_with fail
          refine wp_region_class (fun W => Ord5 w ka Aa na ca oa xa kda nua ita txa kb Ab nb cb ob xb kdb nub itb txb W) (by kernel_rfl) (by kernel_rfl) S2.drew ?_
          clear S2
          repeat' (first
            | (refine wpQuiet_skip (by rfl) ?_; try simp only [Act.put, List.setIfInBounds_toArray, List.set_cons_zero, List.set_cons_succ])
            | (refine wpQuiet_take (by rfl) ?_ (fun W hW => ?_) ?_
               rotate_left
               focus
                 obtain ⟨a0, a1, a2, a3, a4, a5, a6, a7⟩ := ver_cells (Ord5.a hW)
                 obtain ⟨b0, b1, b2, b3, b4, b5, b6, b7⟩ := ver_cells (Ord5.b hW)
                 go_simp
                 first
                   | done
                   | with_reducible rfl
                   | (go_at_call_of 14 (Value.string txa); exact (TA _ hW).out)
                   | (go_at_call_of 14 (Value.string txb); exact (TB _ hW).out)
                   | (go_at_call 14; exact (TA _ hW).out)
                   | (go_at_call 14; exact (TB _ hW).out)
               try simp only [Act.put, List.setIfInBounds_toArray, List.set_cons_zero, List.set_cons_succ]))
          refine wpQuiet_nil (fun w5 S5 => ?_)
          obtain ⟨a0, a1, a2, a3, a4, a5, a6, a7⟩ := ver_cells (Ord5.a S5)
          obtain ⟨b0, b1, b2, b3, b4, b5, b6, b7⟩ := ver_cells (Ord5.b S5)
          have S5 := Lib.hid S5
          go_wp2_with fail
          refine (HA _ S5.out).out.mono ?_
          rintro e w6 ⟨rfl, S6⟩
          have S6 := Lib.hid S6
          clear a0 a1 a2 a3 a4 a5 a6 a7 b0 b1 b2 b3 b4 b5 b6 b7
          go_wp2_with fail
          refine (alive5_held S6.out).mono ?_
          rintro e w7 ⟨rfl, S7⟩
          have S7 := Lib.hid S7
          go_wp2_with fail
          go_ret
          exact ⟨rfl, Ord5.below S7.out⟩
        · have e1 : decide (tb < ta) = false := decide_eq_false (by omega)
          have e2 : (ta == tb) = true := by rw [beq_iff_eq]; exact h1
          rcases Int.lt_trichotomy oa ob with h2 | h2 | h2
          · have P1 : Op.bytesLess S.toList U.toList = false := (P (by omega)).trans (decide_eq_false (by omega))
            have e3 : decide (ob < oa) = false := decide_eq_false (by omega)
            have e4 : (oa == ob) = false := by rw [beq_eq_false_iff_ne]; omega
            clear P h1 h2
            go_wp2_with fail
            refine wp_region_class (fun W => Ord5 w ka Aa na ca oa xa kda nua ita txa kb Ab nb cb ob xb kdb nub itb txb W) (by kernel_rfl) (by kernel_rfl) S2.drew ?_
            clear S2
            repeat' (first
              | (refine wpQuiet_skip (by rfl) ?_; try simp only [Act.put, List.setIfInBounds_toArray, List.set_cons_zero, List.set_cons_succ])
              | (refine wpQuiet_take (by rfl) ?_ (fun W hW => ?_) ?_
                 rotate_left
                 focus
                   obtain ⟨a0, a1, a2, a3, a4, a5, a6, a7⟩ := ver_cells (Ord5.a hW)
                   obtain ⟨b0, b1, b2, b3, b4, b5, b6, b7⟩ := ver_cells (Ord5.b hW)
                   go_simp
                   first
                     | done
                     | with_reducible rfl
                     | (go_at_call_of 14 (Value.string txa); exact (TA _ hW).out)
                     | (go_at_call_of 14 (Value.string txb); exact (TB _ hW).out)
                     | (go_at_call 14; exact (TA _ hW).out)
                     | (go_at_call 14; exact (TB _ hW).out)
                 try simp only [Act.put, List.setIfInBounds_toArray, List.set_cons_zero, List.set_cons_succ]))
            refine wpQuiet_nil (fun w5 S5 => ?_)
            obtain ⟨a0, a1, a2, a3, a4, a5, a6, a7⟩ := ver_cells (Ord5.a S5)
            obtain ⟨b0, b1, b2, b3, b4, b5, b6, b7⟩ := ver_cells (Ord5.b S5)
            have S5 := Lib.hid S5
            go_wp2_with fail
            refine (HA _ S5.out).out.mono ?_
            rintro e w6 ⟨rfl, S6⟩
            have S6 := Lib.hid S6
            clear a0 a1 a2 a3 a4 a5 a6 a7 b0 b1 b2 b3 b4 b5 b6 b7
            go_wp2_with fail
            refine (alive5_held S6.out).mono ?_
            rintro e w7 ⟨rfl, S7⟩
            have S7 := Lib.hid S7
            go_wp2_with fail
            go_ret
            exact ⟨rfl, Ord5.below S7.out⟩
          · have e3 : decide (ob < oa) = false := decide_eq_false (by omega)
            have e4 : (oa == ob) = true := by rw [beq_iff_eq]; exact h2
            rcases Int.lt_trichotomy xa xb with h3 | h3 | h3
            · have P1 : Op.bytesLess S.toList U.toList = false := (P (by omega)).trans (decide_eq_false (by omega))
              have e5 : decide (xb < xa) = false := decide_eq_false (by omega)
              have e6 : (xa == xb) = false := by rw [beq_eq_false_iff_ne]; omega
              clear P h1 h2 h3
              go_wp2_with fail
              refine wp_region_class (fun W => Ord5 w ka Aa na ca oa xa kda nua ita txa kb Ab nb cb ob xb kdb nub itb txb W) (by kernel_rfl) (by kernel_rfl) S2.drew ?_
              clear S2
              repeat' (first
                | (refine wpQuiet_skip (by rfl) ?_; try simp only [Act.put, List.setIfInBounds_toArray, List.set_cons_zero, List.set_cons_succ])
                | (refine wpQuiet_take (by rfl) ?_ (fun W hW => ?_) ?_
                   rotate_left
                   focus
                     obtain ⟨a0, a1, a2, a3, a4, a5, a6, a7⟩ := ver_cells (Ord5.a hW)
                     obtain ⟨b0, b1, b2, b3, b4, b5, b6, b7⟩ := ver_cells (Ord5.b hW)
                     go_simp
                     first
                       | done
                       | with_reducible rfl
                       | (go_at_call_of 14 (Value.string txa); exact (TA _ hW).out)
                       | (go_at_call_of 14 (Value.string txb); exact (TB _ hW).out)
                       | (go_at_call 14; exact (TA _ hW).out)
                       | (go_at_call 14; exact (TB _ hW).out)
                   try simp only [Act.put, List.setIfInBounds_toArray, List.set_cons_zero, List.set_cons_succ]))
              refine wpQuiet_nil (fun w5 S5 => ?_)
              obtain ⟨a0, a1, a2, a3, a4, a5, a6, a7⟩ := ver_cells (Ord5.a S5)
              obtain ⟨b0, b1, b2, b3, b4, b5, b6, b7⟩ := ver_cells (Ord5.b S5)
              have S5 := Lib.hid S5
              go_wp2_with fail
              refine (HA _ S5.out).out.mono ?_
              rintro e w6 ⟨rfl, S6⟩
              have S6 := Lib.hid S6
              clear a0 a1 a2 a3 a4 a5 a6 a7 b0 b1 b2 b3 b4 b5 b6 b7
              go_wp2_with fail
              refine (alive5_held S6.out).mono ?_
              rintro e w7 ⟨rfl, S7⟩
              have S7 := Lib.hid S7
              go_wp2_with fail
              go_ret
              exact ⟨rfl, Ord5.below S7.out⟩
            · have e5 : decide (xb < xa) = false := decide_eq_false (by omega)
              have e6 : (xa == xb) = true := by rw [beq_iff_eq]; exact h3
              clear P h1 h2 h3
              go_wp2_with fail
              refine wp_region_class (fun W => Ord5 w ka Aa na ca oa xa kda nua ita txa kb Ab nb cb ob xb kdb nub itb txb W) (by kernel_rfl) (by kernel_rfl) S2.drew ?_
              clear S2
              repeat' (first
                | (refine wpQuiet_skip (by rfl) ?_; try simp only [Act.put, List.setIfInBounds_toArray, List.set_cons_zero, List.set_cons_succ])
                | (refine wpQuiet_take (by rfl) ?_ (fun W hW => ?_) ?_
                   rotate_left
                   focus
                     obtain ⟨a0, a1, a2, a3, a4, a5, a6, a7⟩ := ver_cells (Ord5.a hW)
                     obtain ⟨b0, b1, b2, b3, b4, b5, b6, b7⟩ := ver_cells (Ord5.b hW)
                     go_simp
                     first
                       | done
                       | with_reducible rfl
                       | (go_at_call_of 14 (Value.string txa); exact (TA _ hW).out)
                       | (go_at_call_of 14 (Value.string txb); exact (TB _ hW).out)
                       | (go_at_call 14; exact (TA _ hW).out)
                       | (go_at_call 14; exact (TB _ hW).out)
                   try simp only [Act.put, List.setIfInBounds_toArray, List.set_cons_zero, List.set_cons_succ]))
              refine wpQuiet_nil (fun w5 S5 => ?_)
              obtain ⟨a0, a1, a2, a3, a4, a5, a6, a7⟩ := ver_cells (Ord5.a S5)
              obtain ⟨b0, b1, b2, b3, b4, b5, b6, b7⟩ := ver_cells (Ord5.b S5)
              have S5 := Lib.hid S5
              go_wp2_with fail
              refine (HA _ S5.out).out.mono ?_
              rintro e w6 ⟨rfl, S6⟩
              have S6 := Lib.hid S6
              clear a0 a1 a2 a3 a4 a5 a6 a7 b0 b1 b2 b3 b4 b5 b6 b7
              go_wp2_with fail
              refine (alive5_held S6.out).mono ?_
              rintro e w7 ⟨rfl, S7⟩
              have S7 := Lib.hid S7
              go_wp2_with fail
              go_ret
              exact ⟨rfl, Ord5.below S7.out⟩
            · have P1 : Op.bytesLess S.toList U.toList = true := (P (by omega)).trans (decide_eq_true (by omega))
              have e5 : decide (xb < xa) = true := decide_eq_true (by omega)
              have e6 : (xa == xb) = false := by rw [beq_eq_false_iff_ne]; omega
              clear P h1 h2 h3
              go_wp2_with fail
              refine wp_region_class (fun W => Ord5 w ka Aa na ca oa xa kda nua ita txa kb Ab nb cb ob xb kdb nub itb txb W) (by kernel_rfl) (by kernel_rfl) S2.drew ?_
              clear S2
              repeat' (first
                | (refine wpQuiet_skip (by rfl) ?_; try simp only [Act.put, List.setIfInBounds_toArray, List.set_cons_zero, List.set_cons_succ])
                | (refine wpQuiet_take (by rfl) ?_ (fun W hW => ?_) ?_
                   rotate_left
                   focus
                     obtain ⟨a0, a1, a2, a3, a4, a5, a6, a7⟩ := ver_cells (Ord5.a hW)
                     obtain ⟨b0, b1, b2, b3, b4, b5, b6, b7⟩ := ver_cells (Ord5.b hW)
                     go_simp
                     first
                       | done
                       | with_reducible rfl
                       | (go_at_call_of 14 (Value.string txa); exact (TA _ hW).out)
                       | (go_at_call_of 14 (Value.string txb); exact (TB _ hW).out)
                       | (go_at_call 14; exact (TA _ hW).out)
                       | (go_at_call 14; exact (TB _ hW).out)
                   try simp only [Act.put, List.setIfInBounds_toArray, List.set_cons_zero, List.set_cons_succ]))
              refine wpQuiet_nil (fun w5 S5 => ?_)
              obtain ⟨a0, a1, a2, a3, a4, a5, a6, a7⟩ := ver_cells (Ord5.a S5)
              obtain ⟨b0, b1, b2, b3, b4, b5, b6, b7⟩ := ver_cells (Ord5.b S5)
              have S5 := Lib.hid S5
              go_wp2_with fail
              refine (HA _ S5.out).out.mono ?_
              rintro e w6 ⟨rfl, S6⟩
              have S6 := Lib.hid S6
              clear a0 a1 a2 a3 a4 a5 a6 a7 b0 b1 b2 b3 b4 b5 b6 b7
              go_wp2_with fail
              refine (alive5_held S6.out).mono ?_
              rintro e w7 ⟨rfl, S7⟩
              have S7 := Lib.hid S7
              go_wp2_with fail
              go_ret
              exact ⟨rfl, Ord5.below S7.out⟩
          · have P1 : Op.bytesLess S.toList U.toList = true := (P (by omega)).trans (decide_eq_true (by omega))
            have e3 : decide (ob < oa) = true := decide_eq_true (by omega)
            have e4 : (oa == ob) = false := by rw [beq_eq_false_iff_ne]; omega
            clear P h1 h2
            go_wp2_with fail
            refine wp_region_class (fun W => Ord5 w ka Aa na ca oa xa kda nua ita txa kb Ab nb cb ob xb kdb nub itb txb W) (by kernel_rfl) (by kernel_rfl) S2.drew ?_
            clear S2
            repeat' (first
              | (refine wpQuiet_skip (by rfl) ?_; try simp only [Act.put, List.setIfInBounds_toArray, List.set_cons_zero, List.set_cons_succ])
              | (refine wpQuiet_take (by rfl) ?_ (fun W hW => ?_) ?_
                 rotate_left
                 focus
                   obtain ⟨a0, a1, a2, a3, a4, a5, a6, a7⟩ := ver_cells (Ord5.a hW)
                   obtain ⟨b0, b1, b2, b3, b4, b5, b6, b7⟩ := ver_cells (Ord5.b hW)
                   go_simp
                   first
                     | done
                     | with_reducible rfl
                     | (go_at_call_of 14 (Value.string txa); exact (TA _ hW).out)
                     | (go_at_call_of 14 (Value.string txb); exact (TB _ hW).out)
                     | (go_at_call 14; exact (TA _ hW).out)
                     | (go_at_call 14; exact (TB _ hW).out)
                 try simp only [Act.put, List.setIfInBounds_toArray, List.set_cons_zero, List.set_cons_succ]))
            refine wpQuiet_nil (fun w5 S5 => ?_)
            obtain ⟨a0, a1, a2, a3, a4, a5, a6, a7⟩ := ver_cells (Ord5.a S5)
            obtain ⟨b0, b1, b2, b3, b4, b5, b6, b7⟩ := ver_cells (Ord5.b S5)
            have S5 := Lib.hid S5
            go_wp2_with fail
            refine (HA _ S5.out).out.mono ?_
            rintro e w6 ⟨rfl, S6⟩
            have S6 := Lib.hid S6
            clear a0 a1 a2 a3 a4 a5 a6 a7 b0 b1 b2 b3 b4 b5 b6 b7
            go_wp2_with fail
            refine (alive5_held S6.out).mono ?_
            rintro e w7 ⟨rfl, S7⟩
            have S7 := Lib.hid S7
            go_wp2_with fail
            go_ret
            exact ⟨rfl, Ord5.below S7.out⟩
        · have P1 : Op.bytesLess S.toList U.toList = true := (P (by omega)).trans (decide_eq_true (by omega))
          have e1 : decide (tb < ta) = true := decide_eq_true (by omega)
          have e2 : (ta == tb) = false := by rw [beq_eq_false_iff_ne]; omega
          clear P h1
          go_wp2_with fail
          refine wp_region_class (fun W => Ord5 w ka Aa na ca oa xa kda nua ita txa kb Ab nb cb ob xb kdb nub itb txb W) (by kernel_rfl) (by kernel_rfl) S2.drew ?_
          clear S2
          repeat' (first
            | (refine wpQuiet_skip (by rfl) ?_; try simp only [Act.put, List.setIfInBounds_toArray, List.set_cons_zero, List.set_cons_succ])
            | (refine wpQuiet_take (by rfl) ?_ (fun W hW => ?_) ?_
               rotate_left
               focus
                 obtain ⟨a0, a1, a2, a3, a4, a5, a6, a7⟩ := ver_cells (Ord5.a hW)
                 obtain ⟨b0, b1, b2, b3, b4, b5, b6, b7⟩ := ver_cells (Ord5.b hW)
                 go_simp
                 first
                   | done
                   | with_reducible rfl
                   | (go_at_call_of 14 (Value.string txa); exact (TA _ hW).out)
                   | (go_at_call_of 14 (Value.string txb); exact (TB _ hW).out)
                   | (go_at_call 14; exact (TA _ hW).out)
                   | (go_at_call 14; exact (TB _ hW).out)
               try simp only [Act.put, List.setIfInBounds_toArray, List.set_cons_zero, List.set_cons_succ]))
          refine wpQuiet_nil (fun w5 S5 => ?_)
          obtain ⟨a0, a1, a2, a3, a4, a5, a6, a7⟩ := ver_cells (Ord5.a S5)
          obtain ⟨b0, b1, b2, b3, b4, b5, b6, b7⟩ := ver_cells (Ord5.b S5)
          have S5 := Lib.hid S5
          go_wp2_with fail
          refine (HA _ S5.out).out.mono ?_
          rintro e w6 ⟨rfl, S6⟩
          have S6 := Lib.hid S6
          clear a0 a1 a2 a3 a4 a5 a6 a7 b0 b1 b2 b3 b4 b5 b6 b7
          go_wp2_with fail
          refine (alive5_held S6.out).mono ?_
          rintro e w7 ⟨rfl, S7⟩
          have S7 := Lib.hid S7
          go_wp2_with fail
          go_ret
          exact ⟨rfl, Ord5.below S7.out⟩
      · have hkk : (ka.toList == kb.toList) = false := by simpa using hkk
        have hne : ka.data.toList ≠ kb.data.toList := by
          rw [str_eq, decide_eq_false_iff_not] at hkk
          exact hkk
        have P1 : Op.bytesLess (⟨(putVL ka.data.toList xsa oa xa).toArray⟩ : ByteArray).toList (⟨(putVL kb.data.toList xsb ob xb).toArray⟩ : ByteArray).toList = Op.bytesLess ka.toList kb.toList := by
          rw [str_less, str_less, mk_data, mk_data]
          exact putVL_key _ _ _ _ _ _ hne
        have P2 : Op.bytesLess (⟨(headL ka.data.toList).toArray⟩ : ByteArray).toList (⟨(headL kb.data.toList).toArray⟩ : ByteArray).toList = Op.bytesLess ka.toList kb.toList := by
          rw [str_less, str_less, mk_data, mk_data]
          exact headL_only _ _ hne
        have HA := fun W h => Lib.hid (head5_held (w := w) (W := W) (ka := ka) (kb := kb) (Aa := Aa) (Ab := Ab) (na := na) (ca := ca) (nb := nb) (cb := cb) (oa := oa) (xa := xa) (kda := kda) (ob := ob) (xb := xb) (kdb := kdb) (nua := nua) (nub := nub) (ita := ita) (itb := itb) (txa := txa) (txb := txb) ka zka h)
        have HB := fun W h => Lib.hid (head5_held (w := w) (W := W) (ka := ka) (kb := kb) (Aa := Aa) (Ab := Ab) (na := na) (ca := ca) (nb := nb) (cb := cb) (oa := oa) (xa := xa) (kda := kda) (ob := ob) (xb := xb) (kdb := kdb) (nua := nua) (nub := nub) (ita := ita) (itb := itb) (txa := txa) (txb := txb) kb zkb h)
        obtain ⟨q, hq⟩ : ∃ q, Op.bytesLess ka.toList kb.toList = q := ⟨_, rfl⟩
        rw [hq] at P1 P2
        generalize (⟨(putVL ka.data.toList xsa oa xa).toArray⟩ : ByteArray) = S at *
        generalize (⟨(putVL kb.data.toList xsb ob xb).toArray⟩ : ByteArray) = U at *
        generalize (⟨(headL ka.data.toList).toArray⟩ : ByteArray) = X at *
        generalize (⟨(headL kb.data.toList).toArray⟩ : ByteArray) = Y at *
        clear hka hkb hne zka zkb Va Vb
        go_wp2_with fail
        refine wp_region_class (fun W => Ord5 w ka Aa na ca oa xa kda nua ita txa kb Ab nb cb ob xb kdb nub itb txb W) (by kernel_rfl) (by kernel_rfl) S2.drew ?_
        clear S2
        repeat' (first
          | (refine wpQuiet_skip (by rfl) ?_; try simp only [Act.put, List.setIfInBounds_toArray, List.set_cons_zero, List.set_cons_succ])
          | (refine wpQuiet_take (by rfl) ?_ (fun W hW => ?_) ?_
             rotate_left
             focus
               obtain ⟨a0, a1, a2, a3, a4, a5, a6, a7⟩ := ver_cells (Ord5.a hW)
               obtain ⟨b0, b1, b2, b3, b4, b5, b6, b7⟩ := ver_cells (Ord5.b hW)
               go_simp
               first
                 | done
                 | with_reducible rfl
                 | (go_at_call 8; exact alive5_held hW)
                 | (go_at_call_of 13 (Value.string ka); exact (HA _ hW).out)
                 | (go_at_call_of 13 (Value.string kb); exact (HB _ hW).out)
             try simp only [Act.put, List.setIfInBounds_toArray, List.set_cons_zero, List.set_cons_succ]))
        refine wpQuiet_nil (fun w5 S5 => ?_)
        go_wp2_with fail
        go_ret
        exact ⟨rfl, Ord5.below S5⟩
    · have S2 := Lib.hid S2
      go_wp2_with fail
      refine (alive5_held S2.out).mono ?_
      rintro e w5 ⟨rfl, S5⟩
      have S5 := Lib.hid S5
      go_wp2_with fail
      go_ret
      exact ⟨rfl, Ord5.below S5.out⟩
  · go_wp2_with fail
    refine (PB _ (Vb.out.below S1.out.below)).out.mono ?_
    rintro e w2 ⟨hB, h2⟩
    have S2 := Lib.hid (S1.out.on h2)
    clear S1 h2 b0 b1 b2 b3 b4 b5 b6 b7 PA PB
    rcases hB with ⟨_, rfl⟩ | ⟨_, rfl⟩
    all_goals
      go_wp2_with fail
      refine (alive5_held S2.out).mono ?_
      rintro e w5 ⟨rfl, S5⟩
      have S5 := Lib.hid S5
      go_wp2_with fail
      go_ret
      exact ⟨rfl, Ord5.below S5.out⟩
end Go.Proofs.YthjphiniljopgaaDoor
