/-
  OpLatest: of a register that version counts whose time is the greatest.
-/
import Derived.Test.YthacdegaeokgnaaDoorMXLat2
import Derived.Test.YthacdegaeokgnaaDoorM3
import Derived.Deep.Cut
namespace Go.Proofs.YthacdegaeokgnaaDoor
open Go.RowKit

set_option maxRecDepth 100000 in
set_option maxHeartbeats 1000000 in
theorem oplat_big (text : Bool) (A : Option Addr) (n c : Nat) (f : Nat) (w : World) (hL : LaidO w) (hn : 40 < n) (hmx : n ≤ 9223372036854775807) :
    Calls Tryd.prog 5 #[.bool text, .slice A n c, .float .f64 f] w fun e w' => e = .returned (.bool true) ∧ Below w.heap.size w w' := by
  have e1 : (40 : Int) < (n : Int) := by omega
  go_enter Tryd.func5, Tryd.ntmps5
  go_wp2_with fail
  refine (oalive_any w hL).mono ?_
  rintro e w2 ⟨rfl, g2⟩
  go_wp2_with fail
  go_ret
  exact ⟨rfl, g2⟩

set_option maxRecDepth 100000 in
set_option maxHeartbeats 8000000 in
theorem oplat_f (A : Option Addr) (n c : Nat) (vs : List VerR) (f : Nat) (hf : (Lit.float .f64 f).wf = true) (w : World) (I : VersIn w A n vs) (hL : LaidO w) (hn : ¬ 40 < n) :
    Calls Tryd.prog 5 #[.bool false, .slice A n c, .float .f64 f] w fun e w' => e = .returned (.bool true) ∧ Below w.heap.size w w' := by
  have hmx := I.max
  have hlen := Lib.hid I.len
  have I := Lib.hid I
  have HF := Lib.hid hf
  have HF2 := Lib.hid (wf_f64 hf)
  have e1 : ¬ (40 : Int) < (n : Int) := by omega
  have AL := Lib.hid (oalive_any w hL)
  have hmax := run_max5
  clear hf
  go_enter Tryd.func5, Tryd.ntmps5
  go_wp2_with fail
  go_loop [8, 9] (fun t i => ∃ (m : Nat) (mo : Int), m ≤ n ∧ i = .int .i64 (m : Int) ∧ t = .int .i64 mo ∧ Hid (0 ≤ mo ∧ mo ≤ 281474976710654) ∧ Hid (SoFar vs m mo)) (fun _ i => n - (intOf i).toNat)
  case atStart => exact ⟨0, 0, by omega, rfl, rfl, ⟨by decide, by decide⟩, fun j hj => absurd hj (by omega)⟩
  case round =>
    obtain ⟨m, mo, hm, rfl, rfl, HMO, HS⟩ := hrel
    by_cases hml : m < n
    · obtain ⟨b, off, rfl, hbl, hcells⟩ := I.out.some (by omega)
      obtain ⟨r, hr⟩ : ∃ r, vs.getD m VerR.zero = r := ⟨_, rfl⟩
      obtain ⟨d0, d1, d2, d3, d4, d5, d6, d7⟩ := VersIn.at_ hcells hml hr
      have RI : Hid (IntsIn w r.A r.n r.xs) := by rw [← hr]; exact (I.out.each m hml).ints
      have HR := Lib.hid hr
      have hml' : (m : Int) < (n : Int) := by omega
      clear hcells hr d0 d2 d3 d4 d5 d6 hbl
      by_cases g1 : (8 : Int) < (r.n : Int)
      · go_wp2_with fail
        refine AL.out.mono ?_
        rintro e w9 ⟨rfl, g9⟩
        go_wp2_with fail
        go_ret
        exact ⟨rfl, g9⟩
      · by_cases g2 : (1100 : Int) < (r.tx.size : Int)
        · go_wp2_with fail
          refine AL.out.mono ?_
          rintro e w9 ⟨rfl, g9⟩
          go_wp2_with fail
          go_ret
          exact ⟨rfl, g9⟩
        · go_wp2_with fail
          clear d7 g2
          have HT0 : Hid (AllIn (r.xs.take 0) mo) := fun x hx => by simp at hx
          go_loop [8, 10] (fun t i => ∃ (q : Nat) (mp : Int), q ≤ r.n ∧ i = .int .i64 (q : Int) ∧ t = .int .i64 mp ∧ Hid (mo ≤ mp ∧ mp ≤ 281474976710654) ∧ Hid (AllIn (r.xs.take q) mp)) (fun _ i => r.n - (intOf i).toNat)
          case atStart => exact ⟨0, mo, by omega, rfl, rfl, ⟨Int.le_refl _, HMO.out.2⟩, HT0⟩
          case round =>
            obtain ⟨q, mp, hq, rfl, rfl, HMP, HA⟩ := hrel
            by_cases hql : q < r.n
            · obtain ⟨b2, off2, hA2, _, hc2⟩ := RI.out.some (by omega)
              have c0 := hc2 q hql
              rw [hA2] at d1
              obtain ⟨y, hy⟩ : ∃ y, r.xs.getD q 0 = y := ⟨_, rfl⟩
              rw [hy] at c0
              have HY := Lib.hid hy
              have hql' : (q : Int) < (r.n : Int) := by omega
              clear hc2 hy hA2
              by_cases y0 : y < 0
              · go_wp2_with fail
                refine AL.out.mono ?_
                rintro e w9 ⟨rfl, g9⟩
                go_wp2_with fail
                go_ret
                exact ⟨rfl, g9⟩
              · by_cases y1 : (281474976710655 : Int) ≤ y
                · go_wp2_with fail
                  refine AL.out.mono ?_
                  rintro e w9 ⟨rfl, g9⟩
                  go_wp2_with fail
                  go_ret
                  exact ⟨rfl, g9⟩
                · have HN : Hid (AllIn (r.xs.take (q + 1)) (if mp < y then y else mp)) := by
                    refine HA.out.take_next (by rw [RI.out.len]; exact hql) ?_ ?_ ?_
                    · split <;> omega
                    · rw [HY.out]; omega
                    · rw [HY.out]; split <;> omega
                  have HB : Hid (mo ≤ (if mp < y then y else mp) ∧ (if mp < y then y else mp) ≤ 281474976710654) := by
                    have h1 := HMP.out
                    constructor <;> (split <;> omega)
                  clear HA
                  go_wp2_with fail
                  go_round
                  case rel => exact ⟨q + 1, _, by omega, by go_num, rfl, HB, HN⟩
                  case measure => simp [intOf]; omega
            · obtain rfl : q = r.n := by omega
              have hnn : ¬ (r.n : Int) < (r.n : Int) := by omega
              have HS2 : Hid (SoFar vs (m + 1) mp) := by
                refine (HS.out.mono HMP.out.1).next ?_
                rw [HR.out]
                have h := HA.out
                rw [List.take_of_length_le (by rw [RI.out.len]; omega)] at h
                exact h
              have HM2 : Hid (0 ≤ mp ∧ mp ≤ 281474976710654) := ⟨Int.le_trans HMO.out.1 HMP.out.1, HMP.out.2⟩
              go_wp2_with fail
              go_round
              case rel => exact ⟨m + 1, mp, by omega, by go_num, rfl, HM2, HS2⟩
              case measure => simp [intOf]; omega
    · obtain rfl : m = n := by omega
      have hmm : ¬ (m : Int) < (m : Int) := by omega
      have w1 : IntKind.i64.wrap (mo + 1) = mo + 1 := IntWalk.i64_in _ (by have := HMO.out; omega)
      have w2 : wrap64 (mo + 1) = mo + 1 := IntWalk.wrap64_in _ (by have := HMO.out; omega)
      have HT : Hid ((Lit.int .i64 (mo + 1)).wf = true) := by
        have := HMO.out
        simp [Hid, Lit.wf, IntKind.min, IntKind.max, IntKind.signed, IntKind.bits]
        omega
      have HAll : Hid (∀ u ∈ vs.map s6, u.tm < mo + 1) := SoFar.all HMO.out.1 (by rw [hlen.out]; exact HS.out) (by omega)
      have hst := run_sto_f64
      clear HS
      go_upto_region 21 with fail
      have E1 : Blk ((w.alloc (.cells #[.int .i64 (mo + 1)] 3)).alloc (.cells #[.string ⟨#[114]⟩, .slice (some ⟨w.heap.size, 0, none⟩) 1 1, .int .i64 0, .int .i64 0, .int .i64 0, .float .f64 f, .int .i64 0, .string ⟨#[]⟩] 44)) w.heap.size 3 #[.int .i64 (mo + 1)] := (Blk.new w _ _).alloc _
      have E2 : Blk ((w.alloc (.cells #[.int .i64 (mo + 1)] 3)).alloc (.cells #[.string ⟨#[114]⟩, .slice (some ⟨w.heap.size, 0, none⟩) 1 1, .int .i64 0, .int .i64 0, .int .i64 0, .float .f64 f, .int .i64 0, .string ⟨#[]⟩] 44)) (w.heap.size + 1) 44 (verC ⟨#[114]⟩ (some ⟨w.heap.size, 0, none⟩) 1 1 0 0 0 f 0 ⟨#[]⟩) := Blk.new' (by simp) _ _
      have hb1 : Below w.heap.size w ((w.alloc (.cells #[.int .i64 (mo + 1)] 3)).alloc (.cells #[.string ⟨#[114]⟩, .slice (some ⟨w.heap.size, 0, none⟩) 1 1, .int .i64 0, .int .i64 0, .int .i64 0, .float .f64 f, .int .i64 0, .string ⟨#[]⟩] 44)) := ((Below.refl _ w).alloc (Nat.le_refl _) _).alloc (by simp) _
      generalize ((w.alloc (.cells #[.int .i64 (mo + 1)] 3)).alloc (.cells #[.string ⟨#[114]⟩, .slice (some ⟨w.heap.size, 0, none⟩) 1 1, .int .i64 0, .int .i64 0, .int .i64 0, .float .f64 f, .int .i64 0, .string ⟨#[]⟩] 44)) = w1 at E1 E2 hb1 ⊢
      have HV : Hid ((verL ⟨#[114]⟩ w.heap.size (mo + 1) 0 f ⟨#[]⟩).in_ w1) := verL_in E1 (by decide) HT.out (by decide) HF.out (by decide)
      have HVC : Hid ((verL ⟨#[114]⟩ w.heap.size (mo + 1) 4 0 ⟨#[]⟩).in_ w1) := verL_in E1 (by decide) HT.out (by decide) (by decide) (by decide)
      have HI1 := Lib.hid (I.out.below hb1)
      have HN : Hid (m ≤ 100000) := by unfold Hid; omega
      have HN5 : Hid (vs.length ≤ 100000) := by rw [hlen.out]; exact HN
      have VAL : valueA (⟨#[114]⟩ : ByteArray).data.toList ((vs ++ [(verL ⟨#[114]⟩ w.heap.size (mo + 1) 0 f ⟨#[]⟩)]).map s6) = (doneA V6.zero (a6 0 f 0 ⟨#[]⟩)) := by
        rw [List.map_append]
        exact value_last (s := s6 (verL ⟨#[114]⟩ w.heap.size (mo + 1) 0 f ⟨#[]⟩)) (Or.inl rfl) (fits_num f) HAll.out
      have VAL2 : valueA (⟨#[114]⟩ : ByteArray).data.toList (([(verL ⟨#[114]⟩ w.heap.size (mo + 1) 4 0 ⟨#[]⟩)] ++ vs).map s6) = doneA V6.zero (a6 4 0 0 ⟨#[]⟩) := by
        rw [List.map_append]
        exact value_first (s := s6 (verL ⟨#[114]⟩ w.heap.size (mo + 1) 4 0 ⟨#[]⟩)) (Or.inl rfl) (fits_clear _ (Or.inl rfl)) HAll.out
      clear HAll HT HMO E1
      have C1 : Below w1.heap.size w1 w1 := Below.refl _ _
      refine Sp.wp_region_ord (fun W => Below w1.heap.size w1 W) (TL w1.heap.size) [Sp.Slot.is (.string ⟨#[114]⟩), Sp.Slot.is (.slice A m c), SlotRow2 w1.heap.size 2 5 (Or.inl rfl) vs, Sp.Slot.is (.agg #[.string ⟨#[114]⟩, .slice (some ⟨w.heap.size, 0, none⟩) 1 1, .int .i64 0, .int .i64 0, .int .i64 0, .float .f64 f, .int .i64 0, .string ⟨#[]⟩]), SlotOne w1.heap.size (verL ⟨#[114]⟩ w.heap.size (mo + 1) 0 f ⟨#[]⟩), SlotRow2 w1.heap.size 5 6 (Or.inr rfl) (vs ++ [(verL ⟨#[114]⟩ w.heap.size (mo + 1) 0 f ⟨#[]⟩)]), SlotV2 (doneA V6.zero (a6 0 f 0 ⟨#[]⟩)), SlotNew w1.heap.size] 8 1 (by kernel_rfl) (fun _ _ _ h => h.1.size) (by kernel_rfl) (by kernel_rfl) (by kernel_rfl) rfl (by decide) C1.drew [(none, none), (none, none), (some 5, some 2), (none, none), (some 5, none), (some 6, some 5), (none, none), (none, none)] rfl (by kernel_rfl) (fun i hi => ?_) (fun a w3 J => ?_)
      · rcases i with _ | _ | _ | _ | _ | _ | _ | _ | i
        · refine Sp.ordOb_at (o := _) rfl rfl (fun a W hC hF hD => ?_)
          have g7 : a.tmps[7]? = some (.string ⟨#[114]⟩) := hF 7 _ (by kernel_rfl) rfl
          unfold Sp.frees
          go_simp
          exact ⟨hC, TL.of (Below.refl _ _) hC.size, rfl, fun h => by cases h⟩
        · refine Sp.ordOb_at (o := _) rfl rfl (fun a W hC hF hD => ?_)
          have g1 : a.tmps[1]? = some (.slice A m c) := hF 1 _ (by kernel_rfl) rfl
          unfold Sp.frees
          go_simp
          exact ⟨hC, TL.of (Below.refl _ _) hC.size, rfl, fun h => by cases h⟩
        · refine Sp.ordOb_at (o := _) rfl rfl (fun a W hC hF hD => ?_)
          have g96 : a.tmps[96]? = some (.slice A m c) := by
            obtain ⟨v, h1, h2⟩ := hD 1 96 (by kernel_rfl) (by kernel_rfl)
            rw [h1]
            exact congrArg some h2
          refine frees_append_versA W (.const (.slice none 0 0)) (.tmp 96) rfl (c := c) (B := w1.heap.size) (vs := []) rfl (VRow.nil W _ _) (by simp [Act.eval, g96]) (HI1.out.below hC) (by simp) HN.out hC.size ?_
          intro v1 W1 R1 gr
          have hb1 := VRow.grown (VRow.nil W W.heap.size 44) (Below.refl _ _) (Nat.le_refl _) gr
          rw [List.nil_append] at R1
          exact ⟨hC.trans (hb1.mono hC.size), TL.of hb1 hC.size, R1, fun h => by cases h⟩
        · refine Sp.ordOb_at (o := _) rfl rfl (fun a W hC hF hD => ?_)
          have g11 : a.tmps[11]? = some (.pointer (some ⟨w.heap.size + 1, 0, none⟩)) := hF 11 _ (by kernel_rfl) rfl
          obtain ⟨d0, d1, d2, d3, d4, d5, d6, d7⟩ := ver_cells (E2.below hC E2.lt)
          unfold Sp.frees
          go_simp
          exact ⟨hC, TL.of (Below.refl _ _) hC.size, rfl, fun h => by cases h⟩
        · refine Sp.ordOb_at (o := _) rfl rfl (fun a W hC hF hD => ?_)
          have g98 : a.tmps[98]? = some (.agg #[.string ⟨#[114]⟩, .slice (some ⟨w.heap.size, 0, none⟩) 1 1, .int .i64 0, .int .i64 0, .int .i64 0, .float .f64 f, .int .i64 0, .string ⟨#[]⟩]) := by
            obtain ⟨v, h1, h2⟩ := hD 3 98 (by kernel_rfl) (by kernel_rfl)
            rw [h1]
            exact congrArg some h2
          unfold Sp.frees
          go_simp
          exact ⟨hC.alloc hC.size _, TL.of ((Below.refl _ _).alloc (Nat.le_refl _) _) hC.size, ⟨_, rfl, Blk.new _ _ _⟩, fun h => by cases h⟩
        · refine Sp.ordOb_at (o := _) rfl rfl (fun a W hC hF hD => ?_)
          obtain ⟨v1, g97, R1⟩ := hD 2 97 (by kernel_rfl) (by kernel_rfl)
          obtain ⟨v2, g99, q, rfl, E⟩ := hD 4 99 (by kernel_rfl) (by kernel_rfl)
          have R1 : VRow W w1.heap.size 44 v1 vs := R1
          refine frees_append_versA W (.tmp 97) (.tmp 99) rfl (c := 1) (by simp [Act.eval, g97]) R1 (by simp [Act.eval, g99]) (vers_one E (HV.out.below hC)) HN5.out (by decide) hC.size ?_
          intro v' W' R2 gr
          obtain ⟨k1, k2⟩ := TL.row hC (Nat.le_refl _) R1 gr
          exact ⟨k1, k2, R2, fun h => by cases h⟩
        · refine Sp.ordOb_at (o := _) rfl rfl (fun a W hC hF hD => ?_)
          have g95 : a.tmps[95]? = some (.string ⟨#[114]⟩) := by
            obtain ⟨v, h1, h2⟩ := hD 0 95 (by kernel_rfl) (by kernel_rfl)
            rw [h1]
            exact congrArg some h2
          obtain ⟨v5, g100, R5⟩ := hD 5 100 (by kernel_rfl) (by kernel_rfl)
          have R5 : VRow W w1.heap.size 44 v5 (vs ++ [(verL ⟨#[114]⟩ w.heap.size (mo + 1) 0 f ⟨#[]⟩)]) := R5
          obtain ⟨A2, c2, rfl, V2⟩ := vrow_back HI1.out R5 hC (HV.out.below hC)
          have CC := ovalue_any ⟨#[114]⟩ (by decide) A2 _ c2 _ W V2
          rw [VAL] at CC
          unfold Sp.frees
          go_simp
          refine ⟨rfl, CC.mono ?_⟩
          rintro e W2 ⟨⟨th, vn, vi, vt, rfl, hv, hx⟩, g⟩
          exact ⟨_, rfl, hC.trans (g.mono hC.size), TL.of g hC.size, th, vn, vi, vt, rfl, hv, hx⟩
        · refine Sp.ordOb_at (o := _) rfl rfl (fun a W hC hF hD => ?_)
          unfold Sp.frees
          go_simp
          exact ⟨hC.alloc hC.size _, TL.of ((Below.refl _ _).alloc (Nat.le_refl _) _) hC.size, ⟨_, rfl, hC.size, Blk.new _ _ _⟩, fun h => by cases h⟩
        · exact absurd hi (by omega)
      · obtain ⟨ys, hln, rfl, hC, hS, hap⟩ := J.all_ (by kernel_rfl) (ds := [some 95, some 96, some 97, some 98, some 99, some 100, some 101, some 12]) (by kernel_rfl)
        clear J
        obtain ⟨y0, ys, rfl⟩ := List.exists_cons_of_length_eq_add_one hln
        replace hln := Nat.succ.inj hln
        obtain ⟨y1, ys, rfl⟩ := List.exists_cons_of_length_eq_add_one hln
        replace hln := Nat.succ.inj hln
        obtain ⟨y2, ys, rfl⟩ := List.exists_cons_of_length_eq_add_one hln
        replace hln := Nat.succ.inj hln
        obtain ⟨y3, ys, rfl⟩ := List.exists_cons_of_length_eq_add_one hln
        replace hln := Nat.succ.inj hln
        obtain ⟨y4, ys, rfl⟩ := List.exists_cons_of_length_eq_add_one hln
        replace hln := Nat.succ.inj hln
        obtain ⟨y5, ys, rfl⟩ := List.exists_cons_of_length_eq_add_one hln
        replace hln := Nat.succ.inj hln
        obtain ⟨y6, ys, rfl⟩ := List.exists_cons_of_length_eq_add_one hln
        replace hln := Nat.succ.inj hln
        obtain ⟨y7, ys, rfl⟩ := List.exists_cons_of_length_eq_add_one hln
        replace hln := Nat.succ.inj hln
        obtain rfl := List.eq_nil_of_length_eq_zero hln
        have q0 : y0 = .string ⟨#[114]⟩ := hS 0 (by decide) rfl
        have q1 : y1 = .slice A m c := hS 1 (by decide) rfl
        have q3 : y3 = .agg #[.string ⟨#[114]⟩, .slice (some ⟨w.heap.size, 0, none⟩) 1 1, .int .i64 0, .int .i64 0, .int .i64 0, .float .f64 f, .int .i64 0, .string ⟨#[]⟩] := hS 3 (by decide) rfl
        obtain ⟨th, vn, vi, vt, q6, IVx, hx⟩ := hS 6 (by decide) rfl
        have q6 : y6 = .agg #[.bool th, .float .f64 vn, .int .i64 vi, .string vt] := q6
        obtain ⟨q, q7, hq, EQ⟩ := hS 7 (by decide) rfl
        have q7 : y7 = .pointer (some ⟨q, 0, none⟩) := q7
        subst q0 q1 q3 q6 q7
        clear hS hap
        simp only [fillT, List.setIfInBounds_toArray, List.set_cons_zero, List.set_cons_succ]
        obtain ⟨z0, z1, z2, z3⟩ := val_cells EQ
        have f0 := EQ.frozen 0
        have f1 := EQ.frozen 1
        have f2 := EQ.frozen 2
        have f3 := EQ.frozen 3
        refine wpAny_ready (rs := [8]) (by kernel_rfl) (by simp) ?_
        refine AllReady.cons rfl (fun K hK => ?_) AllReady.nil
        go_simp
        refine hK _ _ ?_
        clear hK K
        refine wpAny_done (by kernel_rfl) ?_ _
        simp only [Exit.then]
        have E4 := blk_set4 EQ (.bool th) (.float .f64 vn) (.int .i64 vi) (.string vt)
        have hb4 := below_set4 hC hq (.bool th) (.float .f64 vn) (.int .i64 vi) (.string vt)
        clear EQ hC z0 z1 z2 z3 f0 f1 f2 f3
        generalize ((((w3.setCell ⟨q, 0, none⟩ (.bool th)).setCell ⟨q, 1, none⟩ (.float .f64 vn)).setCell ⟨q, 2, none⟩ (.int .i64 vi)).setCell ⟨q, 3, none⟩ (.string vt)) = w4 at E4 hb4 ⊢
        obtain ⟨d0, d1, d2, d3, d4, d5, d6, d7⟩ := ver_cells (E2.below hb4 E2.lt)
        go_upto_region 24 with fail
        have E5 := Blk.new w4 44 #[.string ⟨#[114]⟩, .slice (some ⟨w.heap.size, 0, none⟩) 1 1, .int .i64 0, .int .i64 0, .int .i64 4, .float .f64 0, .int .i64 0, .string ⟨#[]⟩]
        have hb5 := (Below.refl w4.heap.size w4).alloc (Nat.le_refl _) (.cells #[.string ⟨#[114]⟩, .slice (some ⟨w.heap.size, 0, none⟩) 1 1, .int .i64 0, .int .i64 0, .int .i64 4, .float .f64 0, .int .i64 0, .string ⟨#[]⟩] 44)
        clear d0 d1 d2 d3 d4 d5 d6 d7
        generalize w4.alloc (.cells #[.string ⟨#[114]⟩, .slice (some ⟨w.heap.size, 0, none⟩) 1 1, .int .i64 0, .int .i64 0, .int .i64 4, .float .f64 0, .int .i64 0, .string ⟨#[]⟩] 44) = w5 at E5 hb5 ⊢
        obtain ⟨d0, d1, d2, d3, d4, d5, d6, d7⟩ := ver_cells (p := w4.heap.size) (key := ⟨#[114]⟩) (A := some ⟨w.heap.size, 0, none⟩) (n := 1) (c := 1) (o := 0) (x := 0) (kd := 4) (nu := 0) (it := 0) (tx := ⟨#[]⟩) E5
        have hb15 := Lib.hid (hb4.trans (hb5.mono hb4.size))
        have HI5 := Lib.hid (HI1.out.below hb15.out)
        have HE4 := Lib.hid (E4.below hb5 E4.lt)
        clear E4 hb5 E5
        go_wp2_with (at_builtin; refine wpList_append_versA _ rfl _ _ rfl (B := w5.heap.size) (vs := [(verL ⟨#[114]⟩ w.heap.size (mo + 1) 4 0 ⟨#[]⟩)]) rfl (vrow_one (Blk.new w5 _ _) (Nat.le_refl _)) rfl (HI5.out.below ((Below.refl _ w5).alloc (Nat.le_refl _) _)) (by simp) HN.out (by simp) ?_; intro v6 w6 R6 g6; have hb6 := Lib.hid (VRow.grown (B := w5.heap.size) (vs := [(verL ⟨#[114]⟩ w.heap.size (mo + 1) 4 0 ⟨#[]⟩)]) (vrow_one (Blk.new w5 _ _) (Nat.le_refl _)) ((Below.refl _ w5).alloc (Nat.le_refl _) _) (by simp) g6); obtain ⟨A6, c6, rfl, V6⟩ := vrow_front HI5.out R6 hb6.out (HVC.out.below (hb15.out.trans (hb6.out.mono hb15.out.size))); clear g6 R6)
        have CC := ovalue_any ⟨#[114]⟩ (by decide) A6 _ c6 _ w6 V6
        rw [VAL2] at CC
        refine CC.mono ?_
        rintro e w7 ⟨⟨tz, vn7, vi7, vt7, rfl, _, hx7⟩, g7⟩
        clear CC
        simp only [valV]
        have hb7 := Lib.hid (hb6.out.trans (g7.mono hb6.out.size))
        clear g7 V6
        go_upto_region 25 with fail
        have E8 := Blk.new w7 26 #[.bool tz, .float .f64 vn7, .int .i64 vi7, .string vt7]
        have hb8 := hb7.out.alloc hb7.out.size (.cells #[.bool tz, .float .f64 vn7, .int .i64 vi7, .string vt7] 26)
        generalize w7.alloc (.cells #[.bool tz, .float .f64 vn7, .int .i64 vi7, .string vt7] 26) = w8 at E8 hb8 ⊢
        have E9 := HE4.out.below hb8 HE4.out.lt
        have hbw := hb1.trans ((hb15.out.trans (hb8.mono hb15.out.size)).mono hb1.size)
        clear hb6 hb7 hb8 hb15 HE4 d0 d1 d2 d3 d4 d5 d6 d7
        have t1 : th = true := congrArg V6.th hx
        have t2 : tz = false := congrArg V6.th hx7
        subst t1 t2
        go_wp2_with fail
        refine (oalive_any _ (hL.on hbw)).mono ?_
        rintro e w9 ⟨rfl, g9⟩
        replace E8 := E8.below g9 E8.lt
        replace E9 := E9.below g9 E9.lt
        obtain ⟨k0, k1, k2, k3⟩ := val_cells E8
        obtain ⟨l0, l1, l2, l3⟩ := val_cells E9
        have hb9 := hbw.trans (g9.mono hbw.size)
        clear g9 hbw
        go_wp2_with fail
        have CS := osameval_any true vn vi vt IVx true f 0 ⟨#[]⟩ ⟨HF2.out, by decide, by decide⟩ w9
        have hs : (v6 true vn vi vt).same (v6 true f 0 ⟨#[]⟩) = true := (V6.same_iff _ _).2 hx
        rw [hs] at CS
        simp only [valV] at CS
        refine CS.mono ?_
        rintro e w10 ⟨rfl, g10⟩
        clear k0 k1 k2 k3 l0 l1 l2 l3
        obtain ⟨k0, k1, k2, k3⟩ := val_cells (E8.below g10 E8.lt)
        go_wp2_with fail
        go_ret
        exact ⟨rfl, hb9.trans (g10.mono hb9.size)⟩
set_option maxRecDepth 100000 in
set_option maxHeartbeats 8000000 in
theorem oplat_t (A : Option Addr) (n c : Nat) (vs : List VerR) (f : Nat) (hf : (Lit.float .f64 f).wf = true) (w : World) (I : VersIn w A n vs) (hL : LaidO w) (hn : ¬ 40 < n) :
    Calls Tryd.prog 5 #[.bool true, .slice A n c, .float .f64 f] w fun e w' => e = .returned (.bool true) ∧ Below w.heap.size w w' := by
  have hmx := I.max
  have hlen := Lib.hid I.len
  have I := Lib.hid I
  have HF := Lib.hid hf
  have HF2 := Lib.hid (wf_f64 hf)
  have e1 : ¬ (40 : Int) < (n : Int) := by omega
  have AL := Lib.hid (oalive_any w hL)
  have hmax := run_max5
  clear hf
  go_enter Tryd.func5, Tryd.ntmps5
  go_wp2_with fail
  go_loop [8, 9] (fun t i => ∃ (m : Nat) (mo : Int), m ≤ n ∧ i = .int .i64 (m : Int) ∧ t = .int .i64 mo ∧ Hid (0 ≤ mo ∧ mo ≤ 281474976710654) ∧ Hid (SoFar vs m mo)) (fun _ i => n - (intOf i).toNat)
  case atStart => exact ⟨0, 0, by omega, rfl, rfl, ⟨by decide, by decide⟩, fun j hj => absurd hj (by omega)⟩
  case round =>
    obtain ⟨m, mo, hm, rfl, rfl, HMO, HS⟩ := hrel
    by_cases hml : m < n
    · obtain ⟨b, off, rfl, hbl, hcells⟩ := I.out.some (by omega)
      obtain ⟨r, hr⟩ : ∃ r, vs.getD m VerR.zero = r := ⟨_, rfl⟩
      obtain ⟨d0, d1, d2, d3, d4, d5, d6, d7⟩ := VersIn.at_ hcells hml hr
      have RI : Hid (IntsIn w r.A r.n r.xs) := by rw [← hr]; exact (I.out.each m hml).ints
      have HR := Lib.hid hr
      have hml' : (m : Int) < (n : Int) := by omega
      clear hcells hr d0 d2 d3 d4 d5 d6 hbl
      by_cases g1 : (8 : Int) < (r.n : Int)
      · go_wp2_with fail
        refine AL.out.mono ?_
        rintro e w9 ⟨rfl, g9⟩
        go_wp2_with fail
        go_ret
        exact ⟨rfl, g9⟩
      · by_cases g2 : (1100 : Int) < (r.tx.size : Int)
        · go_wp2_with fail
          refine AL.out.mono ?_
          rintro e w9 ⟨rfl, g9⟩
          go_wp2_with fail
          go_ret
          exact ⟨rfl, g9⟩
        · go_wp2_with fail
          clear d7 g2
          have HT0 : Hid (AllIn (r.xs.take 0) mo) := fun x hx => by simp at hx
          go_loop [8, 10] (fun t i => ∃ (q : Nat) (mp : Int), q ≤ r.n ∧ i = .int .i64 (q : Int) ∧ t = .int .i64 mp ∧ Hid (mo ≤ mp ∧ mp ≤ 281474976710654) ∧ Hid (AllIn (r.xs.take q) mp)) (fun _ i => r.n - (intOf i).toNat)
          case atStart => exact ⟨0, mo, by omega, rfl, rfl, ⟨Int.le_refl _, HMO.out.2⟩, HT0⟩
          case round =>
            obtain ⟨q, mp, hq, rfl, rfl, HMP, HA⟩ := hrel
            by_cases hql : q < r.n
            · obtain ⟨b2, off2, hA2, _, hc2⟩ := RI.out.some (by omega)
              have c0 := hc2 q hql
              rw [hA2] at d1
              obtain ⟨y, hy⟩ : ∃ y, r.xs.getD q 0 = y := ⟨_, rfl⟩
              rw [hy] at c0
              have HY := Lib.hid hy
              have hql' : (q : Int) < (r.n : Int) := by omega
              clear hc2 hy hA2
              by_cases y0 : y < 0
              · go_wp2_with fail
                refine AL.out.mono ?_
                rintro e w9 ⟨rfl, g9⟩
                go_wp2_with fail
                go_ret
                exact ⟨rfl, g9⟩
              · by_cases y1 : (281474976710655 : Int) ≤ y
                · go_wp2_with fail
                  refine AL.out.mono ?_
                  rintro e w9 ⟨rfl, g9⟩
                  go_wp2_with fail
                  go_ret
                  exact ⟨rfl, g9⟩
                · have HN : Hid (AllIn (r.xs.take (q + 1)) (if mp < y then y else mp)) := by
                    refine HA.out.take_next (by rw [RI.out.len]; exact hql) ?_ ?_ ?_
                    · split <;> omega
                    · rw [HY.out]; omega
                    · rw [HY.out]; split <;> omega
                  have HB : Hid (mo ≤ (if mp < y then y else mp) ∧ (if mp < y then y else mp) ≤ 281474976710654) := by
                    have h1 := HMP.out
                    constructor <;> (split <;> omega)
                  clear HA
                  go_wp2_with fail
                  go_round
                  case rel => exact ⟨q + 1, _, by omega, by go_num, rfl, HB, HN⟩
                  case measure => simp [intOf]; omega
            · obtain rfl : q = r.n := by omega
              have hnn : ¬ (r.n : Int) < (r.n : Int) := by omega
              have HS2 : Hid (SoFar vs (m + 1) mp) := by
                refine (HS.out.mono HMP.out.1).next ?_
                rw [HR.out]
                have h := HA.out
                rw [List.take_of_length_le (by rw [RI.out.len]; omega)] at h
                exact h
              have HM2 : Hid (0 ≤ mp ∧ mp ≤ 281474976710654) := ⟨Int.le_trans HMO.out.1 HMP.out.1, HMP.out.2⟩
              go_wp2_with fail
              go_round
              case rel => exact ⟨m + 1, mp, by omega, by go_num, rfl, HM2, HS2⟩
              case measure => simp [intOf]; omega
    · obtain rfl : m = n := by omega
      have hmm : ¬ (m : Int) < (m : Int) := by omega
      have w1 : IntKind.i64.wrap (mo + 1) = mo + 1 := IntWalk.i64_in _ (by have := HMO.out; omega)
      have w2 : wrap64 (mo + 1) = mo + 1 := IntWalk.wrap64_in _ (by have := HMO.out; omega)
      have HT : Hid ((Lit.int .i64 (mo + 1)).wf = true) := by
        have := HMO.out
        simp [Hid, Lit.wf, IntKind.min, IntKind.max, IntKind.signed, IntKind.bits]
        omega
      have HAll : Hid (∀ u ∈ vs.map s6, u.tm < mo + 1) := SoFar.all HMO.out.1 (by rw [hlen.out]; exact HS.out) (by omega)
      have hst := run_sto_f64
      clear HS
      go_upto_region 21 with fail
      have E1 : Blk ((w.alloc (.cells #[.int .i64 (mo + 1)] 3)).alloc (.cells #[.string ⟨#[116]⟩, .slice (some ⟨w.heap.size, 0, none⟩) 1 1, .int .i64 0, .int .i64 0, .int .i64 0, .float .f64 0, .int .i64 0, .string ⟨#[108, 97, 116, 101, 115, 116]⟩] 44)) w.heap.size 3 #[.int .i64 (mo + 1)] := (Blk.new w _ _).alloc _
      have E2 : Blk ((w.alloc (.cells #[.int .i64 (mo + 1)] 3)).alloc (.cells #[.string ⟨#[116]⟩, .slice (some ⟨w.heap.size, 0, none⟩) 1 1, .int .i64 0, .int .i64 0, .int .i64 0, .float .f64 0, .int .i64 0, .string ⟨#[108, 97, 116, 101, 115, 116]⟩] 44)) (w.heap.size + 1) 44 (verC ⟨#[116]⟩ (some ⟨w.heap.size, 0, none⟩) 1 1 0 0 0 0 0 ⟨#[108, 97, 116, 101, 115, 116]⟩) := Blk.new' (by simp) _ _
      have hb1 : Below w.heap.size w ((w.alloc (.cells #[.int .i64 (mo + 1)] 3)).alloc (.cells #[.string ⟨#[116]⟩, .slice (some ⟨w.heap.size, 0, none⟩) 1 1, .int .i64 0, .int .i64 0, .int .i64 0, .float .f64 0, .int .i64 0, .string ⟨#[108, 97, 116, 101, 115, 116]⟩] 44)) := ((Below.refl _ w).alloc (Nat.le_refl _) _).alloc (by simp) _
      generalize ((w.alloc (.cells #[.int .i64 (mo + 1)] 3)).alloc (.cells #[.string ⟨#[116]⟩, .slice (some ⟨w.heap.size, 0, none⟩) 1 1, .int .i64 0, .int .i64 0, .int .i64 0, .float .f64 0, .int .i64 0, .string ⟨#[108, 97, 116, 101, 115, 116]⟩] 44)) = w1 at E1 E2 hb1 ⊢
      have HV : Hid ((verL ⟨#[116]⟩ w.heap.size (mo + 1) 0 0 ⟨#[108, 97, 116, 101, 115, 116]⟩).in_ w1) := verL_in E1 (by decide) HT.out (by decide) (by decide) (by decide)
      have HVC : Hid ((verL ⟨#[116]⟩ w.heap.size (mo + 1) 4 0 ⟨#[]⟩).in_ w1) := verL_in E1 (by decide) HT.out (by decide) (by decide) (by decide)
      have HI1 := Lib.hid (I.out.below hb1)
      have HN : Hid (m ≤ 100000) := by unfold Hid; omega
      have HN5 : Hid (vs.length ≤ 100000) := by rw [hlen.out]; exact HN
      have VAL : valueA (⟨#[116]⟩ : ByteArray).data.toList ((vs ++ [(verL ⟨#[116]⟩ w.heap.size (mo + 1) 0 0 ⟨#[108, 97, 116, 101, 115, 116]⟩)]).map s6) = (doneA V6.zero (a6 0 0 0 ⟨#[108, 97, 116, 101, 115, 116]⟩)) := by
        rw [List.map_append]
        exact value_last (s := s6 (verL ⟨#[116]⟩ w.heap.size (mo + 1) 0 0 ⟨#[108, 97, 116, 101, 115, 116]⟩)) (Or.inr rfl) fits_text HAll.out
      have VAL2 : valueA (⟨#[116]⟩ : ByteArray).data.toList (([(verL ⟨#[116]⟩ w.heap.size (mo + 1) 4 0 ⟨#[]⟩)] ++ vs).map s6) = doneA V6.zero (a6 4 0 0 ⟨#[]⟩) := by
        rw [List.map_append]
        exact value_first (s := s6 (verL ⟨#[116]⟩ w.heap.size (mo + 1) 4 0 ⟨#[]⟩)) (Or.inr rfl) (fits_clear _ (Or.inr rfl)) HAll.out
      clear HAll HT HMO E1
      have C1 : Below w1.heap.size w1 w1 := Below.refl _ _
      refine Sp.wp_region_ord (fun W => Below w1.heap.size w1 W) (TL w1.heap.size) [Sp.Slot.is (.string ⟨#[116]⟩), Sp.Slot.is (.slice A m c), SlotRow2 w1.heap.size 2 5 (Or.inl rfl) vs, Sp.Slot.is (.agg #[.string ⟨#[116]⟩, .slice (some ⟨w.heap.size, 0, none⟩) 1 1, .int .i64 0, .int .i64 0, .int .i64 0, .float .f64 0, .int .i64 0, .string ⟨#[108, 97, 116, 101, 115, 116]⟩]), SlotOne w1.heap.size (verL ⟨#[116]⟩ w.heap.size (mo + 1) 0 0 ⟨#[108, 97, 116, 101, 115, 116]⟩), SlotRow2 w1.heap.size 5 6 (Or.inr rfl) (vs ++ [(verL ⟨#[116]⟩ w.heap.size (mo + 1) 0 0 ⟨#[108, 97, 116, 101, 115, 116]⟩)]), SlotV2 (doneA V6.zero (a6 0 0 0 ⟨#[108, 97, 116, 101, 115, 116]⟩)), SlotNew w1.heap.size] 8 1 (by kernel_rfl) (fun _ _ _ h => h.1.size) (by kernel_rfl) (by kernel_rfl) (by kernel_rfl) rfl (by decide) C1.drew [(none, none), (none, none), (some 5, some 2), (none, none), (some 5, none), (some 6, some 5), (none, none), (none, none)] rfl (by kernel_rfl) (fun i hi => ?_) (fun a w3 J => ?_)
      · rcases i with _ | _ | _ | _ | _ | _ | _ | _ | i
        · refine Sp.ordOb_at (o := _) rfl rfl (fun a W hC hF hD => ?_)
          have g7 : a.tmps[7]? = some (.string ⟨#[116]⟩) := hF 7 _ (by kernel_rfl) rfl
          unfold Sp.frees
          go_simp
          exact ⟨hC, TL.of (Below.refl _ _) hC.size, rfl, fun h => by cases h⟩
        · refine Sp.ordOb_at (o := _) rfl rfl (fun a W hC hF hD => ?_)
          have g1 : a.tmps[1]? = some (.slice A m c) := hF 1 _ (by kernel_rfl) rfl
          unfold Sp.frees
          go_simp
          exact ⟨hC, TL.of (Below.refl _ _) hC.size, rfl, fun h => by cases h⟩
        · refine Sp.ordOb_at (o := _) rfl rfl (fun a W hC hF hD => ?_)
          have g96 : a.tmps[96]? = some (.slice A m c) := by
            obtain ⟨v, h1, h2⟩ := hD 1 96 (by kernel_rfl) (by kernel_rfl)
            rw [h1]
            exact congrArg some h2
          refine frees_append_versA W (.const (.slice none 0 0)) (.tmp 96) rfl (c := c) (B := w1.heap.size) (vs := []) rfl (VRow.nil W _ _) (by simp [Act.eval, g96]) (HI1.out.below hC) (by simp) HN.out hC.size ?_
          intro v1 W1 R1 gr
          have hb1 := VRow.grown (VRow.nil W W.heap.size 44) (Below.refl _ _) (Nat.le_refl _) gr
          rw [List.nil_append] at R1
          exact ⟨hC.trans (hb1.mono hC.size), TL.of hb1 hC.size, R1, fun h => by cases h⟩
        · refine Sp.ordOb_at (o := _) rfl rfl (fun a W hC hF hD => ?_)
          have g11 : a.tmps[11]? = some (.pointer (some ⟨w.heap.size + 1, 0, none⟩)) := hF 11 _ (by kernel_rfl) rfl
          obtain ⟨d0, d1, d2, d3, d4, d5, d6, d7⟩ := ver_cells (E2.below hC E2.lt)
          unfold Sp.frees
          go_simp
          exact ⟨hC, TL.of (Below.refl _ _) hC.size, rfl, fun h => by cases h⟩
        · refine Sp.ordOb_at (o := _) rfl rfl (fun a W hC hF hD => ?_)
          have g98 : a.tmps[98]? = some (.agg #[.string ⟨#[116]⟩, .slice (some ⟨w.heap.size, 0, none⟩) 1 1, .int .i64 0, .int .i64 0, .int .i64 0, .float .f64 0, .int .i64 0, .string ⟨#[108, 97, 116, 101, 115, 116]⟩]) := by
            obtain ⟨v, h1, h2⟩ := hD 3 98 (by kernel_rfl) (by kernel_rfl)
            rw [h1]
            exact congrArg some h2
          unfold Sp.frees
          go_simp
          exact ⟨hC.alloc hC.size _, TL.of ((Below.refl _ _).alloc (Nat.le_refl _) _) hC.size, ⟨_, rfl, Blk.new _ _ _⟩, fun h => by cases h⟩
        · refine Sp.ordOb_at (o := _) rfl rfl (fun a W hC hF hD => ?_)
          obtain ⟨v1, g97, R1⟩ := hD 2 97 (by kernel_rfl) (by kernel_rfl)
          obtain ⟨v2, g99, q, rfl, E⟩ := hD 4 99 (by kernel_rfl) (by kernel_rfl)
          have R1 : VRow W w1.heap.size 44 v1 vs := R1
          refine frees_append_versA W (.tmp 97) (.tmp 99) rfl (c := 1) (by simp [Act.eval, g97]) R1 (by simp [Act.eval, g99]) (vers_one E (HV.out.below hC)) HN5.out (by decide) hC.size ?_
          intro v' W' R2 gr
          obtain ⟨k1, k2⟩ := TL.row hC (Nat.le_refl _) R1 gr
          exact ⟨k1, k2, R2, fun h => by cases h⟩
        · refine Sp.ordOb_at (o := _) rfl rfl (fun a W hC hF hD => ?_)
          have g95 : a.tmps[95]? = some (.string ⟨#[116]⟩) := by
            obtain ⟨v, h1, h2⟩ := hD 0 95 (by kernel_rfl) (by kernel_rfl)
            rw [h1]
            exact congrArg some h2
          obtain ⟨v5, g100, R5⟩ := hD 5 100 (by kernel_rfl) (by kernel_rfl)
          have R5 : VRow W w1.heap.size 44 v5 (vs ++ [(verL ⟨#[116]⟩ w.heap.size (mo + 1) 0 0 ⟨#[108, 97, 116, 101, 115, 116]⟩)]) := R5
          obtain ⟨A2, c2, rfl, V2⟩ := vrow_back HI1.out R5 hC (HV.out.below hC)
          have CC := ovalue_any ⟨#[116]⟩ (by decide) A2 _ c2 _ W V2
          rw [VAL] at CC
          unfold Sp.frees
          go_simp
          refine ⟨rfl, CC.mono ?_⟩
          rintro e W2 ⟨⟨th, vn, vi, vt, rfl, hv, hx⟩, g⟩
          exact ⟨_, rfl, hC.trans (g.mono hC.size), TL.of g hC.size, th, vn, vi, vt, rfl, hv, hx⟩
        · refine Sp.ordOb_at (o := _) rfl rfl (fun a W hC hF hD => ?_)
          unfold Sp.frees
          go_simp
          exact ⟨hC.alloc hC.size _, TL.of ((Below.refl _ _).alloc (Nat.le_refl _) _) hC.size, ⟨_, rfl, hC.size, Blk.new _ _ _⟩, fun h => by cases h⟩
        · exact absurd hi (by omega)
      · obtain ⟨ys, hln, rfl, hC, hS, hap⟩ := J.all_ (by kernel_rfl) (ds := [some 95, some 96, some 97, some 98, some 99, some 100, some 101, some 12]) (by kernel_rfl)
        clear J
        obtain ⟨y0, ys, rfl⟩ := List.exists_cons_of_length_eq_add_one hln
        replace hln := Nat.succ.inj hln
        obtain ⟨y1, ys, rfl⟩ := List.exists_cons_of_length_eq_add_one hln
        replace hln := Nat.succ.inj hln
        obtain ⟨y2, ys, rfl⟩ := List.exists_cons_of_length_eq_add_one hln
        replace hln := Nat.succ.inj hln
        obtain ⟨y3, ys, rfl⟩ := List.exists_cons_of_length_eq_add_one hln
        replace hln := Nat.succ.inj hln
        obtain ⟨y4, ys, rfl⟩ := List.exists_cons_of_length_eq_add_one hln
        replace hln := Nat.succ.inj hln
        obtain ⟨y5, ys, rfl⟩ := List.exists_cons_of_length_eq_add_one hln
        replace hln := Nat.succ.inj hln
        obtain ⟨y6, ys, rfl⟩ := List.exists_cons_of_length_eq_add_one hln
        replace hln := Nat.succ.inj hln
        obtain ⟨y7, ys, rfl⟩ := List.exists_cons_of_length_eq_add_one hln
        replace hln := Nat.succ.inj hln
        obtain rfl := List.eq_nil_of_length_eq_zero hln
        have q0 : y0 = .string ⟨#[116]⟩ := hS 0 (by decide) rfl
        have q1 : y1 = .slice A m c := hS 1 (by decide) rfl
        have q3 : y3 = .agg #[.string ⟨#[116]⟩, .slice (some ⟨w.heap.size, 0, none⟩) 1 1, .int .i64 0, .int .i64 0, .int .i64 0, .float .f64 0, .int .i64 0, .string ⟨#[108, 97, 116, 101, 115, 116]⟩] := hS 3 (by decide) rfl
        obtain ⟨th, vn, vi, vt, q6, IVx, hx⟩ := hS 6 (by decide) rfl
        have q6 : y6 = .agg #[.bool th, .float .f64 vn, .int .i64 vi, .string vt] := q6
        obtain ⟨q, q7, hq, EQ⟩ := hS 7 (by decide) rfl
        have q7 : y7 = .pointer (some ⟨q, 0, none⟩) := q7
        subst q0 q1 q3 q6 q7
        clear hS hap
        simp only [fillT, List.setIfInBounds_toArray, List.set_cons_zero, List.set_cons_succ]
        obtain ⟨z0, z1, z2, z3⟩ := val_cells EQ
        have f0 := EQ.frozen 0
        have f1 := EQ.frozen 1
        have f2 := EQ.frozen 2
        have f3 := EQ.frozen 3
        refine wpAny_ready (rs := [8]) (by kernel_rfl) (by simp) ?_
        refine AllReady.cons rfl (fun K hK => ?_) AllReady.nil
        go_simp
        refine hK _ _ ?_
        clear hK K
        refine wpAny_done (by kernel_rfl) ?_ _
        simp only [Exit.then]
        have E4 := blk_set4 EQ (.bool th) (.float .f64 vn) (.int .i64 vi) (.string vt)
        have hb4 := below_set4 hC hq (.bool th) (.float .f64 vn) (.int .i64 vi) (.string vt)
        clear EQ hC z0 z1 z2 z3 f0 f1 f2 f3
        generalize ((((w3.setCell ⟨q, 0, none⟩ (.bool th)).setCell ⟨q, 1, none⟩ (.float .f64 vn)).setCell ⟨q, 2, none⟩ (.int .i64 vi)).setCell ⟨q, 3, none⟩ (.string vt)) = w4 at E4 hb4 ⊢
        obtain ⟨d0, d1, d2, d3, d4, d5, d6, d7⟩ := ver_cells (E2.below hb4 E2.lt)
        go_upto_region 24 with fail
        have E5 := Blk.new w4 44 #[.string ⟨#[116]⟩, .slice (some ⟨w.heap.size, 0, none⟩) 1 1, .int .i64 0, .int .i64 0, .int .i64 4, .float .f64 0, .int .i64 0, .string ⟨#[]⟩]
        have hb5 := (Below.refl w4.heap.size w4).alloc (Nat.le_refl _) (.cells #[.string ⟨#[116]⟩, .slice (some ⟨w.heap.size, 0, none⟩) 1 1, .int .i64 0, .int .i64 0, .int .i64 4, .float .f64 0, .int .i64 0, .string ⟨#[]⟩] 44)
        clear d0 d1 d2 d3 d4 d5 d6 d7
        generalize w4.alloc (.cells #[.string ⟨#[116]⟩, .slice (some ⟨w.heap.size, 0, none⟩) 1 1, .int .i64 0, .int .i64 0, .int .i64 4, .float .f64 0, .int .i64 0, .string ⟨#[]⟩] 44) = w5 at E5 hb5 ⊢
        obtain ⟨d0, d1, d2, d3, d4, d5, d6, d7⟩ := ver_cells (p := w4.heap.size) (key := ⟨#[116]⟩) (A := some ⟨w.heap.size, 0, none⟩) (n := 1) (c := 1) (o := 0) (x := 0) (kd := 4) (nu := 0) (it := 0) (tx := ⟨#[]⟩) E5
        have hb15 := Lib.hid (hb4.trans (hb5.mono hb4.size))
        have HI5 := Lib.hid (HI1.out.below hb15.out)
        have HE4 := Lib.hid (E4.below hb5 E4.lt)
        clear E4 hb5 E5
        go_wp2_with (at_builtin; refine wpList_append_versA _ rfl _ _ rfl (B := w5.heap.size) (vs := [(verL ⟨#[116]⟩ w.heap.size (mo + 1) 4 0 ⟨#[]⟩)]) rfl (vrow_one (Blk.new w5 _ _) (Nat.le_refl _)) rfl (HI5.out.below ((Below.refl _ w5).alloc (Nat.le_refl _) _)) (by simp) HN.out (by simp) ?_; intro v6 w6 R6 g6; have hb6 := Lib.hid (VRow.grown (B := w5.heap.size) (vs := [(verL ⟨#[116]⟩ w.heap.size (mo + 1) 4 0 ⟨#[]⟩)]) (vrow_one (Blk.new w5 _ _) (Nat.le_refl _)) ((Below.refl _ w5).alloc (Nat.le_refl _) _) (by simp) g6); obtain ⟨A6, c6, rfl, V6⟩ := vrow_front HI5.out R6 hb6.out (HVC.out.below (hb15.out.trans (hb6.out.mono hb15.out.size))); clear g6 R6)
        have CC := ovalue_any ⟨#[116]⟩ (by decide) A6 _ c6 _ w6 V6
        rw [VAL2] at CC
        refine CC.mono ?_
        rintro e w7 ⟨⟨tz, vn7, vi7, vt7, rfl, _, hx7⟩, g7⟩
        clear CC
        simp only [valV]
        have hb7 := Lib.hid (hb6.out.trans (g7.mono hb6.out.size))
        clear g7 V6
        go_upto_region 25 with fail
        have E8 := Blk.new w7 26 #[.bool tz, .float .f64 vn7, .int .i64 vi7, .string vt7]
        have hb8 := hb7.out.alloc hb7.out.size (.cells #[.bool tz, .float .f64 vn7, .int .i64 vi7, .string vt7] 26)
        generalize w7.alloc (.cells #[.bool tz, .float .f64 vn7, .int .i64 vi7, .string vt7] 26) = w8 at E8 hb8 ⊢
        have E9 := HE4.out.below hb8 HE4.out.lt
        have hbw := hb1.trans ((hb15.out.trans (hb8.mono hb15.out.size)).mono hb1.size)
        clear hb6 hb7 hb8 hb15 HE4 d0 d1 d2 d3 d4 d5 d6 d7
        have t1 : th = true := congrArg V6.th hx
        have t2 : tz = false := congrArg V6.th hx7
        subst t1 t2
        have t3 : vt = ⟨#[108, 97, 116, 101, 115, 116]⟩ := text_is (congrArg V6.tx hx)
        subst t3
        go_wp2_with fail
        refine (oalive_any _ (hL.on hbw)).mono ?_
        rintro e w9 ⟨rfl, g9⟩
        replace E8 := E8.below g9 E8.lt
        replace E9 := E9.below g9 E9.lt
        obtain ⟨k0, k1, k2, k3⟩ := val_cells E8
        obtain ⟨l0, l1, l2, l3⟩ := val_cells E9
        have hb9 := hbw.trans (g9.mono hbw.size)
        clear g9 hbw
        go_wp2_with fail
        go_ret
        exact ⟨rfl, hb9⟩
theorem lawOpLatest (text : Bool) (A : Option Addr) (n c : Nat) (vs : List VerR) (f : Nat) (hf : (Lit.float .f64 f).wf = true) (w : World) (I : VersIn w A n vs) (hL : LaidO w) :
    Calls Tryd.prog 5 #[.bool text, .slice A n c, .float .f64 f] w fun e w' => e = .returned (.bool true) ∧ Below w.heap.size w w' := by
  by_cases hn : 40 < n
  · exact oplat_big text A n c f w hL hn I.max
  · cases text
    · exact oplat_f A n c vs f hf w I hL hn
    · exact oplat_t A n c vs f hf w I hL hn
end Go.Proofs.YthacdegaeokgnaaDoor
