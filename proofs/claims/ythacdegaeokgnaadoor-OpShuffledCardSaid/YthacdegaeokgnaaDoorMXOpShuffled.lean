/-
  OpShuffled: what a key has does not hang on the order of versions that have stamps of their own.
-/
import Derived.Test.YthacdegaeokgnaaDoorMXShuf1
import Derived.Test.YthacdegaeokgnaaDoorM8
import Derived.Test.YthacdegaeokgnaaDoorM6
import Derived.Test.YthacdegaeokgnaaDoorMXOpTexts
import Derived.Deep.Cut
namespace Go.Proofs.YthacdegaeokgnaaDoor
open Go.RowKit

/-- No two of the first m versions have one stamp. -/
def ApartN (vs : List VerR) (m : Nat) : Prop := ∀ i, i < m → ∀ k, k < i → apartS (s6 (vs.getD i VerR.zero)) (s6 (vs.getD k VerR.zero))
theorem apart_pairs {vs : List VerR} (h : ApartN vs vs.length) : (vs.map s6).Pairwise apartS := by
  rw [List.pairwise_map, List.pairwise_iff_getElem]
  intro i j hi hj hij
  have := h j hj i hij
  rw [getd_at hj, getd_at hi] at this
  exact fun e => this ⟨e.1.symm, e.2.1.symm, e.2.2.symm⟩
theorem apart_next {vs : List VerR} {m : Nat} (h : ApartN vs m) (hm : ∀ k, k < m → apartS (s6 (vs.getD m VerR.zero)) (s6 (vs.getD k VerR.zero))) : ApartN vs (m + 1) := by
  intro i hi k hk
  by_cases e : i = m
  · subst e; exact hm k hk
  · exact h i (by omega) k hk
theorem rev_step (vs : List VerR) (j : Nat) (h : j < vs.length) : (vs.drop (vs.length - (j + 1))).reverse = (vs.drop (vs.length - j)).reverse ++ [vs.getD (vs.length - (j + 1)) VerR.zero] := by
  have e : vs.length - (j + 1) < vs.length := by omega
  rw [List.drop_eq_getElem_cons e, List.reverse_cons, getd_at e]
  congr 2
  congr 1
  omega
theorem tmod_at (z : Int) (n : Nat) (hn : 0 < n) : ∃ K : Nat, K < n ∧ ((0 ≤ z.tmod (n : Int) ∧ z.tmod (n : Int) = (K : Int)) ∨ (z.tmod (n : Int) < 0 ∧ z.tmod (n : Int) + (n : Int) = (K : Int))) := by
  have h1 := Int.tmod_lt_of_pos z (b := (n : Int)) (by omega)
  have h2 : -(n : Int) < z.tmod (n : Int) := by
    have := Int.lt_tmod_of_pos z (b := (n : Int)) (by omega)
    omega
  by_cases h : 0 ≤ z.tmod (n : Int)
  · exact ⟨(z.tmod (n : Int)).toNat, by omega, Or.inl ⟨h, by omega⟩⟩
  · exact ⟨(z.tmod (n : Int) + (n : Int)).toNat, by omega, Or.inr ⟨by omega, by omega⟩⟩
/-- A row of versions of the call's own, in a slot. -/
def SlotRow (B : Nat) (vs : List VerR) : Slot (fun w w' => Below w.heap.size w w') := ⟨fun v w => VRow w B 44 v vs, fun _ _ _ h hT => VRow.below h hT (Nat.le_refl _), false⟩

set_option maxRecDepth 100000 in
set_option maxHeartbeats 1000000 in
theorem opshuf_big (key : ByteArray) (A : Option Addr) (n c : Nat) (z : Int) (w : World) (hL : LaidO w) (hn : 60 < n ∨ n = 0) (hmx : n ≤ 9223372036854775807) :
    Calls Tryd.prog 8 #[.string key, .slice A n c, .int .i64 z] w fun e w' => e = .returned (.bool true) ∧ Below w.heap.size w w' := by
  rcases hn with hn | hn
  · have e1 : (60 : Int) < (n : Int) := by omega
    go_enter Tryd.func8, Tryd.ntmps8
    go_wp2_with fail
    refine (oalive_any w hL).mono ?_
    rintro e w2 ⟨rfl, g2⟩
    go_wp2_with fail
    go_ret
    exact ⟨rfl, g2⟩
  · subst hn
    go_enter Tryd.func8, Tryd.ntmps8
    go_wp2_with fail
    refine (oalive_any w hL).mono ?_
    rintro e w2 ⟨rfl, g2⟩
    go_wp2_with fail
    go_ret
    exact ⟨rfl, g2⟩

set_option maxRecDepth 100000 in
set_option maxHeartbeats 8000000 in
theorem lawOpShuffled (key : ByteArray) (hk : key.size ≤ 140737488351232) (A : Option Addr) (n c : Nat) (vs : List VerR) (z : Int) (hz : (Lit.int .i64 z).wf = true) (w : World) (I : VersIn w A n vs) (hcap : n ≤ c) (hL : LaidO w) :
    Calls Tryd.prog 8 #[.string key, .slice A n c, .int .i64 z] w fun e w' => e = .returned (.bool true) ∧ Below w.heap.size w w' := by
  have hmx := I.max
  replace hk : key.size ≤ 9223372036854775807 := Nat.le_trans hk (by decide)
  by_cases hn : 60 < n ∨ n = 0
  · exact opshuf_big key A n c z w hL hn hmx
  have hn0 : n ≤ 60 := by omega
  have hn1 : 0 < n := by omega
  clear hn
  have hlen := Lib.hid I.len
  have I := Lib.hid I
  have HZ := Lib.hid hz
  have e1 : ¬ (60 : Int) < (n : Int) := by omega
  have e2 : ((n : Int) == 0) = false := by rw [beq_eq_false_iff_ne]; omega
  obtain ⟨b, off, rfl, hbl, hcells⟩ := I.out.some hn1
  have HC := Lib.hid hcells
  clear hz hcells
  have TM := fun (r : VerR) (W : World) (V : r.in_ W) => Lib.hid (wtimez_any r.key r.A r.n r.c r.o r.x r.kd r.nu r.it r.tx r.xs W V)
  simp only [verV] at TM
  have CK : ∀ (W : World), Below w.heap.size w W → ∀ (k : Nat) (r : VerR), k < n → vs.getD k VerR.zero = r → _ := fun W hW k r hk hr => VersIn.at_ ((I.out.below hW).some hn1 |> fun ⟨b', off', hA, _, hc⟩ => by cases hA; exact hc) hk hr
  go_enter Tryd.func8, Tryd.ntmps8
  go_wp2_with fail
  go_loopw [7] (fun i wr => ∃ m : Nat, m ≤ n ∧ i = .int .i64 (m : Int) ∧ Below w.heap.size w wr ∧ Hid (ApartN vs m)) (fun i _ => n - (intOf i).toNat)
  case atStart => exact ⟨0, by omega, rfl, Below.refl _ _, fun i hi => absurd hi (by omega)⟩
  case round =>
    obtain ⟨m, hm, rfl, hbm, HAp⟩ := hrel
    by_cases hml : m < n
    · obtain ⟨rm, hrm⟩ : ∃ r, vs.getD m VerR.zero = r := ⟨_, rfl⟩
      have HRm := Lib.hid hrm
      have RM : Hid (rm.in_ w) := by rw [← hrm]; exact I.out.each m hml
      have hml' : (m : Int) < (n : Int) := by omega
      clear hrm
      go_wp2_with fail
      go_loopw [8] (fun i wr => ∃ q : Nat, q ≤ m ∧ i = .int .i64 (q : Int) ∧ Below w.heap.size w wr ∧ Hid (∀ k, k < q → apartS (s6 rm) (s6 (vs.getD k VerR.zero)))) (fun i _ => m - (intOf i).toNat)
      case atStart => exact ⟨0, by omega, rfl, hbm, fun k hk => absurd hk (by omega)⟩
      case round =>
        obtain ⟨q, hq, rfl, hbq, HQ⟩ := hrel
        by_cases hql : q < m
        · obtain ⟨rq, hrq⟩ : ∃ r, vs.getD q VerR.zero = r := ⟨_, rfl⟩
          have RQ : Hid (rq.in_ w) := by rw [← hrq]; exact I.out.each q (by omega)
          have hql' : (q : Int) < (m : Int) := by omega
          have hqn' : (q : Int) < (n : Int) := by omega
          have hqn : q < n := by omega
          have TA : ∀ W, Below w.heap.size w W → Hid _ := fun W hW => ((TM rm W (RM.out.below hW)).out.mono fun e w' ⟨he, hb⟩ => (⟨he, hW.trans (hb.mono hW.size)⟩ : _ ∧ Below w.heap.size w w'))
          have TB : ∀ W, Below w.heap.size w W → Hid _ := fun W hW => ((TM rq W (RQ.out.below hW)).out.mono fun e w' ⟨he, hb⟩ => (⟨he, hW.trans (hb.mono hW.size)⟩ : _ ∧ Below w.heap.size w w'))
          have CA := fun W hW => CK W hW m rm hml HRm.out
          have CB := fun W hW => CK W hW q rq hqn hrq
          have HRq := Lib.hid hrq
          obtain ⟨x1, h1⟩ : ∃ x, (timeZ rm.xs rm.o == timeZ rq.xs rq.o) = x := ⟨_, rfl⟩
          obtain ⟨x2, h2⟩ : ∃ x, (rm.o == rq.o) = x := ⟨_, rfl⟩
          obtain ⟨x3, h3⟩ : ∃ x, (rm.x == rq.x) = x := ⟨_, rfl⟩
          have HN : Hid (x1 = false ∨ x2 = false ∨ x3 = false → ∀ k, k < q + 1 → apartS (s6 rm) (s6 (vs.getD k VerR.zero))) := by
            intro hx k hkq
            by_cases e : k = q
            · subst e
              rw [hrq]
              rintro ⟨a1, a2, a3⟩
              have a1 : timeZ rm.xs rm.o = timeZ rq.xs rq.o := a1
              have a2 : rm.o = rq.o := a2
              have a3 : rm.x = rq.x := a3
              rw [← h1, ← h2, ← h3] at hx
              rcases hx with hx | hx | hx
              · rw [beq_eq_false_iff_ne] at hx; exact hx a1
              · rw [beq_eq_false_iff_ne] at hx; exact hx a2
              · rw [beq_eq_false_iff_ne] at hx; exact hx a3
            · exact HQ.out k (by omega)
          generalize timeZ rm.xs rm.o = tm at *
          generalize timeZ rq.xs rq.o = tq at *
          clear hrq TM CK HQ

          cases x1
          · go_wp2_with fail
            refine wp_region_wq (fun W => Below w.heap.size w W) (by kernel_rfl) (by kernel_rfl) hbq.drew ?_
            repeat' (first
              | (refine wq_skip (by rfl) ?_; try simp only [Act.put, List.setIfInBounds_toArray, List.set_cons_zero, List.set_cons_succ])
              | (refine wq_take (by rfl) ?_ (fun W hW => ?_) ?_
                 rotate_left
                 focus
                   obtain ⟨d0, d1, d2, d3, d4, d5, d6, d7⟩ := CA W hW
                   obtain ⟨p0, p1, p2, p3, p4, p5, p6, p7⟩ := CB W hW
                   go_simp
                   first
                     | done
                     | with_reducible rfl
                     | (go_at_call_of 32 (Value.string rm.tx); exact (TA W hW).out)
                     | (go_at_call_of 32 (Value.string rq.tx); exact (TB W hW).out)
                 try simp only [Act.put, List.setIfInBounds_toArray, List.set_cons_zero, List.set_cons_succ]))
            refine wq_nil (fun w5 hW => ?_)
            clear TA TB CA CB
            simp only [Exit.then]
            go_wp2_with fail
            go_roundw
            case rel => exact ⟨q + 1, by omega, by go_num, hW, HN.out (by simp)⟩
            case measure => simp [intOf]; omega
          · cases x2
            · go_wp2_with fail
              refine wp_region_wq (fun W => Below w.heap.size w W) (by kernel_rfl) (by kernel_rfl) hbq.drew ?_
              repeat' (first
                | (refine wq_skip (by rfl) ?_; try simp only [Act.put, List.setIfInBounds_toArray, List.set_cons_zero, List.set_cons_succ])
                | (refine wq_take (by rfl) ?_ (fun W hW => ?_) ?_
                   rotate_left
                   focus
                     obtain ⟨d0, d1, d2, d3, d4, d5, d6, d7⟩ := CA W hW
                     obtain ⟨p0, p1, p2, p3, p4, p5, p6, p7⟩ := CB W hW
                     go_simp
                     first
                       | done
                       | with_reducible rfl
                       | (go_at_call_of 32 (Value.string rm.tx); exact (TA W hW).out)
                       | (go_at_call_of 32 (Value.string rq.tx); exact (TB W hW).out)
                   try simp only [Act.put, List.setIfInBounds_toArray, List.set_cons_zero, List.set_cons_succ]))
              refine wq_nil (fun w5 hW => ?_)
              clear TA TB CA CB
              simp only [Exit.then]
              go_wp2_with fail
              go_roundw
              case rel => exact ⟨q + 1, by omega, by go_num, hW, HN.out (by simp)⟩
              case measure => simp [intOf]; omega
            · cases x3
              · go_wp2_with fail
                refine wp_region_wq (fun W => Below w.heap.size w W) (by kernel_rfl) (by kernel_rfl) hbq.drew ?_
                repeat' (first
                  | (refine wq_skip (by rfl) ?_; try simp only [Act.put, List.setIfInBounds_toArray, List.set_cons_zero, List.set_cons_succ])
                  | (refine wq_take (by rfl) ?_ (fun W hW => ?_) ?_
                     rotate_left
                     focus
                       obtain ⟨d0, d1, d2, d3, d4, d5, d6, d7⟩ := CA W hW
                       obtain ⟨p0, p1, p2, p3, p4, p5, p6, p7⟩ := CB W hW
                       go_simp
                       first
                         | done
                         | with_reducible rfl
                         | (go_at_call_of 32 (Value.string rm.tx); exact (TA W hW).out)
                         | (go_at_call_of 32 (Value.string rq.tx); exact (TB W hW).out)
                     try simp only [Act.put, List.setIfInBounds_toArray, List.set_cons_zero, List.set_cons_succ]))
                refine wq_nil (fun w5 hW => ?_)
                clear TA TB CA CB
                simp only [Exit.then]
                go_wp2_with fail
                go_roundw
                case rel => exact ⟨q + 1, by omega, by go_num, hW, HN.out (by simp)⟩
                case measure => simp [intOf]; omega
              · go_wp2_with fail
                refine wp_region_wq (fun W => Below w.heap.size w W) (by kernel_rfl) (by kernel_rfl) hbq.drew ?_
                repeat' (first
                  | (refine wq_skip (by rfl) ?_; try simp only [Act.put, List.setIfInBounds_toArray, List.set_cons_zero, List.set_cons_succ])
                  | (refine wq_take (by rfl) ?_ (fun W hW => ?_) ?_
                     rotate_left
                     focus
                       obtain ⟨d0, d1, d2, d3, d4, d5, d6, d7⟩ := CA W hW
                       obtain ⟨p0, p1, p2, p3, p4, p5, p6, p7⟩ := CB W hW
                       go_simp
                       first
                         | done
                         | with_reducible rfl
                         | (go_at_call_of 32 (Value.string rm.tx); exact (TA W hW).out)
                         | (go_at_call_of 32 (Value.string rq.tx); exact (TB W hW).out)
                     try simp only [Act.put, List.setIfInBounds_toArray, List.set_cons_zero, List.set_cons_succ]))
                refine wq_nil (fun w5 hW => ?_)
                clear TA TB CA CB
                simp only [Exit.then]
                go_wp2_with fail
                refine (oalive_any _ (hL.on hW)).mono ?_
                rintro e w9 ⟨rfl, g9⟩
                go_wp2_with fail
                go_ret
                exact ⟨rfl, (hW).trans (g9.mono (hW).size)⟩
        · obtain rfl : q = m := by omega
          have HAp2 := Lib.hid (apart_next HAp.out (by rw [HRm.out]; exact HQ.out))
          obtain ⟨d0, d1, d2, d3, d4, d5, d6, d7⟩ := CK wr hbq q rm hml HRm.out
          clear TM CK HQ HAp
          by_cases g1 : (2000 : Int) < (rm.tx.size : Int)
          · go_wp2_with fail
            refine (oalive_any _ (hL.on hbq)).mono ?_
            rintro e w9 ⟨rfl, g9⟩
            go_wp2_with fail
            go_ret
            exact ⟨rfl, (hbq).trans (g9.mono (hbq).size)⟩
          · by_cases g2 : (8 : Int) < (rm.n : Int)
            · go_wp2_with fail
              refine (oalive_any _ (hL.on hbq)).mono ?_
              rintro e w9 ⟨rfl, g9⟩
              go_wp2_with fail
              go_ret
              exact ⟨rfl, (hbq).trans (g9.mono (hbq).size)⟩
            · go_wp2_with fail
              go_roundw
              case rel => exact ⟨q + 1, by omega, by go_num, hbq, HAp2⟩
              case measure => simp [intOf]; omega
    · obtain rfl : m = n := by omega
      have HP : Hid ((vs.map s6).Pairwise apartS) := apart_pairs (by rw [hlen.out]; exact HAp.out)
      clear HAp TM
      obtain ⟨K, hK, hKK⟩ := tmod_at z m hn1
      have hz' : -9223372036854775808 ≤ z ∧ z ≤ 9223372036854775807 := by have := HZ.out; simpa [Lit.wf, IntKind.min, IntKind.max, IntKind.signed, IntKind.bits] using this
      have hm0 : ((m : Int) == 0) = false := by rw [beq_eq_false_iff_ne]; omega
      have hKm : (K : Int) < (m : Int) := by omega
      have hKm2 : (K : Int) ≤ (m : Int) := by omega
      have hKN : K ≤ m := by omega
      have hK0 : (0 : Int) ≤ (K : Int) := by omega
      have hKc : K ≤ c := by omega
      have hKc' : (K : Int) ≤ (c : Int) := by omega
      have hck : ¬ c = K := by omega
      have hK1 : ¬ (K : Int) < 0 := by omega
      have w1 : IntKind.i64.wrap (K : Int) = (K : Int) := IntWalk.i64_in _ (by omega)
      have w2 : wrap64 (K : Int) = (K : Int) := IntWalk.wrap64_in _ (by omega)
      have w3 : IntKind.i64.wrap ((K : Int) - (m : Int)) = (K : Int) - (m : Int) := IntWalk.i64_in _ (by omega)
      have w4 : wrap64 ((K : Int) - (m : Int)) = (K : Int) - (m : Int) := IntWalk.wrap64_in _ (by omega)
      have hneg : (K : Int) - (m : Int) < 0 := by omega
      have hH : Hid (z.tmod (m : Int) = (K : Int) ∨ z.tmod (m : Int) = (K : Int) - (m : Int)) := by
        rcases hKK with ⟨_, h⟩ | ⟨_, h⟩
        · exact Or.inl h
        · exact Or.inr (by omega)
      clear hKK hz' HZ
      rcases hH.out with ht | ht
      all_goals
        clear hH
        go_upto_region 16 with fail
        clear ht hneg w3 w4

        refine wp_region_ord (fun W => Below w.heap.size w W) (fun w w' => Below w.heap.size w w') [Slot.is (.slice (some ⟨b, off, none⟩) m c), Slot.is (.int .i64 (K : Int)), Slot.is (.slice (some ⟨b, off + K * 8, none⟩) (m - K) (c - K)), SlotRow w.heap.size (vs.drop K), Slot.is (.slice (some ⟨b, off, none⟩) m c), Slot.is (.int .i64 (K : Int)), Slot.is (.slice (some ⟨b, off, none⟩) K c)] 7 2 (by kernel_rfl) (fun _ _ h => Below.size h) (by kernel_rfl) (by kernel_rfl) (by kernel_rfl) rfl (by decide) hbm.drew (fun i hi => ?_) (fun a w3 J => ?_)
        · rcases i with _ | _ | _ | _ | _ | _ | _ | i
          · refine ordOb_at (o := _) rfl rfl (fun a W hC hF hD => ?_)
            have g1 : a.tmps[1]? = some (.slice (some ⟨b, off, none⟩) m c) := hF 1 _ (by kernel_rfl) rfl
            unfold frees
            go_simp
            exact ⟨hC, Below.refl _ _, rfl, fun h => by cases h⟩
          · refine ordOb_at (o := _) rfl rfl (fun a W hC hF hD => ?_)
            have g9 : a.tmps[9]? = some (.int .i64 (K : Int)) := hF 9 _ (by kernel_rfl) rfl
            unfold frees
            go_simp
            exact ⟨hC, Below.refl _ _, rfl, fun h => by cases h⟩
          · refine ordOb_at (o := _) rfl rfl (fun a W hC hF hD => ?_)
            have g100 : a.tmps[100]? = some (.slice (some ⟨b, off, none⟩) m c) := by
              obtain ⟨v, h1, h2⟩ := hD 0 100 (by kernel_rfl) (by kernel_rfl)
              rw [h1]
              exact congrArg some h2
            have g101 : a.tmps[101]? = some (.int .i64 (K : Int)) := by
              obtain ⟨v, h1, h2⟩ := hD 1 101 (by kernel_rfl) (by kernel_rfl)
              rw [h1]
              exact congrArg some h2
            unfold frees
            go_simp
            exact ⟨hC, Below.refl _ _, rfl, fun h => by cases h⟩
          · refine ordOb_at (o := _) rfl rfl (fun a W hC hF hD => ?_)
            have g102 : a.tmps[102]? = some (.slice (some ⟨b, off + K * 8, none⟩) (m - K) (c - K)) := by
              obtain ⟨v, h1, h2⟩ := hD 2 102 (by kernel_rfl) (by kernel_rfl)
              rw [h1]
              exact congrArg some h2
            have hcW : ∀ j, j < m → ∀ k, k < 8 → W.cell? ⟨b, off + j * 8 + k, none⟩ = (vs.getD j VerR.zero).cells[k]? := by obtain ⟨b2, off2, hA, _, hc⟩ := (I.out.below hC).some hn1; cases hA; exact hc
            refine frees_append_vers W (.const (.slice none 0 0)) (.tmp 102) rfl (B := W.heap.size) (vs := []) (us := vs.drop K) rfl (VRow.nil W _ _) b (off + K * 8) (m - K) (c - K) (by simp [Act.eval, g102]) (by rw [List.length_drop, hlen.out]) (vers_drop hlen.out hcW K) (by simp) (by omega) (Nat.le_refl _) ?_
            intro v1 W1 R1 gr
            have hb1 := VRow.grown (VRow.nil W W.heap.size 44) (Below.refl _ _) (Nat.le_refl _) gr
            rw [List.nil_append] at R1
            exact ⟨hC.trans (hb1.mono hC.size), hb1, ⟨R1.1, by rcases R1.2 with h | ⟨g, cap, cur, h1, h2, h3⟩; exact Or.inl h; exact Or.inr ⟨g, cap, cur, h1, Nat.le_trans hC.size h2, h3⟩⟩, fun h => by cases h⟩
          · refine ordOb_at (o := _) rfl rfl (fun a W hC hF hD => ?_)
            have g1 : a.tmps[1]? = some (.slice (some ⟨b, off, none⟩) m c) := hF 1 _ (by kernel_rfl) rfl
            unfold frees
            go_simp
            exact ⟨hC, Below.refl _ _, rfl, fun h => by cases h⟩
          · refine ordOb_at (o := _) rfl rfl (fun a W hC hF hD => ?_)
            have g9 : a.tmps[9]? = some (.int .i64 (K : Int)) := hF 9 _ (by kernel_rfl) rfl
            unfold frees
            go_simp
            exact ⟨hC, Below.refl _ _, rfl, fun h => by cases h⟩
          · refine ordOb_at (o := _) rfl rfl (fun a W hC hF hD => ?_)
            have g104 : a.tmps[104]? = some (.slice (some ⟨b, off, none⟩) m c) := by
              obtain ⟨v, h1, h2⟩ := hD 4 104 (by kernel_rfl) (by kernel_rfl)
              rw [h1]
              exact congrArg some h2
            have g105 : a.tmps[105]? = some (.int .i64 (K : Int)) := by
              obtain ⟨v, h1, h2⟩ := hD 5 105 (by kernel_rfl) (by kernel_rfl)
              rw [h1]
              exact congrArg some h2
            unfold frees
            go_simp
            exact ⟨hC, Below.refl _ _, rfl, fun h => by cases h⟩
          · exact absurd hi (by omega)
        · obtain ⟨ys, hln, rfl, hC, hS, hap⟩ := J.all_ (by kernel_rfl) (ds := [some 100, some 101, some 102, some 103, some 104, some 105, some 106]) (by kernel_rfl)
          clear J
          obtain ⟨y0, ys, rfl⟩ := List.exists_cons_of_length_eq_add_one hln
          replace hln := Nat.succ.inj hln
          obtain ⟨y1, ys, rfl⟩ := List.exists_cons_of_length_eq_add_one hln
          replace hln := Nat.succ.inj hln
          obtain ⟨y2, ys, rfl⟩ := List.exists_cons_of_length_eq_add_one hln
          replace hln := Nat.succ.inj hln
          obtain ⟨y3, ys, rfl⟩ := List.exists_cons_of_length_eq_add_one hln
          replace hln := Nat.succ.inj hln
          obtain ⟨y4, ys, rfl⟩ := List.exists_cons_of_length_eq_add_one hln
          replace hln := Nat.succ.inj hln
          obtain ⟨y5, ys, rfl⟩ := List.exists_cons_of_length_eq_add_one hln
          replace hln := Nat.succ.inj hln
          obtain ⟨y6, ys, rfl⟩ := List.exists_cons_of_length_eq_add_one hln
          replace hln := Nat.succ.inj hln
          obtain rfl := List.eq_nil_of_length_eq_zero hln
          have q0 : y0 = .slice (some ⟨b, off, none⟩) m c := hS 0 (by decide)
          have q1 : y1 = .int .i64 (K : Int) := hS 1 (by decide)
          have q2 : y2 = .slice (some ⟨b, off + K * 8, none⟩) (m - K) (c - K) := hS 2 (by decide)
          have q4 : y4 = .slice (some ⟨b, off, none⟩) m c := hS 4 (by decide)
          have q5 : y5 = .int .i64 (K : Int) := hS 5 (by decide)
          have q6 : y6 = .slice (some ⟨b, off, none⟩) K c := hS 6 (by decide)
          have R3 : VRow w3 w.heap.size 44 y3 (vs.drop K) := hS 3 (by decide)
          subst q0 q1 q2 q4 q5 q6
          clear hS hap
          simp only [fillT, List.setIfInBounds_toArray, List.set_cons_zero, List.set_cons_succ]
          have hcW : ∀ j, j < m → ∀ k, k < 8 → w3.cell? ⟨b, off + j * 8 + k, none⟩ = (vs.getD j VerR.zero).cells[k]? := by obtain ⟨b2, off2, hA, _, hc⟩ := (I.out.below hC).some hn1; cases hA; exact hc
          refine wpAny_ready (rs := [7]) (by kernel_rfl) (by simp) ?_
          refine AllReady.cons rfl (fun KK hKK => ?_) AllReady.nil
          refine wp_append_vers w3 (.tmp 103) (.tmp 106) rfl (B := w.heap.size) rfl R3 b off K c rfl (us := vs.take K) (by rw [List.length_take, hlen.out]; omega) (vers_take hcW K hKN) (by rw [List.length_drop, hlen.out]; omega) (by omega) hC.size ?_
          intro v4 w4 R4 gr4
          refine hKK _ _ ?_
          clear hKK KK
          have hb4 := Lib.hid (VRow.grown R3 hC hC.size gr4)
          clear hC R3 gr4 hcW
          obtain ⟨A2, c2, rfl, TV⟩ := vrow_all I.out R4 hb4.out (fun r hr => by rcases List.mem_append.1 hr with h | h; exact List.mem_of_mem_drop h; exact List.mem_of_mem_take h)
          have hl2 : (vs.drop K ++ vs.take K).length = m := by rw [List.length_append, List.length_drop, List.length_take, hlen.out]; omega
          rw [hl2] at TV
          rw [hl2]
          have TV := Lib.hid TV
          clear R4
          refine wpAny_ready (rs := [8]) (by kernel_rfl) (by simp) ?_
          refine AllReady.cons rfl (fun KK hKK => ?_) AllReady.nil
          go_simp
          refine hKK _ _ ?_
          clear hKK KK
          refine wpAny_done (by kernel_rfl) ?_ _
          simp only [Exit.then]
          go_wp2_with fail
          have hw4 : w.heap.size ≤ w4.heap.size := hb4.out.size
          go_loopw [11, 12] (fun v i wx => ∃ j : Nat, j ≤ m ∧ i = .int .i64 ((m : Int) - 1 - (j : Int)) ∧ VRow wx w4.heap.size 44 v ((vs.drop (m - j)).reverse) ∧ Below w4.heap.size w4 wx) (fun _ i _ => (intOf i + 1).toNat)
          case atStart => exact ⟨0, by omega, by simp, by rw [List.drop_eq_nil_of_le (by rw [hlen.out]; omega)]; exact VRow.nil _ _ _, Below.refl _ _⟩
          case round =>
            obtain ⟨j, hj, rfl, Rj, hbj⟩ := hrel
            by_cases hjm : j < m
            · obtain ⟨x, hx⟩ : ∃ x : Nat, m - (j + 1) = x := ⟨_, rfl⟩
              have hxm : x < m := by omega
              have hxi : (m : Int) - 1 - (j : Int) = (x : Int) := by omega
              rw [hxi]
              obtain ⟨r, hr⟩ : ∃ r, vs.getD x VerR.zero = r := ⟨_, rfl⟩
              have hbw := hb4.out.trans (hbj.mono hw4)
              obtain ⟨d0, d1, d2, d3, d4, d5, d6, d7⟩ := CK _ hbw x r hxm hr
              have hst2 := rev_step vs j (by rw [hlen.out]; exact hjm)
              rw [hlen.out, hx, hr] at hst2
              have Hst := Lib.hid hst2
              have hrl : ((vs.drop (m - j)).reverse).length ≤ 100000 := by rw [List.length_reverse, List.length_drop, hlen.out]; omega
              have Hrl := Lib.hid hrl
              have hxm' : (x : Int) < (m : Int) := by omega
              have hx0 : (0 : Int) ≤ (x : Int) := by omega
              have RJ := Lib.hid Rj
              have HBJ := Lib.hid hbj
              have y1 : IntKind.i64.wrap ((x : Int) - 1) = (x : Int) - 1 := IntWalk.i64_in _ (by omega)
              have y2 : wrap64 ((x : Int) - 1) = (x : Int) - 1 := IntWalk.wrap64_in _ (by omega)
              clear hst2 hrl hr Rj hbj hbw hxi
              go_wp2_with (at_builtin; refine wpList_append_ver1 _ rfl _ _ rfl r rfl (VRow.below RJ.out ((Below.refl _ _).alloc (Nat.le_refl _) (.cells #[.string r.key, .slice r.A r.n r.c, .int .i64 r.o, .int .i64 r.x, .int .i64 r.kd, .float .f64 r.nu, .int .i64 r.it, .string r.tx] 44)) (Nat.le_refl _)) _ 1 rfl (Blk.new _ _ _) Hrl.out (Nat.le_trans HBJ.out.size (by simp)) ?_; intro v' w' R' g'; have hb' := Lib.hid (VRow.grown (VRow.below RJ.out ((Below.refl _ _).alloc (Nat.le_refl _) (.cells #[.string r.key, .slice r.A r.n r.c, .int .i64 r.o, .int .i64 r.x, .int .i64 r.kd, .float .f64 r.nu, .int .i64 r.it, .string r.tx] 44)) (Nat.le_refl _)) (HBJ.out.alloc HBJ.out.size (.cells #[.string r.key, .slice r.A r.n r.c, .int .i64 r.o, .int .i64 r.x, .int .i64 r.kd, .float .f64 r.nu, .int .i64 r.it, .string r.tx] 44)) (Nat.le_trans HBJ.out.size (by simp)) g'); clear g')
              have R2 := Lib.hid R'
              clear R'
              go_wp2_with fail
              go_roundw
              case rel => exact ⟨j + 1, by omega, by first | (simp; done) | (simp; omega), by rw [show m - (j + 1) = x from hx, Hst.out]; exact R2.out, hb'.out⟩
              case measure => first | (simp [intOf]; done) | (simp [intOf]; omega)
            · obtain rfl : j = m := by omega
              have hneg2 : (j : Int) - 1 - (j : Int) < 0 := by omega
              have e0 : (vs.drop (j - j)).reverse = vs.reverse := by rw [Nat.sub_self, List.drop_zero]
              rw [e0] at Rj
              obtain ⟨A3, c3, rfl, BV⟩ := vrow_all I.out Rj (hb4.out.trans (hbj.mono hw4)) (fun r hr => List.mem_reverse.1 hr)
              rw [List.length_reverse, hlen.out] at BV ⊢
              have hbw := Lib.hid (hb4.out.trans (hbj.mono hw4))
              have TV2 := Lib.hid (TV.out.below hbj)
              have BV := Lib.hid BV
              have VL := fun W (hW : Below w.heap.size w W) => Lib.hid (ovalue_any key hk _ j c vs W (I.out.below hW))
              have P1 : valueA key.data.toList ((vs.drop K ++ vs.take K).map s6) = valueA key.data.toList (vs.map s6) := (value_perm ((List.Perm.trans (by rw [List.take_append_drop]) (List.perm_append_comm (l₁ := vs.take K) (l₂ := vs.drop K))).map s6) HP.out).symm
              have P2 : valueA key.data.toList (vs.reverse.map s6) = valueA key.data.toList (vs.map s6) := (value_perm ((List.reverse_perm vs).symm.map s6) HP.out).symm
              have VT := fun W (hW : VersIn W A2 j (vs.drop K ++ vs.take K)) => Lib.hid (ovalue_any key hk A2 j c2 _ W hW)
              have VB := fun W (hW : VersIn W A3 j vs.reverse) => Lib.hid (ovalue_any key hk A3 j c3 _ W hW)
              obtain ⟨X, hX⟩ : ∃ X, valueA key.data.toList (vs.map s6) = X := ⟨_, rfl⟩
              rw [hX] at VL P1 P2
              rw [P1] at VT
              rw [P2] at VB
              clear Rj hbj TV hb4 HP CK P1 P2 hX
              go_wp2_with fail
              refine (VL _ hbw.out).out.mono ?_
              rintro e w7 ⟨⟨th0, nu0, it0, tx0, rfl, IV0, hx0⟩, g7⟩
              have TV3 := Lib.hid (TV2.out.below g7)
              have BV3 := Lib.hid (BV.out.below g7)
              have hb7 := Lib.hid (hbw.out.trans (g7.mono hbw.out.size))
              clear VL TV2 BV g7 hbw
              have hst := run_sto_f64
              simp only [valV]
              go_upto_region 23 with fail
              have TV4 := Lib.hid (TV3.out.below ((Below.refl _ w7).alloc (Nat.le_refl _) (.cells #[.bool th0, .float .f64 nu0, .int .i64 it0, .string tx0] 26)))
              have BV4 := Lib.hid (BV3.out.below ((Below.refl _ w7).alloc (Nat.le_refl _) (.cells #[.bool th0, .float .f64 nu0, .int .i64 it0, .string tx0] 26)))
              have hb8 := Lib.hid (hb7.out.alloc hb7.out.size (.cells #[.bool th0, .float .f64 nu0, .int .i64 it0, .string tx0] 26))
              have E8 := Blk.new w7 26 #[.bool th0, .float .f64 nu0, .int .i64 it0, .string tx0]
              obtain ⟨p13, hp13⟩ : ∃ q, w7.heap.size = q := ⟨_, rfl⟩
              rw [hp13] at E8 ⊢
              generalize w7.alloc (.cells #[.bool th0, .float .f64 nu0, .int .i64 it0, .string tx0] 26) = w8 at TV4 BV4 hb8 E8 ⊢
              clear TV3 BV3 hb7 hp13 hst
              have C8 : Below w.heap.size w w8 ∧ Below w8.heap.size w8 w8 := ⟨hb8.out, Below.refl _ _⟩
              refine wp_region_ord (fun W => Below w.heap.size w W ∧ Below w8.heap.size w8 W) (fun w w' => Below w.heap.size w w') [Slot.is (.bool true), Slot.is (.bool true), Slot.is (.agg #[.bool th0, .float .f64 nu0, .int .i64 it0, .string tx0]), Slot.is (.string key), Slot.is (.slice A2 j c2), SlotV X, Slot.is (.bool true), Slot.is (.bool true), Slot.is (.bool true), Slot.is (.agg #[.bool th0, .float .f64 nu0, .int .i64 it0, .string tx0]), Slot.is (.string key), Slot.is (.slice A3 j c3), SlotV X, Slot.is (.bool true), Slot.is (.bool true)] 15 1 (by kernel_rfl) (fun _ _ h => Below.size h) (by kernel_rfl) (by kernel_rfl) (by kernel_rfl) rfl (by decide) ⟨C8.1.drew, C8.2.drew⟩ (fun i hi => ?_) (fun a w9 J => ?_)
              · rcases i with _ | _ | _ | _ | _ | _ | _ | _ | _ | _ | _ | _ | _ | _ | _ | i
                · refine ordOb_at (o := _) rfl rfl (fun a W hC hF hD => ?_)
                  unfold frees
                  go_simp
                  refine ⟨rfl, (oalive_any W (hL.on hC.1)).mono ?_⟩
                  rintro e W2 ⟨rfl, g⟩
                  exact ⟨_, rfl, ⟨hC.1.trans (g.mono hC.1.size), hC.2.trans (g.mono hC.2.size)⟩, g, rfl⟩
                · refine ordOb_at (o := _) rfl rfl (fun a W hC hF hD => ?_)
                  have g125 : a.tmps[125]? = some (.bool true) := by
                    obtain ⟨v, h1, h2⟩ := hD 0 125 (by kernel_rfl) (by kernel_rfl)
                    rw [h1]
                    exact congrArg some h2
                  unfold frees
                  go_simp
                  exact ⟨hC, Below.refl _ _, rfl, fun h => by cases h⟩
                · refine ordOb_on (o := _) (b := true) (k := 126) rfl rfl (by kernel_rfl) (by kernel_rfl) (fun v w h => h) (fun a W hC hF hD => ?_)
                  have g13 : a.tmps[13]? = some (.pointer (some ⟨p13, 0, none⟩)) := hF 13 _ (by kernel_rfl) rfl
                  obtain ⟨c0, c1, c2, c3⟩ := val_cells (E8.below hC.2 E8.lt)
                  unfold frees
                  go_simp
                  exact ⟨hC, Below.refl _ _, rfl, fun h => by cases h⟩
                · refine ordOb_on (o := _) (b := true) (k := 126) rfl rfl (by kernel_rfl) (by kernel_rfl) (fun v w h => h) (fun a W hC hF hD => ?_)
                  have g0 : a.tmps[0]? = some (.string key) := hF 0 _ (by kernel_rfl) rfl
                  unfold frees
                  go_simp
                  exact ⟨hC, Below.refl _ _, rfl, fun h => by cases h⟩
                · refine ordOb_on (o := _) (b := true) (k := 126) rfl rfl (by kernel_rfl) (by kernel_rfl) (fun v w h => h) (fun a W hC hF hD => ?_)
                  have g10 : a.tmps[10]? = some (.slice A2 j c2) := hF 10 _ (by kernel_rfl) rfl
                  unfold frees
                  go_simp
                  exact ⟨hC, Below.refl _ _, rfl, fun h => by cases h⟩
                · refine ordOb_on (o := _) (b := true) (k := 126) rfl rfl (by kernel_rfl) (by kernel_rfl) (fun v w h => h) (fun a W hC hF hD => ?_)
                  have g128 : a.tmps[128]? = some (.string key) := by
                    obtain ⟨v, h1, h2⟩ := hD 3 128 (by kernel_rfl) (by kernel_rfl)
                    rw [h1]
                    exact congrArg some h2
                  have g129 : a.tmps[129]? = some (.slice A2 j c2) := by
                    obtain ⟨v, h1, h2⟩ := hD 4 129 (by kernel_rfl) (by kernel_rfl)
                    rw [h1]
                    exact congrArg some h2
                  unfold frees
                  go_simp
                  have CC := (VT W (TV4.out.below hC.2)).out
                  refine ⟨rfl, CC.mono ?_⟩
                  rintro e W2 ⟨⟨th, vn, vi, vt, rfl, hv, hx⟩, g⟩
                  exact ⟨_, rfl, ⟨hC.1.trans (g.mono hC.1.size), hC.2.trans (g.mono hC.2.size)⟩, g, th, vn, vi, vt, rfl, hv, hx⟩
                · refine ordOb_on (o := _) (b := true) (k := 126) rfl rfl (by kernel_rfl) (by kernel_rfl) (fun v w h => h) (fun a W hC hF hD => ?_)
                  have g127 : a.tmps[127]? = some (.agg #[.bool th0, .float .f64 nu0, .int .i64 it0, .string tx0]) := by
                    obtain ⟨v, h1, h2⟩ := hD 2 127 (by kernel_rfl) (by kernel_rfl)
                    rw [h1]
                    exact congrArg some h2
                  obtain ⟨_, g130, th5, nu5, it5, tx5, rfl, IV5, hx5⟩ := hD 5 130 (by kernel_rfl) (by kernel_rfl)
                  simp only [valV] at g130
                  unfold frees
                  go_simp
                  have CC := osameval_any th0 nu0 it0 tx0 IV0 th5 nu5 it5 tx5 IV5 W
                  simp only [valV] at CC
                  refine ⟨rfl, CC.mono ?_⟩
                  rintro e W2 ⟨rfl, g⟩
                  exact ⟨_, rfl, ⟨hC.1.trans (g.mono hC.1.size), hC.2.trans (g.mono hC.2.size)⟩, g, congrArg Value.bool ((V6.same_iff _ _).2 (by rw [hx0, hx5]))⟩
                · refine ordOb_at (o := _) rfl rfl (fun a W hC hF hD => ?_)
                  have g126 : a.tmps[126]? = some (.bool true) := by
                    obtain ⟨v, h1, h2⟩ := hD 1 126 (by kernel_rfl) (by kernel_rfl)
                    rw [h1]
                    exact congrArg some h2
                  have g131 : a.tmps[131]? = some (.bool true) := by
                    obtain ⟨v, h1, h2⟩ := hD 6 131 (by kernel_rfl) (by kernel_rfl)
                    rw [h1]
                    exact congrArg some h2
                  unfold frees
                  go_simp
                  exact ⟨hC, Below.refl _ _, rfl, fun h => by cases h⟩
                · refine ordOb_at (o := _) rfl rfl (fun a W hC hF hD => ?_)
                  have g132 : a.tmps[132]? = some (.bool true) := by
                    obtain ⟨v, h1, h2⟩ := hD 7 132 (by kernel_rfl) (by kernel_rfl)
                    rw [h1]
                    exact congrArg some h2
                  unfold frees
                  go_simp
                  exact ⟨hC, Below.refl _ _, rfl, fun h => by cases h⟩
                · refine ordOb_on (o := _) (b := true) (k := 133) rfl rfl (by kernel_rfl) (by kernel_rfl) (fun v w h => h) (fun a W hC hF hD => ?_)
                  have g13 : a.tmps[13]? = some (.pointer (some ⟨p13, 0, none⟩)) := hF 13 _ (by kernel_rfl) rfl
                  obtain ⟨c0, c1, c2, c3⟩ := val_cells (E8.below hC.2 E8.lt)
                  unfold frees
                  go_simp
                  exact ⟨hC, Below.refl _ _, rfl, fun h => by cases h⟩
                · refine ordOb_on (o := _) (b := true) (k := 133) rfl rfl (by kernel_rfl) (by kernel_rfl) (fun v w h => h) (fun a W hC hF hD => ?_)
                  have g0 : a.tmps[0]? = some (.string key) := hF 0 _ (by kernel_rfl) rfl
                  unfold frees
                  go_simp
                  exact ⟨hC, Below.refl _ _, rfl, fun h => by cases h⟩
                · refine ordOb_on (o := _) (b := true) (k := 133) rfl rfl (by kernel_rfl) (by kernel_rfl) (fun v w h => h) (fun a W hC hF hD => ?_)
                  have g11 : a.tmps[11]? = some (.slice A3 j c3) := hF 11 _ (by kernel_rfl) rfl
                  unfold frees
                  go_simp
                  exact ⟨hC, Below.refl _ _, rfl, fun h => by cases h⟩
                · refine ordOb_on (o := _) (b := true) (k := 133) rfl rfl (by kernel_rfl) (by kernel_rfl) (fun v w h => h) (fun a W hC hF hD => ?_)
                  have g135 : a.tmps[135]? = some (.string key) := by
                    obtain ⟨v, h1, h2⟩ := hD 10 135 (by kernel_rfl) (by kernel_rfl)
                    rw [h1]
                    exact congrArg some h2
                  have g136 : a.tmps[136]? = some (.slice A3 j c3) := by
                    obtain ⟨v, h1, h2⟩ := hD 11 136 (by kernel_rfl) (by kernel_rfl)
                    rw [h1]
                    exact congrArg some h2
                  unfold frees
                  go_simp
                  have CC := (VB W (BV4.out.below hC.2)).out
                  refine ⟨rfl, CC.mono ?_⟩
                  rintro e W2 ⟨⟨th, vn, vi, vt, rfl, hv, hx⟩, g⟩
                  exact ⟨_, rfl, ⟨hC.1.trans (g.mono hC.1.size), hC.2.trans (g.mono hC.2.size)⟩, g, th, vn, vi, vt, rfl, hv, hx⟩
                · refine ordOb_on (o := _) (b := true) (k := 133) rfl rfl (by kernel_rfl) (by kernel_rfl) (fun v w h => h) (fun a W hC hF hD => ?_)
                  have g134 : a.tmps[134]? = some (.agg #[.bool th0, .float .f64 nu0, .int .i64 it0, .string tx0]) := by
                    obtain ⟨v, h1, h2⟩ := hD 9 134 (by kernel_rfl) (by kernel_rfl)
                    rw [h1]
                    exact congrArg some h2
                  obtain ⟨_, g137, th12, nu12, it12, tx12, rfl, IV12, hx12⟩ := hD 12 137 (by kernel_rfl) (by kernel_rfl)
                  simp only [valV] at g137
                  unfold frees
                  go_simp
                  have CC := osameval_any th0 nu0 it0 tx0 IV0 th12 nu12 it12 tx12 IV12 W
                  simp only [valV] at CC
                  refine ⟨rfl, CC.mono ?_⟩
                  rintro e W2 ⟨rfl, g⟩
                  exact ⟨_, rfl, ⟨hC.1.trans (g.mono hC.1.size), hC.2.trans (g.mono hC.2.size)⟩, g, congrArg Value.bool ((V6.same_iff _ _).2 (by rw [hx0, hx12]))⟩
                · refine ordOb_at (o := _) rfl rfl (fun a W hC hF hD => ?_)
                  have g133 : a.tmps[133]? = some (.bool true) := by
                    obtain ⟨v, h1, h2⟩ := hD 8 133 (by kernel_rfl) (by kernel_rfl)
                    rw [h1]
                    exact congrArg some h2
                  have g138 : a.tmps[138]? = some (.bool true) := by
                    obtain ⟨v, h1, h2⟩ := hD 13 138 (by kernel_rfl) (by kernel_rfl)
                    rw [h1]
                    exact congrArg some h2
                  unfold frees
                  go_simp
                  exact ⟨hC, Below.refl _ _, rfl, fun h => by cases h⟩
                · exact absurd hi (by omega)
              · obtain ⟨vs, hln, rfl, hC, hS, hap⟩ := J.all_ (by kernel_rfl) (ds := [some 125, some 126, some 127, some 128, some 129, some 130, some 131, some 132, some 133, some 134, some 135, some 136, some 137, some 138, some 139]) (by kernel_rfl)
                clear J
                obtain ⟨y0, vs, rfl⟩ := List.exists_cons_of_length_eq_add_one hln
                replace hln := Nat.succ.inj hln
                obtain ⟨y1, vs, rfl⟩ := List.exists_cons_of_length_eq_add_one hln
                replace hln := Nat.succ.inj hln
                obtain ⟨y2, vs, rfl⟩ := List.exists_cons_of_length_eq_add_one hln
                replace hln := Nat.succ.inj hln
                obtain ⟨y3, vs, rfl⟩ := List.exists_cons_of_length_eq_add_one hln
                replace hln := Nat.succ.inj hln
                obtain ⟨y4, vs, rfl⟩ := List.exists_cons_of_length_eq_add_one hln
                replace hln := Nat.succ.inj hln
                obtain ⟨y5, vs, rfl⟩ := List.exists_cons_of_length_eq_add_one hln
                replace hln := Nat.succ.inj hln
                obtain ⟨y6, vs, rfl⟩ := List.exists_cons_of_length_eq_add_one hln
                replace hln := Nat.succ.inj hln
                obtain ⟨y7, vs, rfl⟩ := List.exists_cons_of_length_eq_add_one hln
                replace hln := Nat.succ.inj hln
                obtain ⟨y8, vs, rfl⟩ := List.exists_cons_of_length_eq_add_one hln
                replace hln := Nat.succ.inj hln
                obtain ⟨y9, vs, rfl⟩ := List.exists_cons_of_length_eq_add_one hln
                replace hln := Nat.succ.inj hln
                obtain ⟨y10, vs, rfl⟩ := List.exists_cons_of_length_eq_add_one hln
                replace hln := Nat.succ.inj hln
                obtain ⟨y11, vs, rfl⟩ := List.exists_cons_of_length_eq_add_one hln
                replace hln := Nat.succ.inj hln
                obtain ⟨y12, vs, rfl⟩ := List.exists_cons_of_length_eq_add_one hln
                replace hln := Nat.succ.inj hln
                obtain ⟨y13, vs, rfl⟩ := List.exists_cons_of_length_eq_add_one hln
                replace hln := Nat.succ.inj hln
                obtain ⟨y14, vs, rfl⟩ := List.exists_cons_of_length_eq_add_one hln
                replace hln := Nat.succ.inj hln
                obtain rfl := List.eq_nil_of_length_eq_zero hln
                have q0 : y0 = .bool true := hS 0 (by decide)
                have q1 : y1 = .bool true := hS 1 (by decide)
                have q2 : y2 = .agg #[.bool th0, .float .f64 nu0, .int .i64 it0, .string tx0] := hS 2 (by decide)
                have q3 : y3 = .string key := hS 3 (by decide)
                have q4 : y4 = .slice A2 j c2 := hS 4 (by decide)
                obtain ⟨th5, nu5, it5, tx5, q5, IV5, hx5⟩ := hS 5 (by decide)
                have q5 : y5 = valV th5 nu5 it5 tx5 := q5
                have q6 : y6 = .bool true := hS 6 (by decide)
                have q7 : y7 = .bool true := hS 7 (by decide)
                have q8 : y8 = .bool true := hS 8 (by decide)
                have q9 : y9 = .agg #[.bool th0, .float .f64 nu0, .int .i64 it0, .string tx0] := hS 9 (by decide)
                have q10 : y10 = .string key := hS 10 (by decide)
                have q11 : y11 = .slice A3 j c3 := hS 11 (by decide)
                obtain ⟨th12, nu12, it12, tx12, q12, IV12, hx12⟩ := hS 12 (by decide)
                have q12 : y12 = valV th12 nu12 it12 tx12 := q12
                have q13 : y13 = .bool true := hS 13 (by decide)
                have q14 : y14 = .bool true := hS 14 (by decide)
                subst q0 q1 q2 q3 q4 q5 q6 q7 q8 q9 q10 q11 q12 q13 q14
                clear hS hap
                simp only [fillT, List.setIfInBounds_toArray, List.set_cons_zero, List.set_cons_succ]
                refine wpAny_ready (rs := [15]) (by kernel_rfl) (by simp) ?_
                refine AllReady.cons rfl (fun K hK => ?_) AllReady.nil
                go_simp
                refine hK _ _ ?_
                clear hK K
                refine wpAny_done (by kernel_rfl) ?_ _
                simp only [Exit.then]
                go_wp2_with fail
                go_ret
                exact ⟨rfl, hC.1⟩
end Go.Proofs.YthacdegaeokgnaaDoor
