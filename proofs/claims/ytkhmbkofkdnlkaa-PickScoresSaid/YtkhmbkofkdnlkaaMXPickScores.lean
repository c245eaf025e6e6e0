/-
  The law PickScores. (Written by wip/gen/gen_pickscores.py.)
-/
import Derived.Test.YtkhmbkofkdnlkaaM3
import Derived.Test.YtkhmbkofkdnlkaaM4
import Derived.LoopTactic
import Derived.Deep.CutBlock
import Derived.Deep.CutRange
import Derived.Deep.RegionHeld3
import Derived.BigQuiet
import Derived.Deep.Upon
namespace Go.Proofs.Ytkhmbkofkdnlkaa
open Go.RowKit

/-- From one operation of the region to another: what was there before stays; rows of numbers stay; all stays, but where the row of files grows. -/
def TP (B : Nat) (i : Nat) (W W' : World) : Prop := Below B W W' ∧ (∀ q cs, Blk W q 23 cs → Blk W' q 23 cs) ∧ (i ≠ 8 → Below W.heap.size W W')
theorem TP.of {B i : Nat} {W W' : World} (h : Below W.heap.size W W') (hB : B ≤ W.heap.size) : TP B i W W' := ⟨h.mono hB, fun _ _ E => E.below h E.lt, fun _ => h⟩
theorem TP.row {B : Nat} {w0 W W' : World} {v : Value} {vs : List FileM} (h0 : Below B w0 W) (hw : B ≤ w0.heap.size) (R : Own elFl W B 26 v vs) (g : W.grownBy W' v.ownBlock) : Below B w0 W' ∧ TP B 8 W W' := by
  have hB : B ≤ W.heap.size := Nat.le_trans hw h0.size
  have hb : ∀ k, v.ownBlock = some k → B ≤ k := fun k hk => (R.lt hk).1
  refine ⟨h0.grown g hB hb, (Below.refl B W).grown g hB hb, fun q cs E => ?_, fun h => absurd rfl h⟩
  refine E.grown g fun hq => ?_
  rcases R.2 with ⟨rfl, _⟩ | ⟨k, cap, cur, rfl, _, ho, _⟩
  · cases hq
  · cases hq
    exact absurd rfl (Blk.ne_ E (show Blk W _ 26 cur from ho) (by decide))
theorem own_float {W W' : World} {B g n c : Nat} {S : List Nat} (h : Own elReals W B 23 (.slice (some ⟨g, 0, none⟩) n c) S) (hT : ∀ q cs, Blk W q 23 cs → Blk W' q 23 cs) : Own elReals W' B 23 (.slice (some ⟨g, 0, none⟩) n c) S := by
  refine ⟨h.1, ?_⟩
  rcases h.2 with h1 | ⟨k, cap, cur, e, hb, hh, r⟩
  · exact Or.inl h1
  · exact Or.inr ⟨k, cap, cur, e, hb, hT k cur hh, r⟩
def ScoreAt (B : Nat) (L : List FileM) (base ratio : Nat) (v : Value) (W : World) : Prop := ∃ g S, v = .slice (some ⟨g, 0, none⟩) 6 6 ∧ Own elReals W B 23 (.slice (some ⟨g, 0, none⟩) 6 6) S ∧ SameL S (scoresP L base ratio)
def SlotS (B : Nat) (L : List FileM) (base ratio : Nat) : Sp.Slot (TP B) := ⟨ScoreAt B L base ratio, none, none, fun _ _ _ _ _ _ h T => by
  obtain ⟨g, S, e, h1, h2⟩ := h
  exact ⟨g, S, e, own_float h1 T.2.1, h2⟩, false⟩
def SlotRw (B : Nat) (own j : Nat) (h8 : j = 8 ∨ own = 8) (vs : List FileM) : Sp.Slot (TP B) := ⟨fun v W => Own elFl W B 26 v vs, some j, some own, fun i _ _ _ h1 h2 R T => Own.below R (T.2.2 (fun e => by
  subst e
  rcases h8 with h | h
  · exact h1 (congrArg some h)
  · exact h2 (congrArg some h))), false⟩
def SlotF (B : Nat) (f : FileM) : Sp.Slot (TP B) := ⟨fun v W => ∃ q, v = .slice (some ⟨q, 0, none⟩) 1 1 ∧ Blk W q 26 (cellsF f), some 8, none, fun i _ _ _ h1 _ E T => by
  obtain ⟨q, e, E⟩ := E
  exact ⟨q, e, E.below (T.2.2 (fun e => h1 (by rw [e]))) E.lt⟩, false⟩
theorem frees_app_files {C : World → Prop} {T : Nat → World → World → Prop} {i : Nat} {S : Sp.Slot T} (w : World) {o : Oper} {a : Act} (s x : Operand)
    (ho : o.op = .call { callee := .builtin .append, args := #[s, x], argTypes := #[22, 22] })
    {B : Nat} {v : Value} {vs us : List FileM} (hs : a.eval s = v) (R : Own elFl w B 26 v vs) {A : Option Addr} {n c : Nat} (hx : a.eval x = .slice A n c) (I : FilesAt w A n us) (hv : vs.length ≤ 100000) (hn : n ≤ 100000) (hB : B ≤ w.heap.size)
    (h : ∀ v' w', Own elFl w' B 26 v' (vs ++ us) → w.grownBy w' v.ownBlock → C w' ∧ T i w w' ∧ S.p v' w' ∧ (S.new = true → ∃ p, v' = .pointer (some ⟨p, 0, none⟩) ∧ w.heap.size ≤ p ∧ p < w'.heap.size)) : Sp.frees Try.prog o a C i S w := by
  have hl := I.len
  obtain ⟨v', w', hr, h2, h3, _, _⟩ := app_own (P := Try.prog) elFl 22 26 (.agg #[.int .i64 0, .int .i64 0, .int .i64 0, .int .i64 0, .string ⟨#[]⟩, .string ⟨#[]⟩]) 64 underFl infoFl rfl w B v vs us R A c (fun e => by subst e; exact filesAt_none I) (fun a e j u hu => by subst e; exact I.rowf j u hu) (by unfold maxLen; omega) (by omega) hB n hl
  have h4 := h v' w' h2 h3
  unfold Sp.frees execOp
  simp only [ho, resolve, invoke, builtin, Sem.run_bind, Sem.run_pure, Result.andThen_ok, List.map_toArray, List.map_cons, List.map_nil, hs, hx, hr]
  exact h4
theorem same_exact {r c : Nat} (h : SameF r c) (hc : isN c = false) : r = c := by
  rcases h with h | ⟨_, h⟩
  · exact h
  · rw [hc] at h; cases h
theorem file_one {W : World} {q : Nat} {f : FileM} (E : Blk W q 26 (cellsF f)) : FilesAt W (some ⟨q, 0, none⟩) 1 [f] :=
  ⟨rfl, fun i m hm => by
    cases i with
    | succ i => simp at hm
    | zero =>
      cases hm
      exact ⟨q, 0, rfl, E.lt, E.cell 0, E.cell 1, E.cell 2, E.cell 3, E.cell 4, E.cell 5⟩⟩
set_option maxRecDepth 100000 in
set_option maxHeartbeats 16000000 in
theorem lawPickScores (A : Option Addr) (n c : Nat) (L : List FileM) (f : FileM) (_hf : FileOk f) (base : Nat) (hbw : (Lit.float .f64 base).wf = true) (ratio : Nat) (hrw : (Lit.float .f64 ratio).wf = true) (w : World) (I : FilesAt w A n L ∧ n ≤ 9223372036854775807 ∧ ∀ f ∈ L, FileOk f) :
    Calls Try.prog 4 #[.slice A n c, .agg (cellsV f).toArray, .float .f64 base, .float .f64 ratio] w fun e w' => e = .returned (.bool true) ∧ Below w.heap.size w w' := by
  have hcv : (cellsV f).toArray = cellsF f := rfl
  rw [hcv]
  clear hcv
  have mixed : Try.prog.follows .mixedOrders = true := by kernel_rfl
  have CA := fun W => Lib.hid (alive15_any W)
  obtain ⟨w1, hw1⟩ : ∃ w1, w1 = w.alloc (.cells (cellsF f) 26) := ⟨_, rfl⟩
  have EF : Blk w1 w.heap.size 26 (cellsF f) := by rw [hw1]; exact Blk.new w _ _
  have hg1 : w.grownBy w1 none := by rw [hw1]; exact World.grownBy_alloc w _ none
  have HW := Lib.hid hw1
  have HG1 := Lib.hid hg1
  have exit_ : ∀ (t1 t2 t3 t4 t5 t6 t7 : Bool), decide (200 < (n : Int)) = t1 → (FloatKind.f64.format.order base 0 == some .gt) = t2 → (FloatKind.f64.format.order ratio 0 == some .gt) = t3 → (FloatKind.f64.format.order base 5055640609639927018 == some .gt) = t4 → (FloatKind.f64.format.order ratio 5055640609639927018 == some .gt) = t5 → (FloatKind.f64.format.order base 4158027847206421152 == some .lt) = t6 → (FloatKind.f64.format.order ratio 4158027847206421152 == some .lt) = t7 →
      (t1 || !t2 || !t3 || t4 || t5 || t6 || t7) = true → Calls Try.prog 4 #[.slice A n c, .agg (cellsF f), .float .f64 base, .float .f64 ratio] w fun e w' => e = .returned (.bool true) ∧ Below w.heap.size w w' := by
    intro t1 t2 t3 t4 t5 t6 t7 g1 g2 g3 g4 g5 g6 g7 gg
    have fin : ∀ W, w.grownBy W none → Hid (Calls Try.prog 6 #[] W fun e w' => e = .returned (.bool true) ∧ Below w.heap.size w w') := fun W h => Lib.hid ((CA W).out.mono fun e w' h2 => ⟨h2.1, below_g (gnone h h2.2)⟩)
    have F1 := fin w1 hg1
    rw [hw1] at F1
    clear I EF hg1 HW HG1 hw1 fin CA mixed
    unfold cellsF at *
    cases t1
    · skip
      cases t2
      · skip
        clear gg g3 g4 g5 g6 g7
        go_enter Try.func4, Try.ntmps4
        go_wp2_with fail
        refine F1.out.mono ?_
        rintro e w2 ⟨rfl, hb2⟩
        have HB := Lib.hid hb2
        clear hb2
        go_wp2_with fail
        go_ret
        exact ⟨rfl, HB.out⟩
      · skip
        cases t3
        · skip
          clear gg g4 g5 g6 g7
          go_enter Try.func4, Try.ntmps4
          go_wp2_with fail
          refine F1.out.mono ?_
          rintro e w2 ⟨rfl, hb2⟩
          have HB := Lib.hid hb2
          clear hb2
          go_wp2_with fail
          go_ret
          exact ⟨rfl, HB.out⟩
        · skip
          cases t4
          · skip
            cases t5
            · skip
              cases t6
              · skip
                cases t7
                · skip
                  cases gg
                · skip
                  clear gg 
                  go_enter Try.func4, Try.ntmps4
                  go_wp2_with fail
                  refine F1.out.mono ?_
                  rintro e w2 ⟨rfl, hb2⟩
                  have HB := Lib.hid hb2
                  clear hb2
                  go_wp2_with fail
                  go_ret
                  exact ⟨rfl, HB.out⟩
              · skip
                clear gg g7
                go_enter Try.func4, Try.ntmps4
                go_wp2_with fail
                refine F1.out.mono ?_
                rintro e w2 ⟨rfl, hb2⟩
                have HB := Lib.hid hb2
                clear hb2
                go_wp2_with fail
                go_ret
                exact ⟨rfl, HB.out⟩
            · skip
              clear gg g6 g7
              go_enter Try.func4, Try.ntmps4
              go_wp2_with fail
              refine F1.out.mono ?_
              rintro e w2 ⟨rfl, hb2⟩
              have HB := Lib.hid hb2
              clear hb2
              go_wp2_with fail
              go_ret
              exact ⟨rfl, HB.out⟩
          · skip
            clear gg g5 g6 g7
            go_enter Try.func4, Try.ntmps4
            go_wp2_with fail
            refine F1.out.mono ?_
            rintro e w2 ⟨rfl, hb2⟩
            have HB := Lib.hid hb2
            clear hb2
            go_wp2_with fail
            go_ret
            exact ⟨rfl, HB.out⟩
    · skip
      clear gg g2 g3 g4 g5 g6 g7
      go_enter Try.func4, Try.ntmps4
      go_wp2_with fail
      refine F1.out.mono ?_
      rintro e w2 ⟨rfl, hb2⟩
      have HB := Lib.hid hb2
      clear hb2
      go_wp2_with fail
      go_ret
      exact ⟨rfl, HB.out⟩
  obtain ⟨b64, r64⟩ : base < 18446744073709551616 ∧ ratio < 18446744073709551616 := ⟨by simpa [Lit.wf] using hbw, by simpa [Lit.wf] using hrw⟩
  by_cases h1 : 200 < (n : Int)
  · exact exit_ true _ _ _ _ _ _ (decide_eq_true h1) rfl rfl rfl rfl rfl rfl rfl
  cases h2 : (FloatKind.f64.format.order base 0 == some .gt) with
  | false => exact exit_ _ false _ _ _ _ _ rfl h2 rfl rfl rfl rfl rfl (by simp)
  | true =>
  cases h3 : (FloatKind.f64.format.order ratio 0 == some .gt) with
  | false => exact exit_ _ _ false _ _ _ _ rfl rfl h3 rfl rfl rfl rfl (by simp)
  | true =>
  cases h4 : (FloatKind.f64.format.order base 5055640609639927018 == some .gt) with
  | true => exact exit_ _ _ _ true _ _ _ rfl rfl rfl h4 rfl rfl rfl (by simp)
  | false =>
  cases h5 : (FloatKind.f64.format.order ratio 5055640609639927018 == some .gt) with
  | true => exact exit_ _ _ _ _ true _ _ rfl rfl rfl rfl h5 rfl rfl (by simp)
  | false =>
  cases h6 : (FloatKind.f64.format.order base 4158027847206421152 == some .lt) with
  | true => exact exit_ _ _ _ _ _ true _ rfl rfl rfl rfl rfl h6 rfl (by simp)
  | false =>
  cases h7 : (FloatKind.f64.format.order ratio 4158027847206421152 == some .lt) with
  | true => exact exit_ _ _ _ _ _ _ true rfl rfl rfl rfl rfl rfl h7 (by simp)
  | false =>
  clear exit_
  have MB := mid_word (range_word b64 h2 h4 h6)
  have MR := mid_word (range_word r64 h3 h5 h7)
  have t1 : decide (200 < (n : Int)) = false := decide_eq_false h1
  have hn : n ≤ 1000000 := by omega
  have hn2 : n ≤ 200 := by omega
  have HI := Lib.hid (I.1.below (below_g hg1))
  have hlen := I.1.len
  have HN := Lib.hid hn
  have HL200 : Hid (L.length ≤ 200) := Lib.hid (by rw [← hlen]; exact hn2)
  have HN5 : Hid (L.length ≤ 100000) := Lib.hid (by rw [← hlen]; omega)
  have HNN : Hid (n ≤ 100000) := Lib.hid (by omega)
  obtain ⟨base2, hb2⟩ : ∃ b, b = base + 4503599627370496 := ⟨_, rfl⟩
  have hmul := two_base MB
  have ASK : Hid (∀ (j a b c : Nat), j < 6 → (scoresP L base ratio)[j]? = some a → (scoresP (L ++ [f]) base ratio)[j]? = some b → (scoresP L base2 ratio)[j]? = some c → ScA a b c j) := Lib.hid fun j a b c hj ha hb hc => scores_ask HL200.out MB MR hj ha hb (by rw [← hb2]; exact hc)
  rw [← hb2] at hmul
  have hmr : ∀ W, (binOp .mul 23 (.float .f64 4611686018427387904) (.float .f64 base)).run Try.prog W = .ok (.float .f64 base2) W := fun W => run_float_arith (P := Try.prog) W .mul 23 .f64 _ _ _ hmul
  have b264 : base2 < 18446744073709551616 := mul_lt hmul
  have CS : ∀ W, Below w1.heap.size w1 W → ∀ b, b < 18446744073709551616 → Hid _ := fun W h b hb => Lib.hid (pscores_any A n c L b ratio W (HI.out.below h) hn hb)
  have C1 : Below w1.heap.size w1 w1 := Below.refl _ _
  clear I hb2 hmul MB MR hlen
  clear hw1 hg1
  obtain ⟨B, hB⟩ : ∃ B, w1.heap.size = B := ⟨_, rfl⟩
  have HBs := Lib.hid hB
  have HWu : Hid (w1 = w.alloc (.cells #[.int .i64 f.lv, .int .i64 f.nu, .int .i64 f.co, .int .i64 f.sz, .string f.fi, .string f.la] 26)) := HW
  have H64 := Lib.hid b64
  have H264 := Lib.hid b264
  clear HW hB hbw hrw h1 hn2 b64 b264 r64
  have ecell : cellsF f = #[.int .i64 f.lv, .int .i64 f.nu, .int .i64 f.co, .int .i64 f.sz, .string f.fi, .string f.la] := rfl
  rw [ecell]
  clear ecell
  go_enter Try.func4, Try.ntmps4
  go_upto_region 3 with fail
  rw [← HWu.out]
  clear HWu
  refine Sp.wp_region_ord (fun W => Below w1.heap.size w1 W) (TP B) [Sp.Slot.is (.slice A n c), Sp.Slot.is (.float .f64 base), Sp.Slot.is (.float .f64 ratio), SlotS B L base ratio, Sp.Slot.is (.slice A n c), SlotRw B 5 8 (Or.inl rfl) L, Sp.Slot.is (.agg #[.int .i64 f.lv, .int .i64 f.nu, .int .i64 f.co, .int .i64 f.sz, .string f.fi, .string f.la]), SlotF B f, SlotRw B 8 11 (Or.inr rfl) (L ++ [f]), Sp.Slot.is (.float .f64 base), Sp.Slot.is (.float .f64 ratio), SlotS B (L ++ [f]) base ratio, Sp.Slot.is (.slice A n c), Sp.Slot.is (.float .f64 base), Sp.Slot.is (.float .f64 base2), Sp.Slot.is (.float .f64 ratio), SlotS B L base2 ratio] 17 3 mixed (fun _ _ _ h => h.1.size) (by kernel_rfl) (by kernel_rfl) (by kernel_rfl) rfl (by decide) C1.drew [(none, none), (none, none), (none, none), (none, none), (none, none), (some 8, some 5), (none, none), (some 8, none), (some 11, some 8), (none, none), (none, none), (none, none), (none, none), (none, none), (none, none), (none, none), (none, none)] rfl (by kernel_rfl) (fun i hi => ?_) (fun a w3 J => ?_)
  · rcases i with _ | _ | _ | _ | _ | _ | _ | _ | _ | _ | _ | _ | _ | _ | _ | _ | _ | i
    · refine Sp.ordOb_at (o := _) rfl rfl (fun a W hC hF hD => ?_)
      have g0 : a.tmps[0]? = some (.slice A n c) := hF 0 _ (by kernel_rfl) rfl
      unfold Sp.frees
      go_simp
      exact ⟨hC, TP.of (Below.refl _ _) (by rw [← HBs.out]; exact hC.size), rfl, fun h => by cases h⟩
    · refine Sp.ordOb_at (o := _) rfl rfl (fun a W hC hF hD => ?_)
      have g2 : a.tmps[2]? = some (.float .f64 base) := hF 2 _ (by kernel_rfl) rfl
      unfold Sp.frees
      go_simp
      exact ⟨hC, TP.of (Below.refl _ _) (by rw [← HBs.out]; exact hC.size), rfl, fun h => by cases h⟩
    · refine Sp.ordOb_at (o := _) rfl rfl (fun a W hC hF hD => ?_)
      have g3 : a.tmps[3]? = some (.float .f64 ratio) := hF 3 _ (by kernel_rfl) rfl
      unfold Sp.frees
      go_simp
      exact ⟨hC, TP.of (Below.refl _ _) (by rw [← HBs.out]; exact hC.size), rfl, fun h => by cases h⟩
    · refine Sp.ordOb_at (o := _) rfl rfl (fun a W hC hF hD => ?_)
      have g43 : a.tmps[43]? = some (.slice A n c) := by
        obtain ⟨v, h1, h2⟩ := hD 0 43 (by kernel_rfl) (by kernel_rfl)
        rw [h1]
        exact congrArg some h2
      have g44 : a.tmps[44]? = some (.float .f64 base) := by
        obtain ⟨v, h1, h2⟩ := hD 1 44 (by kernel_rfl) (by kernel_rfl)
        rw [h1]
        exact congrArg some h2
      have g45 : a.tmps[45]? = some (.float .f64 ratio) := by
        obtain ⟨v, h1, h2⟩ := hD 2 45 (by kernel_rfl) (by kernel_rfl)
        rw [h1]
        exact congrArg some h2
      have CC := CS W hC base H64.out
      unfold Sp.frees
      go_simp
      refine ⟨rfl, CC.out.mono ?_⟩
      rintro e W2 ⟨g, S, rfl, k1, k2, _, k4⟩
      exact ⟨_, rfl, hC.trans ((below_g k4).mono hC.size), TP.of (below_g k4) (by rw [← HBs.out]; exact hC.size), g, S, rfl, k1.low (by rw [← HBs.out]; exact hC.size), k2⟩
    · refine Sp.ordOb_at (o := _) rfl rfl (fun a W hC hF hD => ?_)
      have g0 : a.tmps[0]? = some (.slice A n c) := hF 0 _ (by kernel_rfl) rfl
      unfold Sp.frees
      go_simp
      exact ⟨hC, TP.of (Below.refl _ _) (by rw [← HBs.out]; exact hC.size), rfl, fun h => by cases h⟩
    · refine Sp.ordOb_at (o := _) rfl rfl (fun a W hC hF hD => ?_)
      have g47 : a.tmps[47]? = some (.slice A n c) := by
        obtain ⟨v, h1, h2⟩ := hD 4 47 (by kernel_rfl) (by kernel_rfl)
        rw [h1]
        exact congrArg some h2
      refine frees_app_files W (.const (.slice none 0 0)) (.tmp 47) rfl (c := c) (B := W.heap.size) (vs := []) rfl (World.ownsRow_nil _ _ _ _) (by simp [Act.eval, g47]) (HI.out.below hC) (by simp) HNN.out (Nat.le_refl _) ?_
      intro v1 W1 R1 gr
      have hb1 := grow_k (a := W) (grefl _ _) (World.ownsRow_nil W W.heap.size 26 6) (Nat.le_refl _) gr
      rw [List.nil_append] at R1
      exact ⟨hC.trans ((below_g hb1).mono hC.size), TP.of (below_g hb1) (by rw [← HBs.out]; exact hC.size), R1.low (by rw [← HBs.out]; exact hC.size), fun h => by cases h⟩
    · refine Sp.ordOb_at (o := _) rfl rfl (fun a W hC hF hD => ?_)
      have g5 : a.tmps[5]? = some (.pointer (some ⟨w.heap.size, 0, none⟩)) := hF 5 _ (by kernel_rfl) rfl
      have E := EF.below hC EF.lt
      have d0 := E.cell 0
      have d1 := E.cell 1
      have d2 := E.cell 2
      have d3 := E.cell 3
      have d4 := E.cell 4
      have d5 := E.cell 5
      simp only [cellsF] at d0 d1 d2 d3 d4 d5
      unfold Sp.frees
      go_simp
      exact ⟨hC, TP.of (Below.refl _ _) (by rw [← HBs.out]; exact hC.size), rfl, fun h => by cases h⟩
    · refine Sp.ordOb_at (o := _) rfl rfl (fun a W hC hF hD => ?_)
      have g49 : a.tmps[49]? = some (.agg #[.int .i64 f.lv, .int .i64 f.nu, .int .i64 f.co, .int .i64 f.sz, .string f.fi, .string f.la]) := by
        obtain ⟨v, h1, h2⟩ := hD 6 49 (by kernel_rfl) (by kernel_rfl)
        rw [h1]
        exact congrArg some h2
      unfold Sp.frees
      go_simp
      exact ⟨hC.alloc hC.size _, TP.of ((Below.refl _ _).alloc (Nat.le_refl _) _) (by rw [← HBs.out]; exact hC.size), ⟨_, rfl, Blk.new _ _ _⟩, fun h => by cases h⟩
    · refine Sp.ordOb_at (o := _) rfl rfl (fun a W hC hF hD => ?_)
      obtain ⟨v1, g48, R1⟩ := hD 5 48 (by kernel_rfl) (by kernel_rfl)
      obtain ⟨v2, g50, q, rfl, E⟩ := hD 7 50 (by kernel_rfl) (by kernel_rfl)
      have R1 : Own elFl W B 26 v1 L := R1
      refine frees_app_files W (.tmp 48) (.tmp 50) rfl (c := 1) (by simp [Act.eval, g48]) R1 (by simp [Act.eval, g50]) (file_one E) HN5.out (by decide) (by rw [← HBs.out]; exact hC.size) ?_
      intro v' W' R2 gr
      obtain ⟨k1, k2⟩ := TP.row (w0 := w1) (by rw [← HBs.out]; exact hC) (by rw [← HBs.out]; exact Nat.le_refl _) R1 gr
      exact ⟨by rw [← HBs.out] at k1; exact k1, k2, R2, fun h => by cases h⟩
    · refine Sp.ordOb_at (o := _) rfl rfl (fun a W hC hF hD => ?_)
      have g2 : a.tmps[2]? = some (.float .f64 base) := hF 2 _ (by kernel_rfl) rfl
      unfold Sp.frees
      go_simp
      exact ⟨hC, TP.of (Below.refl _ _) (by rw [← HBs.out]; exact hC.size), rfl, fun h => by cases h⟩
    · refine Sp.ordOb_at (o := _) rfl rfl (fun a W hC hF hD => ?_)
      have g3 : a.tmps[3]? = some (.float .f64 ratio) := hF 3 _ (by kernel_rfl) rfl
      unfold Sp.frees
      go_simp
      exact ⟨hC, TP.of (Below.refl _ _) (by rw [← HBs.out]; exact hC.size), rfl, fun h => by cases h⟩
    · refine Sp.ordOb_at (o := _) rfl rfl (fun a W hC hF hD => ?_)
      obtain ⟨v1, g51, R1⟩ := hD 8 51 (by kernel_rfl) (by kernel_rfl)
      have R1 : Own elFl W B 26 v1 (L ++ [f]) := R1
      obtain ⟨a8, c8, rfl⟩ := R1.slice
      have hb8 : (L ++ [f]).length ≤ 1000000 := by rw [List.length_append, List.length_singleton]; have := HL200.out; omega
      have I8 := (own_files R1).1
      generalize (L ++ [f]).length = m8 at *
      have g52 : a.tmps[52]? = some (.float .f64 base) := by
        obtain ⟨v, h1, h2⟩ := hD 9 52 (by kernel_rfl) (by kernel_rfl)
        rw [h1]
        exact congrArg some h2
      have g53 : a.tmps[53]? = some (.float .f64 ratio) := by
        obtain ⟨v, h1, h2⟩ := hD 10 53 (by kernel_rfl) (by kernel_rfl)
        rw [h1]
        exact congrArg some h2
      have CC := Lib.hid (pscores_any a8 m8 c8 (L ++ [f]) base ratio W I8 hb8 H64.out)
      unfold Sp.frees
      go_simp
      refine ⟨rfl, CC.out.mono ?_⟩
      rintro e W2 ⟨g, S, rfl, k1, k2, _, k4⟩
      exact ⟨_, rfl, hC.trans ((below_g k4).mono hC.size), TP.of (below_g k4) (by rw [← HBs.out]; exact hC.size), g, S, rfl, k1.low (by rw [← HBs.out]; exact hC.size), k2⟩
    · refine Sp.ordOb_at (o := _) rfl rfl (fun a W hC hF hD => ?_)
      have g0 : a.tmps[0]? = some (.slice A n c) := hF 0 _ (by kernel_rfl) rfl
      unfold Sp.frees
      go_simp
      exact ⟨hC, TP.of (Below.refl _ _) (by rw [← HBs.out]; exact hC.size), rfl, fun h => by cases h⟩
    · refine Sp.ordOb_at (o := _) rfl rfl (fun a W hC hF hD => ?_)
      have g2 : a.tmps[2]? = some (.float .f64 base) := hF 2 _ (by kernel_rfl) rfl
      unfold Sp.frees
      go_simp
      exact ⟨hC, TP.of (Below.refl _ _) (by rw [← HBs.out]; exact hC.size), rfl, fun h => by cases h⟩
    · refine Sp.ordOb_at (o := _) rfl rfl (fun a W hC hF hD => ?_)
      have g56 : a.tmps[56]? = some (.float .f64 base) := by
        obtain ⟨v, h1, h2⟩ := hD 13 56 (by kernel_rfl) (by kernel_rfl)
        rw [h1]
        exact congrArg some h2
      unfold Sp.frees
      go_simp
      exact ⟨hC, TP.of (Below.refl _ _) (by rw [← HBs.out]; exact hC.size), rfl, fun h => by cases h⟩
    · refine Sp.ordOb_at (o := _) rfl rfl (fun a W hC hF hD => ?_)
      have g3 : a.tmps[3]? = some (.float .f64 ratio) := hF 3 _ (by kernel_rfl) rfl
      unfold Sp.frees
      go_simp
      exact ⟨hC, TP.of (Below.refl _ _) (by rw [← HBs.out]; exact hC.size), rfl, fun h => by cases h⟩
    · refine Sp.ordOb_at (o := _) rfl rfl (fun a W hC hF hD => ?_)
      have g55 : a.tmps[55]? = some (.slice A n c) := by
        obtain ⟨v, h1, h2⟩ := hD 12 55 (by kernel_rfl) (by kernel_rfl)
        rw [h1]
        exact congrArg some h2
      have g57 : a.tmps[57]? = some (.float .f64 base2) := by
        obtain ⟨v, h1, h2⟩ := hD 14 57 (by kernel_rfl) (by kernel_rfl)
        rw [h1]
        exact congrArg some h2
      have g58 : a.tmps[58]? = some (.float .f64 ratio) := by
        obtain ⟨v, h1, h2⟩ := hD 15 58 (by kernel_rfl) (by kernel_rfl)
        rw [h1]
        exact congrArg some h2
      have CC := CS W hC base2 H264.out
      unfold Sp.frees
      go_simp
      refine ⟨rfl, CC.out.mono ?_⟩
      rintro e W2 ⟨g, S, rfl, k1, k2, _, k4⟩
      exact ⟨_, rfl, hC.trans ((below_g k4).mono hC.size), TP.of (below_g k4) (by rw [← HBs.out]; exact hC.size), g, S, rfl, k1.low (by rw [← HBs.out]; exact hC.size), k2⟩
    · exact absurd hi (by omega)
  · obtain ⟨ys, hln, rfl, hC, hS, hap⟩ := J.all_ (by kernel_rfl) (ds := [some 43, some 44, some 45, some 46, some 47, some 48, some 49, some 50, some 51, some 52, some 53, some 54, some 55, some 56, some 57, some 58, some 59]) (by kernel_rfl)
    clear J
    obtain ⟨y0, ys, rfl⟩ := List.exists_cons_of_length_eq_add_one hln
    replace hln := Nat.succ.inj hln
    obtain ⟨y1, ys, rfl⟩ := List.exists_cons_of_length_eq_add_one hln
    replace hln := Nat.succ.inj hln
    obtain ⟨y2, ys, rfl⟩ := List.exists_cons_of_length_eq_add_one hln
    replace hln := Nat.succ.inj hln
    obtain ⟨y3, ys, rfl⟩ := List.exists_cons_of_length_eq_add_one hln
    replace hln := Nat.succ.inj hln
    obtain ⟨y4, ys, rfl⟩ := List.exists_cons_of_length_eq_add_one hln
    replace hln := Nat.succ.inj hln
    obtain ⟨y5, ys, rfl⟩ := List.exists_cons_of_length_eq_add_one hln
    replace hln := Nat.succ.inj hln
    obtain ⟨y6, ys, rfl⟩ := List.exists_cons_of_length_eq_add_one hln
    replace hln := Nat.succ.inj hln
    obtain ⟨y7, ys, rfl⟩ := List.exists_cons_of_length_eq_add_one hln
    replace hln := Nat.succ.inj hln
    obtain ⟨y8, ys, rfl⟩ := List.exists_cons_of_length_eq_add_one hln
    replace hln := Nat.succ.inj hln
    obtain ⟨y9, ys, rfl⟩ := List.exists_cons_of_length_eq_add_one hln
    replace hln := Nat.succ.inj hln
    obtain ⟨y10, ys, rfl⟩ := List.exists_cons_of_length_eq_add_one hln
    replace hln := Nat.succ.inj hln
    obtain ⟨y11, ys, rfl⟩ := List.exists_cons_of_length_eq_add_one hln
    replace hln := Nat.succ.inj hln
    obtain ⟨y12, ys, rfl⟩ := List.exists_cons_of_length_eq_add_one hln
    replace hln := Nat.succ.inj hln
    obtain ⟨y13, ys, rfl⟩ := List.exists_cons_of_length_eq_add_one hln
    replace hln := Nat.succ.inj hln
    obtain ⟨y14, ys, rfl⟩ := List.exists_cons_of_length_eq_add_one hln
    replace hln := Nat.succ.inj hln
    obtain ⟨y15, ys, rfl⟩ := List.exists_cons_of_length_eq_add_one hln
    replace hln := Nat.succ.inj hln
    obtain ⟨y16, ys, rfl⟩ := List.exists_cons_of_length_eq_add_one hln
    replace hln := Nat.succ.inj hln
    obtain rfl := List.eq_nil_of_length_eq_zero hln
    have q0 : y0 = .slice A n c := hS 0 (by decide) rfl
    have q1 : y1 = .float .f64 base := hS 1 (by decide) rfl
    have q2 : y2 = .float .f64 ratio := hS 2 (by decide) rfl
    have q4 : y4 = .slice A n c := hS 4 (by decide) rfl
    have q6 : y6 = .agg #[.int .i64 f.lv, .int .i64 f.nu, .int .i64 f.co, .int .i64 f.sz, .string f.fi, .string f.la] := hS 6 (by decide) rfl
    have q9 : y9 = .float .f64 base := hS 9 (by decide) rfl
    have q10 : y10 = .float .f64 ratio := hS 10 (by decide) rfl
    have q12 : y12 = .slice A n c := hS 12 (by decide) rfl
    have q13 : y13 = .float .f64 base := hS 13 (by decide) rfl
    have q14 : y14 = .float .f64 base2 := hS 14 (by decide) rfl
    have q15 : y15 = .float .f64 ratio := hS 15 (by decide) rfl
    obtain ⟨ga, Sa, q3, Oa, Ma⟩ : ScoreAt B L base ratio y3 w3 := hS 3 (by decide) rfl
    obtain ⟨gb, Sb, q11, Ob, Mb⟩ : ScoreAt B (L ++ [f]) base ratio y11 w3 := hS 11 (by decide) rfl
    obtain ⟨gc, Sc, q16, Oc, Mc⟩ : ScoreAt B L base2 ratio y16 w3 := hS 16 (by decide) rfl
    subst q0 q1 q2 q4 q6 q9 q10 q12 q13 q14 q15 q3 q11 q16
    clear hS hap
    simp only [fillT, List.setIfInBounds_toArray, List.set_cons_zero, List.set_cons_succ]
    refine wpAny_ready (rs := [17]) (by kernel_rfl) (by simp) ?_
    refine AllReady.cons rfl (fun K hK => ?_) AllReady.nil
    go_simp
    refine hK _ _ ?_
    clear hK K
    refine wpAny_ready (rs := [18]) (by kernel_rfl) (by simp) ?_
    refine AllReady.cons rfl (fun K hK => ?_) AllReady.nil
    go_simp
    refine hK _ _ ?_
    clear hK K
    refine wpAny_ready (rs := [19]) (by kernel_rfl) (by simp) ?_
    refine AllReady.cons rfl (fun K hK => ?_) AllReady.nil
    go_simp
    refine hK _ _ ?_
    clear hK K
    refine wpAny_done (by kernel_rfl) ?_ _
    simp only [Exit.then]
    have HB3 := Lib.hid hC
    have OA := Lib.hid Oa
    have OB := Lib.hid Ob
    have OC := Lib.hid Oc
    have la : Sa.length = 6 := by rw [Ma.1, scoresP_len]
    have lb : Sb.length = 6 := by rw [Mb.1, scoresP_len]
    have lc : Sc.length = 6 := by rw [Mc.1, scoresP_len]
    have ASK2 : Hid (∀ (j a b c : Nat), j < 6 → Sa[j]? = some a → Sb[j]? = some b → Sc[j]? = some c → ScA a b c j) := Lib.hid fun j a b c hj ha hb hc => by
      have k := ASK.out j _ _ _ hj (scoresP_at _ _ _ j hj) (scoresP_at _ _ _ j hj) (scoresP_at _ _ _ j hj)
      have ea := same_exact (Ma.2 j _ _ ha (scoresP_at _ _ _ j hj)) (small_word k.lt_a).1
      have eb := same_exact (Mb.2 j _ _ hb (scoresP_at _ _ _ j hj)) (small_word k.lt_b).1
      have ec := same_exact (Mc.2 j _ _ hc (scoresP_at _ _ _ j hj)) (small_word k.lt_c).1
      subst ea eb ec
      exact k
    have LA := Lib.hid la
    have LB := Lib.hid lb
    have LC := Lib.hid lc
    clear hC Oa Ob Oc la lb lc Ma Mb Mc ASK CS hmr HL200 HN5 HNN HI HN H64 H264
    go_wp2_with fail
    go_loopw [12] (fun i wr => ∃ (k q : Nat), k ≤ 6 ∧ i = .int .i64 (k : Int) ∧ Hid (wr = w3.drewN q)) (fun i _ => 6 - (intOf i).toNat)
    case atStart => exact ⟨0, 0, by omega, rfl, Lib.hid rfl⟩
    case round =>
      obtain ⟨k, q, hk, rfl, HWr⟩ := hrel
      by_cases hl : k < 6
      · have g1 : (k : Int) < 6 := by omega
        have g2 : (0 : Int) ≤ (k : Int) := by omega
        have w1' := wrap_sucP hl (by decide)
        obtain ⟨x, hx⟩ : ∃ x, Sa[k]? = some x := ⟨_, List.getElem?_eq_getElem (by rw [LA.out]; exact hl)⟩
        obtain ⟨y, hy⟩ : ∃ y, Sb[k]? = some y := ⟨_, List.getElem?_eq_getElem (by rw [LB.out]; exact hl)⟩
        obtain ⟨z, hz⟩ : ∃ z, Sc[k]? = some z := ⟨_, List.getElem?_eq_getElem (by rw [LC.out]; exact hl)⟩
        have K := ASK2.out k x y z hl hx hy hz
        have x0 : wr.cell? ⟨ga, k, none⟩ = some (.float .f64 x) := by rw [HWr.out]; exact own_cellR OA.out hx
        have y0 : wr.cell? ⟨gb, k, none⟩ = some (.float .f64 y) := by rw [HWr.out]; exact own_cellR OB.out hy
        have z0 : wr.cell? ⟨gc, k, none⟩ = some (.float .f64 z) := by rw [HWr.out]; exact own_cellR OC.out hz
        have o1 : (FloatKind.f64.format.order y x == some .lt) = false := by
          rw [lss_eq, (small_word K.lt_a).2.1, (small_word K.lt_b).2.1]
          have := K.le
          simp only [Bool.and_eq_false_imp, decide_eq_false_iff_not]
          intro _ _
          omega
        have o2 : (FloatKind.f64.format.order z z != some .eq) = false := by rw [neq_self]; exact (small_word K.lt_c).1
        by_cases h0 : 0 < k
        · have t0 : (0 : Int) < (k : Int) := by omega
          have t9 : decide ((0 : Int) < (k : Int)) = true := decide_eq_true t0
          have hq := fun W : World => run_float_arith (P := Try.prog) W .quo 23 .f64 _ _ _ (K.half h0)
          clear K hx hy hz
          go_wp2_with fail
          go_quiet (fail)
          go_wp2_with fail
          go_roundw
          case rel => exact ⟨k + 1, _, hl, by go_num, Lib.hid (by rw [HWr.out, World.drewN_drewN])⟩
          case measure => exact meas_ltP hl
        · obtain rfl : k = 0 := by omega
          clear K hx hy hz h0
          go_wp2_with fail
          go_quiet (fail)
          go_wp2_with fail
          go_roundw
          case rel => exact ⟨0 + 1, _, by omega, by rfl, Lib.hid (by rw [HWr.out, World.drewN_drewN])⟩
          case measure => simp [intOf]
      · obtain rfl : k = 6 := by omega
        obtain ⟨x, hx⟩ : ∃ x, Sa[0]? = some x := ⟨_, List.getElem?_eq_getElem (by rw [LA.out]; decide)⟩
        obtain ⟨y, hy⟩ : ∃ y, Sb[0]? = some y := ⟨_, List.getElem?_eq_getElem (by rw [LB.out]; decide)⟩
        obtain ⟨z, hz⟩ : ∃ z, Sc[0]? = some z := ⟨_, List.getElem?_eq_getElem (by rw [LC.out]; decide)⟩
        have K := ASK2.out 0 x y z (by decide) hx hy hz
        have ezx : z = x := K.zero rfl
        have o2 : (FloatKind.f64.format.order z z == some .eq) = true := by rw [eql_self, (small_word K.lt_c).1]; rfl
        subst ezx
        have HA := Lib.hid hx
        have HC := Lib.hid hz
        have hgw : w1.grownBy wr.drew none := by
          rw [HWr.out]
          have h9 := g_below HB3.out
          exact ⟨h9.os, h9.tape, h9.output, h9.size, h9.block⟩
        have HGW := Lib.hid hgw
        have p1 : wr.drew.cell? ⟨gc, 0, none⟩ = some (.float .f64 z) := by rw [HWr.out]; exact own_cellR OC.out hz
        have p2 : wr.drew.cell? ⟨ga, 0, none⟩ = some (.float .f64 z) := by rw [HWr.out]; exact own_cellR OA.out hx
        have P0 : wr.drew.cell? ⟨gc, 0, none⟩ = some (.float .f64 z) ∧ wr.drew.cell? ⟨ga, 0, none⟩ = some (.float .f64 z) := ⟨p1, p2⟩
        clear hx hy hz K hgw p1 p2
        go_wp2_with fail
        go_region_held3 (fun W => W.cell? ⟨gc, 0, none⟩ = some (.float .f64 z) ∧ W.cell? ⟨ga, 0, none⟩ = some (.float .f64 z))
          (first | exact P0 | exact P5)
          (first | (go_at_call 6; refine (CA _).out.mono ?_; rintro e w5 ⟨rfl, h5⟩; have P5 : w5.cell? ⟨gc, 0, none⟩ = some (.float .f64 z) ∧ w5.cell? ⟨ga, 0, none⟩ = some (.float .f64 z) := ⟨h5.cell P0.1 (by simp), h5.cell P0.2 (by simp)⟩; have HG5 := Lib.hid h5; clear h5))
        go_wp2_with fail
        go_ret
        exact ⟨rfl, below_g (gnone HG1.out (gnone HGW.out HG5.out))⟩
end Go.Proofs.Ytkhmbkofkdnlkaa
