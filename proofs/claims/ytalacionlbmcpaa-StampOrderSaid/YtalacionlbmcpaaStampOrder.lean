/-
  StampOrder: one of two unlike stamps is behind the other one, and it goes on; of a nil clock.
-/
import Derived.Test.YtalacionlbmcpaaStamp2
import Derived.Test.YtalacionlbmcpaaQuiet
import Derived.Deep.RegionHeld3
import Derived.DeepKeys
namespace Go.Proofs.Ytalacionlbmcpaa
open Go.RowKit

set_option maxRecDepth 100000 in
set_option maxHeartbeats 1000000 in
theorem greater3_any (a b c d e f : Int) (w : World) :
    Calls Try.prog 20 #[.agg #[.int .i64 a, .int .i64 b, .int .i64 c], .agg #[.int .i64 d, .int .i64 e, .int .i64 f]] w fun x w' => x = .returned (.bool (greaterN a b c d e f)) ∧ Below w.heap.size w w' := by
  have C := fun W => Lib.hid (sgreater_any a b c d e f W)
  generalize greaterN a b c d e f = g at *
  go_enter Try.func20, Try.ntmps20
  go_wp2_with fail
  refine (C _).out.mono ?_
  rintro e w' ⟨rfl, rfl⟩
  go_wp2_with fail
  go_ret
  exact ⟨rfl, ((Below.refl _ w).alloc (Nat.le_refl _) _).alloc (by simp) _⟩

theorem run_eq3 (a b c d e f : Int) (wa : (Lit.int .i64 a).wf = true) (wb : (Lit.int .i64 b).wf = true) (wc : (Lit.int .i64 c).wf = true) (wd : (Lit.int .i64 d).wf = true) (we : (Lit.int .i64 e).wf = true) (wf : (Lit.int .i64 f).wf = true) (W : World) :
    (binOp .eql 43 (.agg #[.int .i64 a, .int .i64 b, .int .i64 c]) (.agg #[.int .i64 d, .int .i64 e, .int .i64 f])).run Try.prog W = .ok (.bool (decide (a = d ∧ b = e ∧ c = f))) W := by
  rw [run_eql_struct]
  have hc : Try.prog.cellsOf 3 = 1 := by kernel_rfl
  have hk : ∀ x y z : Int, (Lit.int .i64 x).wf = true → (Lit.int .i64 y).wf = true → (Lit.int .i64 z).wf = true → Try.prog.keyLits 2 43 [.int .i64 x, .int .i64 y, .int .i64 z] = some [.int .i64 x, .int .i64 y, .int .i64 z] := by
    intro x y z hx hy hz
    have r3 : List.range 3 = [0, 1, 2] := rfl
    have hl : Try.prog.cellsOf 43 = 3 := by kernel_rfl
    unfold Program.keyLits
    rw [Try.underlying43]
    simp [hl, r3, hc, Program.keyLits, Try.underlying3, hx, hy, hz]
  obtain ⟨r, hr, hiff⟩ := run_equalIn_deep (P := Try.prog) 9998 2 43 (by kernel_rfl) W 2 2 (.agg #[.int .i64 a, .int .i64 b, .int .i64 c]) (.agg #[.int .i64 d, .int .i64 e, .int .i64 f]) _ _ (by kernel_rfl) (by kernel_rfl) (hk a b c wa wb wc) (hk d e f wd we wf)
  rw [show (10000 : Nat) = 9998 + 2 from rfl, hr]
  have : r = decide (a = d ∧ b = e ∧ c = f) := by
    rw [Bool.eq_iff_iff, hiff]
    simp
  subst this
  rfl

theorem order_law (a0 b0 c0 a1 b1 c1 a2 b2 c2 : Int) :
    (greaterN a0 b0 c0 a1 b1 c1 = true → greaterN a1 b1 c1 a0 b0 c0 = false ∧ decide (a0 = a1 ∧ b0 = b1 ∧ c0 = c1) = false) ∧
    (greaterN a0 b0 c0 a1 b1 c1 = false → greaterN a1 b1 c1 a0 b0 c0 = true → decide (a0 = a1 ∧ b0 = b1 ∧ c0 = c1) = false) ∧
    (greaterN a0 b0 c0 a1 b1 c1 = false → greaterN a1 b1 c1 a0 b0 c0 = false → decide (a0 = a1 ∧ b0 = b1 ∧ c0 = c1) = true) ∧
    (greaterN a0 b0 c0 a1 b1 c1 = true → greaterN a1 b1 c1 a2 b2 c2 = true → greaterN a0 b0 c0 a2 b2 c2 = true) := by
  have key : ∀ a b c d e f : Int, (greaterN a b c d e f = true ↔ (d < a ∨ (a = d ∧ (e < b ∨ (b = e ∧ f < c))))) := by
    intro a b c d e f
    unfold greaterN
    by_cases h : a = d
    · rw [if_pos h]
      by_cases k : b = e
      · rw [if_pos k, decide_eq_true_eq]; omega
      · rw [if_neg k, decide_eq_true_eq]; omega
    · rw [if_neg h, decide_eq_true_eq]; omega
  have keyf : ∀ a b c d e f : Int, (greaterN a b c d e f = false ↔ ¬ (d < a ∨ (a = d ∧ (e < b ∨ (b = e ∧ f < c))))) := by
    intro a b c d e f
    rw [← key, Bool.not_eq_true]
  simp only [key, keyf, decide_eq_true_eq, decide_eq_false_iff_not]
  refine ⟨fun h => ⟨by omega, by omega⟩, fun h k => by omega, fun h k => by omega, fun h k => by omega⟩

/-- What stands while the law runs: the three arrays, and all that was there. -/
structure OrdS (w : World) (g p2 p3 : Nat) (a0 b0 c0 a1 b1 c1 a2 b2 c2 : Int) (W : World) : Prop where
  x : Blk W g 43 #[.int .i64 a0, .int .i64 b0, .int .i64 c0]
  y : Blk W p2 43 #[.int .i64 a1, .int .i64 b1, .int .i64 c1]
  z : Blk W p3 43 #[.int .i64 a2, .int .i64 b2, .int .i64 c2]
  b : Below w.heap.size w W
theorem OrdS.on {w : World} {g p2 p3 : Nat} {a0 b0 c0 a1 b1 c1 a2 b2 c2 : Int} {W W' : World} (h : OrdS w g p2 p3 a0 b0 c0 a1 b1 c1 a2 b2 c2 W) (hb : Below W.heap.size W W') : OrdS w g p2 p3 a0 b0 c0 a1 b1 c1 a2 b2 c2 W' :=
  ⟨h.x.below hb h.x.lt, h.y.below hb h.y.lt, h.z.below hb h.z.lt, h.b.trans (hb.mono h.b.size)⟩
theorem OrdS.drew {w : World} {g p2 p3 : Nat} {a0 b0 c0 a1 b1 c1 a2 b2 c2 : Int} {W : World} (h : OrdS w g p2 p3 a0 b0 c0 a1 b1 c1 a2 b2 c2 W) : OrdS w g p2 p3 a0 b0 c0 a1 b1 c1 a2 b2 c2 W.drew :=
  ⟨h.x, h.y, h.z, h.b.drew⟩
theorem OrdS.cells {w : World} {g p2 p3 : Nat} {a0 b0 c0 a1 b1 c1 a2 b2 c2 : Int} {W : World} (h : OrdS w g p2 p3 a0 b0 c0 a1 b1 c1 a2 b2 c2 W) : OrdS w g p2 p3 a0 b0 c0 a1 b1 c1 a2 b2 c2 W ∧ W.cell? ⟨g, 0, none⟩ = some (.int .i64 a0) ∧ W.cell? ⟨g, 1, none⟩ = some (.int .i64 b0) ∧ W.cell? ⟨g, 2, none⟩ = some (.int .i64 c0) ∧ W.cell? ⟨p2, 0, none⟩ = some (.int .i64 a1) ∧ W.cell? ⟨p2, 1, none⟩ = some (.int .i64 b1) ∧ W.cell? ⟨p2, 2, none⟩ = some (.int .i64 c1) ∧ W.cell? ⟨p3, 0, none⟩ = some (.int .i64 a2) ∧ W.cell? ⟨p3, 1, none⟩ = some (.int .i64 b2) ∧ W.cell? ⟨p3, 2, none⟩ = some (.int .i64 c2) :=
  ⟨h, h.x.cell 0, h.x.cell 1, h.x.cell 2, h.y.cell 0, h.y.cell 1, h.y.cell 2, h.z.cell 0, h.z.cell 1, h.z.cell 2⟩
theorem greater_held {w : World} {g p2 p3 : Nat} {a0 b0 c0 a1 b1 c1 a2 b2 c2 : Int} {W : World} (a b c d e f : Int) (h : OrdS w g p2 p3 a0 b0 c0 a1 b1 c1 a2 b2 c2 W) :
    Calls Try.prog 20 #[.agg #[.int .i64 a, .int .i64 b, .int .i64 c], .agg #[.int .i64 d, .int .i64 e, .int .i64 f]] W fun x w' => x = .returned (.bool (greaterN a b c d e f)) ∧ OrdS w g p2 p3 a0 b0 c0 a1 b1 c1 a2 b2 c2 w' :=
  (greater3_any a b c d e f W).mono fun _ _ ⟨he, hb⟩ => ⟨he, h.on hb⟩
theorem alive4_held {w : World} {g p2 p3 : Nat} {a0 b0 c0 a1 b1 c1 a2 b2 c2 : Int} {W : World} (h : OrdS w g p2 p3 a0 b0 c0 a1 b1 c1 a2 b2 c2 W) :
    Calls Try.prog 8 #[] W fun x w' => x = .returned (.bool true) ∧ OrdS w g p2 p3 a0 b0 c0 a1 b1 c1 a2 b2 c2 w' :=
  (alive4_any W).mono fun _ _ ⟨he, hb⟩ => ⟨he, h.on hb⟩
theorem snil_now_held {w : World} {g p2 p3 : Nat} {a0 b0 c0 a1 b1 c1 a2 b2 c2 : Int} {W : World} (h : OrdS w g p2 p3 a0 b0 c0 a1 b1 c1 a2 b2 c2 W) :
    Calls Try.prog 18 #[.pointer none] W fun x w' => x = .returned (.int .i64 0) ∧ OrdS w g p2 p3 a0 b0 c0 a1 b1 c1 a2 b2 c2 w' :=
  (snil_now W).mono fun _ _ ⟨he, hb⟩ => ⟨he, by rw [hb]; exact h⟩
theorem snil_last_held {w : World} {g p2 p3 : Nat} {a0 b0 c0 a1 b1 c1 a2 b2 c2 : Int} {W : World} (h : OrdS w g p2 p3 a0 b0 c0 a1 b1 c1 a2 b2 c2 W) :
    Calls Try.prog 19 #[.pointer none] W fun x w' => x = .returned (.int .i64 0) ∧ OrdS w g p2 p3 a0 b0 c0 a1 b1 c1 a2 b2 c2 w' :=
  (snil_last W).mono fun _ _ ⟨he, hb⟩ => ⟨he, by rw [hb]; exact h⟩

set_option maxRecDepth 100000 in
set_option maxHeartbeats 4000000 in
theorem lawStampOrder (a0 b0 c0 : Int) (wa0 : (Lit.int .i64 a0).wf = true) (wb0 : (Lit.int .i64 b0).wf = true) (wc0 : (Lit.int .i64 c0).wf = true) (a1 b1 c1 : Int) (wa1 : (Lit.int .i64 a1).wf = true) (wb1 : (Lit.int .i64 b1).wf = true) (wc1 : (Lit.int .i64 c1).wf = true)
    (a2 b2 c2 : Int) (_wa2 : (Lit.int .i64 a2).wf = true) (_wb2 : (Lit.int .i64 b2).wf = true) (_wc2 : (Lit.int .i64 c2).wf = true) (w : World) :
    Calls Try.prog 5 #[.agg #[.int .i64 a0, .int .i64 b0, .int .i64 c0], .agg #[.int .i64 a1, .int .i64 b1, .int .i64 c1], .agg #[.int .i64 a2, .int .i64 b2, .int .i64 c2]] w fun e w' => e = .returned (.bool true) ∧ Below w.heap.size w w' := by
  have E := run_eq3 a0 b0 c0 a1 b1 c1 wa0 wb0 wc0 wa1 wb1 wc1
  obtain ⟨O1, O2, O3, O4⟩ := order_law a0 b0 c0 a1 b1 c1 a2 b2 c2
  clear wa0 wb0 wc0 wa1 wb1 wc1
  have C1 := fun W h => Lib.hid (greater_held (w := w) (g := w.heap.size) (p2 := w.heap.size + 1) (p3 := w.heap.size + 1 + 1) (a0 := a0) (b0 := b0) (c0 := c0) (a1 := a1) (b1 := b1) (c1 := c1) (a2 := a2) (b2 := b2) (c2 := c2) (W := W) a0 b0 c0 a1 b1 c1 h)
  have C2 := fun W h => Lib.hid (greater_held (w := w) (g := w.heap.size) (p2 := w.heap.size + 1) (p3 := w.heap.size + 1 + 1) (a0 := a0) (b0 := b0) (c0 := c0) (a1 := a1) (b1 := b1) (c1 := c1) (a2 := a2) (b2 := b2) (c2 := c2) (W := W) a1 b1 c1 a2 b2 c2 h)
  have C3 := fun W h => Lib.hid (greater_held (w := w) (g := w.heap.size) (p2 := w.heap.size + 1) (p3 := w.heap.size + 1 + 1) (a0 := a0) (b0 := b0) (c0 := c0) (a1 := a1) (b1 := b1) (c1 := c1) (a2 := a2) (b2 := b2) (c2 := c2) (W := W) a0 b0 c0 a2 b2 c2 h)
  have C4 := fun W h => Lib.hid (greater_held (w := w) (g := w.heap.size) (p2 := w.heap.size + 1) (p3 := w.heap.size + 1 + 1) (a0 := a0) (b0 := b0) (c0 := c0) (a1 := a1) (b1 := b1) (c1 := c1) (a2 := a2) (b2 := b2) (c2 := c2) (W := W) a1 b1 c1 a0 b0 c0 h)
  generalize greaterN a0 b0 c0 a1 b1 c1 = x at *
  generalize greaterN a1 b1 c1 a2 b2 c2 = y at *
  generalize greaterN a0 b0 c0 a2 b2 c2 = z at *
  generalize greaterN a1 b1 c1 a0 b0 c0 = v at *
  generalize decide (a0 = a1 ∧ b0 = b1 ∧ c0 = c1) = q at *
  have S0 : OrdS w w.heap.size (w.heap.size + 1) (w.heap.size + 1 + 1) a0 b0 c0 a1 b1 c1 a2 b2 c2 (((w.alloc (.cells #[.int .i64 a0, .int .i64 b0, .int .i64 c0] 43)).alloc (.cells #[.int .i64 a1, .int .i64 b1, .int .i64 c1] 43)).alloc (.cells #[.int .i64 a2, .int .i64 b2, .int .i64 c2] 43)) :=
    ⟨((Blk.new w _ _).alloc _).alloc _, (Blk.new' (by simp) _ _).alloc _, Blk.new' (by simp) _ _, (((Below.refl _ w).alloc (Nat.le_refl _) _).alloc (by simp) _).alloc (by simp; omega) _⟩
  go_enter Try.func5, Try.ntmps5
  go_wp2_with fail
  generalize (((w.alloc (.cells #[.int .i64 a0, .int .i64 b0, .int .i64 c0] 43)).alloc (.cells #[.int .i64 a1, .int .i64 b1, .int .i64 c1] 43)).alloc (.cells #[.int .i64 a2, .int .i64 b2, .int .i64 c2] 43)) = w3 at *
  have Keep : Hid (∀ W, OrdS w w.heap.size (w.heap.size + 1) (w.heap.size + 1 + 1) a0 b0 c0 a1 b1 c1 a2 b2 c2 W → _) := fun W h => OrdS.cells h
  go_region_held3 (fun W => OrdS w w.heap.size (w.heap.size + 1) (w.heap.size + 1 + 1) a0 b0 c0 a1 b1 c1 a2 b2 c2 W ∧ W.cell? ⟨w.heap.size, 0, none⟩ = some (.int .i64 a0) ∧ W.cell? ⟨w.heap.size, 1, none⟩ = some (.int .i64 b0) ∧ W.cell? ⟨w.heap.size, 2, none⟩ = some (.int .i64 c0) ∧ W.cell? ⟨w.heap.size + 1, 0, none⟩ = some (.int .i64 a1) ∧ W.cell? ⟨w.heap.size + 1, 1, none⟩ = some (.int .i64 b1) ∧ W.cell? ⟨w.heap.size + 1, 2, none⟩ = some (.int .i64 c1) ∧ W.cell? ⟨w.heap.size + 1 + 1, 0, none⟩ = some (.int .i64 a2) ∧ W.cell? ⟨w.heap.size + 1 + 1, 1, none⟩ = some (.int .i64 b2) ∧ W.cell? ⟨w.heap.size + 1 + 1, 2, none⟩ = some (.int .i64 c2))
    (first | exact Keep.out _ S0.drew | exact Keep.out _ (by assumption))
    (first
      | (go_at_call_of 20 (Value.agg #[.int .i64 a2, .int .i64 b2, .int .i64 c2]); go_at_call_of 20 (Value.agg #[.int .i64 a1, .int .i64 b1, .int .i64 c1]); refine (C2 _ (by first | assumption | exact S0.drew)).out.mono ?_; rintro e w5 ⟨rfl, S5⟩)
      | (go_at_call_of 20 (Value.agg #[.int .i64 a2, .int .i64 b2, .int .i64 c2]); refine (C3 _ (by first | assumption | exact S0.drew)).out.mono ?_; rintro e w5 ⟨rfl, S5⟩)
      | (go_at_call 20; refine (C1 _ (by first | assumption | exact S0.drew)).out.mono ?_; rintro e w5 ⟨rfl, S5⟩))
  go_wp2_with fail
  refine (snil_tick 1 _).mono ?_
  rintro e w6 ⟨rfl, rfl⟩
  go_wp2_with fail
  refine (snil_seen 1 _).mono ?_
  rintro e w6 ⟨rfl, rfl⟩
  go_wp2_with fail
  refine (snil_drift 4607182418800017408 _).mono ?_
  rintro e w6 ⟨rfl, rfl⟩
  go_wp2_with fail
  refine (snil_next 0 _).mono ?_
  rintro e w6 ⟨rfl, rfl⟩
  go_wp2_with fail
  have SS := S5
  cases x
  · cases v
    · have hq := O3 rfl rfl
      subst hq
      clear O1 O2 O3 O4
      refine wp_region_class (fun W => OrdS w w.heap.size (w.heap.size + 1) (w.heap.size + 1 + 1) a0 b0 c0 a1 b1 c1 a2 b2 c2 W) (by kernel_rfl) (by kernel_rfl) SS.drew ?_
      clear SS
      repeat' (first
        | (refine wpQuiet_skip (by rfl) ?_; try simp only [Act.put, List.setIfInBounds_toArray, List.set_cons_zero, List.set_cons_succ])
        | (refine wpQuiet_take (by rfl) ?_ (fun W hW => ?_) ?_
           rotate_left
           focus
             obtain ⟨_, k1, k2, k3, k4, k5, k6, _⟩ := Keep.out _ hW
             go_simp
             first
               | done
               | with_reducible rfl
               | (go_at_call 8; exact alive4_held hW)
               | (go_at_call 20; exact (C4 _ hW).out)
               | (go_at_call 18; exact snil_now_held hW)
               | (go_at_call 19; exact snil_last_held hW)
           try simp only [Act.put, List.setIfInBounds_toArray, List.set_cons_zero, List.set_cons_succ]))
      refine wpQuiet_nil (fun w9 S9 => ?_)
      go_wp2_with fail
      go_ret
      exact ⟨rfl, OrdS.b S9⟩
    · have hq := O2 rfl rfl
      subst hq
      clear O1 O2 O3 O4
      refine wp_region_class (fun W => OrdS w w.heap.size (w.heap.size + 1) (w.heap.size + 1 + 1) a0 b0 c0 a1 b1 c1 a2 b2 c2 W) (by kernel_rfl) (by kernel_rfl) SS.drew ?_
      clear SS
      repeat' (first
        | (refine wpQuiet_skip (by rfl) ?_; try simp only [Act.put, List.setIfInBounds_toArray, List.set_cons_zero, List.set_cons_succ])
        | (refine wpQuiet_take (by rfl) ?_ (fun W hW => ?_) ?_
           rotate_left
           focus
             obtain ⟨_, k1, k2, k3, k4, k5, k6, _⟩ := Keep.out _ hW
             go_simp
             first
               | done
               | with_reducible rfl
               | (go_at_call 8; exact alive4_held hW)
               | (go_at_call 20; exact (C4 _ hW).out)
               | (go_at_call 18; exact snil_now_held hW)
               | (go_at_call 19; exact snil_last_held hW)
           try simp only [Act.put, List.setIfInBounds_toArray, List.set_cons_zero, List.set_cons_succ]))
      refine wpQuiet_nil (fun w9 S9 => ?_)
      go_wp2_with fail
      go_ret
      exact ⟨rfl, OrdS.b S9⟩
  · obtain ⟨hv, hq⟩ := O1 rfl
    subst hv hq
    cases y
    · clear O1 O2 O3 O4
      refine wp_region_class (fun W => OrdS w w.heap.size (w.heap.size + 1) (w.heap.size + 1 + 1) a0 b0 c0 a1 b1 c1 a2 b2 c2 W) (by kernel_rfl) (by kernel_rfl) SS.drew ?_
      clear SS
      repeat' (first
        | (refine wpQuiet_skip (by rfl) ?_; try simp only [Act.put, List.setIfInBounds_toArray, List.set_cons_zero, List.set_cons_succ])
        | (refine wpQuiet_take (by rfl) ?_ (fun W hW => ?_) ?_
           rotate_left
           focus
             obtain ⟨_, k1, k2, k3, k4, k5, k6, _⟩ := Keep.out _ hW
             go_simp
             first
               | done
               | with_reducible rfl
               | (go_at_call 8; exact alive4_held hW)
               | (go_at_call 20; exact (C4 _ hW).out)
               | (go_at_call 18; exact snil_now_held hW)
               | (go_at_call 19; exact snil_last_held hW)
           try simp only [Act.put, List.setIfInBounds_toArray, List.set_cons_zero, List.set_cons_succ]))
      refine wpQuiet_nil (fun w9 S9 => ?_)
      go_wp2_with fail
      go_ret
      exact ⟨rfl, OrdS.b S9⟩
    · have hz := O4 rfl rfl
      subst hz
      clear O1 O2 O3 O4
      refine wp_region_class (fun W => OrdS w w.heap.size (w.heap.size + 1) (w.heap.size + 1 + 1) a0 b0 c0 a1 b1 c1 a2 b2 c2 W) (by kernel_rfl) (by kernel_rfl) SS.drew ?_
      clear SS
      repeat' (first
        | (refine wpQuiet_skip (by rfl) ?_; try simp only [Act.put, List.setIfInBounds_toArray, List.set_cons_zero, List.set_cons_succ])
        | (refine wpQuiet_take (by rfl) ?_ (fun W hW => ?_) ?_
           rotate_left
           focus
             obtain ⟨_, k1, k2, k3, k4, k5, k6, _⟩ := Keep.out _ hW
             go_simp
             first
               | done
               | with_reducible rfl
               | (go_at_call 8; exact alive4_held hW)
               | (go_at_call 20; exact (C4 _ hW).out)
               | (go_at_call 18; exact snil_now_held hW)
               | (go_at_call 19; exact snil_last_held hW)
           try simp only [Act.put, List.setIfInBounds_toArray, List.set_cons_zero, List.set_cons_succ]))
      refine wpQuiet_nil (fun w9 S9 => ?_)
      go_wp2_with fail
      go_ret
      exact ⟨rfl, OrdS.b S9⟩
end Go.Proofs.Ytalacionlbmcpaa
