/-
  The law BloomSizes, walked.
-/
import Derived.Test.YtgiodfpkkdaflaaDoorM3
namespace Go.Proofs.YtgiodfpkkdaflaaDoor
open Go.RowKit Ieee

theorem i64_le {n : Int} (h : (Lit.int .i64 n).wf = true) : n ≤ 9223372036854775807 := by
  have e1 : IntKind.i64.min = -9223372036854775808 := by decide
  have e2 : IntKind.i64.max = 9223372036854775807 := by decide
  simp [Lit.wf, e1, e2] at h
  omega
set_option maxRecDepth 100000 in
set_option maxHeartbeats 8000000 in
theorem lawBloomSizes (n : Int) (hn : (Lit.int .i64 n).wf = true) (m : Int) (hm : (Lit.int .i64 m).wf = true) (a : Nat) (_ha : (Lit.float .f64 a).wf = true) (b : Nat) (_hb : (Lit.float .f64 b).wf = true) (w : World) (hL : LaidM w) :
    Calls Tryd.prog 5 #[.int .i64 n, .int .i64 m, .float .f64 a, .float .f64 b] w fun e w' => e = .returned (.bool true) ∧ Below w.heap.size w w' := by
  have hn := i64_le hn
  have hm := i64_le hm
  have CS := fun (n : Int) (h : n ≤ 9223372036854775807) x W => Lib.hid (bsize_any n x W h)
  have hnm : Hid (n ≤ 9223372036854775807 ∧ m ≤ 9223372036854775807) := Lib.hid ⟨hn, hm⟩
  have CP := fun x W => Lib.hid (bprobes_any x W)
  have CA := fun W (hb : Below w.heap.size w W) => Lib.hid (alive12_any W (hL.on hb))
  have CN := fun W => Lib.hid (bnan_any W)
  have CM := fun W => Lib.hid (bminus_any W)
  have HB := Lib.hid (Below.refl w.heap.size w)
  have g1 := gtr_eq a 0
  rw [show isN 0 = false from by decide, show nkey 0 = 0 from by decide] at g1
  have g2 := leq_eq a b
  have z1 := sizeN_ge n a
  have z2 := sizeN_le n a
  have k1 := probesN_ge a
  have k2 := probesN_le a
  have q1 : ¬ ((sizeN n a : Nat) : Int) < 8 := by omega
  have q2 : ¬ (65536 : Int) < ((sizeN n a : Nat) : Int) := by omega
  have q3 : (1 : Int) ≤ ((probesN a : Nat) : Int) := by omega
  have q4 : ((probesN a : Nat) : Int) ≤ 30 := by omega
  have e1 : sizeN n 9221120237041090561 = 8 := sizeN_nan n _ (by decide)
  have e2 := size_minus n
  have r1 : (!isN a && !false && decide (0 < nkey a)) = true → n ≤ m → ¬ ((sizeN m a : Nat) : Int) < ((sizeN n a : Nat) : Int) := fun _ h2 => by have := sizeN_more a h2; omega
  have r2 : (!isN a && !isN b && decide (nkey a ≤ nkey b)) = true → ¬ ((sizeN n b : Nat) : Int) < ((sizeN n a : Nat) : Int) ∧ ¬ ((probesN b : Nat) : Int) < ((probesN a : Nat) : Int) := fun h => by
    simp only [Bool.and_eq_true, Bool.not_eq_true', decide_eq_true_eq] at h
    have h1 := sizeN_longer n h.1.2 h.2
    have h2 := probesN_mono h.1.2 h.2
    omega
  generalize (!isN a && !false && decide (0 < nkey a)) = t1 at *
  generalize (!isN a && !isN b && decide (nkey a ≤ nkey b)) = t3 at *
  clear hn hm hL z1 z2 k1 k2
  have key : ∀ t2 : Bool, decide (n ≤ m) = t2 → Calls Tryd.prog 5 #[.int .i64 n, .int .i64 m, .float .f64 a, .float .f64 b] w fun e w' => e = .returned (.bool true) ∧ Below w.heap.size w w' := by
    intro t2 g3
    cases t1 <;> cases t2 <;> cases t3
    all_goals
      try (have g4 : n ≤ m := of_decide_eq_true g3)
      try (have g4 : ¬ n ≤ m := of_decide_eq_false g3)
      try (have s1 := r1 rfl g4)
      try (obtain ⟨s2, s3⟩ := r2 rfl)
      clear r1 r2
      go_enter Tryd.func5, Tryd.ntmps5
      go_wp2_with (first
        | (go_at_call 15; refine (CS _ (by first | exact hnm.out.1 | exact hnm.out.2) _ _).out.mono ?_; rintro e w1 ⟨rfl, hb1⟩; have HB := Lib.hid (HB.out.trans (hb1.mono HB.out.size)); clear hb1)
        | (go_at_call 13; refine (CP _ _).out.mono ?_; rintro e w1 ⟨rfl, hb1⟩; have HB := Lib.hid (HB.out.trans (hb1.mono HB.out.size)); clear hb1)
        | (go_at_call 8; refine (CA _ HB.out).out.mono ?_; rintro e w1 ⟨rfl, hb1⟩; have HB := Lib.hid (HB.out.trans (hb1.mono HB.out.size)); clear hb1)
        | (go_at_call 22; refine (CN _).out.mono ?_; rintro e w1 ⟨rfl, rfl⟩)
        | (go_at_call 23; refine (CM _).out.mono ?_; rintro e w1 ⟨rfl, rfl⟩))
      go_ret
      exact ⟨rfl, HB.out⟩
  exact key _ rfl
end Go.Proofs.YtgiodfpkkdaflaaDoor
