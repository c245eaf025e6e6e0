/-
  Walks over package raw: Number, with its deferred closure.
-/
import Derived.Test.YtkjfhgaiakienaaDoorRaw12
import Derived.Defers
import Derived.Recover
namespace Go.Proofs.YtkjfhgaiakienaaDoor
open Go.RowKit

set_option maxHeartbeats 400000 in
theorem number_catch (a b : Nat) (x y : Value) (er : Int) (older : List PanicEntry) (w : World) (ha : w.cell? ⟨a, 0, none⟩ = some x) (hb : w.cell? ⟨b, 0, none⟩ = some y)
    (fa : w.frozen? ⟨a, 0, none⟩ = false) (fb : w.frozen? ⟨b, 0, none⟩ = false) (hab : a ≠ b) :
    CallsD Tryd.prog 35 #[.pointer (some ⟨a, 0, none⟩), .pointer (some ⟨b, 0, none⟩)] (.panicking ({ v := .iface 22 (.int .i64 er), recovered := false } :: older)) w fun e u' w' =>
      e = .returned (.tuple #[]) ∧ u' = .panicking ({ v := .iface 22 (.int .i64 er), recovered := true } :: older) ∧
        w' = (w.setCell ⟨a, 0, none⟩ (.int .i64 0)).setCell ⟨b, 0, none⟩ (.int .i64 er) := by
  refine callsD_of_wpS Tryd.func35 rfl fun c₀ cs hu => ?_
  apply wpS_seq
  apply wpS_region
  simp [wpOpsS, go_sem, recoverD, hu, Tryd.ntmps35, Exit.thenS]
  refine wpS_of_wp ?_
  simp [Array.replicate]
  go_wp2_with fail
  refine (told_errno _ _).mono ?_
  rintro e w' ⟨rfl, rfl⟩
  go_wp2
  simp [bodyPostS, results, Tryd.results35]

set_option maxHeartbeats 400000 in
theorem number_idle (a b : Value) (w : World) :
    CallsD Tryd.prog 35 #[a, b] .returning w fun e u' w' => e = .returned (.tuple #[]) ∧ u' = .returning ∧ w' = w := by
  refine callsD_of_wpS Tryd.func35 rfl fun c₀ cs hu => ?_
  apply wpS_seq
  apply wpS_region
  simp [wpOpsS, go_sem, recoverD, hu, Tryd.ntmps35, Exit.thenS]
  refine wpS_of_wp ?_
  simp [Array.replicate]
  go_wp2
  cases c₀
  simp_all [bodyPostS, results, Tryd.results35]

def numL (l : List UInt8) : Option Int := if l = [48] then some 0 else (natL (Lib.trimPrefix l [45])).map fun (v : Nat) => if Lib.hasPrefix l [45] then -(v : Int) else (v : Int)

theorem digs_lt (l : List UInt8) : ∀ a v, digs l a = some v → v < (a + 1) * 10 ^ l.length := by
  induction l with
  | nil => intro a v h; injection h with h; subst h; simp
  | cons c r ih =>
    intro a v h
    rw [digs] at h
    split at h
    · have := ih _ _ h
      rw [List.length_cons, Nat.pow_succ]
      have h2 : (a * 10 + (c.toNat - 48) + 1) * 10 ^ r.length ≤ ((a + 1) * 10) * 10 ^ r.length := Nat.mul_le_mul_right _ (by omega)
      rw [Nat.mul_assoc, Nat.mul_comm 10] at h2
      omega
    · cases h
theorem natL_lt {l : List UInt8} {v : Nat} (h : natL l = some v) : v < 10000000000000000 := by
  unfold natL at h
  split at h
  · cases h
  · rename_i hn
    have := digs_lt l 0 v h
    have h2 : (10 : Nat) ^ l.length ≤ 10 ^ 16 := Nat.pow_le_pow_right (by decide) (by omega)
    omega

set_option maxRecDepth 100000 in
set_option maxHeartbeats 2000000 in
theorem number_zero (s : ByteArray) (w : World) (h : s.data.toList = [48]) :
    Calls Tryd.prog 17 #[.string s] w fun e w' => e = .returned (.tuple #[.int .i64 0, .int .i64 0]) ∧ Below w.heap.size w w' := by
  have hmf : ∀ (fn : Fn) (first cap : Array Value) (w : World), (Instr.makeFunc fn first cap).run Tryd.prog w = .ok (.func fn first cap) w := fun _ _ _ _ => rfl
  have e0 : (s.toList == [48]) = true := by rw [Lib.toList_data, h]; rfl
  clear h
  go_enter_defers Tryd.func17, Tryd.ntmps17
  go_wp2
  have hb : Below w.heap.size w ((w.alloc (.cells #[.int .i64 0] 3)).alloc (.cells #[.int .i64 0] 22)) := below_alloc (below_alloc (Below.refl _ _) (Nat.le_refl _) _) (Nat.le_refl _) _
  have c0 := (Blk.alloc (Blk.new w 3 #[.int .i64 0]) (.cells #[.int .i64 0] 22)).cell 0
  have c1 := (Blk.new' (w := w.alloc (.cells #[.int .i64 0] 3)) (g := w.heap.size + 1) (by simp) 22 #[.int .i64 0]).cell 0
  generalize (w.alloc (.cells #[.int .i64 0] 3)).alloc (.cells #[.int .i64 0] 22) = w3 at *
  refine leaves_cons (f := 35) (args := #[.pointer (some ⟨w.heap.size, 0, none⟩), .pointer (some ⟨w.heap.size + 1, 0, none⟩)]) (by simp) (by simp [go_sem]) ?_
  refine (number_idle _ _ _).mono ?_
  rintro e u' w'' ⟨rfl, rfl, rfl⟩
  simp at c0 c1
  simp [Leaves, settle, results, Tryd.results17, go_sem, c0, c1]
  exact hb

set_option maxRecDepth 100000 in
set_option maxHeartbeats 2000000 in
theorem number_ok (s : ByteArray) (v : Int) (w : World) (hs : s.size ≤ 9223372036854775807) (hn : s.data.toList ≠ [48]) (h : numL s.data.toList = some v) :
    Calls Tryd.prog 17 #[.string s] w fun e w' => e = .returned (.tuple #[.int .i64 v, .int .i64 0]) ∧ Below w.heap.size w w' := by
  have hmf : ∀ (fn : Fn) (first cap : Array Value) (w : World), (Instr.makeFunc fn first cap).run Tryd.prog w = .ok (.func fn first cap) w := fun _ _ _ _ => rfl
  have e0 : (s.toList == [48]) = false := by rw [Lib.toList_data, beq_eq_false_iff_ne]; exact hn
  unfold numL at h
  rw [if_neg hn] at h
  have CP := fun W => Lib.hid (Tryd.strings_CutPrefix s ⟨#[45]⟩ W)
  have htl : (Lib.trimPrefix s.data.toList [45]).length ≤ 9223372036854775807 := Nat.le_trans (Lib.trimPrefix_le _ _) hs
  obtain ⟨t, ht⟩ : ∃ t, t = Lib.trimPrefix s.data.toList [45] := ⟨_, rfl⟩
  obtain ⟨b, hb⟩ : ∃ b, b = Lib.hasPrefix s.data.toList [45] := ⟨_, rfl⟩
  have CP : ∀ W : World, Hid (Calls Tryd.prog 36 #[.string s, .string ⟨#[45]⟩] W fun e w' => e = .returned (.tuple #[.string ⟨t.toArray⟩, .bool b]) ∧ w' = W) := by
    intro W
    have := (CP W).out
    rw [ht, hb]
    exact this
  rw [← ht] at h htl
  rw [← hb] at h
  obtain ⟨u, hu, hv⟩ := Option.map_eq_some_iff.1 h
  have hlt := natL_lt hu
  have N := fun W => Lib.hid (natural_any ⟨t.toArray⟩ W (by rw [size_mk]; exact htl))
  have N : ∀ W : World, Hid (Calls Tryd.prog 37 #[.string ⟨t.toArray⟩] W fun e w' => e = .returned (.int .i64 (u : Int)) ∧ W = w') := by
    intro W
    have := (N W).out
    rw [show (⟨t.toArray⟩ : ByteArray).data.toList = t from rfl, hu] at this
    exact this
  clear htl ht hb h hu hn hs
  cases b
  · simp only [Bool.false_eq_true, if_false] at hv
    subst hv
    go_enter_defers Tryd.func17, Tryd.ntmps17
    go_wp2_with fail
    refine (CP _).out.mono ?_
    rintro e w1 ⟨rfl, rfl⟩
    go_wp2_with fail
    refine (N _).out.mono ?_
    rintro e w1 ⟨rfl, rfl⟩
    go_wp2
    have hbw : Below w.heap.size w ((w.alloc (.cells #[.int .i64 (u : Int)] 3)).alloc (.cells #[.int .i64 0] 22)) := below_alloc (below_alloc (Below.refl _ _) (Nat.le_refl _) _) (Nat.le_refl _) _
    have c0 := (Blk.alloc (Blk.new w 3 #[.int .i64 (u : Int)]) (.cells #[.int .i64 0] 22)).cell 0
    have c1 := (Blk.new' (w := w.alloc (.cells #[.int .i64 (u : Int)] 3)) (g := w.heap.size + 1) (by simp) 22 #[.int .i64 0]).cell 0
    generalize (w.alloc (.cells #[.int .i64 (u : Int)] 3)).alloc (.cells #[.int .i64 0] 22) = w3 at *
    refine leaves_cons (f := 35) (args := #[.pointer (some ⟨w.heap.size, 0, none⟩), .pointer (some ⟨w.heap.size + 1, 0, none⟩)]) (by simp) (by simp [go_sem]) ?_
    refine (number_idle _ _ _).mono ?_
    rintro e u' w'' ⟨rfl, rfl, rfl⟩
    simp at c0 c1
    simp [Leaves, settle, results, Tryd.results17, go_sem, c0, c1]
    exact hbw
  · simp only [if_true] at hv
    subst hv
    go_enter_defers Tryd.func17, Tryd.ntmps17
    go_wp2_with fail
    refine (CP _).out.mono ?_
    rintro e w1 ⟨rfl, rfl⟩
    go_wp2_with fail
    refine (N _).out.mono ?_
    rintro e w1 ⟨rfl, rfl⟩
    go_wp2
    have hbw : Below w.heap.size w ((w.alloc (.cells #[.int .i64 (-(u : Int))] 3)).alloc (.cells #[.int .i64 0] 22)) := below_alloc (below_alloc (Below.refl _ _) (Nat.le_refl _) _) (Nat.le_refl _) _
    have c0 := (Blk.alloc (Blk.new w 3 #[.int .i64 (-(u : Int))]) (.cells #[.int .i64 0] 22)).cell 0
    have c1 := (Blk.new' (w := w.alloc (.cells #[.int .i64 (-(u : Int))] 3)) (g := w.heap.size + 1) (by simp) 22 #[.int .i64 0]).cell 0
    generalize (w.alloc (.cells #[.int .i64 (-(u : Int))] 3)).alloc (.cells #[.int .i64 0] 22) = w3 at *
    refine leaves_cons (f := 35) (args := #[.pointer (some ⟨w.heap.size, 0, none⟩), .pointer (some ⟨w.heap.size + 1, 0, none⟩)]) (by simp) (by simp [go_sem]) ?_
    refine (number_idle _ _ _).mono ?_
    rintro e u' w'' ⟨rfl, rfl, rfl⟩
    simp at c0 c1
    simp [Leaves, settle, results, Tryd.results17, go_sem, c0, c1]
    exact hbw

set_option maxRecDepth 100000 in
set_option maxHeartbeats 2000000 in
theorem number_err (s : ByteArray) (w : World) (hs : s.size ≤ 9223372036854775807) (h : numL s.data.toList = none) :
    Calls Tryd.prog 17 #[.string s] w fun e w' => e = .returned (.tuple #[.int .i64 0, .int .i64 4]) ∧ Below w.heap.size w w' := by
  have hmf : ∀ (fn : Fn) (first cap : Array Value) (w : World), (Instr.makeFunc fn first cap).run Tryd.prog w = .ok (.func fn first cap) w := fun _ _ _ _ => rfl
  have hn : s.data.toList ≠ [48] := by intro e; rw [e] at h; cases h
  have e0 : (s.toList == [48]) = false := by rw [Lib.toList_data, beq_eq_false_iff_ne]; exact hn
  unfold numL at h
  rw [if_neg hn] at h
  have CP := fun W => Lib.hid (Tryd.strings_CutPrefix s ⟨#[45]⟩ W)
  have htl : (Lib.trimPrefix s.data.toList [45]).length ≤ 9223372036854775807 := Nat.le_trans (Lib.trimPrefix_le _ _) hs
  obtain ⟨t, ht⟩ : ∃ t, t = Lib.trimPrefix s.data.toList [45] := ⟨_, rfl⟩
  obtain ⟨b, hb⟩ : ∃ b, b = Lib.hasPrefix s.data.toList [45] := ⟨_, rfl⟩
  have CP : ∀ W : World, Hid (Calls Tryd.prog 36 #[.string s, .string ⟨#[45]⟩] W fun e w' => e = .returned (.tuple #[.string ⟨t.toArray⟩, .bool b]) ∧ w' = W) := by
    intro W
    have := (CP W).out
    rw [ht, hb]
    exact this
  rw [← ht] at h htl
  rw [← hb] at h
  have hu := Option.map_eq_none_iff.1 h
  have N := fun W => Lib.hid (natural_any ⟨t.toArray⟩ W (by rw [size_mk]; exact htl))
  have N : ∀ W : World, Hid (Calls Tryd.prog 37 #[.string ⟨t.toArray⟩] W fun e w' => e = .panicked [{ v := .iface 22 (.int .i64 4), recovered := false }] ∧ W = w') := by
    intro W
    have := (N W).out
    rw [show (⟨t.toArray⟩ : ByteArray).data.toList = t from rfl, hu] at this
    exact this
  clear htl ht hb h hu hn hs
  go_enter_defers Tryd.func17, Tryd.ntmps17
  go_wp2_with fail
  refine (CP _).out.mono ?_
  rintro e w1 ⟨rfl, rfl⟩
  go_wp2_with fail
  refine (N _).out.mono ?_
  rintro e w1 ⟨rfl, rfl⟩
  go_wp2
  have b0 := Blk.alloc (Blk.new w 3 #[.int .i64 0]) (.cells #[.int .i64 0] 22)
  have b1 := Blk.new' (w := w.alloc (.cells #[.int .i64 0] 3)) (g := w.heap.size + 1) (by simp) 22 #[.int .i64 0]
  have hb : Below w.heap.size w ((w.alloc (.cells #[.int .i64 0] 3)).alloc (.cells #[.int .i64 0] 22)) := below_alloc (below_alloc (Below.refl _ _) (Nat.le_refl _) _) (Nat.le_refl _) _
  generalize (w.alloc (.cells #[.int .i64 0] 3)).alloc (.cells #[.int .i64 0] 22) = w3 at *
  have c0 := ((b0.set_ 0 (.int .i64 0)).far (p := ⟨w.heap.size + 1, 0, none⟩) (by dsimp only; omega) (.int .i64 4)).cell 0
  have c1 := ((b1.far (p := ⟨w.heap.size, 0, none⟩) (by dsimp only; omega) (.int .i64 0)).set_ 0 (.int .i64 4)).cell 0
  have hb3 := below_setCell (below_setCell hb (p := ⟨w.heap.size, 0, none⟩) (Nat.le_refl _) (.int .i64 0)) (p := ⟨w.heap.size + 1, 0, none⟩) (by dsimp only; omega) (.int .i64 4)
  refine leaves_cons (f := 35) (args := #[.pointer (some ⟨w.heap.size, 0, none⟩), .pointer (some ⟨w.heap.size + 1, 0, none⟩)]) (by simp) (by simp [go_sem]) ?_
  refine (number_catch w.heap.size (w.heap.size + 1) (.int .i64 0) (.int .i64 0) 4 [] _ (b0.cell 0) (b1.cell 0) (b0.frozen 0) (b1.frozen 0) (by omega)).mono ?_
  rintro e u' w'' ⟨rfl, rfl, rfl⟩
  generalize (w3.setCell ⟨w.heap.size, 0, none⟩ (.int .i64 0)).setCell ⟨w.heap.size + 1, 0, none⟩ (.int .i64 4) = w4 at *
  simp at c0 c1
  simp [Leaves, settle, results, Tryd.results17, go_sem, c0, c1]
  exact hb3

theorem number_any (s : ByteArray) (w : World) (hs : s.size ≤ 9223372036854775807) :
    Calls Tryd.prog 17 #[.string s] w fun e w' => e = .returned (.tuple #[.int .i64 ((numL s.data.toList).getD 0), .int .i64 (if (numL s.data.toList).isSome then 0 else 4)]) ∧ Below w.heap.size w w' := by
  cases h : numL s.data.toList with
  | none => exact number_err s w hs h
  | some v =>
    by_cases hn : s.data.toList = [48]
    · have : v = 0 := by unfold numL at h; rw [if_pos hn] at h; injection h with h; exact h.symm
      subst this
      exact number_zero s w hn
    · exact number_ok s v w hs hn h
end Go.Proofs.YtkjfhgaiakienaaDoor
