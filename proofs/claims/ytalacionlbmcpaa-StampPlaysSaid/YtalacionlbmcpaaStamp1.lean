/-
  Walks over package stamp: New, Tick, Now, Next, Seen, Last, Drift, Greater.
-/
import Derived.Test.YtalacionlbmcpaaLib
import Derived.Test.YtalacionlbmcpaaReal3
import Derived.StillTailTactics
import Derived.BigQuiet
namespace Go.Proofs.Ytalacionlbmcpaa
open Go.RowKit

theorem run_min48 (n : Int) (W : World) : (Builtin.min_ #[3, 3] 3 #[.int .i64 n, .int .i64 281474976710655]).run Try.prog W = .ok (.int .i64 (if 281474976710655 < n then 281474976710655 else n)) W := by
  simp [Builtin.min_, Builtin.min2]
theorem run_max (n m : Int) (W : World) : (Builtin.max_ #[3, 3] 3 #[.int .i64 n, .int .i64 m]).run Try.prog W = .ok (.int .i64 (if n < m then m else n)) W := by
  simp [Builtin.max_, Builtin.max2]

theorem run_put_f64 (W : World) (ad : Addr) (v : Nat) : (store ad (.float .f64 v)).run Try.prog W = stored Try.prog W ad (.float .f64 v) .plain := run_store _ W ad _ _ rfl

/-- How far a clock has gone, n later. -/
def tickN (t : Int) (n : Int) (f : Nat) : Int := if 281474976710655 < t + (scaleN (capN n) f : Int) then 281474976710655 else t + (scaleN (capN n) f : Int)
theorem tickN_bd {t : Int} (n : Int) (f : Nat) (h0 : 0 ≤ t) : 0 ≤ tickN t n f ∧ tickN t n f ≤ 281474976710655 := by
  unfold tickN
  split <;> omega
theorem tickN_up {t : Int} (n : Int) (f : Nat) (h1 : t ≤ 281474976710655) : t ≤ tickN t n f := by
  unfold tickN
  split <;> omega

/-- The cells of a clock. -/
def clk (t l : Int) (f : Nat) : Array Value := #[.int .i64 t, .int .i64 l, .float .f64 f]

set_option maxRecDepth 100000 in
theorem snew_any (f : Nat) (w : World) :
    Calls Try.prog 9 #[.float .f64 f] w fun e w' => e = .returned (.pointer (some ⟨w.heap.size, 0, none⟩)) ∧ w' = w.alloc (.cells (clk 0 0 f) 30) := by
  go_enter Try.func9, Try.ntmps9
  go_wp2_with fail
  go_ret
  exact ⟨rfl, rfl⟩

set_option maxRecDepth 100000 in
set_option maxHeartbeats 1000000 in
theorem snow_any (p : Nat) (t l : Int) (f : Nat) (w : World) (hB : Blk w p 30 (clk t l f)) :
    Calls Try.prog 18 #[.pointer (some ⟨p, 0, none⟩)] w fun e w' => e = .returned (.int .i64 t) ∧ w' = w := by
  have c0 : w.cell? ⟨p, 0, none⟩ = some (.int .i64 t) := hB.cell 0
  go_enter Try.func18, Try.ntmps18
  go_wp2_with fail
  go_ret
  exact ⟨rfl, rfl⟩

set_option maxRecDepth 100000 in
set_option maxHeartbeats 1000000 in
theorem slast_any (p : Nat) (t l : Int) (f : Nat) (w : World) (hB : Blk w p 30 (clk t l f)) :
    Calls Try.prog 19 #[.pointer (some ⟨p, 0, none⟩)] w fun e w' => e = .returned (.int .i64 l) ∧ w' = w := by
  have c1 : w.cell? ⟨p, 1, none⟩ = some (.int .i64 l) := hB.cell 1
  go_enter Try.func19, Try.ntmps19
  go_wp2_with fail
  go_ret
  exact ⟨rfl, rfl⟩

set_option maxRecDepth 100000 in
set_option maxHeartbeats 1000000 in
theorem sdrift_any (p : Nat) (t l : Int) (f g : Nat) (w : World) (hB : Blk w p 30 (clk t l f)) :
    Calls Try.prog 17 #[.pointer (some ⟨p, 0, none⟩), .float .f64 g] w fun e w' => e = .returned (.tuple #[]) ∧ w' = w.setCell ⟨p, 2, none⟩ (.float .f64 g) := by
  have c2 : w.cell? ⟨p, 2, none⟩ = some (.float .f64 f) := hB.cell 2
  have z2 := hB.frozen 2
  have hst := run_put_f64
  go_enter Try.func17, Try.ntmps17
  go_wp2_with fail
  go_end0
  exact ⟨rfl, rfl⟩

set_option maxRecDepth 100000 in
set_option maxHeartbeats 1000000 in
theorem stick_any (p : Nat) (t l n : Int) (f : Nat) (w : World) (hB : Blk w p 30 (clk t l f)) (h0 : 0 ≤ t) (h1 : t ≤ 281474976710655) :
    Calls Try.prog 11 #[.pointer (some ⟨p, 0, none⟩), .int .i64 n] w fun e w' => e = .returned (.tuple #[]) ∧ ∃ q, w' = (w.setCell ⟨p, 0, none⟩ (.int .i64 (tickN t n f))).drewN q := by
  have c0 : w.cell? ⟨p, 0, none⟩ = some (.int .i64 t) := hB.cell 0
  have c2 : w.cell? ⟨p, 2, none⟩ = some (.float .f64 f) := hB.cell 2
  have z0 := hB.frozen 0
  have C := fun W => Lib.hid ((fscale_any n f W).mono (fun _ _ h => And.intro h.1 h.2.symm))
  have hle := scaleN_le (capN n) f (capN_le n)
  unfold tickN
  have hz : 0 ≤ ((scaleN (capN n) f : Nat) : Int) ∧ ((scaleN (capN n) f : Nat) : Int) ≤ 281474976710656 := by omega
  clear hle hB
  generalize ((scaleN (capN n) f : Nat) : Int) = z at *
  have e1 : IntKind.i64.wrap (t + z) = t + z := IntWalk.i64_in _ (by omega)
  have e2 : wrap64 (t + z) = t + z := IntWalk.wrap64_in _ (by omega)
  by_cases h : 281474976710655 < t + z
  · rw [if_pos h]
    clear hz h0 h1
    go_enter Try.func11, Try.ntmps11
    go_wp2_with fail
    go_still_tail 15, (by kernel_rfl)
    still_call (C _).out
    repeat still_step
    refine wpStill_nil ?_
    change wpList _ _ _ _ _ w.drew
    go_wp2_with fail
    go_end0
    exact ⟨rfl, 1, rfl⟩
  · rw [if_neg h]
    clear hz h0 h1
    go_enter Try.func11, Try.ntmps11
    go_wp2_with fail
    go_still_tail 15, (by kernel_rfl)
    still_call (C _).out
    repeat still_step
    refine wpStill_nil ?_
    change wpList _ _ _ _ _ w.drew
    go_wp2_with fail
    go_end0
    exact ⟨rfl, 1, rfl⟩

/-- The time that is given out: none at the end. -/
def nextN (t l a : Int) : Option Int := if 281474976710655 ≤ (if l < a then a else l) then none else some (if t < (if l < a then a else l) + 1 then (if l < a then a else l) + 1 else t)

set_option maxRecDepth 100000 in
set_option maxHeartbeats 1000000 in
theorem snext_over (p : Nat) (t l a : Int) (f : Nat) (w : World) (hB : Blk w p 30 (clk t l f)) (h : nextN t l a = none) :
    Calls Try.prog 13 #[.pointer (some ⟨p, 0, none⟩), .int .i64 a] w fun e w' => e = .returned (.tuple #[.int .i64 0, .int .i64 11]) ∧ w' = w := by
  have c1 : w.cell? ⟨p, 1, none⟩ = some (.int .i64 l) := hB.cell 1
  have hmax := run_max l a
  unfold nextN at h
  have h : 281474976710655 ≤ (if l < a then a else l) := by
    by_cases g : 281474976710655 ≤ (if l < a then a else l)
    · exact g
    · rw [if_neg g] at h; cases h
  clear hB
  by_cases g : l < a
  · rw [if_pos g] at h
    go_enter Try.func13, Try.ntmps13
    go_wp2_with fail
    go_ret2
    exact ⟨rfl, rfl⟩
  · rw [if_neg g] at h
    go_enter Try.func13, Try.ntmps13
    go_wp2_with fail
    go_ret2
    exact ⟨rfl, rfl⟩

set_option maxRecDepth 100000 in
set_option maxHeartbeats 1000000 in
theorem snext_ok (p : Nat) (t l a s : Int) (f : Nat) (w : World) (hB : Blk w p 30 (clk t l f)) (h0 : 0 ≤ t) (hl : 0 ≤ l) (h : nextN t l a = some s) :
    Calls Try.prog 13 #[.pointer (some ⟨p, 0, none⟩), .int .i64 a] w fun e w' => e = .returned (.tuple #[.int .i64 s, .int .i64 0]) ∧ w' = w.setCell ⟨p, 1, none⟩ (.int .i64 s) := by
  have c0 : w.cell? ⟨p, 0, none⟩ = some (.int .i64 t) := hB.cell 0
  have c1 : w.cell? ⟨p, 1, none⟩ = some (.int .i64 l) := hB.cell 1
  have z1 := hB.frozen 1
  have hmax := run_max l a
  unfold nextN at h
  have hg : ¬ 281474976710655 ≤ (if l < a then a else l) := fun g => by rw [if_pos g] at h; cases h
  rw [if_neg hg] at h
  have h := Option.some.inj h
  clear hB
  by_cases g : l < a
  · rw [if_pos g] at h hg
    have e1 : IntKind.i64.wrap (a + 1) = a + 1 := IntWalk.i64_in _ (by omega)
    have e2 : wrap64 (a + 1) = a + 1 := IntWalk.wrap64_in _ (by omega)
    by_cases k : t < a + 1
    · rw [if_pos k] at h
      subst h
      go_enter Try.func13, Try.ntmps13
      go_wp2_with fail
      go_ret2
      exact ⟨rfl, rfl⟩
    · rw [if_neg k] at h
      subst h
      go_enter Try.func13, Try.ntmps13
      go_wp2_with fail
      go_ret2
      exact ⟨rfl, rfl⟩
  · rw [if_neg g] at h hg
    have e1 : IntKind.i64.wrap (l + 1) = l + 1 := IntWalk.i64_in _ (by omega)
    have e2 : wrap64 (l + 1) = l + 1 := IntWalk.wrap64_in _ (by omega)
    by_cases k : t < l + 1
    · rw [if_pos k] at h
      subst h
      go_enter Try.func13, Try.ntmps13
      go_wp2_with fail
      go_ret2
      exact ⟨rfl, rfl⟩
    · rw [if_neg k] at h
      subst h
      go_enter Try.func13, Try.ntmps13
      go_wp2_with fail
      go_ret2
      exact ⟨rfl, rfl⟩

/-- The last time, behind one that was seen. -/
def seenN (l a : Int) : Int := if 281474976710655 < a then l else if l < a then a else l

set_option maxRecDepth 100000 in
set_option maxHeartbeats 1000000 in
theorem sseen_any (p : Nat) (t l a : Int) (f : Nat) (w : World) (hB : Blk w p 30 (clk t l f)) :
    Calls Try.prog 15 #[.pointer (some ⟨p, 0, none⟩), .int .i64 a] w fun e w' => e = .returned (.tuple #[]) ∧ (w' = w ∧ seenN l a = l ∨ w' = w.setCell ⟨p, 1, none⟩ (.int .i64 (seenN l a))) := by
  have c1 : w.cell? ⟨p, 1, none⟩ = some (.int .i64 l) := hB.cell 1
  have z1 := hB.frozen 1
  have hmax := run_max l a
  unfold seenN
  clear hB
  by_cases h : 281474976710655 < a
  · rw [if_pos h]
    go_enter Try.func15, Try.ntmps15
    go_wp2_with fail
    refine bodyPost_ret (results_none rfl _ _ _) rfl ?_
    exact ⟨rfl, Or.inl ⟨rfl, trivial⟩⟩
  · rw [if_neg h]
    by_cases g : l < a
    · rw [if_pos g] at hmax ⊢
      go_enter Try.func15, Try.ntmps15
      go_wp2_with fail
      go_end0
      exact ⟨rfl, Or.inr rfl⟩
    · rw [if_neg g] at hmax ⊢
      go_enter Try.func15, Try.ntmps15
      go_wp2_with fail
      go_end0
      exact ⟨rfl, Or.inr rfl⟩

/-! ### A nil clock -/
set_option maxRecDepth 100000 in
theorem snil_tick (n : Int) (w : World) : Calls Try.prog 11 #[.pointer none, .int .i64 n] w fun e w' => e = .returned (.tuple #[]) ∧ w' = w := by
  go_enter Try.func11, Try.ntmps11
  go_wp2_with fail
  refine bodyPost_ret (results_none rfl _ _ _) rfl ?_
  exact ⟨rfl, rfl⟩
set_option maxRecDepth 100000 in
theorem snil_seen (n : Int) (w : World) : Calls Try.prog 15 #[.pointer none, .int .i64 n] w fun e w' => e = .returned (.tuple #[]) ∧ w' = w := by
  go_enter Try.func15, Try.ntmps15
  go_wp2_with fail
  refine bodyPost_ret (results_none rfl _ _ _) rfl ?_
  exact ⟨rfl, rfl⟩
set_option maxRecDepth 100000 in
theorem snil_drift (n : Nat) (w : World) : Calls Try.prog 17 #[.pointer none, .float .f64 n] w fun e w' => e = .returned (.tuple #[]) ∧ w' = w := by
  go_enter Try.func17, Try.ntmps17
  go_wp2_with fail
  go_end0
  exact ⟨rfl, rfl⟩
set_option maxRecDepth 100000 in
theorem snil_next (n : Int) (w : World) : Calls Try.prog 13 #[.pointer none, .int .i64 n] w fun e w' => e = .returned (.tuple #[.int .i64 0, .int .i64 1]) ∧ w' = w := by
  go_enter Try.func13, Try.ntmps13
  go_wp2_with fail
  go_ret2
  exact ⟨rfl, rfl⟩
set_option maxRecDepth 100000 in
theorem snil_now (w : World) : Calls Try.prog 18 #[.pointer none] w fun e w' => e = .returned (.int .i64 0) ∧ w' = w := by
  go_enter Try.func18, Try.ntmps18
  go_wp2_with fail
  go_ret
  exact ⟨rfl, rfl⟩
set_option maxRecDepth 100000 in
theorem snil_last (w : World) : Calls Try.prog 19 #[.pointer none] w fun e w' => e = .returned (.int .i64 0) ∧ w' = w := by
  go_enter Try.func19, Try.ntmps19
  go_wp2_with fail
  go_ret
  exact ⟨rfl, rfl⟩

/-! ### Greater -/
/-- Is the stamp (a, b, c) behind (d, e, f)? -/
def greaterN (a b c d e f : Int) : Bool := if a = d then (if b = e then decide (f < c) else decide (e < b)) else decide (d < a)

set_option maxRecDepth 100000 in
set_option maxHeartbeats 1000000 in
theorem sgreater_any (a b c d e f : Int) (w : World) :
    Calls Try.prog 21 #[.int .i64 a, .int .i64 b, .int .i64 c, .int .i64 d, .int .i64 e, .int .i64 f] w fun x w' => x = .returned (.bool (greaterN a b c d e f)) ∧ w' = w := by
  unfold greaterN
  by_cases h : a = d
  · rw [if_pos h]
    have h' : (a == d) = true := by simp [h]
    clear h
    by_cases k : b = e
    · rw [if_pos k]
      have k' : (b == e) = true := by simp [k]
      clear k
      go_enter Try.func21, Try.ntmps21
      go_wp2_with fail
      go_ret
      exact ⟨rfl, rfl⟩
    · rw [if_neg k]
      have k' : (b == e) = false := by simp [k]
      clear k
      go_enter Try.func21, Try.ntmps21
      go_wp2_with fail
      go_ret
      exact ⟨rfl, rfl⟩
  · rw [if_neg h]
    have h' : (a == d) = false := by simp [h]
    clear h
    go_enter Try.func21, Try.ntmps21
    go_wp2_with fail
    go_ret
    exact ⟨rfl, rfl⟩
end Go.Proofs.Ytalacionlbmcpaa
