/-
  Walks over package raw, part 3: GetVar, with its deferred closure.
-/
import Derived.Test.YtkjfhgaiakienaaDoorRaw2
import Derived.Defers
import Derived.Recover
namespace Go.Proofs.YtkjfhgaiakienaaDoor
open Go.RowKit

theorem run_assert_errno (n : Int) (w : World) : (Instr.typeAssert (.iface 22 (.int .i64 n)) 20 22 true).run Tryd.prog w = .ok (.tuple #[.int .i64 n, .bool true]) w := by kernel_rfl

set_option maxHeartbeats 400000 in
theorem told_errno (er : Int) (w : World) :
    Calls Tryd.prog 33 #[.iface 22 (.int .i64 er)] w fun e w' => e = .returned (.int .i64 er) ∧ w = w' := by
  have hta := run_assert_errno er
  go_enter Tryd.func33, Tryd.ntmps33
  go_wp2
  go_ret
  exact ⟨rfl, rfl⟩

set_option maxHeartbeats 400000 in
theorem getvar_catch (a b c : Nat) (x y z er : Int) (older : List PanicEntry) (w : World) (ha : w.cell? ⟨a, 0, none⟩ = some (.int .i64 x)) (hb : w.cell? ⟨b, 0, none⟩ = some (.int .i64 y)) (hc : w.cell? ⟨c, 0, none⟩ = some (.int .i64 z))
    (fa : w.frozen? ⟨a, 0, none⟩ = false) (fb : w.frozen? ⟨b, 0, none⟩ = false) (fc : w.frozen? ⟨c, 0, none⟩ = false) (hab : a ≠ b) (hbc : b ≠ c) (hac : a ≠ c) :
    CallsD Tryd.prog 32 #[.pointer (some ⟨a, 0, none⟩), .pointer (some ⟨b, 0, none⟩), .pointer (some ⟨c, 0, none⟩)] (.panicking ({ v := .iface 22 (.int .i64 er), recovered := false } :: older)) w fun e u' w' =>
      e = .returned (.tuple #[]) ∧ u' = .panicking ({ v := .iface 22 (.int .i64 er), recovered := true } :: older) ∧
        w' = ((w.setCell ⟨a, 0, none⟩ (.int .i64 0)).setCell ⟨b, 0, none⟩ (.int .i64 0)).setCell ⟨c, 0, none⟩ (.int .i64 er) := by
  refine callsD_of_wpS Tryd.func32 rfl fun c₀ cs hu => ?_
  apply wpS_seq
  apply wpS_region
  simp [wpOpsS, go_sem, recoverD, hu, Tryd.ntmps32, Exit.thenS]
  refine wpS_of_wp ?_
  simp [Array.replicate]
  go_wp2_with fail
  refine (told_errno _ _).mono ?_
  rintro e w' ⟨rfl, rfl⟩
  go_wp2
  simp [bodyPostS, results, Tryd.results32]

set_option maxHeartbeats 400000 in
theorem getvar_idle (a b c : Value) (w : World) :
    CallsD Tryd.prog 32 #[a, b, c] .returning w fun e u' w' => e = .returned (.tuple #[]) ∧ u' = .returning ∧ w' = w := by
  refine callsD_of_wpS Tryd.func32 rfl fun c₀ cs hu => ?_
  apply wpS_seq
  apply wpS_region
  simp [wpOpsS, go_sem, recoverD, hu, Tryd.ntmps32, Exit.thenS]
  refine wpS_of_wp ?_
  simp [Array.replicate]
  go_wp2
  cases c₀
  simp_all [bodyPostS, results, Tryd.results32]

set_option maxRecDepth 100000 in
set_option maxHeartbeats 1000000 in
theorem getvar_ok (s : ByteArray) (v n : Nat) (w : World) (hs : s.size ≤ 9223372036854775807) (hgv : gv s.data.toList 0 0 = .ok v n) :
    Calls Tryd.prog 15 #[.string s] w fun e w' => e = .returned (.tuple #[.int .i64 (v : Int), .int .i64 (n : Int), .int .i64 0]) ∧ Below w.heap.size w w' := by
  have hmf : ∀ (fn : Fn) (first cap : Array Value) (w : World), (Instr.makeFunc fn first cap).run Tryd.prog w = .ok (.func fn first cap) w := fun _ _ _ _ => rfl
  have Hgv := Lib.hid hgv
  clear hgv
  go_enter_defers Tryd.func15, Tryd.ntmps15
  go_wp2_with fail
  have b0 : Blk ((((w.alloc (.cells #[.int .i64 0] 3)).alloc (.cells #[.int .i64 0] 3)).alloc (.cells #[.int .i64 0] 22)).alloc (.cells #[.string s, .int .i64 0] 49)) w.heap.size 3 #[.int .i64 0] := (((Blk.new _ _ _).alloc _).alloc _).alloc _
  have b1 : Blk ((((w.alloc (.cells #[.int .i64 0] 3)).alloc (.cells #[.int .i64 0] 3)).alloc (.cells #[.int .i64 0] 22)).alloc (.cells #[.string s, .int .i64 0] 49)) (w.heap.size + 1) 3 #[.int .i64 0] := ((Blk.new' (by simp) _ _).alloc _).alloc _
  have b2 : Blk ((((w.alloc (.cells #[.int .i64 0] 3)).alloc (.cells #[.int .i64 0] 3)).alloc (.cells #[.int .i64 0] 22)).alloc (.cells #[.string s, .int .i64 0] 49)) (w.heap.size + 2) 22 #[.int .i64 0] := (Blk.new' (by simp) _ _).alloc _
  have b3 : Blk ((((w.alloc (.cells #[.int .i64 0] 3)).alloc (.cells #[.int .i64 0] 3)).alloc (.cells #[.int .i64 0] 22)).alloc (.cells #[.string s, .int .i64 0] 49)) (w.heap.size + 3) 49 #[.string s, .int .i64 0] := Blk.new' (by simp) _ _
  have hb : Below w.heap.size w ((((w.alloc (.cells #[.int .i64 0] 3)).alloc (.cells #[.int .i64 0] 3)).alloc (.cells #[.int .i64 0] 22)).alloc (.cells #[.string s, .int .i64 0] 49)) := below_alloc (below_alloc (below_alloc (below_alloc (Below.refl _ _) (Nat.le_refl _) _) (Nat.le_refl _) _) (Nat.le_refl _) _) (Nat.le_refl _) _
  generalize ((((w.alloc (.cells #[.int .i64 0] 3)).alloc (.cells #[.int .i64 0] 3)).alloc (.cells #[.int .i64 0] 22)).alloc (.cells #[.string s, .int .i64 0] 49)) = w1 at *
  refine (variable_any (w.heap.size + 3) s _ (b3.cell 0) (b3.cell 1) (b3.frozen 1) hs).mono ?_
  rw [Hgv.out]
  rintro e w2 ⟨rfl, hc, hgr⟩
  have d0 := b0.grown hgr (by simp)
  have d1 := b1.grown hgr (by simp)
  have d2 := b2.grown hgr (by simp)
  have hb2 : Below w.heap.size w w2 := hb.trans (below_of_only hgr hb.size (by omega))
  have c0 := d0.cell 0
  have f0 := d0.frozen 0
  have c1 := d1.cell 0
  have f1 := d1.frozen 0
  have c2 := d2.cell 0
  have f2 := d2.frozen 0
  simp at c0 c1 c2
  have D0 := Lib.hid d0
  have D1 := Lib.hid d1
  have D2 := Lib.hid d2
  clear b0 b1 b2 b3 d0 d1 d2
  go_wp2
  go_region
  go_wp2
  have e0 := ((((D0.out.set_ 0 (.int .i64 (v : Int))).set_ 0 (.int .i64 (v : Int))).far (p := ⟨w.heap.size + 1, 0, none⟩) (by dsimp only; omega) (.int .i64 (n : Int))).far (p := ⟨w.heap.size + 1 + 1, 0, none⟩) (by dsimp only; omega) (.int .i64 0)).cell 0
  have e1 := ((((D1.out.far (p := ⟨w.heap.size, 0, none⟩) (by dsimp only; omega) (.int .i64 (v : Int))).far (p := ⟨w.heap.size, 0, none⟩) (by dsimp only; omega) (.int .i64 (v : Int))).set_ 0 (.int .i64 (n : Int))).far (p := ⟨w.heap.size + 1 + 1, 0, none⟩) (by dsimp only; omega) (.int .i64 0)).cell 0
  have e2 := ((((D2.out.far (p := ⟨w.heap.size, 0, none⟩) (by dsimp only; omega) (.int .i64 (v : Int))).far (p := ⟨w.heap.size, 0, none⟩) (by dsimp only; omega) (.int .i64 (v : Int))).far (p := ⟨w.heap.size + 1, 0, none⟩) (by dsimp only; omega) (.int .i64 (n : Int))).set_ 0 (.int .i64 0)).cell 0
  have hb3 := below_setCell (below_setCell (below_setCell (below_setCell hb2 (p := ⟨w.heap.size, 0, none⟩) (Nat.le_refl _) (.int .i64 (v : Int))) (p := ⟨w.heap.size, 0, none⟩) (Nat.le_refl _) (.int .i64 (v : Int))) (p := ⟨w.heap.size + 1, 0, none⟩) (by dsimp only; omega) (.int .i64 (n : Int))) (p := ⟨w.heap.size + 1 + 1, 0, none⟩) (by dsimp only; omega) (.int .i64 0)
  refine leaves_cons (f := 32) (args := #[.pointer (some ⟨w.heap.size, 0, none⟩), .pointer (some ⟨w.heap.size + 1, 0, none⟩), .pointer (some ⟨w.heap.size + 1 + 1, 0, none⟩)]) (by simp) (by simp [go_sem]) ?_
  refine (getvar_idle _ _ _ _).mono ?_
  rintro e u' w'' ⟨rfl, rfl, rfl⟩
  generalize ((((w2.setCell ⟨w.heap.size, 0, none⟩ (.int .i64 (v : Int))).setCell ⟨w.heap.size, 0, none⟩ (.int .i64 (v : Int))).setCell ⟨w.heap.size + 1, 0, none⟩ (.int .i64 (n : Int))).setCell ⟨w.heap.size + 1 + 1, 0, none⟩ (.int .i64 0)) = w3 at *
  simp at e0 e1 e2
  simp [Leaves, settle, results, Tryd.results15, go_sem, e0, e1, e2]
  exact hb3.drew

set_option maxRecDepth 100000 in
set_option maxHeartbeats 1000000 in
theorem getvar_err (s : ByteArray) (er : Int) (w : World) (hs : s.size ≤ 9223372036854775807) (hgv : gv s.data.toList 0 0 = .err er) :
    Calls Tryd.prog 15 #[.string s] w fun e w' => e = .returned (.tuple #[.int .i64 0, .int .i64 0, .int .i64 er]) ∧ Below w.heap.size w w' := by
  have hmf : ∀ (fn : Fn) (first cap : Array Value) (w : World), (Instr.makeFunc fn first cap).run Tryd.prog w = .ok (.func fn first cap) w := fun _ _ _ _ => rfl
  have Hgv := Lib.hid hgv
  clear hgv
  go_enter_defers Tryd.func15, Tryd.ntmps15
  go_wp2_with fail
  have b0 : Blk ((((w.alloc (.cells #[.int .i64 0] 3)).alloc (.cells #[.int .i64 0] 3)).alloc (.cells #[.int .i64 0] 22)).alloc (.cells #[.string s, .int .i64 0] 49)) w.heap.size 3 #[.int .i64 0] := (((Blk.new _ _ _).alloc _).alloc _).alloc _
  have b1 : Blk ((((w.alloc (.cells #[.int .i64 0] 3)).alloc (.cells #[.int .i64 0] 3)).alloc (.cells #[.int .i64 0] 22)).alloc (.cells #[.string s, .int .i64 0] 49)) (w.heap.size + 1) 3 #[.int .i64 0] := ((Blk.new' (by simp) _ _).alloc _).alloc _
  have b2 : Blk ((((w.alloc (.cells #[.int .i64 0] 3)).alloc (.cells #[.int .i64 0] 3)).alloc (.cells #[.int .i64 0] 22)).alloc (.cells #[.string s, .int .i64 0] 49)) (w.heap.size + 2) 22 #[.int .i64 0] := (Blk.new' (by simp) _ _).alloc _
  have b3 : Blk ((((w.alloc (.cells #[.int .i64 0] 3)).alloc (.cells #[.int .i64 0] 3)).alloc (.cells #[.int .i64 0] 22)).alloc (.cells #[.string s, .int .i64 0] 49)) (w.heap.size + 3) 49 #[.string s, .int .i64 0] := Blk.new' (by simp) _ _
  have hb : Below w.heap.size w ((((w.alloc (.cells #[.int .i64 0] 3)).alloc (.cells #[.int .i64 0] 3)).alloc (.cells #[.int .i64 0] 22)).alloc (.cells #[.string s, .int .i64 0] 49)) := below_alloc (below_alloc (below_alloc (below_alloc (Below.refl _ _) (Nat.le_refl _) _) (Nat.le_refl _) _) (Nat.le_refl _) _) (Nat.le_refl _) _
  generalize ((((w.alloc (.cells #[.int .i64 0] 3)).alloc (.cells #[.int .i64 0] 3)).alloc (.cells #[.int .i64 0] 22)).alloc (.cells #[.string s, .int .i64 0] 49)) = w1 at *
  refine (variable_any (w.heap.size + 3) s _ (b3.cell 0) (b3.cell 1) (b3.frozen 1) hs).mono ?_
  rw [Hgv.out]
  rintro e w2 ⟨rfl, hgr⟩
  have d0 := b0.grown hgr (by simp)
  have d1 := b1.grown hgr (by simp)
  have d2 := b2.grown hgr (by simp)
  have hb2 : Below w.heap.size w w2 := hb.trans (below_of_only hgr hb.size (by omega))
  have c0 := d0.cell 0
  have f0 := d0.frozen 0
  have c1 := d1.cell 0
  have f1 := d1.frozen 0
  have c2 := d2.cell 0
  have f2 := d2.frozen 0
  simp at c0 c1 c2
  have D0 := Lib.hid d0
  have D1 := Lib.hid d1
  have D2 := Lib.hid d2
  clear b0 b1 b2 b3 d0 d1 d2
  go_wp2
  have e0 := (((D0.out.set_ 0 (.int .i64 0)).far (p := ⟨w.heap.size + 1, 0, none⟩) (by dsimp only; omega) (.int .i64 0)).far (p := ⟨w.heap.size + 1 + 1, 0, none⟩) (by dsimp only; omega) (.int .i64 er)).cell 0
  have e1 := (((D1.out.far (p := ⟨w.heap.size, 0, none⟩) (by dsimp only; omega) (.int .i64 0)).set_ 0 (.int .i64 0)).far (p := ⟨w.heap.size + 1 + 1, 0, none⟩) (by dsimp only; omega) (.int .i64 er)).cell 0
  have e2 := (((D2.out.far (p := ⟨w.heap.size, 0, none⟩) (by dsimp only; omega) (.int .i64 0)).far (p := ⟨w.heap.size + 1, 0, none⟩) (by dsimp only; omega) (.int .i64 0)).set_ 0 (.int .i64 er)).cell 0
  have hb3 := below_setCell (below_setCell (below_setCell hb2 (p := ⟨w.heap.size, 0, none⟩) (Nat.le_refl _) (.int .i64 0)) (p := ⟨w.heap.size + 1, 0, none⟩) (by dsimp only; omega) (.int .i64 0)) (p := ⟨w.heap.size + 1 + 1, 0, none⟩) (by dsimp only; omega) (.int .i64 er)
  refine leaves_cons (f := 32) (args := #[.pointer (some ⟨w.heap.size, 0, none⟩), .pointer (some ⟨w.heap.size + 1, 0, none⟩), .pointer (some ⟨w.heap.size + 1 + 1, 0, none⟩)]) (by simp) (by simp [go_sem]) ?_
  refine (getvar_catch w.heap.size (w.heap.size + 1) (w.heap.size + 1 + 1) 0 0 0 er [] _ c0 c1 c2 f0 f1 f2 (by omega) (by omega) (by omega)).mono ?_
  rintro e u' w'' ⟨rfl, rfl, rfl⟩
  generalize (((w2.setCell ⟨w.heap.size, 0, none⟩ (.int .i64 0)).setCell ⟨w.heap.size + 1, 0, none⟩ (.int .i64 0)).setCell ⟨w.heap.size + 1 + 1, 0, none⟩ (.int .i64 er)) = w3 at *
  simp at e0 e1 e2
  simp [Leaves, settle, results, Tryd.results15, go_sem, e0, e1, e2]
  exact hb3

end Go.Proofs.YtkjfhgaiakienaaDoor
