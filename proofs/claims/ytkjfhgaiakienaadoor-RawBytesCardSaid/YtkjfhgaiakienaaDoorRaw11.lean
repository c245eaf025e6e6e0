/-
  Walks over package raw: Unquote.
-/
import Derived.Test.YtkjfhgaiakienaaDoorRaw3
import Derived.Test.YtkjfhgaiakienaaDoorRaw10
namespace Go.Proofs.YtkjfhgaiakienaaDoor
open Go.RowKit

set_option maxHeartbeats 400000 in
theorem unquote_catch (a b c : Nat) (x : Value) (y z er : Int) (older : List PanicEntry) (w : World) (ha : w.cell? ⟨a, 0, none⟩ = some x) (hb : w.cell? ⟨b, 0, none⟩ = some (.int .i64 y)) (hc : w.cell? ⟨c, 0, none⟩ = some (.int .i64 z))
    (fa : w.frozen? ⟨a, 0, none⟩ = false) (fb : w.frozen? ⟨b, 0, none⟩ = false) (fc : w.frozen? ⟨c, 0, none⟩ = false) (hab : a ≠ b) (hbc : b ≠ c) (hac : a ≠ c) :
    CallsD Tryd.prog 39 #[.pointer (some ⟨a, 0, none⟩), .pointer (some ⟨b, 0, none⟩), .pointer (some ⟨c, 0, none⟩)] (.panicking ({ v := .iface 22 (.int .i64 er), recovered := false } :: older)) w fun e u' w' =>
      e = .returned (.tuple #[]) ∧ u' = .panicking ({ v := .iface 22 (.int .i64 er), recovered := true } :: older) ∧
        w' = ((w.setCell ⟨a, 0, none⟩ (.string ⟨#[]⟩)).setCell ⟨b, 0, none⟩ (.int .i64 0)).setCell ⟨c, 0, none⟩ (.int .i64 er) := by
  refine callsD_of_wpS Tryd.func39 rfl fun c₀ cs hu => ?_
  apply wpS_seq
  apply wpS_region
  simp [wpOpsS, go_sem, recoverD, hu, Tryd.ntmps39, Exit.thenS]
  refine wpS_of_wp ?_
  simp [Array.replicate]
  go_wp2_with fail
  refine (told_errno _ _).mono ?_
  rintro e w' ⟨rfl, rfl⟩
  go_wp2
  simp [bodyPostS, results, Tryd.results39]

set_option maxHeartbeats 400000 in
theorem unquote_idle (a b c : Value) (w : World) :
    CallsD Tryd.prog 39 #[a, b, c] .returning w fun e u' w' => e = .returned (.tuple #[]) ∧ u' = .returning ∧ w' = w := by
  refine callsD_of_wpS Tryd.func39 rfl fun c₀ cs hu => ?_
  apply wpS_seq
  apply wpS_region
  simp [wpOpsS, go_sem, recoverD, hu, Tryd.ntmps39, Exit.thenS]
  refine wpS_of_wp ?_
  simp [Array.replicate]
  go_wp2
  cases c₀
  simp_all [bodyPostS, results, Tryd.results39]

set_option maxRecDepth 100000 in
set_option maxHeartbeats 1000000 in
theorem unquote_ok (s : ByteArray) (l : List UInt8) (n : Nat) (w : World) (hs : s.size ≤ 140737488351232) (hgv : unq s.data.toList = some (l, n)) :
    Calls Tryd.prog 24 #[.string s] w fun e w' => e = .returned (.tuple #[.string ⟨l.toArray⟩, .int .i64 (n : Int), .int .i64 0]) ∧ Below w.heap.size w w' := by
  have hmf : ∀ (fn : Fn) (first cap : Array Value) (w : World), (Instr.makeFunc fn first cap).run Tryd.prog w = .ok (.func fn first cap) w := fun _ _ _ _ => rfl
  have Hgv := Lib.hid hgv
  clear hgv
  go_enter_defers Tryd.func24, Tryd.ntmps24
  go_wp2_with fail
  have b0 : Blk ((((w.alloc (.cells #[.string ⟨#[]⟩] 9)).alloc (.cells #[.int .i64 0] 3)).alloc (.cells #[.int .i64 0] 22)).alloc (.cells #[.string s, .int .i64 0] 49)) w.heap.size 9 #[.string ⟨#[]⟩] := (((Blk.new _ _ _).alloc _).alloc _).alloc _
  have b1 : Blk ((((w.alloc (.cells #[.string ⟨#[]⟩] 9)).alloc (.cells #[.int .i64 0] 3)).alloc (.cells #[.int .i64 0] 22)).alloc (.cells #[.string s, .int .i64 0] 49)) (w.heap.size + 1) 3 #[.int .i64 0] := ((Blk.new' (by simp) _ _).alloc _).alloc _
  have b2 : Blk ((((w.alloc (.cells #[.string ⟨#[]⟩] 9)).alloc (.cells #[.int .i64 0] 3)).alloc (.cells #[.int .i64 0] 22)).alloc (.cells #[.string s, .int .i64 0] 49)) (w.heap.size + 2) 22 #[.int .i64 0] := (Blk.new' (by simp) _ _).alloc _
  have b3 : Blk ((((w.alloc (.cells #[.string ⟨#[]⟩] 9)).alloc (.cells #[.int .i64 0] 3)).alloc (.cells #[.int .i64 0] 22)).alloc (.cells #[.string s, .int .i64 0] 49)) (w.heap.size + 3) 49 #[.string s, .int .i64 0] := Blk.new' (by simp) _ _
  have hb : Below w.heap.size w ((((w.alloc (.cells #[.string ⟨#[]⟩] 9)).alloc (.cells #[.int .i64 0] 3)).alloc (.cells #[.int .i64 0] 22)).alloc (.cells #[.string s, .int .i64 0] 49)) := below_alloc (below_alloc (below_alloc (below_alloc (Below.refl _ _) (Nat.le_refl _) _) (Nat.le_refl _) _) (Nat.le_refl _) _) (Nat.le_refl _) _
  generalize ((((w.alloc (.cells #[.string ⟨#[]⟩] 9)).alloc (.cells #[.int .i64 0] 3)).alloc (.cells #[.int .i64 0] 22)).alloc (.cells #[.string s, .int .i64 0] 49)) = w1 at *
  refine (quoted_any (w.heap.size + 3) s _ b3 hs).mono ?_
  rw [Hgv.out]
  rintro e w2 ⟨rfl, hc0, hgr⟩
  have hc := hc0.cell 1
  simp at hc
  clear hc0
  have d0 := b0.grown hgr (by simp)
  have d1 := b1.grown hgr (by simp)
  have d2 := b2.grown hgr (by simp)
  have hb2 : Below w.heap.size w w2 := hb.trans (below_of_only hgr hb.size (by omega))
  have c0 := d0.cell 0
  have f0 := d0.frozen 0
  have c1 := d1.cell 0
  have f1 := d1.frozen 0
  have c2 := d2.cell 0
  have f2 := d2.frozen 0
  simp at c0 c1 c2
  have D0 := Lib.hid d0
  have D1 := Lib.hid d1
  have D2 := Lib.hid d2
  clear b0 b1 b2 b3 d0 d1 d2
  go_wp2
  go_region
  go_wp2
  have e0 := ((((D0.out.set_ 0 (.string ⟨l.toArray⟩)).set_ 0 (.string ⟨l.toArray⟩)).far (p := ⟨w.heap.size + 1, 0, none⟩) (by dsimp only; omega) (.int .i64 (n : Int))).far (p := ⟨w.heap.size + 1 + 1, 0, none⟩) (by dsimp only; omega) (.int .i64 0)).cell 0
  have e1 := ((((D1.out.far (p := ⟨w.heap.size, 0, none⟩) (by dsimp only; omega) (.string ⟨l.toArray⟩)).far (p := ⟨w.heap.size, 0, none⟩) (by dsimp only; omega) (.string ⟨l.toArray⟩)).set_ 0 (.int .i64 (n : Int))).far (p := ⟨w.heap.size + 1 + 1, 0, none⟩) (by dsimp only; omega) (.int .i64 0)).cell 0
  have e2 := ((((D2.out.far (p := ⟨w.heap.size, 0, none⟩) (by dsimp only; omega) (.string ⟨l.toArray⟩)).far (p := ⟨w.heap.size, 0, none⟩) (by dsimp only; omega) (.string ⟨l.toArray⟩)).far (p := ⟨w.heap.size + 1, 0, none⟩) (by dsimp only; omega) (.int .i64 (n : Int))).set_ 0 (.int .i64 0)).cell 0
  have hb3 := below_setCell (below_setCell (below_setCell (below_setCell hb2 (p := ⟨w.heap.size, 0, none⟩) (Nat.le_refl _) (.string ⟨l.toArray⟩)) (p := ⟨w.heap.size, 0, none⟩) (Nat.le_refl _) (.string ⟨l.toArray⟩)) (p := ⟨w.heap.size + 1, 0, none⟩) (by dsimp only; omega) (.int .i64 (n : Int))) (p := ⟨w.heap.size + 1 + 1, 0, none⟩) (by dsimp only; omega) (.int .i64 0)
  refine leaves_cons (f := 39) (args := #[.pointer (some ⟨w.heap.size, 0, none⟩), .pointer (some ⟨w.heap.size + 1, 0, none⟩), .pointer (some ⟨w.heap.size + 1 + 1, 0, none⟩)]) (by simp) (by simp [go_sem]) ?_
  refine (unquote_idle _ _ _ _).mono ?_
  rintro e u' w'' ⟨rfl, rfl, rfl⟩
  generalize ((((w2.setCell ⟨w.heap.size, 0, none⟩ (.string ⟨l.toArray⟩)).setCell ⟨w.heap.size, 0, none⟩ (.string ⟨l.toArray⟩)).setCell ⟨w.heap.size + 1, 0, none⟩ (.int .i64 (n : Int))).setCell ⟨w.heap.size + 1 + 1, 0, none⟩ (.int .i64 0)) = w3 at *
  simp at e0 e1 e2
  simp [Leaves, settle, results, Tryd.results24, go_sem, e0, e1, e2]
  exact hb3.drew

set_option maxRecDepth 100000 in
set_option maxHeartbeats 1000000 in
theorem unquote_err (s : ByteArray) (w : World) (hs : s.size ≤ 140737488351232) (hgv : unq s.data.toList = none) :
    Calls Tryd.prog 24 #[.string s] w fun e w' => e = .returned (.tuple #[.string ⟨#[]⟩, .int .i64 0, .int .i64 4]) ∧ Below w.heap.size w w' := by
  have hmf : ∀ (fn : Fn) (first cap : Array Value) (w : World), (Instr.makeFunc fn first cap).run Tryd.prog w = .ok (.func fn first cap) w := fun _ _ _ _ => rfl
  have Hgv := Lib.hid hgv
  clear hgv
  go_enter_defers Tryd.func24, Tryd.ntmps24
  go_wp2_with fail
  have b0 : Blk ((((w.alloc (.cells #[.string ⟨#[]⟩] 9)).alloc (.cells #[.int .i64 0] 3)).alloc (.cells #[.int .i64 0] 22)).alloc (.cells #[.string s, .int .i64 0] 49)) w.heap.size 9 #[.string ⟨#[]⟩] := (((Blk.new _ _ _).alloc _).alloc _).alloc _
  have b1 : Blk ((((w.alloc (.cells #[.string ⟨#[]⟩] 9)).alloc (.cells #[.int .i64 0] 3)).alloc (.cells #[.int .i64 0] 22)).alloc (.cells #[.string s, .int .i64 0] 49)) (w.heap.size + 1) 3 #[.int .i64 0] := ((Blk.new' (by simp) _ _).alloc _).alloc _
  have b2 : Blk ((((w.alloc (.cells #[.string ⟨#[]⟩] 9)).alloc (.cells #[.int .i64 0] 3)).alloc (.cells #[.int .i64 0] 22)).alloc (.cells #[.string s, .int .i64 0] 49)) (w.heap.size + 2) 22 #[.int .i64 0] := (Blk.new' (by simp) _ _).alloc _
  have b3 : Blk ((((w.alloc (.cells #[.string ⟨#[]⟩] 9)).alloc (.cells #[.int .i64 0] 3)).alloc (.cells #[.int .i64 0] 22)).alloc (.cells #[.string s, .int .i64 0] 49)) (w.heap.size + 3) 49 #[.string s, .int .i64 0] := Blk.new' (by simp) _ _
  have hb : Below w.heap.size w ((((w.alloc (.cells #[.string ⟨#[]⟩] 9)).alloc (.cells #[.int .i64 0] 3)).alloc (.cells #[.int .i64 0] 22)).alloc (.cells #[.string s, .int .i64 0] 49)) := below_alloc (below_alloc (below_alloc (below_alloc (Below.refl _ _) (Nat.le_refl _) _) (Nat.le_refl _) _) (Nat.le_refl _) _) (Nat.le_refl _) _
  generalize ((((w.alloc (.cells #[.string ⟨#[]⟩] 9)).alloc (.cells #[.int .i64 0] 3)).alloc (.cells #[.int .i64 0] 22)).alloc (.cells #[.string s, .int .i64 0] 49)) = w1 at *
  refine (quoted_any (w.heap.size + 3) s _ b3 hs).mono ?_
  rw [Hgv.out]
  rintro e w2 ⟨rfl, hgr⟩
  have d0 := b0.grown hgr (by simp)
  have d1 := b1.grown hgr (by simp)
  have d2 := b2.grown hgr (by simp)
  have hb2 : Below w.heap.size w w2 := hb.trans (below_of_only hgr hb.size (by omega))
  have c0 := d0.cell 0
  have f0 := d0.frozen 0
  have c1 := d1.cell 0
  have f1 := d1.frozen 0
  have c2 := d2.cell 0
  have f2 := d2.frozen 0
  simp at c0 c1 c2
  have D0 := Lib.hid d0
  have D1 := Lib.hid d1
  have D2 := Lib.hid d2
  clear b0 b1 b2 b3 d0 d1 d2
  go_wp2
  have e0 := (((D0.out.set_ 0 (.string ⟨#[]⟩)).far (p := ⟨w.heap.size + 1, 0, none⟩) (by dsimp only; omega) (.int .i64 0)).far (p := ⟨w.heap.size + 1 + 1, 0, none⟩) (by dsimp only; omega) (.int .i64 4)).cell 0
  have e1 := (((D1.out.far (p := ⟨w.heap.size, 0, none⟩) (by dsimp only; omega) (.string ⟨#[]⟩)).set_ 0 (.int .i64 0)).far (p := ⟨w.heap.size + 1 + 1, 0, none⟩) (by dsimp only; omega) (.int .i64 4)).cell 0
  have e2 := (((D2.out.far (p := ⟨w.heap.size, 0, none⟩) (by dsimp only; omega) (.string ⟨#[]⟩)).far (p := ⟨w.heap.size + 1, 0, none⟩) (by dsimp only; omega) (.int .i64 0)).set_ 0 (.int .i64 4)).cell 0
  have hb3 := below_setCell (below_setCell (below_setCell hb2 (p := ⟨w.heap.size, 0, none⟩) (Nat.le_refl _) (.string ⟨#[]⟩)) (p := ⟨w.heap.size + 1, 0, none⟩) (by dsimp only; omega) (.int .i64 0)) (p := ⟨w.heap.size + 1 + 1, 0, none⟩) (by dsimp only; omega) (.int .i64 4)
  refine leaves_cons (f := 39) (args := #[.pointer (some ⟨w.heap.size, 0, none⟩), .pointer (some ⟨w.heap.size + 1, 0, none⟩), .pointer (some ⟨w.heap.size + 1 + 1, 0, none⟩)]) (by simp) (by simp [go_sem]) ?_
  refine (unquote_catch w.heap.size (w.heap.size + 1) (w.heap.size + 1 + 1) (.string ⟨#[]⟩) 0 0 4 [] _ c0 c1 c2 f0 f1 f2 (by omega) (by omega) (by omega)).mono ?_
  rintro e u' w'' ⟨rfl, rfl, rfl⟩
  generalize (((w2.setCell ⟨w.heap.size, 0, none⟩ (.string ⟨#[]⟩)).setCell ⟨w.heap.size + 1, 0, none⟩ (.int .i64 0)).setCell ⟨w.heap.size + 1 + 1, 0, none⟩ (.int .i64 4)) = w3 at *
  simp at e0 e1 e2
  simp [Leaves, settle, results, Tryd.results24, go_sem, e0, e1, e2]
  exact hb3

end Go.Proofs.YtkjfhgaiakienaaDoor
