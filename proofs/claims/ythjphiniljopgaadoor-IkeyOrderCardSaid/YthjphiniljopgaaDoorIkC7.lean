/-
  The landed package ikey: Get, Key.
-/
import Derived.Test.YthjphiniljopgaaDoorIkC6
import Derived.Test.YthjphiniljopgaaDoorVec5
namespace Go.Proofs.YthjphiniljopgaaDoor
open Go.RowKit

/-- A world in which the version in block a is none any more, and the error in block b is er. -/
def freshW (w : World) (a b : Nat) (er : Int) : World :=
  ((((((((w.setCell ⟨a, 0, none⟩ (.string ⟨#[]⟩)).setCell ⟨a, 1, none⟩ (.slice none 0 0)).setCell ⟨a, 2, none⟩ (.int .i64 0)).setCell ⟨a, 3, none⟩ (.int .i64 0)).setCell ⟨a, 4, none⟩ (.int .i64 0)).setCell ⟨a, 5, none⟩ (.float .f64 0)).setCell ⟨a, 6, none⟩ (.int .i64 0)).setCell ⟨a, 7, none⟩ (.string ⟨#[]⟩)).setCell ⟨b, 0, none⟩ (.int .i64 er)

set_option maxHeartbeats 2000000 in
theorem kget_catch (a b : Nat) (er y : Int) (older : List PanicEntry) (w : World) (key : ByteArray) (A : Option Addr) (n c : Nat) (o x kd : Int) (nu : Nat) (it : Int) (tx : ByteArray) (Ba : Blk w a 28 (verC key A n c o x kd nu it tx)) (Bb : Blk w b 29 #[.int .i64 y]) (hab : a ≠ b) :
    CallsD Tryd.prog 21 #[.pointer (some ⟨a, 0, none⟩), .pointer (some ⟨b, 0, none⟩)] (.panicking ({ v := .iface 29 (.int .i64 er), recovered := false } :: older)) w fun e u' w' =>
      e = .returned (.tuple #[]) ∧ u' = .panicking ({ v := .iface 29 (.int .i64 er), recovered := true } :: older) ∧ w' = freshW w a b er := by
  obtain ⟨c0, c1, c2, c3, c4, c5, c6, c7⟩ := ver_cells Ba
  have z0 := Ba.frozen 0
  have z1 := Ba.frozen 1
  have z2 := Ba.frozen 2
  have z3 := Ba.frozen 3
  have z4 := Ba.frozen 4
  have z5 := Ba.frozen 5
  have z6 := Ba.frozen 6
  have z7 := Ba.frozen 7
  have d0 : w.cell? ⟨b, 0, none⟩ = some (.int .i64 y) := Bb.cell 0
  have y0 := Bb.frozen 0
  have hst := run_sto_f64
  refine callsD_of_wpS Tryd.func21 rfl fun c₀ cs hu => ?_
  apply wpS_seq
  apply wpS_region
  simp [wpOpsS, go_sem, recoverD, hu, Tryd.ntmps21, Exit.thenS]
  refine wpS_of_wp ?_
  simp [Array.replicate]
  go_wp2_with fail
  refine (told_errno _ _).mono ?_
  rintro e w' ⟨rfl, rfl⟩
  go_wp2
  simp [bodyPostS, results, Tryd.results21, freshW]

set_option maxHeartbeats 400000 in
theorem kget_idle (a b : Value) (w : World) :
    CallsD Tryd.prog 21 #[a, b] .returning w fun e u' w' => e = .returned (.tuple #[]) ∧ u' = .returning ∧ w' = w := by
  refine callsD_of_wpS Tryd.func21 rfl fun c₀ cs hu => ?_
  apply wpS_seq
  apply wpS_region
  simp [wpOpsS, go_sem, recoverD, hu, Tryd.ntmps21, Exit.thenS]
  refine wpS_of_wp ?_
  simp [Array.replicate]
  go_wp2
  cases c₀
  simp_all [bodyPostS, results, Tryd.results21]

theorem fresh_blk {w : World} {a b : Nat} (er y : Int) {key : ByteArray} {A : Option Addr} {n c : Nat} {o x kd : Int} {nu : Nat} {it : Int} {tx : ByteArray} (Ba : Blk w a 28 (verC key A n c o x kd nu it tx)) (Bb : Blk w b 29 #[.int .i64 y]) (hab : a ≠ b) :
    Blk (freshW w a b er) a 28 (verC ⟨#[]⟩ none 0 0 0 0 0 0 0 ⟨#[]⟩) ∧ Blk (freshW w a b er) b 29 #[.int .i64 er] := by
  constructor
  · exact (ver_set8 Ba ⟨#[]⟩ none 0 0 0 0 0 0 0 ⟨#[]⟩).far (p := ⟨b, 0, none⟩) hab _
  · have hb : b ≠ a := fun h => hab h.symm
    have h := ((((((((Bb.far (p := ⟨a, 0, none⟩) hb (.string ⟨#[]⟩)).far (p := ⟨a, 1, none⟩) hb (.slice none 0 0)).far (p := ⟨a, 2, none⟩) hb (.int .i64 0)).far (p := ⟨a, 3, none⟩) hb (.int .i64 0)).far (p := ⟨a, 4, none⟩) hb (.int .i64 0)).far (p := ⟨a, 5, none⟩) hb (.float .f64 0)).far (p := ⟨a, 6, none⟩) hb (.int .i64 0)).far (p := ⟨a, 7, none⟩) hb (.string ⟨#[]⟩)).set_ 0 (.int .i64 er)
    exact h
theorem fresh_below {w0 w : World} {a b B : Nat} (er : Int) (h : Below B w0 w) (ha : B ≤ a) (hb : B ≤ b) : Below B w0 (freshW w a b er) :=
  below_setCell (below_set8 h ha _ _ _ _ _ _ _ _) hb _

/-- What gave up is recovered: the results are set anew. -/
theorem kend_err (w2 : World) (p : Nat) (t : Array Value) (er y : Int) {key : ByteArray} {A : Option Addr} {n c : Nat} {o x kd : Int} {nu : Nat} {it : Int} {tx : ByteArray} {R : Ending → World → Prop} (Ba : Blk w2 p 28 (verC key A n c o x kd nu it tx)) (Bb : Blk w2 (p + 1) 29 #[.int .i64 y])
    (t2 : t[2]?.getD undef = .pointer (some ⟨p, 0, none⟩)) (t3 : t[3]?.getD undef = .pointer (some ⟨p + 1, 0, none⟩)) (h : R (.returned (.tuple #[verV ⟨#[]⟩ none 0 0 0 0 0 0 0 ⟨#[]⟩, .int .i64 er])) (freshW w2 p (p + 1) er)) :
    bodyPostD Tryd.prog Tryd.f10 R (Exit.panic [{ v := .iface 29 (.int .i64 er), recovered := false }])
      { tmps := t, defers := [{ target := Target.fn (Fn.func 21) #[.pointer (some ⟨p, 0, none⟩), .pointer (some ⟨p + 1, 0, none⟩)], args := #[] }] } w2 := by
  obtain ⟨E0, E1⟩ := fresh_blk er y Ba Bb (by omega)
  refine leaves_cons (f := 21) (args := #[.pointer (some ⟨p, 0, none⟩), .pointer (some ⟨p + 1, 0, none⟩)]) (by simp) (by simp [go_sem]) ?_
  refine (kget_catch p (p + 1) er y [] _ _ _ _ _ _ _ _ _ _ _ Ba Bb (by omega)).mono ?_
  rintro e u' w'' ⟨rfl, rfl, rfl⟩
  generalize freshW w2 p (p + 1) er = w3 at *
  obtain ⟨c0, c1, c2, c3, c4, c5, c6, c7⟩ := ver_cells E0
  have e1 : w3.cell? ⟨p + 1, 0, none⟩ = some (.int .i64 er) := E1.cell 0
  simp [Leaves, settle, results, Tryd.results10, go_sem, c0, c1, c2, c3, c4, c5, c6, c7, e1, t2, t3]
  exact h
/-- What is got stands in the results. -/
theorem kend_ok (w w2 : World) (p : Nat) (t : Array Value) {key : ByteArray} {A : Option Addr} {n c : Nat} {o x kd : Int} {nu : Nat} {it : Int} {tx : ByteArray} {R : Ending → World → Prop} (Ba : Blk w2 p 28 (verC key A n c o x kd nu it tx)) (Bb : Blk w2 (p + 1) 29 #[.int .i64 0])
    (t2 : t[2]?.getD undef = .pointer (some ⟨p, 0, none⟩)) (t3 : t[3]?.getD undef = .pointer (some ⟨p + 1, 0, none⟩)) (h : R (.returned (.tuple #[verV key A n c o x kd nu it tx, .int .i64 0])) w2) :
    bodyPostD Tryd.prog Tryd.f10 R Exit.ret
      { tmps := t, defers := [{ target := Target.fn (Fn.func 21) #[.pointer (some ⟨p, 0, none⟩), .pointer (some ⟨p + 1, 0, none⟩)], args := #[] }] } w2 := by
  obtain ⟨c0, c1, c2, c3, c4, c5, c6, c7⟩ := ver_cells Ba
  have e1 : w2.cell? ⟨p + 1, 0, none⟩ = some (.int .i64 0) := Bb.cell 0
  refine leaves_cons (f := 21) (args := #[.pointer (some ⟨p, 0, none⟩), .pointer (some ⟨p + 1, 0, none⟩)]) (by simp) (by simp [go_sem]) ?_
  refine (kget_idle _ _ _).mono ?_
  rintro e u' w'' ⟨rfl, rfl, rfl⟩
  simp [Leaves, settle, results, Tryd.results10, go_sem, c0, c1, c2, c3, c4, c5, c6, c7, e1, t2, t3]
  exact h

set_option maxRecDepth 100000 in
set_option maxHeartbeats 4000000 in
theorem kget_any (s : ByteArray) (w : World) (hs : s.size ≤ 140737488351232) :
    Calls Tryd.prog 10 #[.string s] w fun e w' => GetIs w w' s.data.toList e ∧ Below w.heap.size w w' := by
  have hmf : ∀ (fn : Fn) (first cap : Array Value) (w : World), (Instr.makeFunc fn first cap).run Tryd.prog w = .ok (.func fn first cap) w := fun _ _ _ _ => rfl
  have P0 : Hid (Blk (((w.alloc (.cells #[.string ⟨#[]⟩, .slice none 0 0, .int .i64 0, .int .i64 0, .int .i64 0, .float .f64 0, .int .i64 0, .string ⟨#[]⟩] 28)).alloc (.cells #[.int .i64 0] 29)).alloc (.cells #[.string s] 51)) w.heap.size 28 (verC ⟨#[]⟩ none 0 0 0 0 0 0 0 ⟨#[]⟩)) := ((Blk.new _ _ _).alloc _).alloc _
  have E0 : Hid (Blk (((w.alloc (.cells #[.string ⟨#[]⟩, .slice none 0 0, .int .i64 0, .int .i64 0, .int .i64 0, .float .f64 0, .int .i64 0, .string ⟨#[]⟩] 28)).alloc (.cells #[.int .i64 0] 29)).alloc (.cells #[.string s] 51)) (w.heap.size + 1) 29 #[.int .i64 0]) := (Blk.new' (by simp) _ _).alloc _
  have R0 : Hid (RdAt (((w.alloc (.cells #[.string ⟨#[]⟩, .slice none 0 0, .int .i64 0, .int .i64 0, .int .i64 0, .float .f64 0, .int .i64 0, .string ⟨#[]⟩] 28)).alloc (.cells #[.int .i64 0] 29)).alloc (.cells #[.string s] 51)) (w.heap.size + 2) s) := Blk.new' (by simp) _ _
  have hb0 : Hid (Below w.heap.size w (((w.alloc (.cells #[.string ⟨#[]⟩, .slice none 0 0, .int .i64 0, .int .i64 0, .int .i64 0, .float .f64 0, .int .i64 0, .string ⟨#[]⟩] 28)).alloc (.cells #[.int .i64 0] 29)).alloc (.cells #[.string s] 51))) := below_alloc (below_alloc (below_alloc (Below.refl _ _) (Nat.le_refl _) _) (Nat.le_refl _) _) (Nat.le_refl _) _
  go_enter_defers Tryd.func10, Tryd.ntmps10
  go_wp2_with fail
  generalize (((w.alloc (.cells #[.string ⟨#[]⟩, .slice none 0 0, .int .i64 0, .int .i64 0, .int .i64 0, .float .f64 0, .int .i64 0, .string ⟨#[]⟩] 28)).alloc (.cells #[.int .i64 0] 29)).alloc (.cells #[.string s] 51)) = w0 at *
  refine (krversion_any (w.heap.size + 2) s w0 R0.out hs).mono ?_
  rintro e w1 ⟨h, g⟩
  have P1 := Lib.hid (kblk_by P0.out g (by omega))
  have E1 := Lib.hid (kblk_by E0.out g (by omega))
  have hb1 := Lib.hid (kbelow_by hb0.out g (Nat.le_refl _) (by omega))
  have hlt : w.heap.size + 2 < w0.heap.size := R0.out.lt
  clear P0 E0 hb0 R0 g
  rcases h with ⟨key, A, c, o, x, xs, h1, h2, rfl, hN⟩ | ⟨h1, rfl⟩
  · unfold verV
    have HN := Lib.hid hN
    have H1 := Lib.hid h1
    have H2 := Lib.hid h2
    obtain ⟨c0, c1, c2, c3, c4, c5, c6, c7⟩ := ver_cells P1.out
    have z0 := P1.out.frozen 0
    have z1 := P1.out.frozen 1
    have z2 := P1.out.frozen 2
    have z3 := P1.out.frozen 3
    have z4 := P1.out.frozen 4
    have z5 := P1.out.frozen 5
    have z6 := P1.out.frozen 6
    have z7 := P1.out.frozen 7
    have d0 : w1.cell? ⟨w.heap.size + 1, 0, none⟩ = some (.int .i64 0) := E1.out.cell 0
    have y0 := E1.out.frozen 0
    have hst := run_sto_f64
    clear hN h1 h2
    go_wp2_with fail
    have hn : w.heap.size + 1 ≠ w.heap.size := by omega
    exact kend_ok w _ w.heap.size _ ((ver_set8 P1.out key A xs.length c o x 0 0 0 ⟨#[]⟩).far (p := ⟨w.heap.size + 1, 0, none⟩) (by dsimp only; omega) _)
      (((((((((E1.out.far (p := ⟨w.heap.size, 0, none⟩) hn _).far (p := ⟨w.heap.size, 1, none⟩) hn _).far (p := ⟨w.heap.size, 2, none⟩) hn _).far (p := ⟨w.heap.size, 3, none⟩) hn _).far (p := ⟨w.heap.size, 4, none⟩) hn _).far (p := ⟨w.heap.size, 5, none⟩) hn _).far (p := ⟨w.heap.size, 6, none⟩) hn _).far (p := ⟨w.heap.size, 7, none⟩) hn _).set_ 0 (.int .i64 0)) rfl rfl
      ⟨Or.inl ⟨key, A, c, o, x, xs, H1.out, H2.out, rfl, Nums.low (ownsRow_setCell_below (nums_set8 HN.out (show w.heap.size < w0.heap.size by omega) _ _ _ _ _ _ _ _) (a := ⟨w.heap.size + 1, 0, none⟩) (by dsimp only; omega) _) (by omega)⟩,
        below_setCell (below_set8 hb1.out (Nat.le_refl _) _ _ _ _ _ _ _ _) (by dsimp only; omega) _⟩
  · have H1 := Lib.hid h1
    clear h1
    unfold gaveUp
    go_wp2_with fail
    exact kend_err w1 w.heap.size _ 4 0 P1.out E1.out rfl rfl ⟨Or.inr ⟨fun key xs o x => H1.out key.data.toList xs o x, rfl⟩, fresh_below 4 hb1.out (Nat.le_refl _) (by omega)⟩
end Go.Proofs.YthjphiniljopgaaDoor
