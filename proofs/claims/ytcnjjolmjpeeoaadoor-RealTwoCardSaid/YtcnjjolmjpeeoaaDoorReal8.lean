/-
  Walks over package real, part 8: Parse, with its deferred closure.
-/
import Derived.Test.YtcnjjolmjpeeoaaDoorReal6
import Derived.Test.YtcnjjolmjpeeoaaDoorReal7
import Derived.Test.YtcnjjolmjpeeoaaDoorRaw3
import Derived.Defers
import Derived.Recover
namespace Go.Proofs.YtcnjjolmjpeeoaaDoor
open Go.RowKit

set_option maxRecDepth 100000 in
set_option maxHeartbeats 400000 in
theorem mnan_any (w : World) : Calls Tryd.prog 36 #[] w fun e w' => e = .returned (.float .f64 9221120237041090561) ∧ w = w' := by
  have hfb := run_float64frombits
  go_enter Tryd.func36, Tryd.ntmps36
  go_wp2_with fail
  go_ret
  exact ⟨rfl, rfl⟩
set_option maxRecDepth 100000 in
set_option maxHeartbeats 400000 in
theorem minf_any (w : World) : Calls Tryd.prog 37 #[.int .i64 1] w fun e w' => e = .returned (.float .f64 9218868437227405312) ∧ w = w' := by
  have hfb := run_float64frombits
  go_enter Tryd.func37, Tryd.ntmps37
  go_wp2_with fail
  go_ret
  exact ⟨rfl, rfl⟩
set_option maxRecDepth 100000 in
set_option maxHeartbeats 400000 in
theorem mminf_any (w : World) : Calls Tryd.prog 37 #[.int .i64 (-1)] w fun e w' => e = .returned (.float .f64 18442240474082181120) ∧ w = w' := by
  have hfb := run_float64frombits
  go_enter Tryd.func37, Tryd.ntmps37
  go_wp2_with fail
  go_ret
  exact ⟨rfl, rfl⟩

theorem run_store_f64 (W : World) (ad : Addr) (v : Nat) : (store ad (.float .f64 v)).run Tryd.prog W = stored Tryd.prog W ad (.float .f64 v) .plain := run_store _ W ad _ _ rfl

set_option maxHeartbeats 400000 in
theorem parse_catch (a b : Nat) (x y : Value) (er : Int) (older : List PanicEntry) (w : World) (ha : w.cell? ⟨a, 0, none⟩ = some x) (hb : w.cell? ⟨b, 0, none⟩ = some y)
    (fa : w.frozen? ⟨a, 0, none⟩ = false) (fb : w.frozen? ⟨b, 0, none⟩ = false) (hab : a ≠ b) :
    CallsD Tryd.prog 34 #[.pointer (some ⟨a, 0, none⟩), .pointer (some ⟨b, 0, none⟩)] (.panicking ({ v := .iface 25 (.int .i64 er), recovered := false } :: older)) w fun e u' w' =>
      e = .returned (.tuple #[]) ∧ u' = .panicking ({ v := .iface 25 (.int .i64 er), recovered := true } :: older) ∧
        w' = (w.setCell ⟨a, 0, none⟩ (.float .f64 0)).setCell ⟨b, 0, none⟩ (.int .i64 er) := by
  have hst := run_store_f64
  refine callsD_of_wpS Tryd.func34 rfl fun c₀ cs hu => ?_
  apply wpS_seq
  apply wpS_region
  simp [wpOpsS, go_sem, recoverD, hu, Tryd.ntmps34, Exit.thenS]
  refine wpS_of_wp ?_
  simp [Array.replicate]
  go_wp2_with fail
  refine (told_errno _ _).mono ?_
  rintro e w' ⟨rfl, rfl⟩
  go_wp2
  simp [bodyPostS, results, Tryd.results34]

set_option maxHeartbeats 400000 in
theorem parse_idle (a b : Value) (w : World) :
    CallsD Tryd.prog 34 #[a, b] .returning w fun e u' w' => e = .returned (.tuple #[]) ∧ u' = .returning ∧ w' = w := by
  refine callsD_of_wpS Tryd.func34 rfl fun c₀ cs hu => ?_
  apply wpS_seq
  apply wpS_region
  simp [wpOpsS, go_sem, recoverD, hu, Tryd.ntmps34, Exit.thenS]
  refine wpS_of_wp ?_
  simp [Array.replicate]
  go_wp2
  cases c₀
  simp_all [bodyPostS, results, Tryd.results34]

/-- What Parse answers: a word and an error. -/
def parseN (l : List UInt8) : Nat × Int :=
  if l = [110, 97, 110] then (9221120237041090561, 0) else if l = [105, 110, 102] then (9218868437227405312, 0) else if l = [45, 105, 110, 102] then (18442240474082181120, 0) else
    match prodL (Lib.trimPrefix l [45]) with
    | none => (0, 4)
    | some (m, p) => match joinN m p with
      | none => (0, 11)
      | some f => (if Lib.hasPrefix l [45] then Op.negFloat .f64 f else f, 0)

def ParseP (w : World) (g : Nat × Int) (e : Ending) (w' : World) : Prop := e = .returned (.tuple #[.float .f64 g.1, .int .i64 g.2]) ∧ Below w.heap.size w w'

/-- The two result cells, new. -/
def cellsW (w : World) : World := (w.alloc (.cells #[.float .f64 0] 24)).alloc (.cells #[.int .i64 0] 25)
theorem cellsW_facts (w : World) : Blk (cellsW w) w.heap.size 24 #[.float .f64 0] ∧ Blk (cellsW w) (w.heap.size + 1) 25 #[.int .i64 0] ∧ Below w.heap.size w (cellsW w) ∧ w.heap.size + 2 ≤ (cellsW w).heap.size :=
  ⟨(Blk.new _ _ _).alloc _, Blk.new' (by simp) _ _, below_alloc (below_alloc (Below.refl _ _) (Nat.le_refl _) _) (Nat.le_refl _) _, by simp [cellsW]⟩

set_option maxRecDepth 100000 in
set_option maxHeartbeats 2000000 in
theorem parse_nan (s : ByteArray) (w : World) (h : s.data.toList = [110, 97, 110]) :
    Calls Tryd.prog 10 #[.string s] w fun e w' => ParseP w (9221120237041090561, 0) e w' := by
  have hmf : ∀ (fn : Fn) (first cap : Array Value) (w : World), (Instr.makeFunc fn first cap).run Tryd.prog w = .ok (.func fn first cap) w := fun _ _ _ _ => rfl
  have hst := run_store_f64
  have e0 : (s.toList == [110, 97, 110]) = true := by rw [Lib.toList_data, h]; rfl
  have C := fun W => Lib.hid (mnan_any W)
  clear h
  obtain ⟨d0, d1, hb, hsz⟩ := cellsW_facts w
  unfold cellsW at d0 d1 hb hsz
  go_enter_defers Tryd.func10, Tryd.ntmps10
  go_wp2_with fail
  generalize (w.alloc (.cells #[.float .f64 0] 24)).alloc (.cells #[.int .i64 0] 25) = w2 at *
  refine (C _).out.mono ?_
  rintro e w1 ⟨rfl, rfl⟩
  have c0 := d0.cell 0
  have f0 := d0.frozen 0
  have c1 := d1.cell 0
  have f1 := d1.frozen 0
  simp at c0 c1
  have D0 := Lib.hid d0
  have D1 := Lib.hid d1
  clear d0 d1
  go_wp2
  have e0 := ((D0.out.set_ 0 (.float .f64 9221120237041090561)).far (p := ⟨w.heap.size + 1, 0, none⟩) (by dsimp only; omega) (.int .i64 0)).cell 0
  have e1 := ((D1.out.far (p := ⟨w.heap.size, 0, none⟩) (by dsimp only; omega) (.float .f64 9221120237041090561)).set_ 0 (.int .i64 0)).cell 0
  have hb3 := below_setCell (below_setCell hb (p := ⟨w.heap.size, 0, none⟩) (Nat.le_refl _) (.float .f64 9221120237041090561)) (p := ⟨w.heap.size + 1, 0, none⟩) (by dsimp only; omega) (.int .i64 0)
  refine leaves_cons (f := 34) (args := #[.pointer (some ⟨w.heap.size, 0, none⟩), .pointer (some ⟨w.heap.size + 1, 0, none⟩)]) (by simp) (by simp [go_sem]) ?_
  refine (parse_idle _ _ _).mono ?_
  rintro e u' w'' ⟨rfl, rfl, rfl⟩
  generalize (w2.setCell ⟨w.heap.size, 0, none⟩ (.float .f64 9221120237041090561)).setCell ⟨w.heap.size + 1, 0, none⟩ (.int .i64 0) = w3 at *
  simp at e0 e1
  simp [Leaves, settle, results, Tryd.results10, go_sem, e0, e1, ParseP]
  exact hb3

set_option maxRecDepth 100000 in
set_option maxHeartbeats 2000000 in
theorem parse_inf (s : ByteArray) (w : World) (h : s.data.toList = [105, 110, 102]) :
    Calls Tryd.prog 10 #[.string s] w fun e w' => ParseP w (9218868437227405312, 0) e w' := by
  have hmf : ∀ (fn : Fn) (first cap : Array Value) (w : World), (Instr.makeFunc fn first cap).run Tryd.prog w = .ok (.func fn first cap) w := fun _ _ _ _ => rfl
  have hst := run_store_f64
  have e90 : (s.toList == [110, 97, 110]) = false := by rw [Lib.toList_data, h]; rfl
  have e91 : (s.toList == [105, 110, 102]) = true := by rw [Lib.toList_data, h]; rfl
  have C := fun W => Lib.hid (minf_any W)
  clear h
  obtain ⟨d0, d1, hb, hsz⟩ := cellsW_facts w
  unfold cellsW at d0 d1 hb hsz
  go_enter_defers Tryd.func10, Tryd.ntmps10
  go_wp2_with fail
  generalize (w.alloc (.cells #[.float .f64 0] 24)).alloc (.cells #[.int .i64 0] 25) = w2 at *
  refine (C _).out.mono ?_
  rintro e w1 ⟨rfl, rfl⟩
  have c0 := d0.cell 0
  have f0 := d0.frozen 0
  have c1 := d1.cell 0
  have f1 := d1.frozen 0
  simp at c0 c1
  have D0 := Lib.hid d0
  have D1 := Lib.hid d1
  clear d0 d1
  go_wp2
  have e0 := ((D0.out.set_ 0 (.float .f64 9218868437227405312)).far (p := ⟨w.heap.size + 1, 0, none⟩) (by dsimp only; omega) (.int .i64 0)).cell 0
  have e1 := ((D1.out.far (p := ⟨w.heap.size, 0, none⟩) (by dsimp only; omega) (.float .f64 9218868437227405312)).set_ 0 (.int .i64 0)).cell 0
  have hb3 := below_setCell (below_setCell hb (p := ⟨w.heap.size, 0, none⟩) (Nat.le_refl _) (.float .f64 9218868437227405312)) (p := ⟨w.heap.size + 1, 0, none⟩) (by dsimp only; omega) (.int .i64 0)
  refine leaves_cons (f := 34) (args := #[.pointer (some ⟨w.heap.size, 0, none⟩), .pointer (some ⟨w.heap.size + 1, 0, none⟩)]) (by simp) (by simp [go_sem]) ?_
  refine (parse_idle _ _ _).mono ?_
  rintro e u' w'' ⟨rfl, rfl, rfl⟩
  generalize (w2.setCell ⟨w.heap.size, 0, none⟩ (.float .f64 9218868437227405312)).setCell ⟨w.heap.size + 1, 0, none⟩ (.int .i64 0) = w3 at *
  simp at e0 e1
  simp [Leaves, settle, results, Tryd.results10, go_sem, e0, e1, ParseP]
  exact hb3

set_option maxRecDepth 100000 in
set_option maxHeartbeats 2000000 in
theorem parse_minf (s : ByteArray) (w : World) (h : s.data.toList = [45, 105, 110, 102]) :
    Calls Tryd.prog 10 #[.string s] w fun e w' => ParseP w (18442240474082181120, 0) e w' := by
  have hmf : ∀ (fn : Fn) (first cap : Array Value) (w : World), (Instr.makeFunc fn first cap).run Tryd.prog w = .ok (.func fn first cap) w := fun _ _ _ _ => rfl
  have hst := run_store_f64
  have e90 : (s.toList == [110, 97, 110]) = false := by rw [Lib.toList_data, h]; rfl
  have e91 : (s.toList == [105, 110, 102]) = false := by rw [Lib.toList_data, h]; rfl
  have e92 : (s.toList == [45, 105, 110, 102]) = true := by rw [Lib.toList_data, h]; rfl
  have C := fun W => Lib.hid (mminf_any W)
  clear h
  obtain ⟨d0, d1, hb, hsz⟩ := cellsW_facts w
  unfold cellsW at d0 d1 hb hsz
  go_enter_defers Tryd.func10, Tryd.ntmps10
  go_wp2_with fail
  generalize (w.alloc (.cells #[.float .f64 0] 24)).alloc (.cells #[.int .i64 0] 25) = w2 at *
  refine (C _).out.mono ?_
  rintro e w1 ⟨rfl, rfl⟩
  have c0 := d0.cell 0
  have f0 := d0.frozen 0
  have c1 := d1.cell 0
  have f1 := d1.frozen 0
  simp at c0 c1
  have D0 := Lib.hid d0
  have D1 := Lib.hid d1
  clear d0 d1
  go_wp2
  have e0 := ((D0.out.set_ 0 (.float .f64 18442240474082181120)).far (p := ⟨w.heap.size + 1, 0, none⟩) (by dsimp only; omega) (.int .i64 0)).cell 0
  have e1 := ((D1.out.far (p := ⟨w.heap.size, 0, none⟩) (by dsimp only; omega) (.float .f64 18442240474082181120)).set_ 0 (.int .i64 0)).cell 0
  have hb3 := below_setCell (below_setCell hb (p := ⟨w.heap.size, 0, none⟩) (Nat.le_refl _) (.float .f64 18442240474082181120)) (p := ⟨w.heap.size + 1, 0, none⟩) (by dsimp only; omega) (.int .i64 0)
  refine leaves_cons (f := 34) (args := #[.pointer (some ⟨w.heap.size, 0, none⟩), .pointer (some ⟨w.heap.size + 1, 0, none⟩)]) (by simp) (by simp [go_sem]) ?_
  refine (parse_idle _ _ _).mono ?_
  rintro e u' w'' ⟨rfl, rfl, rfl⟩
  generalize (w2.setCell ⟨w.heap.size, 0, none⟩ (.float .f64 18442240474082181120)).setCell ⟨w.heap.size + 1, 0, none⟩ (.int .i64 0) = w3 at *
  simp at e0 e1
  simp [Leaves, settle, results, Tryd.results10, go_sem, e0, e1, ParseP]
  exact hb3

set_option maxRecDepth 100000 in
set_option maxHeartbeats 4000000 in
theorem parse_form (s : ByteArray) (w : World) (hs : s.size ≤ 4611686018427387904) (n1 : s.data.toList ≠ [110, 97, 110]) (n2 : s.data.toList ≠ [105, 110, 102]) (n3 : s.data.toList ≠ [45, 105, 110, 102]) (hP : prodL (Lib.trimPrefix s.data.toList [45]) = none) :
    Calls Tryd.prog 10 #[.string s] w fun e w' => ParseP w (0, 4) e w' := by
  have hmf : ∀ (fn : Fn) (first cap : Array Value) (w : World), (Instr.makeFunc fn first cap).run Tryd.prog w = .ok (.func fn first cap) w := fun _ _ _ _ => rfl
  have hst := run_store_f64
  have e90 : (s.toList == [110, 97, 110]) = false := by rw [Lib.toList_data, beq_eq_false_iff_ne]; exact n1
  have e91 : (s.toList == [105, 110, 102]) = false := by rw [Lib.toList_data, beq_eq_false_iff_ne]; exact n2
  have e92 : (s.toList == [45, 105, 110, 102]) = false := by rw [Lib.toList_data, beq_eq_false_iff_ne]; exact n3
  have CP := fun W => Lib.hid (Tryd.strings_CutPrefix s ⟨#[45]⟩ W)
  have htl : (Lib.trimPrefix s.data.toList [45]).length ≤ 4611686018427387904 := Nat.le_trans (Lib.trimPrefix_le _ _) hs
  obtain ⟨t, ht⟩ : ∃ t, t = Lib.trimPrefix s.data.toList [45] := ⟨_, rfl⟩
  obtain ⟨b, hb⟩ : ∃ b, b = Lib.hasPrefix s.data.toList [45] := ⟨_, rfl⟩
  have CP : ∀ W : World, Hid (Calls Tryd.prog 38 #[.string s, .string ⟨#[45]⟩] W fun e w' => e = .returned (.tuple #[.string ⟨t.toArray⟩, .bool b]) ∧ w' = W) := by
    intro W
    have := (CP W).out
    rw [ht, hb]
    exact this
  rw [← ht] at htl hP
  have PR := fun W => product_any ⟨t.toArray⟩ (by rw [size_mk]; exact htl) W
  rw [show (⟨t.toArray⟩ : ByteArray).data.toList = t from rfl, hP] at PR
  have PR := fun W => Lib.hid (PR W)
  clear htl ht hb hP hs n1 n2 n3
  obtain ⟨d0, d1, hb, hsz⟩ := cellsW_facts w
  unfold cellsW at d0 d1 hb hsz
  go_enter_defers Tryd.func10, Tryd.ntmps10
  go_wp2_with fail
  generalize (w.alloc (.cells #[.float .f64 0] 24)).alloc (.cells #[.int .i64 0] 25) = w2 at *
  refine (CP _).out.mono ?_
  rintro e w1 ⟨rfl, rfl⟩
  go_wp2_with fail
  refine (PR _).out.mono ?_
  rintro e w4 ⟨rfl, hb4⟩
  have d0 := d0.below hb4 (by omega)
  have d1 := d1.below hb4 (by omega)
  have hb := hb.trans (hb4.mono (by omega))
  have c0 := d0.cell 0
  have f0 := d0.frozen 0
  have c1 := d1.cell 0
  have f1 := d1.frozen 0
  simp at c0 c1
  have D0 := Lib.hid d0
  have D1 := Lib.hid d1
  clear d0 d1
  go_wp2
  have e0 := ((D0.out.set_ 0 (.float .f64 0)).far (p := ⟨w.heap.size + 1, 0, none⟩) (by dsimp only; omega) (.int .i64 4)).cell 0
  have e1 := ((D1.out.far (p := ⟨w.heap.size, 0, none⟩) (by dsimp only; omega) (.float .f64 0)).set_ 0 (.int .i64 4)).cell 0
  have hb3 := below_setCell (below_setCell hb (p := ⟨w.heap.size, 0, none⟩) (Nat.le_refl _) (.float .f64 0)) (p := ⟨w.heap.size + 1, 0, none⟩) (by dsimp only; omega) (.int .i64 4)
  refine leaves_cons (f := 34) (args := #[.pointer (some ⟨w.heap.size, 0, none⟩), .pointer (some ⟨w.heap.size + 1, 0, none⟩)]) (by simp) (by simp [go_sem]) ?_
  refine (parse_catch w.heap.size (w.heap.size + 1) (.float .f64 0) (.int .i64 0) 4 [] _ c0 c1 f0 f1 (by omega)).mono ?_
  rintro e u' w'' ⟨rfl, rfl, rfl⟩
  generalize (w4.setCell ⟨w.heap.size, 0, none⟩ (.float .f64 0)).setCell ⟨w.heap.size + 1, 0, none⟩ (.int .i64 4) = w3 at *
  simp at e0 e1
  simp [Leaves, settle, results, Tryd.results10, go_sem, e0, e1, ParseP]
  exact hb3

set_option maxRecDepth 100000 in
set_option maxHeartbeats 4000000 in
theorem parse_over (s : ByteArray) (m : Nat) (p : Int) (w : World) (hL : LaidR w) (hs : s.size ≤ 4611686018427387904) (n1 : s.data.toList ≠ [110, 97, 110]) (n2 : s.data.toList ≠ [105, 110, 102]) (n3 : s.data.toList ≠ [45, 105, 110, 102]) (hP : prodL (Lib.trimPrefix s.data.toList [45]) = some (m, p)) (hJ : joinN m p = none)
    (hp0 : -100000000000000000 ≤ p) (hp1 : p ≤ 100000000000000000) :
    Calls Tryd.prog 10 #[.string s] w fun e w' => ParseP w (0, 11) e w' := by
  have hmf : ∀ (fn : Fn) (first cap : Array Value) (w : World), (Instr.makeFunc fn first cap).run Tryd.prog w = .ok (.func fn first cap) w := fun _ _ _ _ => rfl
  have hst := run_store_f64
  have e90 : (s.toList == [110, 97, 110]) = false := by rw [Lib.toList_data, beq_eq_false_iff_ne]; exact n1
  have e91 : (s.toList == [105, 110, 102]) = false := by rw [Lib.toList_data, beq_eq_false_iff_ne]; exact n2
  have e92 : (s.toList == [45, 105, 110, 102]) = false := by rw [Lib.toList_data, beq_eq_false_iff_ne]; exact n3
  have CP := fun W => Lib.hid (Tryd.strings_CutPrefix s ⟨#[45]⟩ W)
  have htl : (Lib.trimPrefix s.data.toList [45]).length ≤ 4611686018427387904 := Nat.le_trans (Lib.trimPrefix_le _ _) hs
  obtain ⟨t, ht⟩ : ∃ t, t = Lib.trimPrefix s.data.toList [45] := ⟨_, rfl⟩
  obtain ⟨b, hb⟩ : ∃ b, b = Lib.hasPrefix s.data.toList [45] := ⟨_, rfl⟩
  have CP : ∀ W : World, Hid (Calls Tryd.prog 38 #[.string s, .string ⟨#[45]⟩] W fun e w' => e = .returned (.tuple #[.string ⟨t.toArray⟩, .bool b]) ∧ w' = W) := by
    intro W
    have := (CP W).out
    rw [ht, hb]
    exact this
  rw [← ht] at htl hP
  have PR := fun W => product_any ⟨t.toArray⟩ (by rw [size_mk]; exact htl) W
  rw [show (⟨t.toArray⟩ : ByteArray).data.toList = t from rfl, hP] at PR
  have PR := fun W => Lib.hid (PR W)
  have J := fun W hb => join_any m p W hp0 hp1 (hL.on hb).tz64
  rw [hJ] at J
  have J := fun W hb => Lib.hid (J W hb)
  clear htl ht hb hP hs n1 n2 n3 hL hp0 hp1 hJ
  obtain ⟨d0, d1, hb, hsz⟩ := cellsW_facts w
  unfold cellsW at d0 d1 hb hsz
  go_enter_defers Tryd.func10, Tryd.ntmps10
  go_wp2_with fail
  generalize (w.alloc (.cells #[.float .f64 0] 24)).alloc (.cells #[.int .i64 0] 25) = w2 at *
  refine (CP _).out.mono ?_
  rintro e w1 ⟨rfl, rfl⟩
  go_wp2_with fail
  refine (PR _).out.mono ?_
  rintro e w4 ⟨rfl, hb4⟩
  have d0 := d0.below hb4 (by omega)
  have d1 := d1.below hb4 (by omega)
  have hb := hb.trans (hb4.mono (by omega))
  have J := J w4 hb
  go_wp2_with fail
  refine J.out.mono ?_
  rintro e w5 ⟨rfl, rfl⟩
  have c0 := d0.cell 0
  have f0 := d0.frozen 0
  have c1 := d1.cell 0
  have f1 := d1.frozen 0
  simp at c0 c1
  have D0 := Lib.hid d0
  have D1 := Lib.hid d1
  clear d0 d1
  go_wp2
  have e0 := ((D0.out.set_ 0 (.float .f64 0)).far (p := ⟨w.heap.size + 1, 0, none⟩) (by dsimp only; omega) (.int .i64 11)).cell 0
  have e1 := ((D1.out.far (p := ⟨w.heap.size, 0, none⟩) (by dsimp only; omega) (.float .f64 0)).set_ 0 (.int .i64 11)).cell 0
  have hb3 := below_setCell (below_setCell hb (p := ⟨w.heap.size, 0, none⟩) (Nat.le_refl _) (.float .f64 0)) (p := ⟨w.heap.size + 1, 0, none⟩) (by dsimp only; omega) (.int .i64 11)
  refine leaves_cons (f := 34) (args := #[.pointer (some ⟨w.heap.size, 0, none⟩), .pointer (some ⟨w.heap.size + 1, 0, none⟩)]) (by simp) (by simp [go_sem]) ?_
  refine (parse_catch w.heap.size (w.heap.size + 1) (.float .f64 0) (.int .i64 0) 11 [] _ c0 c1 f0 f1 (by omega)).mono ?_
  rintro e u' w'' ⟨rfl, rfl, rfl⟩
  generalize (w4.setCell ⟨w.heap.size, 0, none⟩ (.float .f64 0)).setCell ⟨w.heap.size + 1, 0, none⟩ (.int .i64 11) = w3 at *
  simp at e0 e1
  simp [Leaves, settle, results, Tryd.results10, go_sem, e0, e1, ParseP]
  exact hb3

set_option maxRecDepth 100000 in
set_option maxHeartbeats 4000000 in
theorem parse_ok (s : ByteArray) (m f : Nat) (p : Int) (w : World) (hL : LaidR w) (hs : s.size ≤ 4611686018427387904) (n1 : s.data.toList ≠ [110, 97, 110]) (n2 : s.data.toList ≠ [105, 110, 102]) (n3 : s.data.toList ≠ [45, 105, 110, 102]) (hP : prodL (Lib.trimPrefix s.data.toList [45]) = some (m, p)) (hJ : joinN m p = some f)
    (hp0 : -100000000000000000 ≤ p) (hp1 : p ≤ 100000000000000000) :
    Calls Tryd.prog 10 #[.string s] w fun e w' => ParseP w (if Lib.hasPrefix s.data.toList [45] then Op.negFloat .f64 f else f, 0) e w' := by
  have hmf : ∀ (fn : Fn) (first cap : Array Value) (w : World), (Instr.makeFunc fn first cap).run Tryd.prog w = .ok (.func fn first cap) w := fun _ _ _ _ => rfl
  have hst := run_store_f64
  have e90 : (s.toList == [110, 97, 110]) = false := by rw [Lib.toList_data, beq_eq_false_iff_ne]; exact n1
  have e91 : (s.toList == [105, 110, 102]) = false := by rw [Lib.toList_data, beq_eq_false_iff_ne]; exact n2
  have e92 : (s.toList == [45, 105, 110, 102]) = false := by rw [Lib.toList_data, beq_eq_false_iff_ne]; exact n3
  have CP := fun W => Lib.hid (Tryd.strings_CutPrefix s ⟨#[45]⟩ W)
  have htl : (Lib.trimPrefix s.data.toList [45]).length ≤ 4611686018427387904 := Nat.le_trans (Lib.trimPrefix_le _ _) hs
  obtain ⟨t, ht⟩ : ∃ t, t = Lib.trimPrefix s.data.toList [45] := ⟨_, rfl⟩
  obtain ⟨b, hb⟩ : ∃ b, b = Lib.hasPrefix s.data.toList [45] := ⟨_, rfl⟩
  have CP : ∀ W : World, Hid (Calls Tryd.prog 38 #[.string s, .string ⟨#[45]⟩] W fun e w' => e = .returned (.tuple #[.string ⟨t.toArray⟩, .bool b]) ∧ w' = W) := by
    intro W
    have := (CP W).out
    rw [ht, hb]
    exact this
  rw [← ht] at htl hP
  have PR := fun W => product_any ⟨t.toArray⟩ (by rw [size_mk]; exact htl) W
  rw [show (⟨t.toArray⟩ : ByteArray).data.toList = t from rfl, hP] at PR
  have PR := fun W => Lib.hid (PR W)
  have J := fun W hb => join_any m p W hp0 hp1 (hL.on hb).tz64
  rw [hJ] at J
  have J := fun W hb => Lib.hid (J W hb)
  rw [← hb]
  have hng := run_neg_float f
  generalize Op.negFloat .f64 f = g at *
  clear htl ht hb hP hs n1 n2 n3 hL hp0 hp1 hJ
  obtain ⟨d0, d1, hb, hsz⟩ := cellsW_facts w
  unfold cellsW at d0 d1 hb hsz
  cases b
  · skip
    go_enter_defers Tryd.func10, Tryd.ntmps10
    go_wp2_with fail
    generalize (w.alloc (.cells #[.float .f64 0] 24)).alloc (.cells #[.int .i64 0] 25) = w2 at *
    refine (CP _).out.mono ?_
    rintro e w1 ⟨rfl, rfl⟩
    go_wp2_with fail
    refine (PR _).out.mono ?_
    rintro e w4 ⟨rfl, hb4⟩
    have d0 := d0.below hb4 (by omega)
    have d1 := d1.below hb4 (by omega)
    have hb := hb.trans (hb4.mono (by omega))
    have J := J w4 hb
    go_wp2_with fail
    refine J.out.mono ?_
    rintro e w5 ⟨rfl, rfl⟩
    have c0 := d0.cell 0
    have f0 := d0.frozen 0
    have c1 := d1.cell 0
    have f1 := d1.frozen 0
    simp at c0 c1
    have D0 := Lib.hid d0
    have D1 := Lib.hid d1
    clear d0 d1
    go_wp2
    have e0 := (((D0.out.set_ 0 (.float .f64 f)).set_ 0 (.float .f64 f)).far (p := ⟨w.heap.size + 1, 0, none⟩) (by dsimp only; omega) (.int .i64 0)).cell 0
    have e1 := (((D1.out.far (p := ⟨w.heap.size, 0, none⟩) (by dsimp only; omega) (.float .f64 f)).far (p := ⟨w.heap.size, 0, none⟩) (by dsimp only; omega) (.float .f64 f)).set_ 0 (.int .i64 0)).cell 0
    have hb3 := below_setCell (below_setCell (below_setCell hb (p := ⟨w.heap.size, 0, none⟩) (Nat.le_refl _) (.float .f64 f)) (p := ⟨w.heap.size, 0, none⟩) (Nat.le_refl _) (.float .f64 f)) (p := ⟨w.heap.size + 1, 0, none⟩) (by dsimp only; omega) (.int .i64 0)
    refine leaves_cons (f := 34) (args := #[.pointer (some ⟨w.heap.size, 0, none⟩), .pointer (some ⟨w.heap.size + 1, 0, none⟩)]) (by simp) (by simp [go_sem]) ?_
    refine (parse_idle _ _ _).mono ?_
    rintro e u' w'' ⟨rfl, rfl, rfl⟩
    generalize ((w4.setCell ⟨w.heap.size, 0, none⟩ (.float .f64 f)).setCell ⟨w.heap.size, 0, none⟩ (.float .f64 f)).setCell ⟨w.heap.size + 1, 0, none⟩ (.int .i64 0) = w3 at *
    simp at e0 e1
    simp [Leaves, settle, results, Tryd.results10, go_sem, e0, e1, ParseP]
    exact hb3
  · skip
    go_enter_defers Tryd.func10, Tryd.ntmps10
    go_wp2_with fail
    generalize (w.alloc (.cells #[.float .f64 0] 24)).alloc (.cells #[.int .i64 0] 25) = w2 at *
    refine (CP _).out.mono ?_
    rintro e w1 ⟨rfl, rfl⟩
    go_wp2_with fail
    refine (PR _).out.mono ?_
    rintro e w4 ⟨rfl, hb4⟩
    have d0 := d0.below hb4 (by omega)
    have d1 := d1.below hb4 (by omega)
    have hb := hb.trans (hb4.mono (by omega))
    have J := J w4 hb
    go_wp2_with fail
    refine J.out.mono ?_
    rintro e w5 ⟨rfl, rfl⟩
    have c0 := d0.cell 0
    have f0 := d0.frozen 0
    have c1 := d1.cell 0
    have f1 := d1.frozen 0
    simp at c0 c1
    have D0 := Lib.hid d0
    have D1 := Lib.hid d1
    clear d0 d1
    go_wp2
    have e0 := ((((D0.out.set_ 0 (.float .f64 f)).set_ 0 (.float .f64 g)).set_ 0 (.float .f64 g)).far (p := ⟨w.heap.size + 1, 0, none⟩) (by dsimp only; omega) (.int .i64 0)).cell 0
    have e1 := ((((D1.out.far (p := ⟨w.heap.size, 0, none⟩) (by dsimp only; omega) (.float .f64 f)).far (p := ⟨w.heap.size, 0, none⟩) (by dsimp only; omega) (.float .f64 g)).far (p := ⟨w.heap.size, 0, none⟩) (by dsimp only; omega) (.float .f64 g)).set_ 0 (.int .i64 0)).cell 0
    have hb3 := below_setCell (below_setCell (below_setCell (below_setCell hb (p := ⟨w.heap.size, 0, none⟩) (Nat.le_refl _) (.float .f64 f)) (p := ⟨w.heap.size, 0, none⟩) (Nat.le_refl _) (.float .f64 g)) (p := ⟨w.heap.size, 0, none⟩) (Nat.le_refl _) (.float .f64 g)) (p := ⟨w.heap.size + 1, 0, none⟩) (by dsimp only; omega) (.int .i64 0)
    refine leaves_cons (f := 34) (args := #[.pointer (some ⟨w.heap.size, 0, none⟩), .pointer (some ⟨w.heap.size + 1, 0, none⟩)]) (by simp) (by simp [go_sem]) ?_
    refine (parse_idle _ _ _).mono ?_
    rintro e u' w'' ⟨rfl, rfl, rfl⟩
    generalize (((w4.setCell ⟨w.heap.size, 0, none⟩ (.float .f64 f)).setCell ⟨w.heap.size, 0, none⟩ (.float .f64 g)).setCell ⟨w.heap.size, 0, none⟩ (.float .f64 g)).setCell ⟨w.heap.size + 1, 0, none⟩ (.int .i64 0) = w3 at *
    simp at e0 e1
    simp [Leaves, settle, results, Tryd.results10, go_sem, e0, e1, ParseP]
    exact hb3


theorem prodL_bounds (l : List UInt8) (m : Nat) (p : Int) (h : prodL l = some (m, p)) : -100000000000000000 ≤ p ∧ p ≤ 100000000000000000 := by
  unfold prodL at h
  split at h
  · cases h
  · split at h
    · cases h
    · split at h
      · cases h
      · split at h
        · injection h with h; injection h with h1 h2; omega
        · split at h
          · cases h
          · rename_i hb
            injection h with h; injection h with h1 h2
            have := numL_lt _ _ hb
            omega

theorem parse_any (s : ByteArray) (w : World) (hL : LaidR w) (hs : s.size ≤ 4611686018427387904) :
    Calls Tryd.prog 10 #[.string s] w fun e w' => ParseP w (parseN s.data.toList) e w' := by
  unfold parseN
  by_cases n1 : s.data.toList = [110, 97, 110]
  · rw [if_pos n1]; exact parse_nan s w n1
  · rw [if_neg n1]
    by_cases n2 : s.data.toList = [105, 110, 102]
    · rw [if_pos n2]; exact parse_inf s w n2
    · rw [if_neg n2]
      by_cases n3 : s.data.toList = [45, 105, 110, 102]
      · rw [if_pos n3]; exact parse_minf s w n3
      · rw [if_neg n3]
        cases hP : prodL (Lib.trimPrefix s.data.toList [45]) with
        | none => exact parse_form s w hs n1 n2 n3 hP
        | some v =>
          obtain ⟨m, p⟩ := v
          obtain ⟨b1, b2⟩ := prodL_bounds _ m p hP
          dsimp only
          cases hJ : joinN m p with
          | none => exact parse_over s m p w hL hs n1 n2 n3 hP hJ b1 b2
          | some f => exact parse_ok s m f p w hL hs n1 n2 n3 hP hJ b1 b2
end Go.Proofs.YtcnjjolmjpeeoaaDoor
