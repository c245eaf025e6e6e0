/-
  Package net, part 1: a net as a plain value, how it lies in memory, what a call may turn; Tried.
-/
import Derived.Test.YtmagkkkecihgmaaGreatLib
import Derived.Test.YtmagkkkecihgmaaGreatChecked
import Derived.Maps.OwnSet
import Derived.WideKeyPair
import Derived.DeepKeys4
import Derived.Defers
import Derived.Recover
import Derived.BigQuiet
namespace Go.Proofs.YtmagkkkecihgmaaGreat
open Go.RowKit Go.Maps

abbrev gaveUp (er : Int) : Ending := .panicked [{ v := .iface 56 (.int .i64 er), recovered := false }]

/-- A net, plain. -/
structure N8 where
  n : Int
  L : List (Int × Int × ByteArray)
  C : List (Int × Int)
  lost : Int

def msgC (m : Int × Int × ByteArray) : List Value := [.int .i64 m.1, .int .i64 m.2.1, .string m.2.2]
def rowC (L : List (Int × Int × ByteArray)) : List Value := L.flatMap msgC
theorem rowC_length (L : List (Int × Int × ByteArray)) : (rowC L).length = L.length * 3 := by
  induction L with
  | nil => rfl
  | cons x L ih => simp only [rowC, List.flatMap_cons, List.length_append, List.length_cons] at *; simp only [msgC, List.length_cons, List.length_nil]; omega
theorem rowC_append (L M : List (Int × Int × ByteArray)) : rowC (L ++ M) = rowC L ++ rowC M := by simp [rowC]
theorem rowC_one (m : Int × Int × ByteArray) : rowC [m] = msgC m := by simp [rowC]
theorem rowC_drop (L : List (Int × Int × ByteArray)) : ∀ i, rowC (L.drop i) = (rowC L).drop (i * 3) := by
  induction L with
  | nil => intro i; simp [rowC]
  | cons x L ih =>
    intro i
    cases i with
    | zero => simp
    | succ i =>
      rw [List.drop_succ_cons, ih i]
      simp only [rowC, List.flatMap_cons]
      rw [show (i + 1) * 3 = (msgC x).length + i * 3 by simp [msgC]; omega, List.drop_append]
      simp [msgC]
theorem rowC_take (L : List (Int × Int × ByteArray)) : ∀ i, rowC (L.take i) = (rowC L).take (i * 3) := by
  induction L with
  | nil => intro i; simp [rowC]
  | cons x L ih =>
    intro i
    cases i with
    | zero => simp [rowC]
    | succ i =>
      rw [List.take_succ_cons]
      simp only [rowC, List.flatMap_cons] at *
      rw [show (i + 1) * 3 = (msgC x).length + i * 3 by simp [msgC]; omega, List.take_length_add_append, ih i]
theorem rowC_at (L : List (Int × Int × ByteArray)) (i : Nat) (m : Int × Int × ByteArray) (h : L[i]? = some m) : (rowC L)[i * 3]? = some (.int .i64 m.1) ∧ (rowC L)[i * 3 + 1]? = some (.int .i64 m.2.1) ∧ (rowC L)[i * 3 + 2]? = some (.string m.2.2) := by
  have hd := rowC_drop L i
  have hi := (List.getElem?_eq_some_iff.1 h).1
  rw [List.drop_eq_getElem_cons hi, (List.getElem?_eq_some_iff.1 h).2] at hd
  have e : rowC (m :: L.drop (i + 1)) = msgC m ++ rowC (L.drop (i + 1)) := rfl
  rw [e] at hd
  refine ⟨?_, ?_, ?_⟩
  · have := congrArg (fun l : List Value => l[0]?) hd
    simpa [msgC] using this.symm
  · have := congrArg (fun l : List Value => l[1]?) hd
    simpa [msgC] using this.symm
  · have := congrArg (fun l : List Value => l[2]?) hd
    simpa [msgC] using this.symm

/-! ### What a call may turn -/
/-- What has turned: from block B on, and only such as T says; new blocks are free. -/
structure Fr (B : Nat) (T : Obj → Bool) (w w' : World) : Prop where
  os : w'.os = w.os
  tape : w'.tape = w.tape
  output : w'.output = w.output
  size : w.heap.size ≤ w'.heap.size
  block : ∀ k o, w.heap[k]? = some o → (k < B ∨ T o = false) → w'.heap[k]? = some o

section
variable {B : Nat} {T : Obj → Bool} {w w' w'' : World}
theorem Fr.refl (B : Nat) (T : Obj → Bool) (w : World) : Fr B T w w := ⟨rfl, rfl, rfl, Nat.le_refl _, fun _ _ h _ => h⟩
theorem Fr.trans (h : Fr B T w w') (g : Fr B T w' w'') : Fr B T w w'' := ⟨g.os.trans h.os, g.tape.trans h.tape, g.output.trans h.output, Nat.le_trans h.size g.size, fun k o hk ho => g.block k o (h.block k o hk ho) ho⟩
theorem Fr.of_grown (h : w.grownBy w' none) : Fr B T w w' := ⟨h.os, h.tape, h.output, h.size, fun k o hk _ => (h.block k (Array.getElem?_eq_some_iff.1 hk).1 (by simp)).trans hk⟩
theorem Fr.alloc (h : Fr B T w w') (o : Obj) : Fr B T w (w'.alloc o) := h.trans (Fr.of_grown (World.grownBy_alloc w' o none))
theorem Fr.drew (h : Fr B T w w') : Fr B T w w'.drew := ⟨h.os, h.tape, h.output, h.size, h.block⟩
theorem Fr.drewN (h : Fr B T w w') (n : Nat) : Fr B T w (w'.drewN n) := ⟨h.os, h.tape, h.output, h.size, h.block⟩
/-- A row was turned: a new block, or one that may be. -/
theorem Fr.row {row : Option Nat} (h : Fr B T w w') (g : w'.grownBy w'' row) (hr : ∀ k, row = some k → w.heap.size ≤ k ∨ (B ≤ k ∧ ∃ o, w'.heap[k]? = some o ∧ T o = true)) : Fr B T w w'' := by
  refine ⟨g.os.trans h.os, g.tape.trans h.tape, g.output.trans h.output, Nat.le_trans h.size g.size, fun k o hk ho => ?_⟩
  have h1 := h.block k o hk ho
  by_cases e : some k = row
  · exfalso
    have hlt := (Array.getElem?_eq_some_iff.1 hk).1
    rcases hr k e.symm with h2 | ⟨h2, o', h3, h4⟩
    · omega
    · rw [h1] at h3
      cases h3
      rcases ho with ho | ho
      · omega
      · rw [h4] at ho; cases ho
  · exact (g.block k (Array.getElem?_eq_some_iff.1 h1).1 e).trans h1
theorem Fr.setCell (h : Fr B T w w') {p : Addr} (hp : w.heap.size ≤ p.block ∨ (B ≤ p.block ∧ ∃ o, w'.heap[p.block]? = some o ∧ T o = true)) (u : Value) : Fr B T w (w'.setCell p u) :=
  h.row (row := some p.block) (only_setCell ⟨rfl, rfl, rfl, Nat.le_refl _, fun _ _ _ => rfl⟩ (Or.inl rfl) u) (fun k hk => by cases hk; exact hp)
theorem Fr.below (h : Fr B T w w') (hB : B ≤ w.heap.size) : Below B w w' :=
  ⟨h.os, h.tape, h.output, h.size, fun k hk => by
    have hlt : k < w.heap.size := by omega
    rw [h.block k _ (Array.getElem?_eq_getElem hlt) (Or.inl hk), Array.getElem?_eq_getElem hlt]⟩
theorem Fr.blk (h : Fr B T w w') {g : Nat} {t : TypeId} {cs : Array Value} (hb : Blk w g t cs) (hT : T (.cells cs t (0, 0)) = false) : Blk w' g t cs := h.block g _ hb (Or.inr hT)
theorem Fr.row_ (h : Fr B T w w') {b : Nat} {e : TypeId} {sz : Nat} {v : Value} {n : Nat} {xs : List Value} (hown : w.ownsRow b e sz v n xs) (hT : ∀ cs fr, T (.cells cs e fr) = false) : w'.ownsRow b e sz v n xs := by
  obtain ⟨h1, h2⟩ := hown
  refine ⟨h1, ?_⟩
  rcases h2 with h2 | ⟨g, cap, cur, e1, e2, e3, e4⟩
  · exact Or.inl h2
  · exact Or.inr ⟨g, cap, cur, e1, e2, h.block g _ e3 (Or.inr (hT _ _)), e4⟩
end
/-! ### The ways that are cut -/
theorem laidOut8 : laidOutB Tryz.prog = true := by kernel_rfl
theorem types_some : ∃ m, Tryz.prog.types.size = m + 1 := ⟨Tryz.prog.types.size - 1, by kernel_rfl⟩
def klit (a b : Int) : Lit := .string (keyBytes [.int .i64 a, .int .i64 b])
/-! ### How a net lies in memory -/
/-! ### Tried -/
theorem run_assert_errno (n : Int) (w : World) : (Instr.typeAssert (.iface 56 (.int .i64 n)) 20 56 true).run Tryz.prog w = .ok (.tuple #[.int .i64 n, .bool true]) w := by kernel_rfl

set_option maxHeartbeats 400000 in
theorem told_errno (er : Int) (w : World) :
    Calls Tryz.prog 101 #[.iface 56 (.int .i64 er)] w fun e w' => e = .returned (.int .i64 er) ∧ w = w' := by
  have hta := run_assert_errno er
  go_enter Tryz.func101, Tryz.ntmps101
  go_wp2
  go_ret
  exact ⟨rfl, rfl⟩

set_option maxHeartbeats 1000000 in
theorem tried_catch (a : Nat) (er y : Int) (older : List PanicEntry) (w : World) (Ba : Blk w a 56 #[.int .i64 y]) :
    CallsD Tryz.prog 100 #[.pointer (some ⟨a, 0, none⟩)] (.panicking ({ v := .iface 56 (.int .i64 er), recovered := false } :: older)) w fun e u' w' =>
      e = .returned (.tuple #[]) ∧ u' = .panicking ({ v := .iface 56 (.int .i64 er), recovered := true } :: older) ∧ w' = w.setCell ⟨a, 0, none⟩ (.int .i64 er) := by
  have d0 : w.cell? ⟨a, 0, none⟩ = some (.int .i64 y) := Ba.cell 0
  have y0 := Ba.frozen 0
  refine callsD_of_wpS Tryz.func100 rfl fun c₀ cs hu => ?_
  apply wpS_seq
  apply wpS_region
  simp [wpOpsS, go_sem, recoverD, hu, Tryz.ntmps100, Exit.thenS]
  refine wpS_of_wp ?_
  simp [Array.replicate]
  go_wp2_with fail
  refine (told_errno _ _).mono ?_
  rintro e w' ⟨rfl, rfl⟩
  go_wp2
  simp [bodyPostS, results, Tryz.results100]

set_option maxHeartbeats 400000 in
theorem tried_idle (a : Value) (w : World) :
    CallsD Tryz.prog 100 #[a] .returning w fun e u' w' => e = .returned (.tuple #[]) ∧ u' = .returning ∧ w' = w := by
  refine callsD_of_wpS Tryz.func100 rfl fun c₀ cs hu => ?_
  apply wpS_seq
  apply wpS_region
  simp [wpOpsS, go_sem, recoverD, hu, Tryz.ntmps100, Exit.thenS]
  refine wpS_of_wp ?_
  simp [Array.replicate]
  go_wp2
  cases c₀
  simp_all [bodyPostS, results, Tryz.results100]

set_option maxRecDepth 100000 in
set_option maxHeartbeats 2000000 in
/-- Tried: the steps are done; what they gave up with is told. -/
theorem tried_any (fn : Nat) (caps : Array Value) (w : World) (R : Int → World → Prop) (hcf : ∀ w, (callFunc fn caps).run Tryz.prog w = .ok (.enter fn caps) w)
    (hc : Calls Tryz.prog fn caps (w.alloc (.cells #[.int .i64 0] 56)) fun e w' => ∃ er, ((e = .returned (.tuple #[]) ∧ er = 0) ∨ e = gaveUp er) ∧ Blk w' w.heap.size 56 #[.int .i64 0] ∧ R er w') :
    Calls Tryz.prog 28 #[.func (Fn.func fn) #[] caps] w fun e w' => ∃ er w1, e = .returned (.int .i64 er) ∧ R er w1 ∧ w' = w1.setCell ⟨w.heap.size, 0, none⟩ (.int .i64 er) := by
  have hmf : ∀ (fn : Fn) (first cap : Array Value) (w : World), (Instr.makeFunc fn first cap).run Tryz.prog w = .ok (.func fn first cap) w := fun _ _ _ _ => rfl
  go_enter_defers Tryz.func28, Tryz.ntmps28
  go_wp2_with fail
  refine hc.mono ?_
  rintro e w1 ⟨er, h1, E1, hR⟩
  have HR := Lib.hid hR
  clear hR hc
  have d0 : w1.cell? ⟨w.heap.size, 0, none⟩ = some (.int .i64 0) := E1.cell 0
  have y0 := E1.frozen 0
  have HE := Lib.hid E1
  rcases h1 with ⟨rfl, rfl⟩ | rfl
  · clear E1
    go_wp2_with fail
    have e1 : (w1.setCell ⟨w.heap.size, 0, none⟩ (.int .i64 0)).cell? ⟨w.heap.size, 0, none⟩ = some (.int .i64 0) := (HE.out.set_ 0 (.int .i64 0)).cell 0
    refine leaves_cons (f := 100) (args := #[.pointer (some ⟨w.heap.size, 0, none⟩)]) (by simp) (by simp [go_sem]) ?_
    refine (tried_idle _ _).mono ?_
    rintro e u' w'' ⟨rfl, rfl, rfl⟩
    simp [Leaves, settle, results, Tryz.results28, go_sem, e1]
    exact ⟨w1, HR.out, rfl⟩
  · clear E1
    go_wp2_with fail
    have e1 : (w1.setCell ⟨w.heap.size, 0, none⟩ (.int .i64 er)).cell? ⟨w.heap.size, 0, none⟩ = some (.int .i64 er) := (HE.out.set_ 0 (.int .i64 er)).cell 0
    refine leaves_cons (f := 100) (args := #[.pointer (some ⟨w.heap.size, 0, none⟩)]) (by simp) (by simp [go_sem]) ?_
    refine (tried_catch w.heap.size er 0 [] _ HE.out).mono ?_
    rintro e u' w'' ⟨rfl, rfl, rfl⟩
    simp [Leaves, settle, results, Tryz.results28, go_sem, e1]
    exact ⟨w1, HR.out, rfl⟩
end Go.Proofs.YtmagkkkecihgmaaGreat
