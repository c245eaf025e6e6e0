/-
  The document's own net, part 2: what appends make of its rows; Send.
-/
import Derived.Test.YtlogdbbaefpapaaNetR1
namespace Go.Proofs.Ytlogdbbaefpapaa
open Go.RowKit Go.Maps

/-- 'append(r, l...)' to a row of the call's own, be l none. -/
theorem run_append_any {P : Program} (w : World) (base : Nat) (t ty e : TypeId) (i : TypeInfo) (z : Value) (size bytes : Nat) (ht : P.underlying t = some (.slice e)) (hi : P.info? e = some i) (hz : i.zero = some z)
    (hsize : i.size = size) (hby : i.bytes = bytes) (hzs : z.cells.size = size) (hsz : 0 < size)
    (v : Value) (n : Nat) (xs : List Value) (hown : w.ownsRow base e size v n xs)
    (A : Option Addr) (m c : Nat) (news : List Value) (hl : news.length = m * size) (hA : A = none → m = 0) (hnews : ∀ a, A = some a → ∀ j u, news[j]? = some u → w.cell? (a.add j) = some u) (h1 : ∀ u ∈ news, u.oneCell' = true)
    (h63 : n + m ≤ maxLen) (hbytes : (n + m) * bytes ≤ 140737488355328) (hbase : base ≤ w.heap.size) :
    ∃ v' w', (Builtin.append_ #[t, t] ty #[v, .slice A m c]).run P w = .ok v' w' ∧ w'.ownsRow base e size v' (n + m) (xs ++ news) ∧ w.grownBy w' v.ownBlock := by
  cases A with
  | some a =>
    obtain ⟨v', w', hr, h2, h3, _⟩ := run_append_own w base t ty e i z size bytes ht hi hz hsize hby hzs hsz v n xs hown a m c news hl (hnews a rfl) h1 h63 hbytes hbase
    exact ⟨v', w', hr, h2, h3⟩
  | none =>
    obtain rfl := hA rfl
    obtain rfl : news = [] := List.eq_nil_of_length_eq_zero (by simpa using hl)
    subst hsize
    have hs : Go.Src P i.size t (.slice none 0 c) 0 [] w := Go.Src.ofNil w ht c
    rw [List.append_nil, Nat.add_zero]
    rcases hown.2 with ⟨rfl, _⟩ | ⟨g, cap, cur, rfl, _, _, hle, _⟩
    · exact ⟨_, _, Go.run_append_nothing w _ _ ty _ i ht hi none 0 0 (Nat.le_refl _) _ hs, hown, kgrow_refl _ _⟩
    · exact ⟨_, _, Go.run_append_nothing w _ _ ty _ i ht hi _ _ cap hle _ hs, hown, kgrow_refl _ _⟩

/-- An append whose run is known, in a region that draws nothing. -/
theorem wpList_append_eq {P : Program} (w w' : World) {ops : Array Oper} {rest : List Oper} {o : Oper} {a : Act} {Q : Exit → Act → World → Prop} (hgd : o.guard = none) (s x : Operand) (t : TypeId)
    (ho : o.op = .call { callee := .builtin .append, args := #[s, x], argTypes := #[t, t] }) (vs vx v : Value) (hs : a.eval s = vs) (hx : a.eval x = vx) (hrun : ∀ ty, (Builtin.append_ #[t, t] ty #[vs, vx]).run P w = .ok v w')
    (h : wpList P ops Q rest (a.put o.dst v) w') : wpList P ops Q (o :: rest) a w := by
  refine wpList_plain hgd fun _ hK => ?_
  unfold Oper.wp execOp
  simp only [ho, resolve, invoke, builtin, Sem.run_bind, Sem.run_pure, Result.andThen_ok, List.map_toArray, List.map_cons, List.map_nil, hs, hx, hrun]
  exact hK _ _ h

theorem info_rmsg : (Try.prog.info? 42).map (fun i => (i.zero, i.size, i.bytes)) = some (some (.agg #[.int .i64 0, .int .i64 0, .string ⟨#[]⟩]), 3, 32) := by kernel_rfl
theorem info_rway : (Try.prog.info? 54).map (fun i => (i.zero, i.size, i.bytes)) = some (some (.agg #[.int .i64 0, .int .i64 0]), 2, 16) := by kernel_rfl
theorem under_rmsgs : Try.prog.underlying 27 = some (.slice 42) := by kernel_rfl
theorem under_rways : Try.prog.underlying 28 = some (.slice 54) := by kernel_rfl

/-- Messages appended to a row of the call's own. -/
theorem app_rmsgs (w : World) (base : Nat) (v : Value) (L M : List (Int × Int × ByteArray)) (hown : w.ownsRow base 42 3 v L.length (rowC L)) (A : Option Addr) (c : Nat) (hA : A = none → M = [])
    (hM : ∀ a, A = some a → ∀ j u, (rowC M)[j]? = some u → w.cell? (a.add j) = some u) (hn : L.length + M.length ≤ 100000) (hbase : base ≤ w.heap.size) (m : Nat) (hm : m = M.length) :
    ∃ v' w', (∀ ty, (Builtin.append_ #[27, 27] ty #[v, .slice A m c]).run Try.prog w = .ok v' w') ∧ w'.ownsRow base 42 3 v' (L ++ M).length (rowC (L ++ M)) ∧ w.grownBy w' v.ownBlock := by
  obtain ⟨i0, hi, hz0, hz1, hz2⟩ := info_parts info_rmsg
  subst hm
  have key := fun ty => run_append_any (P := Try.prog) w base 27 ty 42 i0 _ 3 32 under_rmsgs hi hz0 hz1 hz2 rfl (by decide) v L.length (rowC L) hown A M.length c (rowC M) (rowC_length M) (fun h => by rw [hA h]; rfl) hM (rowC_oneCell M) (by unfold maxLen; omega) (by omega) hbase
  obtain ⟨v', w', hr, h2, h3⟩ := key 0
  refine ⟨v', w', fun ty => ?_, by rw [rowC_append, List.length_append]; exact h2, h3⟩
  rw [← hr]
  rfl
theorem app_rways (w : World) (base : Nat) (v : Value) (L M : List (Int × Int)) (hown : w.ownsRow base 54 2 v L.length (rowW L)) (A : Option Addr) (c : Nat) (hA : A = none → M = [])
    (hM : ∀ a, A = some a → ∀ j u, (rowW M)[j]? = some u → w.cell? (a.add j) = some u) (hn : L.length + M.length ≤ 100000) (hbase : base ≤ w.heap.size) (m : Nat) (hm : m = M.length) :
    ∃ v' w', (∀ ty, (Builtin.append_ #[28, 28] ty #[v, .slice A m c]).run Try.prog w = .ok v' w') ∧ w'.ownsRow base 54 2 v' (L ++ M).length (rowW (L ++ M)) ∧ w.grownBy w' v.ownBlock := by
  obtain ⟨i0, hi, hz0, hz1, hz2⟩ := info_parts info_rway
  subst hm
  have key := fun ty => run_append_any (P := Try.prog) w base 28 ty 54 i0 _ 2 16 under_rways hi hz0 hz1 hz2 rfl (by decide) v L.length (rowW L) hown A M.length c (rowW M) (rowW_length M) (fun h => by rw [hA h]; rfl) hM (rowW_oneCell M) (by unfold maxLen; omega) (by omega) hbase
  obtain ⟨v', w', hr, h2, h3⟩ := key 0
  refine ⟨v', w', fun ty => ?_, by rw [rowW_append, List.length_append]; exact h2, h3⟩
  rw [← hr]
  rfl
/-- Grown in a row that is new: grown in none. -/
theorem grow_own {a b c : World} {base : Nat} {e : TypeId} {sz n : Nat} {v : Value} {xs : List Value} (h : a.grownBy b none) (hown : b.ownsRow base e sz v n xs) (hb : a.heap.size ≤ base) (g : b.grownBy c v.ownBlock) : a.grownBy c none :=
  ⟨g.os.trans h.os, g.tape.trans h.tape, g.output.trans h.output, Nat.le_trans h.size g.size, fun k hk _ => (g.block k (Nat.lt_of_lt_of_le hk h.size) (fun e => by have := (hown.lt k e.symm).1; omega)).trans (h.block k hk (by simp))⟩

/-! ### One cell of the net turned -/
theorem RAt.setL {B p : Nat} {w w2 : World} {x : N8} {L' : List (Int × Int × ByteArray)} {v2 : Value} (h : RAt B p w x) (g : w.grownBy w2 none) (hown : w2.ownsRow w.heap.size 42 3 v2 L'.length (rowC L')) (hB : B ≤ w.heap.size) :
    RAt B p (w2.setCell ⟨p, 1, none⟩ v2) { x with L := L' } ∧ Fr B refObj w (w2.setCell ⟨p, 1, none⟩ v2) := by
  obtain ⟨sl, cu, h1, h2, h3, h4, h5⟩ := h.up g
  have gs : w2.grownBy (w2.setCell ⟨p, 1, none⟩ v2) (some p) := only_setCell (kgrow_refl w2 (some p)) (Or.inl rfl) v2
  exact ⟨⟨v2, cu, h1.set_ 1 _, (hown.kept gs (Or.inr (own_ne hown h1 (by decide)))).mono hB, h3.kept gs (Or.inr (own_ne h3 h1 (by decide))), h4, h5⟩, (Fr.of_grown g).setCell (p := ⟨p, 1, none⟩) (Or.inr (mayRef h1 h4)) _⟩
theorem RAt.setC {B p : Nat} {w w2 : World} {x : N8} {C' : List (Int × Int)} {v2 : Value} (h : RAt B p w x) (g : w.grownBy w2 none) (hown : w2.ownsRow w.heap.size 54 2 v2 C'.length (rowW C')) (hB : B ≤ w.heap.size) (hw : ∀ m ∈ C', (Lit.int .i64 m.1).wf = true ∧ (Lit.int .i64 m.2).wf = true) :
    RAt B p (w2.setCell ⟨p, 2, none⟩ v2) { x with C := C' } ∧ Fr B refObj w (w2.setCell ⟨p, 2, none⟩ v2) := by
  obtain ⟨sl, cu, h1, h2, h3, h4, h5⟩ := h.up g
  have gs : w2.grownBy (w2.setCell ⟨p, 2, none⟩ v2) (some p) := only_setCell (kgrow_refl w2 (some p)) (Or.inl rfl) v2
  exact ⟨⟨sl, v2, h1.set_ 2 _, h2.kept gs (Or.inr (own_ne h2 h1 (by decide))), (hown.kept gs (Or.inr (own_ne hown h1 (by decide)))).mono hB, h4, hw⟩, (Fr.of_grown g).setCell (p := ⟨p, 2, none⟩) (Or.inr (mayRef h1 h4)) _⟩
theorem RAt.lose {B p : Nat} {w : World} {x : N8} (h : RAt B p w x) (lo : Int) :
    RAt B p (w.setCell ⟨p, 3, none⟩ (.int .i64 lo)) { x with lost := lo } ∧ Fr B refObj w (w.setCell ⟨p, 3, none⟩ (.int .i64 lo)) := by
  obtain ⟨sl, cu, h1, h2, h3, h4, h5⟩ := h
  have gs : w.grownBy (w.setCell ⟨p, 3, none⟩ (.int .i64 lo)) (some p) := only_setCell (kgrow_refl w (some p)) (Or.inl rfl) _
  exact ⟨⟨sl, cu, h1.set_ 3 _, h2.kept gs (Or.inr (own_ne h2 h1 (by decide))), h3.kept gs (Or.inr (own_ne h3 h1 (by decide))), h4, h5⟩, (Fr.refl B refObj w).setCell (p := ⟨p, 3, none⟩) (Or.inr (mayRef h1 h4)) _⟩
/-- The cells of a net, read. -/
theorem RAt.cells {B p : Nat} {w : World} {x : N8} (h : RAt B p w x) : ∃ A c cu, w.cell? ⟨p, 0, none⟩ = some (.int .i64 x.n) ∧ w.cell? ⟨p, 1, none⟩ = some (.slice A x.L.length c) ∧ w.cell? ⟨p, 2, none⟩ = some cu ∧ w.cell? ⟨p, 3, none⟩ = some (.int .i64 x.lost) ∧
    w.frozen? ⟨p, 1, none⟩ = false ∧ w.frozen? ⟨p, 2, none⟩ = false ∧ w.frozen? ⟨p, 3, none⟩ = false ∧ (A = none → x.L = []) ∧ x.L.length ≤ c ∧ c ≤ maxLen ∧ (∀ a, A = some a → a = ⟨a.block, 0, none⟩ ∧ ∀ j u, (rowC x.L)[j]? = some u → w.cell? ⟨a.block, j, none⟩ = some u) := by
  obtain ⟨sl, cu, h1, h2, h3, h4, h5⟩ := h
  rcases row_shape h2 with ⟨rfl, h6, _⟩ | ⟨g, c, rfl, h6, h7, h8⟩
  · refine ⟨none, 0, cu, h1.cell 0, ?_, h1.cell 2, h1.cell 3, h1.frozen 1, h1.frozen 2, h1.frozen 3, fun _ => List.eq_nil_of_length_eq_zero h6, by omega, by unfold maxLen; omega, fun a ha => by cases ha⟩
    rw [h6]
    exact h1.cell 1
  · exact ⟨some ⟨g, 0, none⟩, c, cu, h1.cell 0, h1.cell 1, h1.cell 2, h1.cell 3, h1.frozen 1, h1.frozen 2, h1.frozen 3, (fun h => by cases h), h6, h7, fun a ha => by cases ha; exact ⟨rfl, h8⟩⟩

/-- 'append(append(nil, L...), m)': first the copy, then the block of m. -/
theorem radd {B p : Nat} {w : World} {x : N8} (h : RAt B p w x) (m : Int × Int × ByteArray) (hL : x.L.length ≤ 400) (A : Option Addr) (c : Nat) (c1 : w.cell? ⟨p, 1, none⟩ = some (.slice A x.L.length c)) :
    ∃ v1 w1 v2 w2, (∀ ty, (Builtin.append_ #[27, 27] ty #[.slice none 0 0, .slice A x.L.length c]).run Try.prog w = .ok v1 w1) ∧ w.grownBy w1 none ∧
      (∀ ty, (Builtin.append_ #[27, 27] ty #[v1, .slice (some ⟨w1.heap.size, 0, none⟩) 1 1]).run Try.prog (w1.alloc (.cells (msgC m).toArray 42)) = .ok v2 w2) ∧
      w.grownBy w2 none ∧ w2.ownsRow w.heap.size 42 3 v2 (x.L ++ [m]).length (rowC (x.L ++ [m])) := by
  obtain ⟨A', c', cu, _, e1, _, _, _, _, _, hA, _, _, hc⟩ := h.cells
  rw [c1] at e1
  obtain ⟨rfl, rfl⟩ : A = A' ∧ c = c' := by injection e1 with e1; injection e1 with e1 e2 e3; exact ⟨e1, e3⟩
  obtain ⟨v1, w1, hr1, R1, g1⟩ := app_rmsgs w w.heap.size (.slice none 0 0) [] x.L (World.ownsRow_nil _ _ _ _) A c hA (fun a ha j u hu => by
    obtain ⟨ha1, ha2⟩ := hc a ha
    rw [ha1, add_lit0]
    exact ha2 j u hu) (by simp; omega) (Nat.le_refl _) x.L.length rfl
  have R1a := R1.alloc (.cells (msgC m).toArray 42)
  rw [List.nil_append] at R1a
  have hnew := cells_new w1 42 (msgC m)
  obtain ⟨v2, w2, hr2, R2, g2⟩ := app_rmsgs (w1.alloc (.cells (msgC m).toArray 42)) w.heap.size v1 x.L [m] R1a (some ⟨w1.heap.size, 0, none⟩) 1 (fun h => by cases h) (fun a ha j u hu => by
    cases ha
    rw [rowC_one] at hu
    exact hnew j u hu) (by simp; omega) (Nat.le_trans g1.size (by simp)) 1 rfl
  have g1a : w.grownBy (w1.alloc (.cells (msgC m).toArray 42)) none := kgrow_none g1 (World.grownBy_alloc _ _ _)
  exact ⟨v1, w1, v2, w2, hr1, g1, hr2, grow_own g1a R1a (Nat.le_refl _) g2, R2⟩

/-! ### Send -/
set_option maxRecDepth 100000 in
set_option maxHeartbeats 4000000 in
theorem rsend_add (p B : Nat) (x : N8) (f t : Int) (s : ByteArray) (w : World) (h : RAt B p w x) (hL : x.L.length < 400) (hB : B ≤ w.heap.size) (hw : wayB x.n f t = true) (hs : s.size ≤ 65536) (hc : x.C.contains (f, t) = false) (wf : (Lit.int .i64 f).wf = true) (wt : (Lit.int .i64 t).wf = true) :
    Calls Try.prog 11 #[.pointer (some ⟨p, 0, none⟩), .int .i64 f, .int .i64 t, .string s] w fun e w' => e = .returned (.int .i64 0) ∧ RAt B p w' { x with L := x.L ++ [(f, t, s)] } ∧ Fr B refObj w w' := by
  obtain ⟨A, c, cu, c0, c1, c2, c3, f1, f2, f3, hA, hle, hm, hcc⟩ := h.cells
  have C1 := rways_any p x.n f t w c0
  rw [hw] at C1
  have C2 := riscut_any h f t wf wt
  rw [hc] at C2
  have C1 := Lib.hid C1
  have C2 := Lib.hid C2
  obtain ⟨v1, w1, v2, w2, hr1, g1, hr2, g2, R2⟩ := radd h (f, t, s) (by omega) A c c1
  obtain ⟨A2, c2', rfl⟩ := owns_shape R2
  have K := Lib.hid (h.setL g2 R2 hB)
  have F1 : w2.frozen? ⟨p, 1, none⟩ = false := by
    obtain ⟨_, _, h1, _⟩ := h.up g2
    exact h1.frozen 1
  have P1 : w2.cell? ⟨p, 1, none⟩ = some (.slice A x.L.length c) := g2.cell c1 (by simp)
  have gs : ¬ (65536 : Int) < (s.size : Int) := by omega
  have gl : ¬ (400 : Int) ≤ (x.L.length : Int) := by omega
  have HR1 := fun ty => Lib.hid (hr1 ty)
  have HR2 := fun ty => Lib.hid (hr2 ty)
  simp only [msgC] at HR2
  clear h hL hB hw hs hc wf wt c0 c2 c3 f1 f2 f3 hA hle hm hcc R2 hr1 hr2 g1 g2
  generalize (x.L ++ [(f, t, s)]).length = n2 at *
  generalize x.L.length = n at *
  go_enter Try.func11, Try.ntmps11
  go_wp2_with fail
  refine C1.out.mono ?_
  rintro e w7 ⟨rfl, rfl⟩
  go_wp2_with fail
  refine C2.out.mono ?_
  rintro e w7 ⟨rfl, rfl⟩
  go_wp2_with (at_builtin; first | refine wpList_append_eq _ w1 rfl (.const (.slice none 0 0)) (.tmp 40) 27 rfl _ _ v1 rfl rfl (fun ty => (HR1 ty).out) ?_ | refine wpList_append_eq _ w2 rfl (.tmp 41) (.tmp 46) 27 rfl _ _ (.slice A2 n2 c2') rfl rfl (fun ty => (HR2 ty).out) ?_)
  go_ret
  exact ⟨rfl, K.out⟩
set_option maxRecDepth 100000 in
set_option maxHeartbeats 4000000 in
theorem rsend_lose (p B : Nat) (x : N8) (f t : Int) (s : ByteArray) (w : World) (h : RAt B p w x) (hw : wayB x.n f t = true) (hs : s.size ≤ 65536) (hc : x.C.contains (f, t) = true ∨ (x.C.contains (f, t) = false ∧ 400 ≤ x.L.length)) (wf : (Lit.int .i64 f).wf = true) (wt : (Lit.int .i64 t).wf = true) (l0 : 0 ≤ x.lost) (l1 : x.lost < 9223372036854775807) :
    Calls Try.prog 11 #[.pointer (some ⟨p, 0, none⟩), .int .i64 f, .int .i64 t, .string s] w fun e w' => e = .returned (.int .i64 0) ∧ RAt B p w' { x with lost := x.lost + 1 } ∧ Fr B refObj w w' := by
  obtain ⟨A, c, cu, c0, c1, c2, c3, f1, f2, f3, hA, hle, hm, hcc⟩ := h.cells
  have C1 := rways_any p x.n f t w c0
  rw [hw] at C1
  have C1 := Lib.hid C1
  have K := Lib.hid (h.lose (x.lost + 1))
  have gs : ¬ (65536 : Int) < (s.size : Int) := by omega
  have gw : wrap64 (x.lost + 1) = x.lost + 1 := by unfold wrap64; omega
  have C2 := Lib.hid (riscut_any h f t wf wt)
  clear h hw hs wf wt c0 c2 f1 f2 hA hle hm hcc l0 l1
  generalize x.lost = lo at *
  rcases hc with hc | ⟨hc, hl⟩
  · rw [hc] at C2
    clear hc
    go_enter Try.func11, Try.ntmps11
    go_wp2_with fail
    refine C1.out.mono ?_
    rintro e w7 ⟨rfl, rfl⟩
    go_wp2_with fail
    refine C2.out.mono ?_
    rintro e w7 ⟨rfl, rfl⟩
    go_wp2_with fail
    go_ret
    exact ⟨rfl, K.out⟩
  · rw [hc] at C2
    have gl : (400 : Int) ≤ (x.L.length : Int) := by omega
    clear hc hl
    generalize x.L.length = n at *
    go_enter Try.func11, Try.ntmps11
    go_wp2_with fail
    refine C1.out.mono ?_
    rintro e w7 ⟨rfl, rfl⟩
    go_wp2_with fail
    refine C2.out.mono ?_
    rintro e w7 ⟨rfl, rfl⟩
    go_wp2_with fail
    go_ret
    exact ⟨rfl, K.out⟩
set_option maxRecDepth 100000 in
set_option maxHeartbeats 2000000 in
theorem rsend_no (p B : Nat) (x : N8) (f t : Int) (s : ByteArray) (er : Int) (w : World) (h : RAt B p w x) (hw : (wayB x.n f t = false ∧ er = 1) ∨ (wayB x.n f t = true ∧ 65536 < s.size ∧ er = 2)) :
    Calls Try.prog 11 #[.pointer (some ⟨p, 0, none⟩), .int .i64 f, .int .i64 t, .string s] w fun e w' => e = .returned (.int .i64 er) ∧ w' = w := by
  obtain ⟨A, c, cu, c0, _⟩ := h.cells
  have C1 := rways_any p x.n f t w c0
  clear h c0
  rcases hw with ⟨hw, rfl⟩ | ⟨hw, hs, rfl⟩
  · rw [hw] at C1
    have C1 := Lib.hid C1
    clear hw
    go_enter Try.func11, Try.ntmps11
    go_wp2_with fail
    refine C1.out.mono ?_
    rintro e w7 ⟨rfl, rfl⟩
    go_wp2_with fail
    go_ret
    exact ⟨rfl, rfl⟩
  · rw [hw] at C1
    have C1 := Lib.hid C1
    have gs : (65536 : Int) < (s.size : Int) := by omega
    clear hw hs
    go_enter Try.func11, Try.ntmps11
    go_wp2_with fail
    refine C1.out.mono ?_
    rintro e w7 ⟨rfl, rfl⟩
    go_wp2_with fail
    go_ret
    exact ⟨rfl, rfl⟩
/-- Send of the document's own net. -/
theorem rsend_any {p B : Nat} {x : N8} {w : World} (h : RAt B p w x) (f t : Int) (s : ByteArray) (hB : B ≤ w.heap.size) (wf : (Lit.int .i64 f).wf = true) (wt : (Lit.int .i64 t).wf = true) (l0 : 0 ≤ x.lost) (l1 : x.lost < 9223372036854775807) :
    Calls Try.prog 11 #[.pointer (some ⟨p, 0, none⟩), .int .i64 f, .int .i64 t, .string s] w fun e w' => e = .returned (.int .i64 (sendP x f t s).1) ∧ RAt B p w' (sendP x f t s).2 ∧ Fr B refObj w w' := by
  have no : ∀ er, (wayB x.n f t = false ∧ er = 1) ∨ (wayB x.n f t = true ∧ 65536 < s.size ∧ er = 2) → sendP x f t s = (er, x) → Calls Try.prog 11 #[.pointer (some ⟨p, 0, none⟩), .int .i64 f, .int .i64 t, .string s] w fun e w' => e = .returned (.int .i64 (sendP x f t s).1) ∧ RAt B p w' (sendP x f t s).2 ∧ Fr B refObj w w' := by
    intro er h1 h2
    rw [h2]
    refine (rsend_no p B x f t s er w h h1).mono ?_
    rintro e w' ⟨rfl, rfl⟩
    exact ⟨rfl, h, Fr.refl _ _ _⟩
  cases hw : wayB x.n f t with
  | false => exact no 1 (Or.inl ⟨hw, rfl⟩) (by unfold sendP; rw [hw]; rfl)
  | true =>
    by_cases hs : 65536 < s.size
    · exact no 2 (Or.inr ⟨hw, hs, rfl⟩) (by unfold sendP; rw [hw, decide_eq_true hs]; rfl)
    · by_cases hc : x.C.contains (f, t) = true ∨ (x.C.contains (f, t) = false ∧ 400 ≤ x.L.length)
      · have e1 : sendP x f t s = (0, { x with lost := x.lost + 1 }) := by
          unfold sendP
          rw [hw, decide_eq_false hs]
          rcases hc with hc | ⟨hc, hl⟩
          · rw [hc]; rfl
          · rw [hc, decide_eq_true hl]; rfl
        rw [e1]
        exact rsend_lose p B x f t s w h hw (by omega) hc wf wt l0 l1
      · have hc1 : x.C.contains (f, t) = false := by
          cases h9 : x.C.contains (f, t) with
          | false => rfl
          | true => exact absurd (Or.inl h9) hc
        have hl1 : x.L.length < 400 := by
          rcases Nat.lt_or_ge x.L.length 400 with h9 | h9
          · exact h9
          · exact absurd (Or.inr ⟨hc1, h9⟩) hc
        have e1 : sendP x f t s = (0, { x with L := x.L ++ [(f, t, s)] }) := by
          unfold sendP
          rw [hw, decide_eq_false hs, hc1, decide_eq_false (by omega)]
          rfl
        rw [e1]
        exact rsend_add p B x f t s w h hl1 hB hw (by omega) hc1 wf wt
end Go.Proofs.Ytlogdbbaefpapaa
