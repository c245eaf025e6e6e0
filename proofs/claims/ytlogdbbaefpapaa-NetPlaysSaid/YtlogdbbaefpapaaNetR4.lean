/-
  The document's own net, part 4: Twice.
-/
import Derived.Test.YtlogdbbaefpapaaNetR3
namespace Go.Proofs.Ytlogdbbaefpapaa
open Go.RowKit Go.Maps

/-- All ways through a statement meet at one of two ends. -/
theorem wp_meet2 {P : Program} {c : Code} {Q : Exit → Act → World → Prop} {a : Act} {w : World} {A1 A2 : Act} {W1 W2 : World} (h : ∀ R : Act → World → Prop, R A1 W1 → R A2 W2 → c.wp P (MeetQ R) a w) (h1 : Q .normal A1 W1) (h2 : Q .normal A2 W2) : c.wp P Q a w :=
  Code.wp_mono (by
    intro e a w h
    cases e <;> first | (rcases h with ⟨rfl, rfl⟩ | ⟨rfl, rfl⟩; exact h1; exact h2) | exact h.elim) (h (fun a w => (a = A1 ∧ w = W1) ∨ (a = A2 ∧ w = W2)) (Or.inl ⟨rfl, rfl⟩) (Or.inr ⟨rfl, rfl⟩))

/-- 'append(append(nil, L...), m)': first the block of m, then the copy. -/
theorem radd' {B p : Nat} {w : World} {x : N8} (h : RAt B p w x) (m : Int × Int × ByteArray) (hL : x.L.length ≤ 400) (A : Option Addr) (c : Nat) (c1 : w.cell? ⟨p, 1, none⟩ = some (.slice A x.L.length c)) :
    ∃ v1 w1 v2 w2, (∀ ty, (Builtin.append_ #[27, 27] ty #[.slice none 0 0, .slice A x.L.length c]).run Try.prog (w.alloc (.cells (msgC m).toArray 42)) = .ok v1 w1) ∧
      (∀ ty, (Builtin.append_ #[27, 27] ty #[v1, .slice (some ⟨w.heap.size, 0, none⟩) 1 1]).run Try.prog w1 = .ok v2 w2) ∧
      w.grownBy w2 none ∧ w2.ownsRow w.heap.size 42 3 v2 (x.L ++ [m]).length (rowC (x.L ++ [m])) := by
  obtain ⟨A', c', cu, _, e1, _, _, _, _, _, hA, _, _, hc⟩ := h.cells
  rw [c1] at e1
  obtain ⟨rfl, rfl⟩ : A = A' ∧ c = c' := by injection e1 with e1; injection e1 with e1 e2 e3; exact ⟨e1, e3⟩
  have g0 : w.grownBy (w.alloc (.cells (msgC m).toArray 42)) none := World.grownBy_alloc _ _ _
  obtain ⟨v1, w1, hr1, R1, g1⟩ := app_rmsgs (w.alloc (.cells (msgC m).toArray 42)) w.heap.size (.slice none 0 0) [] x.L (World.ownsRow_nil _ _ _ _) A c hA (fun a ha j u hu => by
    obtain ⟨ha1, ha2⟩ := hc a ha
    rw [ha1, add_lit0]
    exact g0.cell (ha2 j u hu) (by simp)) (by simp; omega) g0.size x.L.length rfl
  rw [List.nil_append] at R1
  have g1 : (w.alloc (.cells (msgC m).toArray 42)).grownBy w1 none := g1
  have hnew := cells_new w 42 (msgC m)
  obtain ⟨v2, w2, hr2, R2, g2⟩ := app_rmsgs w1 w.heap.size v1 x.L [m] R1 (some ⟨w.heap.size, 0, none⟩) 1 (fun h => by cases h) (fun a ha j u hu => by
    cases ha
    rw [rowC_one] at hu
    exact g1.cell (hnew j u hu) (by simp)) (by simp; omega) (kgrow_none g0 g1).size 1 rfl
  exact ⟨v1, w1, v2, w2, hr1, hr2, grow_own (kgrow_none g0 g1) R1 (Nat.le_refl _) g2, R2⟩

set_option maxRecDepth 100000 in
set_option maxHeartbeats 8000000 in
theorem rtwice_add (p B : Nat) (x : N8) (k : Nat) (m : Int × Int × ByteArray) (w : World) (h : RAt B p w x) (hk : x.L[k]? = some m) (hL : x.L.length < 400) (hB : B ≤ w.heap.size) :
    Calls Try.prog 19 #[.pointer (some ⟨p, 0, none⟩), .int .i64 (k : Int)] w fun e w' => e = .returned (.int .i64 0) ∧ RAt B p w' { x with L := x.L ++ [m] } ∧ Fr B refObj w w' := by
  have hd : RAt B p w.drew x := h.up (kgrow_drew w)
  obtain ⟨A, c, cu, c0, c1, c2, c3, f1, f2, f3, hA, hle, hm, hcc⟩ := hd.cells
  have hkl := (List.getElem?_eq_some_iff.1 hk).1
  obtain ⟨g, rfl⟩ : ∃ g, A = some ⟨g, 0, none⟩ := by
    cases A with
    | none => rw [hA rfl] at hkl; exact absurd hkl (by simp)
    | some a => exact ⟨a.block, by rw [(hcc a rfl).1]⟩
  have c1w : w.cell? ⟨p, 1, none⟩ = some (.slice (some ⟨g, 0, none⟩) x.L.length c) := c1
  obtain ⟨x0, x1, x2⟩ := rowC_at x.L k m hk
  replace x0 := (hcc _ rfl).2 _ _ x0
  replace x1 := (hcc _ rfl).2 _ _ x1
  replace x2 := (hcc _ rfl).2 _ _ x2
  obtain ⟨v1, w1, v2, w2, hr1, g1, hr2, g2, R2⟩ := radd hd m (by omega) (some ⟨g, 0, none⟩) c c1
  obtain ⟨v3, w3, v4, w4, hr3, hr4, g4, R4⟩ := radd' hd m (by omega) (some ⟨g, 0, none⟩) c c1
  obtain ⟨A2, d2, rfl⟩ := owns_shape R2
  obtain ⟨A4, d4, rfl⟩ := owns_shape R4
  obtain ⟨m0, m1, m2⟩ := m
  have K2 := Lib.hid (hd.setL g2 R2 hB)
  have K4 := Lib.hid (hd.setL g4 R4 hB)
  have F2 : w2.frozen? ⟨p, 1, none⟩ = false := by
    obtain ⟨_, _, h1, _⟩ := hd.up g2
    exact h1.frozen 1
  have F4 : w4.frozen? ⟨p, 1, none⟩ = false := by
    obtain ⟨_, _, h1, _⟩ := hd.up g4
    exact h1.frozen 1
  have P1 : w1.cell? ⟨p, 1, none⟩ = some (.slice (some ⟨g, 0, none⟩) x.L.length c) := g1.cell c1 (by simp)
  have P2 : w2.cell? ⟨p, 1, none⟩ = some (.slice (some ⟨g, 0, none⟩) x.L.length c) := g2.cell c1 (by simp)
  have P4 : w4.cell? ⟨p, 1, none⟩ = some (.slice (some ⟨g, 0, none⟩) x.L.length c) := g4.cell c1 (by simp)
  have P3 : (w.drew.alloc (.cells #[.int .i64 m0, .int .i64 m1, .string m2] 42)).cell? ⟨p, 1, none⟩ = some (.slice (some ⟨g, 0, none⟩) x.L.length c) := (World.grownBy_alloc w.drew _ none).cell c1 (by simp)
  have P5 : (w.alloc (.cells #[.int .i64 m0, .int .i64 m1, .string m2] 42)).cell? ⟨p, 1, none⟩ = some (.slice (some ⟨g, 0, none⟩) x.L.length c) := (World.grownBy_alloc w _ none).cell c1w (by simp)
  have y0 : w1.cell? ⟨g, k * 3, none⟩ = some (.int .i64 m0) := g1.cell x0 (by simp)
  have y1 : w1.cell? ⟨g, k * 3 + 1, none⟩ = some (.int .i64 m1) := g1.cell x1 (by simp)
  have y2 : w1.cell? ⟨g, k * 3 + 2, none⟩ = some (.string m2) := g1.cell x2 (by simp)
  simp only [msgC] at hr2 hr3
  clear h hd hk c0 c2 c3 f1 f2 f3 hA hcc hB g1 g2 g4 R2 R4
  generalize (x.L ++ [(m0, m1, m2)]).length = n2 at *
  generalize x.L.length = n at *
  have h1 : ¬ (k : Int) < 0 := by omega
  have h2 : ¬ (n : Int) ≤ (k : Int) := by omega
  have h3 : (k : Int) < (n : Int) := by omega
  have h4 : ¬ (400 : Int) ≤ (n : Int) := by omega
  have h5 : (0 : Int) ≤ (k : Int) := by omega
  have mixed : Try.prog.follows .mixedOrders = true := by kernel_rfl
  go_enter Try.func19, Try.ntmps19
  go_wp2_with fail
  apply wp_meet2
  · intro Q8 q1 q2
    go_region_law (first | refine step_append_eq rfl (.const (.slice none 0 0)) (.tmp 26) 27 rfl _ _ _ (by simp [Act.eval]) (by simp [Act.eval, Act.put]) (hr1 _) ?_ | refine step_append_eq rfl (.const (.slice none 0 0)) (.tmp 26) 27 rfl _ _ _ (by simp [Act.eval]) (by simp [Act.eval]) (hr3 _) ?_ | refine step_append_eq rfl (.tmp 27) (.tmp 35) 27 rfl _ _ _ (by simp [Act.eval]) (by simp [Act.eval]) (hr2 _) ?_ | refine step_append_eq rfl (.tmp 27) (.tmp 35) 27 rfl _ _ _ (by simp [Act.eval]) (by simp [Act.eval]) (hr4 _) ?_)
    all_goals first | exact q1 | exact q2
  · go_wp2_with fail
    go_ret
    first | exact ⟨rfl, K2.out.1, ((Fr.refl B refObj w).drew).trans K2.out.2⟩ | exact ⟨rfl, K4.out.1, ((Fr.refl B refObj w).drew).trans K4.out.2⟩
  · go_wp2_with fail
    go_ret
    first | exact ⟨rfl, K2.out.1, ((Fr.refl B refObj w).drew).trans K2.out.2⟩ | exact ⟨rfl, K4.out.1, ((Fr.refl B refObj w).drew).trans K4.out.2⟩

set_option maxRecDepth 100000 in
set_option maxHeartbeats 2000000 in
theorem rtwice_no (p : Nat) (A : Option Addr) (n c : Nat) (i er : Int) (w : World) (c1 : w.cell? ⟨p, 1, none⟩ = some (.slice A n c)) (hi : ((i < 0 ∨ (n : Int) ≤ i) ∧ er = 5) ∨ (0 ≤ i ∧ i < n ∧ 400 ≤ n ∧ er = 24)) :
    Calls Try.prog 19 #[.pointer (some ⟨p, 0, none⟩), .int .i64 i] w fun e w' => e = .returned (.int .i64 er) ∧ w' = w := by
  rcases hi with ⟨hi, rfl⟩ | ⟨h1, h2, h3, rfl⟩
  · by_cases h : i < 0
    · clear hi
      go_enter Try.func19, Try.ntmps19
      go_wp2
      go_ret
      exact ⟨rfl, rfl⟩
    · have h2 : (n : Int) ≤ i := by omega
      clear hi
      go_enter Try.func19, Try.ntmps19
      go_wp2
      go_ret
      exact ⟨rfl, rfl⟩
  · have g1 : ¬ i < 0 := by omega
    have g2 : ¬ (n : Int) ≤ i := by omega
    have g3 : (400 : Int) ≤ (n : Int) := by omega
    clear h1 h2 h3
    go_enter Try.func19, Try.ntmps19
    go_wp2
    go_ret
    exact ⟨rfl, rfl⟩
/-- Twice of the document's own net. -/
theorem rtwice_any {B p : Nat} {x : N8} {w : World} (h : RAt B p w x) (i : Int) (hB : B ≤ w.heap.size) :
    Calls Try.prog 19 #[.pointer (some ⟨p, 0, none⟩), .int .i64 i] w fun e w' => e = .returned (.int .i64 (twiceP x i).1) ∧ RAt B p w' (twiceP x i).2 ∧ Fr B refObj w w' := by
  obtain ⟨A, c, cu, _, c1, _⟩ := h.cells
  by_cases ho : i < 0 ∨ (x.L.length : Int) ≤ i
  · have ha := atP_out ho
    refine (rtwice_no p A x.L.length c i 5 w c1 (Or.inl ⟨ho, rfl⟩)).mono ?_
    rintro e w' ⟨rfl, rfl⟩
    unfold twiceP
    rw [ha]
    exact ⟨rfl, h, Fr.refl _ _ _⟩
  · obtain ⟨j, rfl⟩ : ∃ j : Nat, i = (j : Int) := ⟨i.toNat, by omega⟩
    have hj : j < x.L.length := by omega
    have hm : x.L[j]? = some x.L[j] := List.getElem?_eq_getElem hj
    generalize x.L[j] = m at hm
    unfold twiceP
    rw [atP_in hm]
    dsimp only
    by_cases hl : 400 ≤ x.L.length
    · rw [decide_eq_true hl]
      refine (rtwice_no p A x.L.length c j 24 w c1 (Or.inr ⟨by omega, by omega, hl, rfl⟩)).mono ?_
      rintro e w' ⟨rfl, rfl⟩
      exact ⟨rfl, h, Fr.refl _ _ _⟩
    · rw [decide_eq_false hl]
      exact rtwice_add p B x j m w h hm (by omega) hB
end Go.Proofs.Ytlogdbbaefpapaa
