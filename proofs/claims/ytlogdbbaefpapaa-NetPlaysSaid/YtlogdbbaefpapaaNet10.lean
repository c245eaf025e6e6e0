/-
  Package net, part 10: Twice.
-/
import Derived.Test.YtlogdbbaefpapaaNet9
namespace Go.Proofs.Ytlogdbbaefpapaa
open Go.RowKit Go.Maps

def twiceP (x : N8) (i : Int) : Int × N8 := match atP x i with
  | some m => if decide (400 ≤ x.L.length) then (24, x) else (0, { x with L := x.L ++ [m] })
  | none => (5, x)

set_option maxRecDepth 100000 in
set_option maxHeartbeats 2000000 in
theorem twicestep_no (b0 b1 : Nat) (PV : Value) (i er : Int) (w : World) (B0 : Blk w b0 24 #[PV]) (B1 : Blk w b1 3 #[.int .i64 i])
    (hnb : Calls Try.prog 33 #[PV, .int .i64 i] w fun e w' => e = gaveUp er ∧ w.grownBy w' none) :
    Calls Try.prog 37 #[.pointer (some ⟨b0, 0, none⟩), .pointer (some ⟨b1, 0, none⟩)] w fun e w' => e = gaveUp er ∧ w.grownBy w' none := by
  have d0 : w.cell? ⟨b0, 0, none⟩ = some PV := B0.cell 0
  have d1 : w.cell? ⟨b1, 0, none⟩ = some (.int .i64 i) := B1.cell 0
  have H := Lib.hid hnb
  clear hnb
  go_enter Try.func37, Try.ntmps37
  go_wp2_with fail
  refine H.out.mono ?_
  rintro e w1 ⟨rfl, g⟩
  exact ⟨rfl, rfl, g⟩

set_option maxRecDepth 100000 in
set_option maxHeartbeats 8000000 in
theorem twicestep_ok (b0 b1 B p k : Nat) (x : N8) (i : Nat) (m : Int × Int × ByteArray) (w : World) (B0 : Blk w b0 24 #[.pointer (some ⟨p, 0, none⟩)]) (B1 : Blk w b1 3 #[.int .i64 (i : Int)])
    (hN : NetAt B p k w x) (hn : x.n ≠ 0) (hi : x.L[i]? = some m) (hL : x.L.length ≤ 400) (hB : B ≤ w.heap.size) :
    Calls Try.prog 37 #[.pointer (some ⟨b0, 0, none⟩), .pointer (some ⟨b1, 0, none⟩)] w fun e w' =>
      e = endP (twiceP x (i : Int)).1 ∧ NetAt B p k w' (twiceP x (i : Int)).2 ∧ Fr B netObj w w' := by
  have d0 : w.cell? ⟨b0, 0, none⟩ = some (.pointer (some ⟨p, 0, none⟩)) := B0.cell 0
  have d1 : w.cell? ⟨b1, 0, none⟩ = some (.int .i64 (i : Int)) := B1.cell 0
  have H := Lib.hid (number_net hN hn (i : Int))
  rw [atP_in hi] at H
  obtain ⟨fl, hfl⟩ : ∃ fl, decide (400 ≤ x.L.length) = fl := ⟨_, rfl⟩
  have HS : Hid (twiceP x (i : Int) = if fl then (24, x) else (0, { x with L := x.L ++ [m] })) := by
    show twiceP x (i : Int) = _
    unfold twiceP
    rw [atP_in hi, ← hfl]
  have HF := Lib.hid hfl
  have HN := Lib.hid hN
  have HL := Lib.hid hL
  clear hN hn hi hfl hL
  obtain ⟨a, b, s⟩ := m
  have mixed : Try.prog.follows .mixedOrders = true := by kernel_rfl
  go_enter Try.func37, Try.ntmps37
  go_wp2_with fail
  refine H.out.mono ?_
  rintro e w1 ⟨⟨m', hm', rfl⟩ | ⟨h, _⟩, g⟩
  · cases hm'
    have M5 : Hid (Blk (w1.alloc (.cells #[.int .i64 a, .int .i64 b, .string s] 58)) w1.heap.size 58 #[.int .i64 a, .int .i64 b, .string s]) := Blk.new _ _ _
    have g5 : Hid (w.grownBy (w1.alloc (.cells #[.int .i64 a, .int .i64 b, .string s] 58)) none) := kgrow_none g (World.grownBy_alloc _ _ _)
    clear d0 d1
    unfold msgV
    go_upto_region 1 with fail
    generalize w1.alloc (.cells #[.int .i64 a, .int .i64 b, .string s] 58) = W5 at M5 g5 ⊢
    have d0 : W5.cell? ⟨b0, 0, none⟩ = some (.pointer (some ⟨p, 0, none⟩)) := (B0.grown g5.out (by simp)).cell 0
    obtain ⟨mb, sl, hP, hM, hR, hp1, hm1⟩ := HN.out.up g5.out
    have P5 := Lib.hid hP
    have C5 := Lib.hid hM
    have R5 := Lib.hid hR
    clear hP hM hR
    obtain ⟨A, c, rfl⟩ := owns_shape R5.out
    have P2 : W5.cell? ⟨p, 2, none⟩ = some (.slice A x.L.length c) := P5.out.cell 2
    have Z2 := Lib.hid (full_any p A x.L.length c W5 P2)
    rw [HF.out] at Z2
    obtain ⟨v6, w6, hr6, ⟨A6, c6, rfl⟩, R6, P6, C6, G6, GB6⟩ := app_msg (a, b, s) P5.out C5.out R5.out HL.out hp1 hm1 (Nat.le_trans hB g5.out.size)
    simp only [msgC] at hr6 G6
    have d0U : (W5.alloc (.cells #[.int .i64 a, .int .i64 b, .string s] 58)).cell? ⟨b0, 0, none⟩ = some (.pointer (some ⟨p, 0, none⟩)) := (World.grownBy_alloc W5 _ none).cell d0 (by simp)
    have d0w : w6.cell? ⟨b0, 0, none⟩ = some (.pointer (some ⟨p, 0, none⟩)) := (G6.blk (((B0.grown g5.out (by simp)).alloc _).drew) rfl).cell 0
    have P2U : (W5.alloc (.cells #[.int .i64 a, .int .i64 b, .string s] 58)).cell? ⟨p, 2, none⟩ = some (.slice A x.L.length c) := (World.grownBy_alloc W5 _ none).cell P2 (by simp)
    have P2w : w6.cell? ⟨p, 2, none⟩ = some (.slice A x.L.length c) := P6.cell 2
    have F2w := P6.frozen 2
    have n0 := M5.out.cell 0
    have n1 := M5.out.cell 1
    have n2 := M5.out.cell 2
    have HP6 := Lib.hid P6
    have HC6 := Lib.hid C6
    have HR6 := Lib.hid R6
    have HG6 := Lib.hid G6
    have K2 := Lib.hid (net_set P6 C6 R6 2 (.slice A6 (x.L.length + 1) c6))
    have BQ := Lib.hid (mayNet P6 hp1 (Or.inl rfl))
    clear P6 C6 R6 G6 B0 B1
    go_wp2_with fail
    refine Z2.out.mono ?_
    rintro e w7 ⟨rfl, hw7⟩
    subst hw7
    cases fl
    · go_wp2_with fail
      apply wp_meet
      · intro Q8 hQ8
        go_region_law_o (refine step_append_eq rfl (.tmp 13) (.tmp 15) 45 rfl _ _ _ (by simp [Act.eval]) (by simp [Act.eval]) hr6 ?_)
        all_goals exact hQ8
      go_wp2_with fail
      go_end0
      exact ⟨by rw [HS.out]; rfl, by rw [HS.out]; exact ⟨mb, _, HP6.out.set_ 2 _, K2.out.1, by simp only [Bool.false_eq_true, if_false, List.length_append, List.length_cons, List.length_nil]; exact K2.out.2, hp1, hm1⟩, ((((Fr.of_grown g5.out).alloc _).drew).trans HG6.out).setCell (Or.inr BQ.out) _⟩
    · go_wp2_with fail
      exact ⟨rfl, by rw [HS.out]; rfl, by rw [HS.out]; exact HN.out.up g5.out, Fr.of_grown g5.out⟩
  · cases h

set_option maxRecDepth 100000 in
set_option maxHeartbeats 2000000 in
/-- Twice, whatever its steps do. -/
theorem twice_of (PV : Value) (i er : Int) (w : World) (Z : World → Prop) (hPV : (∃ p, PV = .pointer (some ⟨p, 0, none⟩)) ∨ PV = .pointer none)
    (T : Calls Try.prog 26 #[.func (Fn.func 37) #[] #[.pointer (some ⟨w.heap.size, 0, none⟩), .pointer (some ⟨w.heap.size + 1, 0, none⟩)]]
      ((w.alloc (.cells #[PV] 24)).alloc (.cells #[.int .i64 i] 3)) fun e w' => e = .returned (.int .i64 er) ∧ Z w') :
    Calls Try.prog 18 #[PV, .int .i64 i] w fun e w' => e = .returned (.int .i64 er) ∧ Z w' := by
  have hmf : ∀ (fn : Fn) (first cap : Array Value) (w : World), (Instr.makeFunc fn first cap).run Try.prog w = .ok (.func fn first cap) w := fun _ _ _ _ => rfl
  have T := Lib.hid T
  rcases hPV with ⟨p, rfl⟩ | rfl
  · go_enter Try.func18, Try.ntmps18
    go_wp2_with fail
    refine T.out.mono ?_
    rintro e w1 ⟨rfl, h⟩
    have H := Lib.hid h
    clear h
    go_wp2_with fail
    go_ret
    exact ⟨rfl, H.out⟩
  · go_enter Try.func18, Try.ntmps18
    go_wp2_with fail
    refine T.out.mono ?_
    rintro e w1 ⟨rfl, h⟩
    have H := Lib.hid h
    clear h
    go_wp2_with fail
    go_ret
    exact ⟨rfl, H.out⟩

theorem twice_no (PV : Value) (i er : Int) (w : World) (hne : er ≠ 0) (hPV : (∃ p, PV = .pointer (some ⟨p, 0, none⟩)) ∨ PV = .pointer none)
    (hnb : ∀ W, w.grownBy W none → Calls Try.prog 33 #[PV, .int .i64 i] W fun e w' => e = gaveUp er ∧ W.grownBy w' none) :
    Calls Try.prog 18 #[PV, .int .i64 i] w fun e w' => e = .returned (.int .i64 er) ∧ w.grownBy w' none := by
  refine twice_of PV i er w (fun w' => w.grownBy w' none) hPV ?_
  have h3 := w2_grown w PV i
  have b0 := (w2_b0 w PV i).alloc (.cells #[.int .i64 0] 33)
  have b1 := (w2_b1 w PV i).alloc (.cells #[.int .i64 0] 33)
  show Calls _ _ _ (w2 w PV i) _
  generalize w2 w PV i = w4 at *
  refine tried_none _ _ w w4 er (fun _ => rfl) h3 ?_
  refine (twicestep_no _ _ PV i er _ b0 b1 (hnb _ (kgrow_none h3 (World.grownBy_alloc _ _ _)))).mono ?_
  rintro e w' ⟨rfl, hg⟩
  exact ⟨endP_ne hne, hg⟩

/-- Twice, of a net. -/
theorem twice_any {B p k : Nat} {x : N8} {w : World} (hN : NetAt B p k w x) (hn : x.n ≠ 0) (i : Int) (hL : x.L.length ≤ 400) (hB : B ≤ w.heap.size) :
    Calls Try.prog 18 #[.pointer (some ⟨p, 0, none⟩), .int .i64 i] w fun e w' => e = .returned (.int .i64 (twiceP x i).1) ∧ NetAt B p k w' (twiceP x i).2 ∧ Fr B netObj w w' := by
  by_cases ho : i < 0 ∨ (x.L.length : Int) ≤ i
  · have ha := atP_out ho
    refine (twice_no (.pointer (some ⟨p, 0, none⟩)) i 5 w (by decide) (Or.inl ⟨p, rfl⟩) (fun W hW => (number_net (hN.up hW) hn i).mono ?_)).mono ?_
    · rintro e w' ⟨⟨m, h, _⟩ | ⟨_, he⟩, hg⟩
      · rw [ha] at h; cases h
      · exact ⟨he, hg⟩
    · rintro e w' ⟨rfl, hg⟩
      unfold twiceP
      rw [ha]
      exact ⟨rfl, hN.up hg, Fr.of_grown hg⟩
  · obtain ⟨j, rfl⟩ : ∃ j : Nat, i = (j : Int) := ⟨i.toNat, by omega⟩
    have hj : j < x.L.length := by omega
    have hm : x.L[j]? = some x.L[j] := List.getElem?_eq_getElem hj
    generalize x.L[j] = m at hm
    refine twice_of (.pointer (some ⟨p, 0, none⟩)) j (twiceP x (j : Int)).1 w (fun w' => NetAt B p k w' (twiceP x (j : Int)).2 ∧ Fr B netObj w w') (Or.inl ⟨p, rfl⟩) ?_
    have h3 := w2_grown w (.pointer (some ⟨p, 0, none⟩)) j
    have b0 := (w2_b0 w (.pointer (some ⟨p, 0, none⟩)) j).alloc (.cells #[.int .i64 0] 33)
    have b1 := (w2_b1 w (.pointer (some ⟨p, 0, none⟩)) j).alloc (.cells #[.int .i64 0] 33)
    show Calls _ _ _ (w2 w (.pointer (some ⟨p, 0, none⟩)) j) _
    generalize w2 w (.pointer (some ⟨p, 0, none⟩)) j = w4 at *
    have h5 : w.grownBy (w4.alloc (.cells #[.int .i64 0] 33)) none := kgrow_none h3 (World.grownBy_alloc _ _ _)
    exact tried_net _ _ w w4 B p k _ _ (fun _ => rfl) h3 (twicestep_ok _ _ B p k x j m _ b0 b1 (hN.up h5) hn hm hL (Nat.le_trans hB h5.size))
end Go.Proofs.Ytlogdbbaefpapaa
