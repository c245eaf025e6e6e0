/-
  The document's own net, part 5: Cut.
-/
import Derived.Test.YtlogdbbaefpapaaNetR4
namespace Go.Proofs.Ytlogdbbaefpapaa
open Go.RowKit Go.Maps

theorem run_ne2 (a b c d : Int) (wa : (Lit.int .i64 a).wf = true) (wb : (Lit.int .i64 b).wf = true) (wc : (Lit.int .i64 c).wf = true) (wd : (Lit.int .i64 d).wf = true) (W : World) :
    (binOp .neq 54 (.agg #[.int .i64 a, .int .i64 b]) (.agg #[.int .i64 c, .int .i64 d])).run Try.prog W = .ok (.bool (!decide ((a, b) = (c, d)))) W := by
  rw [run_neq_struct]
  obtain ⟨r, hr, hiff⟩ := run_equalIn_deep (P := Try.prog) 9998 2 54 (by kernel_rfl) W 2 2 (.agg #[.int .i64 a, .int .i64 b]) (.agg #[.int .i64 c, .int .i64 d]) _ _ (by kernel_rfl) (by kernel_rfl) (keys2 a b wa wb) (keys2 c d wc wd)
  rw [show (10000 : Nat) = 9998 + 2 from rfl, hr]
  have : r = decide ((a, b) = (c, d)) := by
    rw [Bool.eq_iff_iff, hiff]
    simp
  subst this
  rfl
/-- The ways that stay. -/
def keepW (C : List (Int × Int)) (a b : Int) : List (Int × Int) := C.filter (fun x => !(x == (a, b)))
theorem keepW_snoc (C : List (Int × Int)) (a b : Int) (m : Int × Int) : keepW (C ++ [m]) a b = keepW C a b ++ (if m = (a, b) then [] else [m]) := by
  unfold keepW
  rw [List.filter_append]
  by_cases h : m = (a, b)
  · subst h; simp
  · rw [if_neg h]
    have : (m == (a, b)) = false := by rw [beq_eq_false_iff_ne]; exact h
    simp [this]
theorem keepW_le (C : List (Int × Int)) (a b : Int) : (keepW C a b).length ≤ C.length := List.length_filter_le _ _
/-- A way appended to a row of the call's own. -/
theorem rone_way (w : World) (base : Nat) (v : Value) (F : List (Int × Int)) (m0 m1 : Int) (hown : w.ownsRow base 54 2 v F.length (rowW F)) (hn : F.length ≤ 90000) (hbase : base ≤ w.heap.size) (w0 : World) (hg : w0.grownBy w none) (h0 : w0.heap.size ≤ base) :
    ∃ A c w', (∀ ty, (Builtin.append_ #[28, 28] ty #[v, .slice (some ⟨w.heap.size, 0, none⟩) 1 1]).run Try.prog (w.alloc (.cells #[.int .i64 m0, .int .i64 m1] 54)) = .ok (.slice A (F ++ [(m0, m1)]).length c) w') ∧
      w'.ownsRow base 54 2 (.slice A (F ++ [(m0, m1)]).length c) (F ++ [(m0, m1)]).length (rowW (F ++ [(m0, m1)])) ∧ w0.grownBy w' none := by
  have ha := hown.alloc (.cells #[.int .i64 m0, .int .i64 m1] 54)
  have hnew := cells_new w 54 (wayC (m0, m1))
  obtain ⟨v2, w2, hr2, R2, g2⟩ := app_rways (w.alloc (.cells #[.int .i64 m0, .int .i64 m1] 54)) base v F [(m0, m1)] ha (some ⟨w.heap.size, 0, none⟩) 1 (fun h => by cases h) (fun a ha j u hu => by
    cases ha
    rw [rowW_one] at hu
    exact hnew j u hu) (by simp; omega) (Nat.le_trans hbase (by simp)) 1 rfl
  obtain ⟨A, c, rfl⟩ := owns_shape R2
  exact ⟨A, c, w2, hr2, R2, grow_own (kgrow_none hg (World.grownBy_alloc w (.cells #[.int .i64 m0, .int .i64 m1] 54) none)) ha h0 g2⟩

set_option maxRecDepth 100000 in
set_option maxHeartbeats 4000000 in
theorem rcut_yes (p B : Nat) (x : N8) (a b : Int) (ct : Bool) (w : World) (h : RAt B p w x) (hw : wayB x.n a b = true) (hC : x.C.length ≤ 80000) (hB : B ≤ w.heap.size) (wa : (Lit.int .i64 a).wf = true) (wb : (Lit.int .i64 b).wf = true) :
    Calls Try.prog 21 #[.pointer (some ⟨p, 0, none⟩), .int .i64 a, .int .i64 b, .bool ct] w fun e w' => e = .returned (.int .i64 0) ∧ RAt B p w' { x with C := cutC x.C a b ct } ∧ Fr B refObj w w' := by
  have C1 := rways_any p x.n a b w (by obtain ⟨_, _, h1, _⟩ := h; exact h1.cell 0)
  rw [hw] at C1
  have C1 := Lib.hid C1
  obtain ⟨n, hn⟩ : ∃ n, n = x.C.length := ⟨_, rfl⟩
  obtain ⟨A, c, c2, hs⟩ : ∃ A c, w.cell? ⟨p, 2, none⟩ = some (.slice A n c) ∧ ∀ k m, x.C[k]? = some m → ∃ g, A = some ⟨g, 0, none⟩ ∧ w.cell? ⟨g, k * 2, none⟩ = some (.int .i64 m.1) ∧ w.cell? ⟨g, k * 2 + 1, none⟩ = some (.int .i64 m.2) := by
    obtain ⟨sl, cu, h1, _, h3, _, _⟩ := h
    rcases row_shape h3 with ⟨rfl, h6, _⟩ | ⟨g, c, rfl, h6, h7, h8⟩
    · have : x.C = [] := List.eq_nil_of_length_eq_zero h6
      exact ⟨none, 0, by rw [hn, h6]; exact h1.cell 2, fun k m hm => by rw [this] at hm; simp at hm⟩
    · exact ⟨some ⟨g, 0, none⟩, c, by rw [hn]; exact h1.cell 2, fun k m hm => ⟨g, rfl, h8 _ _ (rowW_at x.C k m hm).1, h8 _ _ (rowW_at x.C k m hm).2⟩⟩
  have Hs := Lib.hid hs
  have Hn := Lib.hid hn
  have HB := Lib.hid hB
  have Hw : Hid (∀ m ∈ x.C, (Lit.int .i64 m.1).wf = true ∧ (Lit.int .i64 m.2).wf = true) := by obtain ⟨_, _, _, _, _, _, h5⟩ := h; exact h5
  have H := Lib.hid h
  rw [← hn] at hC
  clear hs hn h hw hB
  go_enter Try.func21, Try.ntmps21
  go_wp2_with fail
  refine C1.out.mono ?_
  rintro e w7 ⟨rfl, rfl⟩
  go_wp2_with fail
  go_loopw [9, 10] (fun l i wr => ∃ (k : Nat) (A2 : Option Addr) (d : Nat), k ≤ n ∧ i = .int .i64 (k : Int) ∧ l = .slice A2 (keepW (x.C.take k) a b).length d ∧ Hid (wr.ownsRow w7.heap.size 54 2 (.slice A2 (keepW (x.C.take k) a b).length d) (keepW (x.C.take k) a b).length (rowW (keepW (x.C.take k) a b))) ∧ Hid (w7.grownBy wr none)) (fun _ i _ => n - (intOf i).toNat)
  case atStart => exact ⟨0, none, 0, by omega, rfl, rfl, Lib.hid (World.ownsRow_nil _ _ _ _), Lib.hid (kgrow_refl _ _)⟩
  case round =>
    obtain ⟨k, A2, d, hk, rfl, rfl, R, G⟩ := hrel
    have c2r : wr.cell? ⟨p, 2, none⟩ = some (.slice A n c) := G.out.cell c2 (by simp)
    by_cases hl : k < n
    · have hlC : k < x.C.length := by rw [← Hn.out]; exact hl
      obtain ⟨g, rfl, x0, x1⟩ := Hs.out k x.C[k] (List.getElem?_eq_getElem hlC)
      replace x0 := G.out.cell x0 (by simp)
      replace x1 := G.out.cell x1 (by simp)
      have g2 : (k : Int) < (n : Int) := by omega
      have hmem : x.C[k] ∈ x.C := List.getElem_mem hlC
      have hmw := Hw.out _ hmem
      have ht : keepW (x.C.take (k + 1)) a b = keepW (x.C.take k) a b ++ (if x.C[k] = (a, b) then [] else [x.C[k]]) := by rw [List.take_succ_eq_append_getElem hlC, keepW_snoc]
      have hlen : (keepW (x.C.take k) a b).length ≤ 90000 := Nat.le_trans (keepW_le _ _ _) (by simp; omega)
      obtain ⟨m0, m1, hm⟩ : ∃ m0 m1, x.C[k] = (m0, m1) := ⟨_, _, rfl⟩
      rw [hm] at x0 x1 hmw ht
      have E := fun W => run_ne2 m0 m1 a b hmw.1 hmw.2 wa wb W
      have Ht := Lib.hid ht
      clear hm ht hmem hmw hlC
      by_cases he : (m0, m1) = (a, b)
      · rw [decide_eq_true he] at E
        have Ht2 : Hid (keepW (x.C.take (k + 1)) a b = keepW (x.C.take k) a b) := by have := Ht.out; rwa [if_pos he, List.append_nil] at this
        clear he Ht
        go_wp2_with fail
        go_roundw
        case rel => exact ⟨k + 1, A2, d, by omega, by go_num, by rw [Ht2.out], by rw [Ht2.out]; exact R, G⟩
        case measure => simp [intOf]; omega
      · rw [decide_eq_false he] at E
        have Ht2 : Hid (keepW (x.C.take (k + 1)) a b = keepW (x.C.take k) a b ++ [(m0, m1)]) := by have := Ht.out; rwa [if_neg he] at this
        obtain ⟨A3, d3, w3, hr, R3, G3⟩ := rone_way wr w7.heap.size _ _ m0 m1 R.out hlen G.out.size w7 G.out (Nat.le_refl _)
        have HR := fun ty => Lib.hid (hr ty)
        have R3 := Lib.hid R3
        have G3 := Lib.hid G3
        clear he Ht hr
        obtain ⟨n3, hn3⟩ : ∃ n3, n3 = (keepW (x.C.take k) a b ++ [(m0, m1)]).length := ⟨_, rfl⟩
        simp only [← hn3] at HR R3
        have Hn3 := Lib.hid hn3
        clear hn3
        generalize (keepW (x.C.take k) a b).length = n1 at *
        go_wp2_with (at_builtin; refine wpList_append_eq _ w3 rfl (.tmp 36) (.tmp 44) 28 rfl _ _ (.slice A3 n3 d3) rfl rfl (fun ty => (HR ty).out) ?_)
        go_roundw
        case rel =>
          refine ⟨k + 1, A3, d3, by omega, by go_num, ?_, ?_, G3⟩
          · rw [Ht2.out, ← Hn3.out]
          · rw [Ht2.out, ← Hn3.out]; exact R3
        case measure => simp [intOf]; omega
    · obtain rfl : k = n := by omega
      have hall : x.C.take k = x.C := List.take_of_length_le (by rw [← Hn.out]; exact Nat.le_refl _)
      rw [hall] at R
      have hlen : (keepW x.C a b).length ≤ 90000 := Nat.le_trans (keepW_le _ _ _) (by rw [← Hn.out]; omega)
      have hwf : ∀ m ∈ cutC x.C a b ct, (Lit.int .i64 m.1).wf = true ∧ (Lit.int .i64 m.2).wf = true := by
        intro m hm
        unfold cutC at hm
        rcases List.mem_append.1 hm with h | h
        · exact Hw.out m (List.mem_filter.1 h).1
        · cases ct
          · simp at h
          · simp at h
            rw [h]
            exact ⟨wa, wb⟩
      rw [hall]
      clear hall hl hk
      cases ct with
      | false =>
        have hcc : cutC x.C a b false = keepW x.C a b := by simp [cutC, keepW]
        rw [hcc] at hwf
        have K := Lib.hid (H.out.setC G.out R.out HB.out hwf)
        have hf : wr.frozen? ⟨p, 2, none⟩ = false := by
          obtain ⟨_, _, h1, _⟩ := H.out.up G.out
          exact h1.frozen 2
        have Hcc := Lib.hid hcc
        clear hwf hcc hlen R G
        generalize (keepW x.C a b).length = n1 at *
        go_wp2_with fail
        go_ret
        exact ⟨rfl, by rw [Hcc.out]; exact K.out.1, K.out.2⟩
      | true =>
        have hcc : cutC x.C a b true = keepW x.C a b ++ [(a, b)] := by simp [cutC, keepW]
        rw [hcc] at hwf
        obtain ⟨A3, d3, w3, hr, R3, G3⟩ := rone_way wr w7.heap.size _ _ a b R.out hlen G.out.size w7 G.out (Nat.le_refl _)
        have K := Lib.hid (H.out.setC G3 R3 HB.out hwf)
        have hf : w3.frozen? ⟨p, 2, none⟩ = false := by
          obtain ⟨_, _, h1, _⟩ := H.out.up G3
          exact h1.frozen 2
        have c23 : w3.cell? ⟨p, 2, none⟩ = some (.slice A k c) := G3.cell c2 (by simp)
        have HR := fun ty => Lib.hid (hr ty)
        have Hcc := Lib.hid hcc
        clear hwf hcc hlen R G hr R3 G3
        generalize (keepW x.C a b ++ [(a, b)]).length = n3 at *
        generalize (keepW x.C a b).length = n1 at *
        go_wp2_with (at_builtin; refine wpList_append_eq _ w3 rfl (.tmp 47) (.tmp 51) 28 rfl _ _ (.slice A3 n3 d3) rfl rfl (fun ty => (HR ty).out) ?_)
        go_ret
        exact ⟨rfl, by rw [Hcc.out]; exact K.out.1, K.out.2⟩
/-- Cut of the document's own net. -/
theorem rcut_any {B p : Nat} {x : N8} {w : World} (h : RAt B p w x) (a b : Int) (ct : Bool) (hC : x.C.length ≤ 80000) (hB : B ≤ w.heap.size) (wa : (Lit.int .i64 a).wf = true) (wb : (Lit.int .i64 b).wf = true) :
    Calls Try.prog 21 #[.pointer (some ⟨p, 0, none⟩), .int .i64 a, .int .i64 b, .bool ct] w fun e w' => e = .returned (.int .i64 (cutP x a b ct).1) ∧ RAt B p w' (cutP x a b ct).2 ∧ Fr B refObj w w' := by
  cases hw : wayB x.n a b with
  | true =>
    have e1 : cutP x a b ct = (0, { x with C := cutC x.C a b ct }) := by unfold cutP; rw [hw]; rfl
    rw [e1]
    exact rcut_yes p B x a b ct w h hw hC hB wa wb
  | false =>
    have e1 : cutP x a b ct = (1, x) := by unfold cutP; rw [hw]; rfl
    rw [e1]
    have C1 := rways_any p x.n a b w (by obtain ⟨_, _, h1, _⟩ := h; exact h1.cell 0)
    rw [hw] at C1
    have C1 := Lib.hid C1
    have H := Lib.hid h
    clear h hw e1 hC hB wa wb
    go_enter Try.func21, Try.ntmps21
    go_wp2_with fail
    refine C1.out.mono ?_
    rintro e w7 ⟨rfl, rfl⟩
    go_wp2_with fail
    go_ret
    exact ⟨rfl, H.out, Fr.refl _ _ _⟩
end Go.Proofs.Ytlogdbbaefpapaa
