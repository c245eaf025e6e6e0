/-
  The document's own net, part 1: how it lies in memory; ways, IsCut, Peek.
-/
import Derived.Test.YtlogdbbaefpapaaNetCuts
import Derived.LoopTactic
import Derived.Deep.AppendSrc
import Derived.Deep.Upon
import Derived.Deep.Onto
import Derived.DeepKeys
namespace Go.Proofs.Ytlogdbbaefpapaa
open Go.RowKit Go.Maps

def wayC (c : Int × Int) : List Value := [.int .i64 c.1, .int .i64 c.2]
def rowW (C : List (Int × Int)) : List Value := C.flatMap wayC
theorem rowW_length (C : List (Int × Int)) : (rowW C).length = C.length * 2 := by
  induction C with
  | nil => rfl
  | cons x C ih => simp only [rowW, List.flatMap_cons, List.length_append, List.length_cons] at *; simp only [wayC, List.length_cons, List.length_nil]; omega
theorem rowW_append (C D : List (Int × Int)) : rowW (C ++ D) = rowW C ++ rowW D := by simp [rowW]
theorem rowW_one (m : Int × Int) : rowW [m] = wayC m := by simp [rowW]
theorem rowW_drop (C : List (Int × Int)) : ∀ i, rowW (C.drop i) = (rowW C).drop (i * 2) := by
  induction C with
  | nil => intro i; simp [rowW]
  | cons x C ih =>
    intro i
    cases i with
    | zero => simp
    | succ i =>
      rw [List.drop_succ_cons, ih i]
      simp only [rowW, List.flatMap_cons]
      rw [show (i + 1) * 2 = (wayC x).length + i * 2 by simp [wayC]; omega, List.drop_append]
      simp [wayC]
theorem rowW_at (C : List (Int × Int)) (i : Nat) (m : Int × Int) (h : C[i]? = some m) : (rowW C)[i * 2]? = some (.int .i64 m.1) ∧ (rowW C)[i * 2 + 1]? = some (.int .i64 m.2) := by
  have hd := rowW_drop C i
  have hi := (List.getElem?_eq_some_iff.1 h).1
  rw [List.drop_eq_getElem_cons hi, (List.getElem?_eq_some_iff.1 h).2] at hd
  have e : rowW (m :: C.drop (i + 1)) = wayC m ++ rowW (C.drop (i + 1)) := rfl
  rw [e] at hd
  refine ⟨?_, ?_⟩
  · have := congrArg (fun l : List Value => l[0]?) hd
    simpa [wayC] using this.symm
  · have := congrArg (fun l : List Value => l[1]?) hd
    simpa [wayC] using this.symm
theorem rowW_oneCell (C : List (Int × Int)) : ∀ u ∈ rowW C, u.oneCell' = true := by
  intro u hu
  obtain ⟨m, _, hm⟩ := List.mem_flatMap.1 hu
  simp [wayC] at hm
  rcases hm with rfl | rfl <;> rfl

/-- The document's own net s lies behind p. -/
def RAt (B p : Nat) (w : World) (s : N8) : Prop :=
  ∃ sl cu, Blk w p 30 #[.int .i64 s.n, sl, cu, .int .i64 s.lost] ∧ w.ownsRow B 42 3 sl s.L.length (rowC s.L) ∧ w.ownsRow B 54 2 cu s.C.length (rowW s.C) ∧ B ≤ p ∧ ∀ m ∈ s.C, (Lit.int .i64 m.1).wf = true ∧ (Lit.int .i64 m.2).wf = true
/-- What the program's net turns does not touch it. -/
theorem RAt.fr {B p : Nat} {w w' : World} {s : N8} {T : Obj → Bool} {B' : Nat} (h : RAt B p w s) (g : Fr B' T w w') (hT : ∀ t cs fr, (t = 30 ∨ t = 42 ∨ t = 54) → T (.cells cs t fr) = false) : RAt B p w' s := by
  obtain ⟨sl, cu, h1, h2, h3, h4⟩ := h
  exact ⟨sl, cu, g.blk h1 (hT _ _ _ (Or.inl rfl)), g.row_ h2 (fun _ _ => hT _ _ _ (Or.inr (Or.inl rfl))), g.row_ h3 (fun _ _ => hT _ _ _ (Or.inr (Or.inr rfl))), h4⟩
theorem RAt.up {B p : Nat} {s : N8} {W W' : World} (h : RAt B p W s) (hW : W.grownBy W' none) : RAt B p W' s := h.fr (Fr.of_grown (B := B) (T := fun _ => false) hW) (fun _ _ _ _ => rfl)
theorem RAt.net {B p : Nat} {s : N8} {W W' : World} {B' : Nat} (h : RAt B p W s) (g : Fr B' netObj W W') : RAt B p W' s := h.fr g (fun t cs fr h => by rcases h with rfl | rfl | rfl <;> rfl)
theorem netObj_ref {o : Obj} (h : netObj o = true) : refObj o = false := by
  unfold netObj at h
  unfold refObj
  split at h
  · rename_i t _
    simp only [Bool.or_eq_true, beq_iff_eq] at h
    rcases h with rfl | rfl <;> rfl
  · rfl
  · cases h
theorem NetAt.ref {B p k : Nat} {s : N8} {W W' : World} {B' : Nat} (h : NetAt B p k W s) (g : Fr B' refObj W W') : NetAt B p k W' s := h.fr g (fun _ ho => netObj_ref ho)

set_option maxHeartbeats 1000000 in
theorem rways_any (p : Nat) (n a b : Int) (w : World) (c0 : w.cell? ⟨p, 0, none⟩ = some (.int .i64 n)) :
    Calls Try.prog 31 #[.pointer (some ⟨p, 0, none⟩), .int .i64 a, .int .i64 b] w fun e w' => e = .returned (.bool (wayB n a b)) ∧ w' = w := by
  obtain ⟨g, hg⟩ : ∃ g, wayB n a b = g := ⟨_, rfl⟩
  by_cases h1 : 0 ≤ a
  · by_cases h2 : a < n
    · by_cases h3 : 0 ≤ b
      · by_cases h4 : b < n
        · by_cases h5 : a = b
          · have e : wayB n a b = false := by simp [wayB, h5]
            rw [e]
            have g5 : (a != b) = false := by simp [h5]
            clear hg e
            go_enter Try.func31, Try.ntmps31
            go_wp2
            go_ret
            exact ⟨rfl, rfl⟩
          · have e : wayB n a b = true := by simp [wayB, h1, h2, h3, h4, h5]
            rw [e]
            have g5 : (a != b) = true := by simp [h5]
            clear hg e
            go_enter Try.func31, Try.ntmps31
            go_wp2
            go_ret
            exact ⟨rfl, rfl⟩
        · have e : wayB n a b = false := by simp [wayB, h4]
          rw [e]
          clear hg e
          go_enter Try.func31, Try.ntmps31
          go_wp2
          go_ret
          exact ⟨rfl, rfl⟩
      · have e : wayB n a b = false := by simp [wayB, h3]
        rw [e]
        clear hg e
        go_enter Try.func31, Try.ntmps31
        go_wp2
        go_ret
        exact ⟨rfl, rfl⟩
    · have e : wayB n a b = false := by simp [wayB, h2]
      rw [e]
      clear hg e
      go_enter Try.func31, Try.ntmps31
      go_wp2
      go_ret
      exact ⟨rfl, rfl⟩
  · have e : wayB n a b = false := by simp [wayB, h1]
    rw [e]
    clear hg e
    go_enter Try.func31, Try.ntmps31
    go_wp2
    go_ret
    exact ⟨rfl, rfl⟩

/-- The rows of a net of the document, as cells. -/
theorem row_shape {w : World} {B : Nat} {e : TypeId} {sz : Nat} {v : Value} {n : Nat} {xs : List Value} (h : w.ownsRow B e sz v n xs) :
    (v = .slice none 0 0 ∧ n = 0 ∧ xs = []) ∨ ∃ g c, v = .slice (some ⟨g, 0, none⟩) n c ∧ n ≤ c ∧ c ≤ maxLen ∧ ∀ j u, xs[j]? = some u → w.cell? ⟨g, j, none⟩ = some u := by
  have h1 := h.1
  have hc := fun g hg => h.cells (g := g) hg
  rcases h.2 with ⟨e1, e2⟩ | ⟨g, cap, cur, e1, _, _, h2, h3, _⟩
  · subst e2
    exact Or.inl ⟨e1, rfl, List.eq_nil_of_length_eq_zero (by simpa using h1)⟩
  · subst e1
    refine Or.inr ⟨g, cap, rfl, h2, h3, fun j u hu => ?_⟩
    have := hc g rfl j u hu
    rwa [add_lit0] at this
theorem keys2 : ∀ x y : Int, (Lit.int .i64 x).wf = true → (Lit.int .i64 y).wf = true → Try.prog.keyLits 2 54 [.int .i64 x, .int .i64 y] = some [.int .i64 x, .int .i64 y] := by
  have hc : Try.prog.cellsOf 3 = 1 := by kernel_rfl
  intro x y hx hy
  have r2 : List.range 2 = [0, 1] := rfl
  have hl : Try.prog.cellsOf 54 = 2 := by kernel_rfl
  unfold Program.keyLits
  rw [Try.underlying54]
  simp [hl, r2, hc, Program.keyLits, Try.underlying3, hx, hy]
theorem run_eq2 (a b c d : Int) (wa : (Lit.int .i64 a).wf = true) (wb : (Lit.int .i64 b).wf = true) (wc : (Lit.int .i64 c).wf = true) (wd : (Lit.int .i64 d).wf = true) (W : World) :
    (binOp .eql 54 (.agg #[.int .i64 a, .int .i64 b]) (.agg #[.int .i64 c, .int .i64 d])).run Try.prog W = .ok (.bool (decide ((a, b) = (c, d)))) W := by
  rw [run_eql_struct]
  obtain ⟨r, hr, hiff⟩ := run_equalIn_deep (P := Try.prog) 9998 2 54 (by kernel_rfl) W 2 2 (.agg #[.int .i64 a, .int .i64 b]) (.agg #[.int .i64 c, .int .i64 d]) _ _ (by kernel_rfl) (by kernel_rfl) (keys2 a b wa wb) (keys2 c d wc wd)
  rw [show (10000 : Nat) = 9998 + 2 from rfl, hr]
  have : r = decide ((a, b) = (c, d)) := by
    rw [Bool.eq_iff_iff, hiff]
    simp
  subst this
  rfl

set_option maxRecDepth 100000 in
set_option maxHeartbeats 2000000 in
theorem riscut_of (p : Nat) (C : List (Int × Int)) (A : Option Addr) (c : Nat) (a b : Int) (w : World) (c2 : w.cell? ⟨p, 2, none⟩ = some (.slice A C.length c)) (hC : C.length ≤ 9223372036854775807)
    (wa : (Lit.int .i64 a).wf = true) (wb : (Lit.int .i64 b).wf = true) (hw : ∀ m ∈ C, (Lit.int .i64 m.1).wf = true ∧ (Lit.int .i64 m.2).wf = true)
    (hs : ∀ k m, C[k]? = some m → ∃ g, A = some ⟨g, 0, none⟩ ∧ w.cell? ⟨g, k * 2, none⟩ = some (.int .i64 m.1) ∧ w.cell? ⟨g, k * 2 + 1, none⟩ = some (.int .i64 m.2)) :
    Calls Try.prog 25 #[.pointer (some ⟨p, 0, none⟩), .int .i64 a, .int .i64 b] w fun e w' => e = .returned (.bool (C.contains (a, b))) ∧ w' = w := by
  obtain ⟨n, hn⟩ : ∃ n, n = C.length := ⟨_, rfl⟩
  rw [← hn] at c2 hC
  have Hn := Lib.hid hn
  have Hs := Lib.hid hs
  have Hw := Lib.hid hw
  obtain ⟨r, hr⟩ : ∃ r, C.contains (a, b) = r := ⟨_, rfl⟩
  rw [hr]
  have Hr := Lib.hid hr
  clear hs hn hw hr
  go_enter Try.func25, Try.ntmps25
  go_wp2_with fail
  go_loop [7] (fun i => ∃ k : Nat, k ≤ n ∧ i = .int .i64 (k : Int) ∧ Hid ((C.take k).contains (a, b) = false)) (fun i => n - (intOf i).toNat)
  case atStart => exact ⟨0, by omega, rfl, Lib.hid rfl⟩
  case round =>
    obtain ⟨k, hk, rfl, hf⟩ := hrel
    by_cases hl : k < n
    · have hlC : k < C.length := by rw [← Hn.out]; exact hl
      obtain ⟨g, rfl, x0, x1⟩ := Hs.out k C[k] (List.getElem?_eq_getElem hlC)
      have g2 : (k : Int) < (n : Int) := by omega
      obtain ⟨m0, m1, hm⟩ : ∃ m0 m1, C[k] = (m0, m1) := ⟨_, _, rfl⟩
      have hmw := Hw.out C[k] (List.getElem_mem hlC)
      have ht : C.take (k + 1) = C.take k ++ [(m0, m1)] := by rw [List.take_succ_eq_append_getElem hlC, hm]
      have hmem : C[k] ∈ C := List.getElem_mem hlC
      rw [hm] at x0 x1 hmw hmem
      have E := fun W => run_eq2 m0 m1 a b hmw.1 hmw.2 wa wb W
      have Hm := Lib.hid hmem
      have Ht := Lib.hid ht
      clear hm ht hmem hmw hlC
      by_cases he : (m0, m1) = (a, b)
      · rw [decide_eq_true he] at E
        have e1 : C.contains (a, b) = true := by rw [List.contains_iff_mem, ← he]; exact Hm.out
        obtain rfl : r = true := by rw [← Hr.out]; exact e1
        clear he e1
        go_wp2_with fail
        go_ret
        exact ⟨rfl, rfl⟩
      · rw [decide_eq_false he] at E
        have e1 : Hid ((C.take (k + 1)).contains (a, b) = false) := by
          show _ = _
          have h1 := hf.out
          rw [Ht.out]
          rw [Bool.eq_false_iff, ne_eq, List.contains_iff_mem] at h1 ⊢
          rw [List.mem_append, List.mem_singleton]
          rintro (h | h)
          · exact h1 h
          · exact he h.symm
        clear he hf
        go_wp2_with fail
        go_round
        case rel => exact ⟨k + 1, by omega, by go_num, e1⟩
        case measure => simp [intOf]; omega
    · obtain rfl : k = n := by omega
      have e1 : C.contains (a, b) = false := by
        have := hf.out
        rwa [List.take_of_length_le (by rw [← Hn.out]; exact Nat.le_refl _)] at this
      obtain rfl : r = false := by rw [← Hr.out]; exact e1
      clear e1 hf hl hk
      go_wp2_with fail
      go_ret
      exact ⟨rfl, rfl⟩
theorem riscut_any {B p : Nat} {x : N8} {w : World} (h : RAt B p w x) (a b : Int) (wa : (Lit.int .i64 a).wf = true) (wb : (Lit.int .i64 b).wf = true) :
    Calls Try.prog 25 #[.pointer (some ⟨p, 0, none⟩), .int .i64 a, .int .i64 b] w fun e w' => e = .returned (.bool (x.C.contains (a, b))) ∧ w' = w := by
  obtain ⟨sl, cu, h1, _, h3, _, h5⟩ := h
  have c2 := h1.cell 2
  have hl := rowW_length x.C
  rcases row_shape h3 with ⟨rfl, h6, _⟩ | ⟨g, c, rfl, h6, h7, h8⟩
  · have : x.C = [] := List.eq_nil_of_length_eq_zero h6
    rw [this]
    exact riscut_of p [] none 0 a b w c2 (by decide) wa wb (fun m hm => by cases hm) (fun k m hm => by simp at hm)
  · exact riscut_of p x.C (some ⟨g, 0, none⟩) c a b w c2 (by unfold maxLen at h7; omega) wa wb h5 (fun k m hm => ⟨g, rfl, h8 _ _ (rowW_at x.C k m hm).1, h8 _ _ (rowW_at x.C k m hm).2⟩)

/-! ### Peek -/
set_option maxRecDepth 100000 in
set_option maxHeartbeats 2000000 in
theorem rpeek_out (p : Nat) (A : Option Addr) (n c : Nat) (i : Int) (w : World) (c1 : w.cell? ⟨p, 1, none⟩ = some (.slice A n c)) (hi : i < 0 ∨ (n : Int) ≤ i) :
    Calls Try.prog 13 #[.pointer (some ⟨p, 0, none⟩), .int .i64 i] w fun e w' => e = ansP 5 noMsg ∧ w' = w := by
  by_cases h : i < 0
  · clear hi
    go_enter Try.func13, Try.ntmps13
    go_wp2
    refine bodyPost_ret (results_tmp4 rfl _ _ _) rfl ?_
    exact ⟨rfl, rfl⟩
  · have h2 : (n : Int) ≤ i := by omega
    clear hi
    go_enter Try.func13, Try.ntmps13
    go_wp2
    refine bodyPost_ret (results_tmp4 rfl _ _ _) rfl ?_
    exact ⟨rfl, rfl⟩
set_option maxRecDepth 100000 in
set_option maxHeartbeats 2000000 in
theorem rpeek_in (p : Nat) (g n c k : Nat) (m : Int × Int × ByteArray) (w : World) (c1 : w.cell? ⟨p, 1, none⟩ = some (.slice (some ⟨g, 0, none⟩) n c)) (hk : k < n)
    (x0 : w.cell? ⟨g, k * 3, none⟩ = some (.int .i64 m.1)) (x1 : w.cell? ⟨g, k * 3 + 1, none⟩ = some (.int .i64 m.2.1)) (x2 : w.cell? ⟨g, k * 3 + 2, none⟩ = some (.string m.2.2)) :
    Calls Try.prog 13 #[.pointer (some ⟨p, 0, none⟩), .int .i64 (k : Int)] w fun e w' => e = ansP 0 m ∧ ∃ j, w' = w.drewN j := by
  obtain ⟨m0, m1, m2⟩ := m
  dsimp only at x0 x1 x2
  have h0 : ¬ (k : Int) < 0 := by omega
  have h2 : ¬ (n : Int) ≤ (k : Int) := by omega
  have h3 : (k : Int) < (n : Int) := by omega
  have h4 : (0 : Int) ≤ (k : Int) := by omega
  go_enter Try.func13, Try.ntmps13
  go_wp2_with fail
  go_quiet (fail)
  go_wp2_with fail
  refine bodyPost_ret (results_tmp4 rfl _ _ _) rfl ?_
  exact ⟨rfl, _, rfl⟩
end Go.Proofs.Ytlogdbbaefpapaa
