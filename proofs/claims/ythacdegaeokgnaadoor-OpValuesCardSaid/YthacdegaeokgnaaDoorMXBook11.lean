/-
  The book of lists: a vector lent, with a mark behind it; is it as it was?
-/
import Derived.Test.YthacdegaeokgnaaDoorMXBook10
namespace Go.Proofs.YthacdegaeokgnaaDoor
open Go.RowKit

/-- v holds the numbers zs, and -77 stands behind them. -/
def LentV (w : World) (B : Nat) (v : Value) (zs : List Int) : Prop := ∃ g c, v = .slice (some ⟨g, 0, none⟩) zs.length c ∧ zs.length + 1 ≤ c ∧ w.ownsRow B 3 1 (.slice (some ⟨g, 0, none⟩) (zs.length + 1) c) (zs.length + 1) (zs.map (Value.int .i64) ++ [.int .i64 (-77)])
theorem own_room {w : World} {B g n c : Nat} {e : TypeId} {xs : List Value} (h : w.ownsRow B e 1 (.slice (some ⟨g, 0, none⟩) n c) n xs) : n ≤ c ∧ c ≤ maxLen := by
  rcases h.2 with ⟨h', _⟩ | ⟨g', cap, cur, h', _, hh, hnc, hcm, _⟩
  · simp at h'
  · simp only [Value.slice.injEq, Option.some.injEq, Addr.mk.injEq, and_true, true_and] at h'
    obtain ⟨rfl, rfl⟩ := h'
    exact ⟨hnc, hcm⟩
theorem LentV.nums {w : World} {B : Nat} {v : Value} {zs : List Int} (h : LentV w B v zs) : Nums w B 3 v zs := by
  obtain ⟨g, c, rfl, _, ho⟩ := h
  exact own_shrink ho (by simp)
theorem LentV.below {w w' : World} {B B' : Nat} {v : Value} {zs : List Int} (h : LentV w B v zs) (hb : Below B' w w') (hB : w.heap.size ≤ B') : LentV w' B v zs := by
  obtain ⟨g, c, rfl, hc, ho⟩ := h
  exact ⟨g, c, rfl, hc, own_below ho hb hB⟩

set_option maxRecDepth 100000 in
set_option maxHeartbeats 1000000 in
theorem lent_any (A : Option Addr) (n c : Nat) (zs : List Int) (w : World) (I : IntsIn w A n zs) (hn : n ≤ 100000) :
    Calls Tryd.prog 58 #[.slice A n c] w fun e w' => ∃ v, e = .returned v ∧ LentV w' w.heap.size v zs ∧ Below w.heap.size w w' := by
  obtain ⟨i0, hi, hz0, hz1, hz2⟩ := info_parts i64info
  have J := Lib.hid I
  have l := I.len
  have hn' : (n : Int) ≤ 100000 := by omega
  have Hmk : Hid (∀ (w2 : World) (g cc : Nat), w2.ownsRow w.heap.size 3 1 (.slice (some ⟨g, 0, none⟩) (n + 1) cc) (n + 1) (zs.map (Value.int .i64) ++ [.int .i64 (-77)]) → LentV w2 w.heap.size (.slice (some ⟨g, 0, none⟩) n cc) zs) := by
    intro w2 g cc h
    rw [← l] at h ⊢
    exact ⟨g, cc, rfl, (own_room h).1, h⟩
  have Q3 : Hid (n + 1 ≤ maxLen) := by unfold Hid maxLen; omega
  have Q4 : Hid ((n + 1) * 8 ≤ 140737488355328) := by unfold Hid; omega
  clear I
  by_cases hn0 : n = 0
  · subst hn0
    have hz : zs = [] := List.eq_nil_of_length_eq_zero l
    subst hz
    go_enter Tryd.func58, Tryd.ntmps58
    go_wp2_with (first
      | (at_builtin; refine wpList_append_nothing _ rfl _ _ 42 3 i0 rfl Tryd.underlying42 hi rfl A c rfl ?_)
      | (at_builtin; refine wpList_append_own _ rfl _ _ 42 rfl w.heap.size 3 i0 (.int .i64 0) 1 8 Tryd.underlying42 hi hz0 hz1 hz2 rfl (by decide) _ _ _ rfl (World.ownsRow_nil _ w.heap.size 3 1) ⟨w.heap.size, 0, none⟩ 1 1 [.int .i64 (-77)] rfl rfl (cells_new _ _ [_]) (by intro u hu; simp at hu; subst hu; rfl) Q3.out Q4.out (by simp) ?_; intro v2 w2 hown2 hgr2 hnil2; rw [Nat.zero_add, List.nil_append] at hown2; obtain ⟨g2, d2, rfl⟩ := own_some hown2; have hd2 := (own_room hown2).1; have hd3 : (0 : Int) ≤ (d2 : Int) := by omega))
    have HM := Lib.hid (Hmk.out w2 g2 d2 hown2)
    have HB := Lib.hid (grown_below (below_alloc (Below.refl w.heap.size w) (Nat.le_refl _) (.cells #[.int .i64 (-77)] 3)) (Nat.le_refl _) (World.ownsRow_nil _ w.heap.size 3 1) hgr2)
    clear hown2 hgr2 hnil2
    go_wp2_with fail
    go_ret
    exact ⟨_, rfl, HM.out, HB.out⟩
  · obtain ⟨b, o, rfl, hlt, hcc⟩ := J.out.some (by omega)
    have hcell : ∀ j u, (zs.map (Value.int .i64))[j]? = some u → w.cell? (({ block := b, off := o, spot := none } : Addr).add j) = some u := by
      intro j u hj
      have hjn : j < zs.length := by
        have := (List.getElem?_eq_some_iff.1 hj).1
        simpa using this
      rw [Addr.add_lit, hcc j (by omega)]
      rw [List.getElem?_map, List.getElem?_eq_getElem hjn] at hj
      rw [List.getD_eq_getElem?_getD, List.getElem?_eq_getElem hjn]
      simpa using hj
    have Hc := Lib.hid hcell
    have q1 : (zs.map (Value.int .i64)).length = n * 1 := by simp; omega
    have Q1 := Lib.hid q1
    have Q5 : Hid (n ≤ maxLen) := by unfold Hid maxLen; omega
    have Q6 : Hid ((0 + n) * 8 ≤ 140737488355328) := by unfold Hid; omega
    have Q7 : Hid (0 + n ≤ maxLen) := by unfold Hid maxLen; omega
    clear hcell hcc q1
    go_enter Tryd.func58, Tryd.ntmps58
    go_wp2_with (first
      | (at_builtin; refine wpList_append_own _ rfl _ _ 42 rfl w.heap.size 3 i0 (.int .i64 0) 1 8 Tryd.underlying42 hi hz0 hz1 hz2 rfl (by decide) _ _ _ rfl (World.ownsRow_nil w w.heap.size 3 1) ⟨b, o, none⟩ n c (zs.map (Value.int .i64)) rfl Q1.out Hc.out (one_cell_map _) Q7.out Q6.out (Nat.le_refl _) ?_; intro v1 w1 hown1 hgr1 hnil1; rw [Nat.zero_add, List.nil_append] at hown1; obtain ⟨a1, d1, rfl⟩ := own_slice hown1)
      | (at_builtin; refine wpList_append_own _ rfl _ _ 42 rfl w.heap.size 3 i0 (.int .i64 0) 1 8 Tryd.underlying42 hi hz0 hz1 hz2 rfl (by decide) _ _ _ rfl (World.ownsRow.alloc hown1 _) ⟨w1.heap.size, 0, none⟩ 1 1 [.int .i64 (-77)] rfl rfl (cells_new _ _ [_]) (by intro u hu; simp at hu; subst hu; rfl) Q3.out Q4.out (Nat.le_trans hgr1.size (by simp)) ?_; intro v2 w2 hown2 hgr2 hnil2; obtain ⟨g2, d2, rfl⟩ := own_some hown2; have hd2 := (own_room hown2).1; have hd3 : (n : Int) ≤ (d2 : Int) := by omega))
    have HM := Lib.hid (Hmk.out w2 g2 d2 hown2)
    have hb1 := grown_below (Below.refl w.heap.size w) (Nat.le_refl _) (World.ownsRow_nil _ w.heap.size 3 1) hgr1
    have HB := Lib.hid (grown_below (below_alloc hb1 (Nat.le_refl _) (.cells #[.int .i64 (-77)] 3)) (Nat.le_refl _) (World.ownsRow.alloc hown1 _) hgr2)
    clear hown1 hgr1 hnil1 hown2 hgr2 hnil2 hb1
    go_wp2_with fail
    go_ret
    exact ⟨_, rfl, HM.out, HB.out⟩

set_option maxRecDepth 100000 in
set_option maxHeartbeats 1000000 in
theorem stays_any (B : Nat) (v : Value) (zs : List Int) (A2 : Option Addr) (n2 c2 : Nat) (ys : List Int) (w : World) (H1 : LentV w B v zs) (hwf : ∀ z ∈ zs, (Lit.int .i64 z).wf = true) (hn : zs.length ≤ 100000) (I2 : IntsIn w A2 n2 ys) :
    Calls Tryd.prog 61 #[v, .slice A2 n2 c2] w fun e w' => e = .returned (.bool (decide (zs = ys))) ∧ ∃ q, w' = w.drewN q := by
  obtain ⟨A1, c1, e1, I1, _⟩ := H1.nums.ints hwf
  obtain ⟨g, c, e2, hc, ho⟩ := H1
  rw [e2] at e1 ⊢
  injection e1 with f1 f2 f3
  subst f1
  have hm : w.cell? ⟨g, zs.length, none⟩ = some (.int .i64 (-77)) := by
    rw [World.ownsRow.cellAt ho zs.length (by omega), List.getElem?_append_right (by simp)]
    simp
  obtain ⟨n, hnz⟩ : ∃ n, zs.length = n := ⟨_, rfl⟩
  rw [hnz] at hm hc hn I1 ⊢
  have R := Lib.hid (rsame_any (some ⟨g, 0, none⟩) n c zs A2 n2 c2 ys w I1 I2)
  obtain ⟨x, hx⟩ : ∃ x, decide (zs = ys) = x := ⟨_, rfl⟩
  rw [hx] at R ⊢
  have hc' : (n : Int) + 1 ≤ (c : Int) := by omega
  have hn' : (n : Int) ≤ 100000 := by omega
  have HM := Lib.hid hm
  clear e2 ho f2 f3 hx I1 I2 hnz hm
  cases x with
  | false =>
    go_enter Tryd.func61, Tryd.ntmps61
    go_wp2_with fail
    refine R.out.mono ?_
    rintro e w1 ⟨rfl, q, hq⟩
    have Hq := Lib.hid hq
    clear hq
    go_wp2_with fail
    go_ret
    exact ⟨rfl, q, Hq.out⟩
  | true =>
    go_enter Tryd.func61, Tryd.ntmps61
    go_wp2_with fail
    refine R.out.mono ?_
    rintro e w1 ⟨rfl, q, hq⟩
    have hm : w1.cell? ⟨g, n, none⟩ = some (.int .i64 (-77)) := by rw [hq]; exact HM.out
    have Hq := Lib.hid hq
    clear hq
    go_wp2_with fail
    go_ret
    exact ⟨rfl, q, Hq.out⟩
end Go.Proofs.YthacdegaeokgnaaDoor
