/-
  Package skip, part 12: From.
-/
import Derived.Test.YtmagkkkecihgmaaGreatSp11
import Derived.Test.YtmagkkkecihgmaaGreatFen
import Derived.RangeFuncBox
namespace Go.Proofs.YtmagkkkecihgmaaGreat
open Go.RowKit Go.Shelf


def rowsOf {Z : List Z10} (l : List (Elt Z)) : List (ByteArray × ByteArray) := l.map fun x => (x.1.2.1, x.1.2.2.1)
theorem rowsOf_all {s : S10} {Z : List Z10} (h : Z.map Prod.snd = s.L) (k : Nat) : rowsOf (eltsFrom Z k) = pairsOf s.L k := by
  have e : rowsOf (eltsFrom Z k) = ((eltsFrom Z k).map Subtype.val).map fun m => (m.2.1, m.2.2.1) := by
    unfold rowsOf
    rw [List.map_map]
    rfl
  rw [e, elts_val]
  unfold pairsOf
  rw [← h, ← List.map_drop, List.map_map]
  rfl
theorem blk_row {W : World} {g B : Nat} {t : TypeId} {cs : Array Value} {row : Option Nat} (h : Blk W g t cs) (hr : ∀ r, row = some r → B ≤ r ∧ ∃ o : Obj, W.heap[r]? = some o ∧ o.isCells = false) : some g ≠ row := by
  intro e
  obtain ⟨_, o, h1, h2⟩ := hr g e.symm
  unfold Blk at h
  rw [h] at h1
  cases h1
  cases h2
theorem own_row {α : Type} {E : El α} {W : World} {B0 B : Nat} {e : TypeId} {v : Value} {L : List α} {row : Option Nat} (h : Own E W B0 e v L) (hr : ∀ r, row = some r → B ≤ r ∧ ∃ o : Obj, W.heap[r]? = some o ∧ o.isCells = false) : v.ownBlock = none ∨ v.ownBlock ≠ row := by
  rcases h.2 with ⟨rfl, _⟩ | ⟨g, cap, cur, rfl, _, hh, _⟩
  · exact Or.inl rfl
  · exact Or.inr (blk_row (cs := cur) (t := e) hh hr)

theorem keeps_grown {W W' : World} {row : Option Nat} (h : W.grownBy W' row) (hr : ∀ g, row = some g → ∃ cs t fr, W.heap[g]? = some (.cells cs t fr)) : KeepsOthers W W' :=
  ⟨h.size, fun k o hk ho => (h.block k (Array.getElem?_eq_some_iff.1 hk).1 (fun e => by
    obtain ⟨cs, t, fr, hg⟩ := hr k e.symm
    rw [hk] at hg
    cases hg
    cases ho)).trans hk⟩
theorem own_cells {α : Type} {E : El α} {W : World} {B n : Nat} {e : TypeId} {A : Option Addr} {c g : Nat} {L : List α} (h : Own E W B e (.slice A n c) L) (hg : (Value.slice A n c).ownBlock = some g) : ∃ cs t fr, W.heap[g]? = some (.cells cs t fr) := by
  rcases h.2 with ⟨e1, _⟩ | ⟨g', cap, cur, e1, _, hh, _⟩
  · rw [e1] at hg; cases hg
  · rw [e1] at hg; cases hg
    exact ⟨_, _, _, hh⟩

set_option maxRecDepth 100000 in
set_option maxHeartbeats 4000000 in
theorem skfrom_any {B p : Nat} {s : S10} {w : World} {Z : List Z10} (h : SkZ B p w s Z) (key : ByteArray) (most : Int) (hL : s.L.length ≤ 100000) :
    Calls Tryz.prog 10 #[.pointer (some ⟨p, 0, none⟩), .string key, .int .i64 most] w fun e w' => ∃ v, e = .returned v ∧ Own elKeys w' w.heap.size 78 v (fromL s.L key most) ∧ w.grownBy w' none := by
  have CF := fun W => Lib.hid (from_any (some ⟨p, 0, none⟩) key W)
  obtain ⟨r, hr⟩ : ∃ r, fromL s.L key most = r := ⟨_, rfl⟩
  rw [hr]
  refine (callsIn_wide (n := 5)).1 ?_
  refine callsIn_of_wp_marks Tryz.func10 rfl trivial ?_ rfl
  simp only [Tryz.ntmps10, List.size_toArray, List.length_cons, List.length_nil, Nat.reduceAdd, Nat.reduceSub, Array.replicate_succ, Array.replicate_zero, List.push_toArray, List.append_toArray, List.nil_append, List.cons_append]
  gi_wp2_with (refine ⟨trivial, ?_⟩; gi_at_call 35; refine (callsIn_wide.2 (CF _).out).mono ?_; rintro e w' ⟨rfl, rfl⟩)
  have D0 : Blk ((((w.alloc (.cells #[.int .i64 most] 3)).alloc (.cells #[.slice none 0 0] 60)).alloc (.cells #[.pointer (some ⟨p, 0, none⟩)] 24)).alloc (.cells #[.string key] 9)) w.heap.size 3 #[.int .i64 most] := (((Blk.new _ _ _).alloc _).alloc _).alloc _
  have D1 : Blk ((((w.alloc (.cells #[.int .i64 most] 3)).alloc (.cells #[.slice none 0 0] 60)).alloc (.cells #[.pointer (some ⟨p, 0, none⟩)] 24)).alloc (.cells #[.string key] 9)) (w.heap.size + 1) 60 #[.slice none 0 0] := ((Blk.new' (by simp) _ _).alloc _).alloc _
  have D2 : Blk ((((w.alloc (.cells #[.int .i64 most] 3)).alloc (.cells #[.slice none 0 0] 60)).alloc (.cells #[.pointer (some ⟨p, 0, none⟩)] 24)).alloc (.cells #[.string key] 9)) (w.heap.size + 1 + 1) 24 #[.pointer (some ⟨p, 0, none⟩)] := (Blk.new' (by simp) _ _).alloc _
  have D3 : Blk ((((w.alloc (.cells #[.int .i64 most] 3)).alloc (.cells #[.slice none 0 0] 60)).alloc (.cells #[.pointer (some ⟨p, 0, none⟩)] 24)).alloc (.cells #[.string key] 9)) (w.heap.size + 1 + 1 + 1) 9 #[.string key] := Blk.new' (by simp) _ _
  have g4 : w.grownBy ((((w.alloc (.cells #[.int .i64 most] 3)).alloc (.cells #[.slice none 0 0] 60)).alloc (.cells #[.pointer (some ⟨p, 0, none⟩)] 24)).alloc (.cells #[.string key] 9)) none := gnone (gnone (gnone (World.grownBy_alloc _ _ _) (World.grownBy_alloc _ _ _)) (World.grownBy_alloc _ _ _)) (World.grownBy_alloc _ _ _)
  have hs4 : ((((w.alloc (.cells #[.int .i64 most] 3)).alloc (.cells #[.slice none 0 0] 60)).alloc (.cells #[.pointer (some ⟨p, 0, none⟩)] 24)).alloc (.cells #[.string key] 9)).heap.size = w.heap.size + 4 := by simp
  generalize ((((w.alloc (.cells #[.int .i64 most] 3)).alloc (.cells #[.slice none 0 0] 60)).alloc (.cells #[.pointer (some ⟨p, 0, none⟩)] 24)).alloc (.cells #[.string key] 9)) = w4 at *
  have hb4 := below_g g4
  have hS := from_stops (n := 4) (w0 := w4) h key hL (by decide) (w.heap.size + 1 + 1) (w.heap.size + 1 + 1 + 1) hb4 (by omega) (by omega) (D2.cell 0) (D3.cell 0)
  have hall := rowsOf_all h.map (placeL s.L key)
  have hN : Z.length - placeL s.L key ≤ 100000 := by rw [h.len]; omega
  have hread := fun (x : Elt Z) (W : World) (g : Below w.heap.size w W) => (show W.cell? ⟨x.1.1, 0, none⟩ = some (.string x.1.2.1) ∧ W.cell? ⟨x.1.1, 1, none⟩ = some (.string x.1.2.2.1) from by
    obtain ⟨i, hi⟩ := List.mem_iff_getElem?.1 x.2
    have hz := (h.below (fun k hk => (h.at_.foot_lt hk).2) g).at_.nd i x.1 hi
    exact ⟨hz.key, hz.val⟩)
  have HR := Lib.hid hread
  have HA := Lib.hid hall
  unfold fromL at hr
  have Hr := Lib.hid hr
  generalize placeL s.L key = pl at *
  generalize Z.length - pl = N at *
  have HN := Lib.hid hN
  clear hread hall hr h hL CF D2 D3 hN
  refine wpIn_rangeFunc_ownF (α := Elt Z) rfl (by decide) (gf := 103) (lb := #[.pointer (some ⟨w.heap.size + 1 + 1, 0, none⟩), .pointer (some ⟨w.heap.size + 1 + 1 + 1, 0, none⟩)]) rfl trivial (enters_of Tryz.func103 (by kernel_rfl) rfl)
    hS belowK_t (belowK_b (by omega)) (Below.refl _ _) (fun _ => rfl)
    (fun pre W => (∃ v, Blk W (w.heap.size + 1) 60 #[v] ∧ Own elKeys W w.heap.size 78 v (rowsOf pre)) ∧ Blk W w.heap.size 3 #[.int .i64 most] ∧ (most < 0 ∨ (pre.length : Int) ≤ most) ∧ Below w.heap.size w W)
    (fun c xs W => c = .exit 0 ∧ ∃ pre x, xs = pre ++ [x] ∧ (pre.length : Int) = most ∧ (∃ v, Blk W (w.heap.size + 1) 60 #[v] ∧ Own elKeys W w.heap.size 78 v (rowsOf pre)) ∧ Below w.heap.size w W)
    (fun pre A C row hs hg hr => by
      obtain ⟨⟨v, h1, h2⟩, h3, h4, h5⟩ := hs
      exact ⟨⟨v, h1.grown hg (blk_row h1 hr), World.ownsRow.kept h2 hg (own_row h2 hr)⟩, h3.grown hg (blk_row h3 hr), h4, h5.grown hg h5.size (fun k hk => by have := (hr k hk).1; omega)⟩)
    (fun c pre A C row hs hg hr => by
      obtain ⟨rfl, pre', x, h1, h2, ⟨v, h3, h4⟩, h5⟩ := hs
      exact ⟨rfl, pre', x, h1, h2, ⟨v, h3.grown hg (blk_row h3 hr), World.ownsRow.kept h4 hg (own_row h4 hr)⟩, h5.grown hg h5.size (fun k hk => by have := (hr k hk).1; omega)⟩)
    ⟨⟨_, D1, World.ownsRow_nil _ _ _ _⟩, D0, by simp; omega, hb4⟩
    (fun x => { tmps := #[.pointer (some ⟨p, 0, none⟩), .string key, .int .i64 most, undef, undef, .pointer (some ⟨w.heap.size, 0, none⟩), .slice none 0 0, .pointer (some ⟨w.heap.size + 1, 0, none⟩), .pointer (some (toA x.1)), .pointer (some ⟨p, 0, none⟩), .string key, .func (.func 103) #[] #[.pointer (some ⟨w.heap.size + 1 + 1, 0, none⟩), .pointer (some ⟨w.heap.size + 1 + 1 + 1, 0, none⟩)], .pointer (some (toA x.1)), undef, undef, undef, undef, undef, undef, undef, undef, undef, undef, undef, undef, undef, undef, undef, undef, undef], defers := [] }) ?assign ?body ?done ?stop
  case assign =>
    intro l x W K hK
    have hsem := @Oper.semAt_some
    gi_wp2
    exact hK
  case body =>
    rintro l pre x W ⟨⟨v, h1, h2⟩, h3, h4, h5⟩ hlt
    have hmx : Tryz.prog.follows .mixedOrders = true := by kernel_rfl
    have hsem := @Oper.semAt_some
    obtain ⟨ao, co, rfl⟩ := h2.slice
    obtain ⟨x0, x1⟩ := HR.out x W h5
    have c7 := h1.cell 0
    have c5 := h3.cell 0
    have f7 := h1.frozen 0
    have hrl : (rowsOf pre).length = pre.length := by unfold rowsOf; rw [List.length_map]
    rw [hrl] at c7
    unfold toA
    by_cases hq : (pre.length : Int) = most
    · have e1 : ((pre.length : Int) == most) = true := beq_iff_eq.2 hq
      gi_wp2
      exact ⟨KeepsOthers.refl _, rfl, pre, x, rfl, hq, ⟨_, h1, h2⟩, h5⟩
    · have e1 : ((pre.length : Int) == most) = false := beq_eq_false_iff_ne.2 hq
      have hlen := HN.out
      have G1 : W.grownBy (W.drew.alloc (.cells #[.string x.1.2.1, .string x.1.2.2.1] 78)) none := gnone (only_drew (grefl W none)) (World.grownBy_alloc _ _ _)
      have h2a : Own elKeys (W.drew.alloc (.cells #[.string x.1.2.1, .string x.1.2.2.1] 78)) w.heap.size 78 (.slice ao (rowsOf pre).length co) (rowsOf pre) := h2.below (below_g G1)
      obtain ⟨v', w2, hr, hown, hgr, _, hblk⟩ := app_own (P := Tryz.prog) elKeys 60 78 (.agg #[.string ⟨#[]⟩, .string ⟨#[]⟩]) 32 underKeys infoKeys rfl (W.drew.alloc (.cells #[.string x.1.2.1, .string x.1.2.2.1] 78)) w.heap.size (.slice ao (rowsOf pre).length co) (rowsOf pre) [(x.1.2.1, x.1.2.2.1)] h2a (some ⟨W.heap.size, 0, none⟩) 1 (fun h => by cases h) (fun a ha j' u hu => by
          cases ha
          rw [El.row_one] at hu
          exact cells_new W.drew 78 [.string x.1.2.1, .string x.1.2.2.1] j' u hu) (by rw [hrl]; unfold maxLen; simp; omega) (by rw [hrl]; simp; omega) (Nat.le_trans h5.size G1.size) 1 rfl
      rw [hrl] at hr hgr hblk h2a
      have hrow : rowsOf pre ++ [(x.1.2.1, x.1.2.2.1)] = rowsOf (pre ++ [x]) := by unfold rowsOf; rw [List.map_append]; rfl
      rw [hrow] at hown
      have k7 : Blk w2 (w.heap.size + 1) 60 #[.slice ao pre.length co] := by
        have := (h1.grown G1 (by simp)).grown hgr (fun e => own_ne_k h2a (h1.grown G1 (by simp)) (by decide) e.symm)
        rw [hrl] at this
        exact this
      have c72 := k7.cell 0
      have f72 := k7.frozen 0
      obtain ⟨g', c', cur', rfl, _, _⟩ := Own.some_ hown (by unfold rowsOf; rw [List.length_map, List.length_append]; simp)
      have hr1 := hr 60
      have c7a : (W.drew.alloc (.cells #[.string x.1.2.1, .string x.1.2.2.1] 78)).cell? ⟨w.heap.size + 1, 0, none⟩ = some (.slice ao pre.length co) := G1.cell c7 (by simp)
      have c7b : (W.alloc (.cells #[.string x.1.2.1, .string x.1.2.2.1] 78)).cell? ⟨w.heap.size + 1, 0, none⟩ = some (.slice ao pre.length co) := c7a
      have kw : KeepsOthers W (w2.setCell ⟨w.heap.size + 1, 0, none⟩ (.slice (some ⟨g', 0, none⟩) (rowsOf (pre ++ [x])).length c')) := ((((KeepsOthers.drew W).trans (KeepsOthers.alloc _ _)).trans (keeps_grown hgr (fun g hg => own_cells h2a hg))).trans (KeepsOthers.setCell _ _ _))
      have bw : Below w.heap.size W (w2.setCell ⟨w.heap.size + 1, 0, none⟩ (.slice (some ⟨g', 0, none⟩) (rowsOf (pre ++ [x])).length c')) := (((below_g G1).mono h5.size).grown hgr (Nat.le_trans h5.size G1.size) (fun k hk => (World.ownsRow.lt h2a k hk).1)).setCell (p := ⟨w.heap.size + 1, 0, none⟩) (by simp) _
      have i1 : Blk (w2.setCell ⟨w.heap.size + 1, 0, none⟩ (.slice (some ⟨g', 0, none⟩) (rowsOf (pre ++ [x])).length c')) (w.heap.size + 1) 60 #[.slice (some ⟨g', 0, none⟩) (rowsOf (pre ++ [x])).length c'] := k7.set_ 0 _
      have i2 : Own elKeys (w2.setCell ⟨w.heap.size + 1, 0, none⟩ (.slice (some ⟨g', 0, none⟩) (rowsOf (pre ++ [x])).length c')) w.heap.size 78 (.slice (some ⟨g', 0, none⟩) (rowsOf (pre ++ [x])).length c') (rowsOf (pre ++ [x])) := World.ownsRow.kept hown (only_setCell (grefl w2 (some (w.heap.size + 1))) (Or.inl rfl) _) (Or.inr (own_ne_k hown k7 (by decide)))
      have i3 : Blk (w2.setCell ⟨w.heap.size + 1, 0, none⟩ (.slice (some ⟨g', 0, none⟩) (rowsOf (pre ++ [x])).length c')) w.heap.size 3 #[.int .i64 most] := ((h3.grown G1 (by simp)).grown hgr (fun e => own_ne_k h2a (h3.grown G1 (by simp)) (by decide) e.symm)).far (p := ⟨w.heap.size + 1, 0, none⟩) (by simp) _
      have i4 : most < 0 ∨ ((pre ++ [x]).length : Int) ≤ most := by rw [List.length_append]; simp; omega
      gi_wp2
      refine wpIn_region_any hmx (wpAny_round (by kernel_rfl) (fun h => ?_) _ _ _ _ ?_)
      · obtain ⟨a9, w9, h9⟩ := h
        exact h9
      change wpAny _ _ _ _ _ _ _ (World.drew _)
      -- REGION 5
      refine wpAny_take (i := 1) (v := .pointer (some ⟨x.1.1, 0, none⟩)) rfl (by kernel_rfl) (by kernel_rfl) (by kernel_rfl) (fun _ _ _ h => h) (Or.inl ⟨by rfl, by intro w; go_simp⟩) ?_
      refine wpAny_take (i := 2) (v := .pointer (some ⟨x.1.1, 0, none⟩)) rfl (by kernel_rfl) (by kernel_rfl) (by kernel_rfl) (fun _ _ _ h => h) (Or.inl ⟨by rfl, by intro w; go_simp⟩) ?_
      refine wpAny_take (i := 3) (v := .pointer (some ⟨x.1.1, 0, none⟩)) rfl (by kernel_rfl) (by kernel_rfl) (by kernel_rfl) (fun _ _ _ h => h) (Or.inl ⟨by rfl, by intro w; go_simp⟩) ?_
      refine wpAny_take (i := 5) (v := .pointer (some ⟨x.1.1, 0, none⟩)) rfl (by kernel_rfl) (by kernel_rfl) (by kernel_rfl) (fun _ _ _ h => h) (Or.inl ⟨by rfl, by intro w; go_simp⟩) ?_
      refine wpAny_take (i := 6) (v := .pointer (some ⟨x.1.1, 0, none⟩)) rfl (by kernel_rfl) (by kernel_rfl) (by kernel_rfl) (fun _ _ _ h => h) (Or.inl ⟨by rfl, by intro w; go_simp⟩) ?_
      refine wpAny_take (i := 7) (v := .pointer (some ⟨x.1.1, 1, none⟩)) rfl (by kernel_rfl) (by kernel_rfl) (by kernel_rfl) (fun _ _ _ h => h) (Or.inl ⟨by rfl, by intro w; go_simp⟩) ?_
      refine wpAny_ready (rs := [0, 4, 8]) (by kernel_rfl) (by simp) ?_
      refine AllReady.cons rfl (fun K hK => ?_) ?_
      · go_simp
        refine hK _ _ ?_
        clear hK K
        refine wpAny_ready (rs := [4, 8]) (by kernel_rfl) (by simp) ?_
        refine AllReady.cons rfl (fun K hK => ?_) ?_
        · go_simp
          refine hK _ _ ?_
          clear hK K
          refine wpAny_ready (rs := [8]) (by kernel_rfl) (by simp) ?_
          refine AllReady.cons rfl (fun K hK => ?_) ?_
          · go_simp
            refine hK _ _ ?_
            clear hK K
            refine wpAny_take (i := 9) (v := .agg #[.string x.1.2.1, .string x.1.2.2.1]) rfl (by kernel_rfl) (by kernel_rfl) (by kernel_rfl) (fun _ _ _ h => h) (Or.inl ⟨by rfl, by intro w; go_simp⟩) ?_
            refine wpAny_ready (rs := [10]) (by kernel_rfl) (by simp) ?_
            refine AllReady.cons rfl (fun K hK => ?_) ?_
            · go_simp
              refine hK _ _ ?_
              clear hK K
              refine wpAny_ready (rs := [11]) (by kernel_rfl) (by simp) ?_
              refine AllReady.cons rfl (fun K hK => ?_) ?_
              · refine step_append_k rfl (.tmp 17) (.tmp 27) 60 rfl _ _ _ rfl rfl hr1 ?_
                refine hK _ _ ?_
                clear hK K
                refine wpAny_ready (rs := [12]) (by kernel_rfl) (by simp) ?_
                refine AllReady.cons rfl (fun K hK => ?_) ?_
                · go_simp
                  refine hK _ _ ?_
                  clear hK K
                  refine wpAny_done (by kernel_rfl) ?_ _
                  exact ⟨kw, bw, ⟨_, i1, i2⟩, i3, i4, h5.trans bw⟩
                exact AllReady.nil
              exact AllReady.nil
            exact AllReady.nil
          exact AllReady.nil
        refine AllReady.cons rfl (fun K hK => ?_) ?_
        · go_simp
          refine hK _ _ ?_
          clear hK K
          refine wpAny_ready (rs := [4]) (by kernel_rfl) (by simp) ?_
          refine AllReady.cons rfl (fun K hK => ?_) ?_
          · go_simp
            refine hK _ _ ?_
            clear hK K
            refine wpAny_take (i := 9) (v := .agg #[.string x.1.2.1, .string x.1.2.2.1]) rfl (by kernel_rfl) (by kernel_rfl) (by kernel_rfl) (fun _ _ _ h => h) (Or.inl ⟨by rfl, by intro w; go_simp⟩) ?_
            refine wpAny_ready (rs := [10]) (by kernel_rfl) (by simp) ?_
            refine AllReady.cons rfl (fun K hK => ?_) ?_
            · go_simp
              refine hK _ _ ?_
              clear hK K
              refine wpAny_ready (rs := [11]) (by kernel_rfl) (by simp) ?_
              refine AllReady.cons rfl (fun K hK => ?_) ?_
              · refine step_append_k rfl (.tmp 17) (.tmp 27) 60 rfl _ _ _ rfl rfl hr1 ?_
                refine hK _ _ ?_
                clear hK K
                refine wpAny_ready (rs := [12]) (by kernel_rfl) (by simp) ?_
                refine AllReady.cons rfl (fun K hK => ?_) ?_
                · go_simp
                  refine hK _ _ ?_
                  clear hK K
                  refine wpAny_done (by kernel_rfl) ?_ _
                  exact ⟨kw, bw, ⟨_, i1, i2⟩, i3, i4, h5.trans bw⟩
                exact AllReady.nil
              exact AllReady.nil
            exact AllReady.nil
          exact AllReady.nil
        exact AllReady.nil
      refine AllReady.cons rfl (fun K hK => ?_) ?_
      · go_simp
        refine hK _ _ ?_
        clear hK K
        refine wpAny_ready (rs := [0, 8]) (by kernel_rfl) (by simp) ?_
        refine AllReady.cons rfl (fun K hK => ?_) ?_
        · go_simp
          refine hK _ _ ?_
          clear hK K
          refine wpAny_ready (rs := [8]) (by kernel_rfl) (by simp) ?_
          refine AllReady.cons rfl (fun K hK => ?_) ?_
          · go_simp
            refine hK _ _ ?_
            clear hK K
            refine wpAny_take (i := 9) (v := .agg #[.string x.1.2.1, .string x.1.2.2.1]) rfl (by kernel_rfl) (by kernel_rfl) (by kernel_rfl) (fun _ _ _ h => h) (Or.inl ⟨by rfl, by intro w; go_simp⟩) ?_
            refine wpAny_ready (rs := [10]) (by kernel_rfl) (by simp) ?_
            refine AllReady.cons rfl (fun K hK => ?_) ?_
            · go_simp
              refine hK _ _ ?_
              clear hK K
              refine wpAny_ready (rs := [11]) (by kernel_rfl) (by simp) ?_
              refine AllReady.cons rfl (fun K hK => ?_) ?_
              · refine step_append_k rfl (.tmp 17) (.tmp 27) 60 rfl _ _ _ rfl rfl hr1 ?_
                refine hK _ _ ?_
                clear hK K
                refine wpAny_ready (rs := [12]) (by kernel_rfl) (by simp) ?_
                refine AllReady.cons rfl (fun K hK => ?_) ?_
                · go_simp
                  refine hK _ _ ?_
                  clear hK K
                  refine wpAny_done (by kernel_rfl) ?_ _
                  exact ⟨kw, bw, ⟨_, i1, i2⟩, i3, i4, h5.trans bw⟩
                exact AllReady.nil
              exact AllReady.nil
            exact AllReady.nil
          exact AllReady.nil
        refine AllReady.cons rfl (fun K hK => ?_) ?_
        · go_simp
          refine hK _ _ ?_
          clear hK K
          refine wpAny_take (i := 9) (v := .agg #[.string x.1.2.1, .string x.1.2.2.1]) rfl (by kernel_rfl) (by kernel_rfl) (by kernel_rfl) (fun _ _ _ h => h) (Or.inl ⟨by rfl, by intro w; go_simp⟩) ?_
          refine wpAny_ready (rs := [0, 10]) (by kernel_rfl) (by simp) ?_
          refine AllReady.cons rfl (fun K hK => ?_) ?_
          · go_simp
            refine hK _ _ ?_
            clear hK K
            refine wpAny_ready (rs := [10]) (by kernel_rfl) (by simp) ?_
            refine AllReady.cons rfl (fun K hK => ?_) ?_
            · go_simp
              refine hK _ _ ?_
              clear hK K
              refine wpAny_ready (rs := [11]) (by kernel_rfl) (by simp) ?_
              refine AllReady.cons rfl (fun K hK => ?_) ?_
              · refine step_append_k rfl (.tmp 17) (.tmp 27) 60 rfl _ _ _ rfl rfl hr1 ?_
                refine hK _ _ ?_
                clear hK K
                refine wpAny_ready (rs := [12]) (by kernel_rfl) (by simp) ?_
                refine AllReady.cons rfl (fun K hK => ?_) ?_
                · go_simp
                  refine hK _ _ ?_
                  clear hK K
                  refine wpAny_done (by kernel_rfl) ?_ _
                  exact ⟨kw, bw, ⟨_, i1, i2⟩, i3, i4, h5.trans bw⟩
                exact AllReady.nil
              exact AllReady.nil
            exact AllReady.nil
          refine AllReady.cons rfl (fun K hK => ?_) ?_
          · go_simp
            refine hK _ _ ?_
            clear hK K
            refine wpAny_ready (rs := [0]) (by kernel_rfl) (by simp) ?_
            refine AllReady.cons rfl (fun K hK => ?_) ?_
            · go_simp
              refine hK _ _ ?_
              clear hK K
              refine wpAny_ready (rs := [11]) (by kernel_rfl) (by simp) ?_
              refine AllReady.cons rfl (fun K hK => ?_) ?_
              · refine step_append_k rfl (.tmp 17) (.tmp 27) 60 rfl _ _ _ rfl rfl hr1 ?_
                refine hK _ _ ?_
                clear hK K
                refine wpAny_ready (rs := [12]) (by kernel_rfl) (by simp) ?_
                refine AllReady.cons rfl (fun K hK => ?_) ?_
                · go_simp
                  refine hK _ _ ?_
                  clear hK K
                  refine wpAny_done (by kernel_rfl) ?_ _
                  exact ⟨kw, bw, ⟨_, i1, i2⟩, i3, i4, h5.trans bw⟩
                exact AllReady.nil
              exact AllReady.nil
            exact AllReady.nil
          exact AllReady.nil
        exact AllReady.nil
      refine AllReady.cons rfl (fun K hK => ?_) ?_
      · go_simp
        refine hK _ _ ?_
        clear hK K
        refine wpAny_ready (rs := [0, 4]) (by kernel_rfl) (by simp) ?_
        refine AllReady.cons rfl (fun K hK => ?_) ?_
        · go_simp
          refine hK _ _ ?_
          clear hK K
          refine wpAny_ready (rs := [4]) (by kernel_rfl) (by simp) ?_
          refine AllReady.cons rfl (fun K hK => ?_) ?_
          · go_simp
            refine hK _ _ ?_
            clear hK K
            refine wpAny_take (i := 9) (v := .agg #[.string x.1.2.1, .string x.1.2.2.1]) rfl (by kernel_rfl) (by kernel_rfl) (by kernel_rfl) (fun _ _ _ h => h) (Or.inl ⟨by rfl, by intro w; go_simp⟩) ?_
            refine wpAny_ready (rs := [10]) (by kernel_rfl) (by simp) ?_
            refine AllReady.cons rfl (fun K hK => ?_) ?_
            · go_simp
              refine hK _ _ ?_
              clear hK K
              refine wpAny_ready (rs := [11]) (by kernel_rfl) (by simp) ?_
              refine AllReady.cons rfl (fun K hK => ?_) ?_
              · refine step_append_k rfl (.tmp 17) (.tmp 27) 60 rfl _ _ _ rfl rfl hr1 ?_
                refine hK _ _ ?_
                clear hK K
                refine wpAny_ready (rs := [12]) (by kernel_rfl) (by simp) ?_
                refine AllReady.cons rfl (fun K hK => ?_) ?_
                · go_simp
                  refine hK _ _ ?_
                  clear hK K
                  refine wpAny_done (by kernel_rfl) ?_ _
                  exact ⟨kw, bw, ⟨_, i1, i2⟩, i3, i4, h5.trans bw⟩
                exact AllReady.nil
              exact AllReady.nil
            exact AllReady.nil
          exact AllReady.nil
        refine AllReady.cons rfl (fun K hK => ?_) ?_
        · go_simp
          refine hK _ _ ?_
          clear hK K
          refine wpAny_take (i := 9) (v := .agg #[.string x.1.2.1, .string x.1.2.2.1]) rfl (by kernel_rfl) (by kernel_rfl) (by kernel_rfl) (fun _ _ _ h => h) (Or.inl ⟨by rfl, by intro w; go_simp⟩) ?_
          refine wpAny_ready (rs := [0, 10]) (by kernel_rfl) (by simp) ?_
          refine AllReady.cons rfl (fun K hK => ?_) ?_
          · go_simp
            refine hK _ _ ?_
            clear hK K
            refine wpAny_ready (rs := [10]) (by kernel_rfl) (by simp) ?_
            refine AllReady.cons rfl (fun K hK => ?_) ?_
            · go_simp
              refine hK _ _ ?_
              clear hK K
              refine wpAny_ready (rs := [11]) (by kernel_rfl) (by simp) ?_
              refine AllReady.cons rfl (fun K hK => ?_) ?_
              · refine step_append_k rfl (.tmp 17) (.tmp 27) 60 rfl _ _ _ rfl rfl hr1 ?_
                refine hK _ _ ?_
                clear hK K
                refine wpAny_ready (rs := [12]) (by kernel_rfl) (by simp) ?_
                refine AllReady.cons rfl (fun K hK => ?_) ?_
                · go_simp
                  refine hK _ _ ?_
                  clear hK K
                  refine wpAny_done (by kernel_rfl) ?_ _
                  exact ⟨kw, bw, ⟨_, i1, i2⟩, i3, i4, h5.trans bw⟩
                exact AllReady.nil
              exact AllReady.nil
            exact AllReady.nil
          refine AllReady.cons rfl (fun K hK => ?_) ?_
          · go_simp
            refine hK _ _ ?_
            clear hK K
            refine wpAny_ready (rs := [0]) (by kernel_rfl) (by simp) ?_
            refine AllReady.cons rfl (fun K hK => ?_) ?_
            · go_simp
              refine hK _ _ ?_
              clear hK K
              refine wpAny_ready (rs := [11]) (by kernel_rfl) (by simp) ?_
              refine AllReady.cons rfl (fun K hK => ?_) ?_
              · refine step_append_k rfl (.tmp 17) (.tmp 27) 60 rfl _ _ _ rfl rfl hr1 ?_
                refine hK _ _ ?_
                clear hK K
                refine wpAny_ready (rs := [12]) (by kernel_rfl) (by simp) ?_
                refine AllReady.cons rfl (fun K hK => ?_) ?_
                · go_simp
                  refine hK _ _ ?_
                  clear hK K
                  refine wpAny_done (by kernel_rfl) ?_ _
                  exact ⟨kw, bw, ⟨_, i1, i2⟩, i3, i4, h5.trans bw⟩
                exact AllReady.nil
              exact AllReady.nil
            exact AllReady.nil
          exact AllReady.nil
        exact AllReady.nil
      exact AllReady.nil
      -- END
  case done =>
    rintro D xs W hD rfl ⟨⟨v, h1, h2⟩, h3, h4, h5⟩ hK
    have hc := h1.cell 0
    have e1 : rowsOf (eltsFrom Z pl) = r := by
      have h6 := Hr.out
      rw [HA.out]
      by_cases z : most < 0
      · rw [if_pos z] at h6
        exact h6
      · rw [if_neg z] at h6
        rw [← h6, List.take_of_length_le]
        rw [← HA.out]
        unfold rowsOf
        rw [List.length_map]
        omega
    rw [e1] at h2
    obtain ⟨av, cv, rfl⟩ := h2.slice
    gi_wp2
    refine ⟨by simp, .inl ⟨_, _, rfl, run_takeDeferred hK, ?_⟩⟩
    exact ⟨_, results_tmp rfl _ _ _, .slice av r.length cv, rfl, ownsRow_putObj h2 _ hK rfl, g_below (h5.trans (belowK_b (w := w) (Nat.le_refl _) W D _ _ (by omega) hK rfl rfl))⟩
  case stop =>
    rintro D c xs W hD hpre ⟨rfl, pre, x, rfl, hq, ⟨v, h1, h2⟩, h5⟩ hK
    have hc := h1.cell 0
    have e1 : rowsOf pre = r := by
      have h6 := Hr.out
      rw [if_neg (by omega)] at h6
      have h7 : pre <+: eltsFrom Z pl := (List.prefix_append pre [x]).trans hpre
      rw [← h6, ← HA.out, show most.toNat = pre.length by omega]
      conv => lhs; rw [List.prefix_iff_eq_take.1 h7]
      unfold rowsOf
      rw [List.map_take]
    rw [e1] at h2
    obtain ⟨av, cv, rfl⟩ := h2.slice
    gi_wp2
    refine ⟨by simp, .inl ⟨_, _, rfl, run_takeDeferred hK, ?_⟩⟩
    exact ⟨_, results_tmp rfl _ _ _, .slice av r.length cv, rfl, ownsRow_putObj h2 _ hK rfl, g_below (h5.trans (belowK_b (w := w) (Nat.le_refl _) W D _ _ (by omega) hK rfl rfl))⟩
end Go.Proofs.YtmagkkkecihgmaaGreat
