/-
  The book of lists, vectors: rows that are apart; marks are put into them.
-/
import Derived.Test.YtalacionlbmcpaaGreatDoorBook4
namespace Go.Proofs.YtalacionlbmcpaaGreatDoor
open Go.RowKit

theorem getD_set_self (zs : List Int) (j : Nat) (x : Int) (hj : j < zs.length) : (zs.set j x).getD j 0 = x := by
  rw [List.getD_eq_getElem?_getD, List.getElem?_set_self hj]; rfl
theorem getD_set_ne (zs : List Int) (i j : Nat) (x : Int) (h : i ≠ j) : (zs.set i x).getD j 0 = zs.getD j 0 := by
  rw [List.getD_eq_getElem?_getD, List.getElem?_set_ne h, ← List.getD_eq_getElem?_getD]
theorem markV_getD (i n j : Nat) (hj : j < n) : (markV i 0 n).getD j 0 = -1000000 * (i : Int) - (j : Int) - 9 := by
  unfold markV
  rw [List.getD_eq_getElem?_getD, List.getElem?_map, List.getElem?_range hj]
  simp

/-- m rows of numbers, apart. -/
structure Rws (w : World) (B m : Nat) (a : Nat → Value) (F : Nat → List Int) : Prop where
  each : ∀ i, i < m → Nums w B 3 (a i) (F i)
  apart : ∀ i j, i < m → j < m → i ≠ j → Off (a i) (a j)

theorem VBook.set_int {w : World} {B bk : Nat} {v1 v2 : Value} {L C : List Value} (h : VBook w B bk v1 v2 L C) {g : Nat} {cs : Array Value} {fr : Nat × Nat} (hg : w.heap[g]? = some (.cells cs 3 fr)) (j : Nat) (u : Value) :
    VBook (w.setCell ⟨g, j, none⟩ u) B bk v1 v2 L C := by
  have key : ∀ v n xs, w.ownsRow B 22 1 v n xs → v.ownBlock ≠ some g := by
    intro v n xs h hv
    rcases h.2 with ⟨rfl, _⟩ | ⟨g', cap, cur, rfl, _, hh, _⟩
    · simp [Value.ownBlock] at hv
    · simp [Value.ownBlock] at hv
      subst hv
      rw [hg] at hh
      injection hh with hh
      injection hh with _ h2
      exact absurd h2 (by decide)
  have hbk : bk ≠ g := by
    rintro rfl
    have hb := h.blk
    unfold Blk at hb
    rw [hg] at hb
    injection hb with hb
    injection hb with _ h2
    exact absurd h2 (by decide)
  exact ⟨h.low, h.blk.far (p := ⟨g, j, none⟩) hbk u, ownsRow_setCell_other h.r1 (key _ _ _ h.r1) u, ownsRow_setCell_other h.r2 (key _ _ _ h.r2) u, h.off⟩

theorem nums_block {w : World} {B : Nat} {g n c : Nat} {zs : List Int} (h : Nums w B 3 (.slice (some ⟨g, 0, none⟩) n c) zs) : ∃ cs, B ≤ g ∧ n = zs.length ∧ w.heap[g]? = some (.cells cs 3 (0, 0)) := by
  rcases h.2 with ⟨h', _⟩ | ⟨g', cap, cur, h', hb, hh, _⟩
  · simp at h'
  · simp only [Value.slice.injEq, Option.some.injEq, Addr.mk.injEq, and_true, true_and] at h'
    obtain ⟨rfl, rfl, _⟩ := h'
    exact ⟨cur, hb, rfl, hh⟩

theorem nums_some {w : World} {B : Nat} {v : Value} {zs : List Int} {e : TypeId} (h : Nums w B e v zs) (hn : 0 < zs.length) : ∃ g c, v = .slice (some ⟨g, 0, none⟩) zs.length c := by
  rcases h.2 with ⟨_, h0⟩ | ⟨g, cap, cur, hv, _⟩
  · omega
  · exact ⟨g, cap, hv⟩

/-- One number stored into one of the rows. -/
theorem put_step {w : World} {B bk m : Nat} {v1 v2 : Value} {L C : List Value} {a : Nat → Value} {F : Nat → List Int} {k g n c j S : Nat} {x : Int} {v : Value} {zs : List Int}
    (hV : VBook w B bk v1 v2 L C) (hR : Rws w B m a F) (hk : k < m) (hg : a k = .slice (some ⟨g, 0, none⟩) n c) (hN : Nums w S 3 v zs) (hS : g < S) :
    VBook (w.setCell ⟨g, j, none⟩ (.int .i64 x)) B bk v1 v2 L C ∧ Rws (w.setCell ⟨g, j, none⟩ (.int .i64 x)) B m a (fun i => if i = k then (F k).set j x else F i)
      ∧ Nums (w.setCell ⟨g, j, none⟩ (.int .i64 x)) S 3 v zs ∧ Below B w (w.setCell ⟨g, j, none⟩ (.int .i64 x)) := by
  have hr := hR.each k hk
  rw [hg] at hr
  obtain ⟨cs, hb, hn, hh⟩ := nums_block hr
  subst hn
  refine ⟨hV.set_int hh j _, ⟨fun i hi => ?_, hR.apart⟩, ?_, below_setCell (Below.refl B w) hb _⟩
  · by_cases hik : i = k
    · subst hik
      simp only [if_true]
      rw [hg]
      have := (World.ownsRow.stored (show w.ownsRow B 3 1 _ _ _ from hr) j (.int .i64 x)).1
      unfold Nums
      rw [List.length_set, List.map_set]
      exact this
    · simp only [if_neg hik]
      refine ownsRow_setCell_other (hR.each i hi) ?_ _
      intro h
      exact hR.apart i k hi hk hik g h (by rw [hg]; rfl)
  · refine ownsRow_setCell_other hN ?_ _
    intro h
    have := (hN.lt_ h).1
    dsimp only at this
    omega

theorem Rws.below {w w' : World} {B m : Nat} {a : Nat → Value} {F : Nat → List Int} (h : Rws w B m a F) {B' : Nat} (hb : Below B' w w') (hB : w.heap.size ≤ B') : Rws w' B m a F := ⟨fun i hi => (h.each i hi).below hb hB, h.apart⟩

set_option maxRecDepth 100000 in
set_option maxHeartbeats 4000000 in
theorem putVecs_any (B bk m : Nat) (v1 v2 : Value) (L C : List Value) (a : Nat → Value) (F : Nat → List Int) (w : World) (hV : VBook w B bk v1 v2 L C) (hLm : L.length = m) (hA : ∀ i, i < m → L[i]? = some (a i)) (hR : Rws w B m a F) (hn : ∀ i, i < m → (F i).length ≤ 100000) (hm : m ≤ 250) (hB : B ≤ w.heap.size) :
    Calls Tryz.prog 72 #[.pointer (some ⟨bk, 0, none⟩)] w fun e w' => e = .returned (.tuple #[]) ∧ VBook w' B bk v1 v2 L C ∧ Rws w' B m a (fun i => markV i 0 (F i).length) ∧ Below B w w' := by
  have HV := Lib.hid hV
  have HR := Lib.hid hR
  have HA := Lib.hid hA
  have Hn := Lib.hid hn
  obtain ⟨a1, p1, e1⟩ := own_slice hV.r1
  rw [hLm] at e1
  have E1 := Lib.hid e1
  have HLm := Lib.hid hLm
  have hm' : (m : Int) ≤ 250 := by omega
  clear hV hR hA hn e1 hLm
  go_enter Tryz.func72, Tryz.ntmps72
  go_wp2_with fail
  go_loopw [2] (fun i wr => ∃ k : Nat, ∃ G : Nat → List Int, k ≤ m ∧ i = .int .i64 (k : Int) ∧ Hid (VBook wr B bk v1 v2 L C) ∧ Hid (Rws wr B m a G ∧ (∀ i, i < m → (G i).length = (F i).length) ∧ ∀ i, i < k → G i = markV i 0 (F i).length) ∧ Hid (Below B w wr)) (fun i _ => m - (intOf i).toNat)
  case atStart => exact ⟨0, F, by omega, rfl, HV.out, ⟨HR.out, fun _ _ => rfl, fun i hi => absurd hi (by omega)⟩, Below.refl _ _⟩
  case round =>
    obtain ⟨k, G, hk, rfl, HV1, HR1, HB1⟩ := hrel
    have d4 := HV1.out.blk.cell 4
    simp [bookV, E1.out] at d4
    by_cases hl : k < m
    · obtain ⟨g1, o1, q1, f1, _, r1⟩ := own_cells HV1.out.r1 (by rw [HLm.out]; omega)
      have s1 := r1 k _ (HA.out k hl)
      rw [E1.out, HLm.out] at f1
      injection f1 with f11 f12 f13
      subst f11
      obtain ⟨nk, hnk⟩ : ∃ n, (F k).length = n := ⟨_, rfl⟩
      have hnk2 := Hn.out k hl
      rw [hnk] at hnk2
      have hrow := HR1.out.1.each k hl
      have hGk := HR1.out.2.1 k hl
      rw [hnk] at hGk
      obtain ⟨ak, ck, ek⟩ := own_slice hrow
      rw [hGk] at ek
      have s1' := s1
      rw [ek] at s1'
      have Hnk := Lib.hid hnk
      have Ek := Lib.hid ek
      have HGk := Lib.hid hGk
      have hl1 : (k : Int) < (m : Int) := by omega
      have hnk3 : (nk : Int) ≤ 100000 := by omega
      have M : Hid (Calls Tryz.prog 137 #[.int .i64 (k : Int), .int .i64 0, .int .i64 (nk : Int)] wr fun e w' => ∃ v, e = .returned v ∧ Nums w' wr.heap.size 3 v (markV k 0 nk) ∧ Below wr.heap.size wr w') :=
        markVecs_any k 0 nk wr (by omega) (by omega)
      have HG : Hid (∀ g, (Value.slice ak nk ck).ownBlock = some g → g < wr.heap.size) := fun g hg => (hrow.lt_ (by rw [Ek.out]; exact hg)).2
      obtain ⟨S1, hS⟩ : ∃ S, wr.heap.size = S := ⟨_, rfl⟩
      rw [hS] at M HG
      have HS := Lib.hid hS
      clear r1 f12 f13 hnk hrow hGk ek s1 hS
      go_wp2_with (first | (go_at_call 137; refine M.out.mono ?_; rintro e w1 ⟨v, rfl, hN, hb⟩))
      obtain ⟨av, cv, ev⟩ := own_slice hN
      rw [markV_length] at ev
      subst ev
      have HN := Lib.hid hN
      have HV2 := Lib.hid (HV1.out.below hb (Nat.le_of_eq HS.out))
      have HR2 := Lib.hid (HR1.out.1.below hb (Nat.le_of_eq HS.out))
      have HB2 := Lib.hid (HB1.out.trans (hb.mono (HS.out ▸ Nat.le_trans hB HB1.out.size)))
      clear hN hb
      go_wp2_with fail
      go_loopw [4] (fun i wr' => ∃ j : Nat, ∃ G' : Nat → List Int, j ≤ nk ∧ i = .int .i64 (j : Int) ∧ Hid (VBook wr' B bk v1 v2 L C) ∧ Hid (Rws wr' B m a G' ∧ (∀ i, i < m → (G' i).length = (F i).length) ∧ (∀ i, i < k → G' i = markV i 0 (F i).length) ∧ ∀ t, t < j → (G' k).getD t 0 = (markV k 0 nk).getD t 0) ∧ Hid (Nums wr' S1 3 (.slice av nk cv) (markV k 0 nk)) ∧ Hid (Below B w wr')) (fun i _ => nk - (intOf i).toNat)
      case atStart => exact ⟨0, G, by omega, rfl, HV2.out, ⟨HR2.out, HR1.out.2.1, HR1.out.2.2, fun t ht => absurd ht (by omega)⟩, HN.out, HB2.out⟩
      case round =>
        obtain ⟨j, G', hj, rfl, HV3, HR3, HN3, HB3⟩ := hrel
        by_cases hlj : j < nk
        · obtain ⟨g1', o1', p1', f1', _, r1'⟩ := own_cells HV3.out.r1 (by rw [HLm.out]; omega)
          have s2 := r1' k _ (HA.out k hl)
          rw [E1.out, HLm.out] at f1'
          simp only [Value.slice.injEq, Option.some.injEq, Addr.mk.injEq, and_true, true_and] at f1'
          obtain ⟨⟨rfl, rfl⟩, _⟩ := f1'
          rw [Ek.out] at s2
          have d5 := HV3.out.blk.cell 4
          simp [bookV, E1.out] at d5
          obtain ⟨gk, ck', ek'⟩ := nums_some (HR3.out.1.each k hl) (by rw [HR3.out.2.1 k hl, Hnk.out]; omega)
          rw [Ek.out] at ek'
          injection ek' with ek1 _ _
          subst ek1
          have hrow : wr.ownsRow B 3 1 (.slice (some ⟨gk, 0, none⟩) nk ck) nk ((G' k).map (Value.int .i64)) := by
            have := HR3.out.1.each k hl
            unfold Nums at this
            rw [Ek.out, HR3.out.2.1 k hl, Hnk.out] at this
            exact this
          have hfz := hrow.frozenAt j
          have hce := hrow.cellAt j (by omega)
          obtain ⟨old, ho⟩ : ∃ x, ((G' k).map (Value.int .i64))[j]? = some x := ⟨_, List.getElem?_eq_getElem (by rw [List.length_map, HR3.out.2.1 k hl, Hnk.out]; exact hlj)⟩
          rw [ho] at hce
          obtain ⟨gv, cv', ev'⟩ := nums_some HN3.out (by rw [markV_length]; omega)
          injection ev' with ev1 _ _
          subst ev1
          obtain ⟨x, hx⟩ : ∃ x, (markV k 0 nk).getD j 0 = x := ⟨_, rfl⟩
          have hsrc : wr.cell? ⟨gv, j, none⟩ = some (.int .i64 x) := by
            have h := HN3.out
            unfold Nums at h
            rw [markV_length] at h
            rw [World.ownsRow.cellAt h j (by omega), List.getElem?_map, List.getElem?_eq_getElem (by rw [markV_length]; exact hlj)]
            rw [← hx, List.getD_eq_getElem?_getD, List.getElem?_eq_getElem (by rw [markV_length]; exact hlj)]
            rfl
          have hgS : gk < S1 := HG.out gk rfl
          have ST := Lib.hid (put_step (j := j) (x := x) HV3.out HR3.out.1 hl Ek.out HN3.out hgS)
          have Hx := Lib.hid hx
          have hlj1 : (j : Int) < (nk : Int) := by omega
          clear hrow r1' ho hx hgS
          go_wp2_with fail
          go_region
          go_wp2_with fail
          go_roundw
          case rel =>
            refine ⟨j + 1, fun i => if i = k then (G' k).set j x else G' i, by omega, by go_num, ST.out.1.drewN 1, ⟨⟨ST.out.2.1.each, ST.out.2.1.apart⟩, fun i hi => ?_, fun i hi => ?_, fun t ht => ?_⟩, ST.out.2.2.1, (HB3.out.trans ST.out.2.2.2).drew⟩
            · dsimp only
              split
              · next h => rw [List.length_set, ← h]; exact HR3.out.2.1 i hi
              · exact HR3.out.2.1 i hi
            · dsimp only
              rw [if_neg (by omega)]
              exact HR3.out.2.2.1 i hi
            · dsimp only
              rw [if_pos rfl]
              by_cases htj : t = j
              · subst htj
                rw [getD_set_self _ _ _ (by rw [HR3.out.2.1 k hl, Hnk.out]; exact hlj), Hx.out]
              · rw [getD_set_ne _ _ _ _ (fun h => htj h.symm)]
                exact HR3.out.2.2.2 t (by omega)
          case measure => simp [intOf]; omega
        · obtain rfl : j = nk := by omega
          go_wp2_with fail
          go_roundw
          case rel =>
            refine ⟨k + 1, G', by omega, by go_num, HV3.out, ⟨HR3.out.1, HR3.out.2.1, fun i hi => ?_⟩, HB3.out⟩
            by_cases hik : i = k
            · subst hik
              rw [Hnk.out]
              exact list_ext_getD (by rw [HR3.out.2.1 i hl, Hnk.out, markV_length]) (fun t ht => HR3.out.2.2.2 t (by rw [HR3.out.2.1 i hl, Hnk.out] at ht; exact ht))
            · exact HR3.out.2.2.1 i (by omega)
          case measure => simp [intOf]; omega
    · obtain rfl : k = m := by omega
      go_wp2_with fail
      go_end0
      exact ⟨rfl, HV1.out, ⟨fun i hi => by rw [← HR1.out.2.2 i hi]; exact HR1.out.1.each i hi, HR1.out.1.apart⟩, HB1.out⟩
end Go.Proofs.YtalacionlbmcpaaGreatDoor
