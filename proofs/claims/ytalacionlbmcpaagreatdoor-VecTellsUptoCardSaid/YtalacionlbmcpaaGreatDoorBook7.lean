/-
  The book of lists, vectors: all are grown.
-/
import Derived.Test.YtalacionlbmcpaaGreatDoorBook6
namespace Go.Proofs.YtalacionlbmcpaaGreatDoor
open Go.RowKit

theorem slice_cells {w : World} {B g n c : Nat} {e : TypeId} {xs : List Value} (h : w.ownsRow B e 1 (.slice (some ⟨g, 0, none⟩) n c) n xs) : ∀ j u, xs[j]? = some u → w.cell? ((⟨g, 0, none⟩ : Addr).add j) = some u := World.ownsRow.cells h rfl
theorem one_cell_map (zs : List Int) : ∀ u ∈ zs.map (Value.int .i64), u.oneCell' = true := by
  intro u hu
  obtain ⟨x, _, rfl⟩ := List.mem_map.1 hu
  rfl

theorem own_below {w w' : World} {B : Nat} {e : TypeId} {v : Value} {n : Nat} {xs : List Value} (h : w.ownsRow B e 1 v n xs) {B' : Nat} (hb : Below B' w w') (hB : w.heap.size ≤ B') : w'.ownsRow B e 1 v n xs := by
  refine ⟨h.1, ?_⟩
  rcases h.2 with hn | ⟨g, cap, cur, hv, hg, hh, r⟩
  · exact Or.inl hn
  · exact Or.inr ⟨g, cap, cur, hv, hg, (hb.block g (Nat.lt_of_lt_of_le (Array.getElem?_eq_some_iff.1 hh).1 hB)).trans hh, r⟩
theorem grow_step {w w' : World} {B m k N p : Nat} {a b : Nat → Value} {F H : Nat → List Int} {l l' : Value} (h : Fam w B m a (upd b k l) F (upd H k (markV k 0 N))) (hk : k < m)
    (hown : w'.ownsRow B 3 1 l' (N + p) ((markV k 0 N).map (Value.int .i64) ++ (markV k N p).map (Value.int .i64))) (hgr : w.grownBy w' l.ownBlock)
    (hold : w'.ownsRow B 3 1 l N ((markV k 0 N).map (Value.int .i64))) (hblk : l'.ownBlock = l.ownBlock ∨ ∀ g, l'.ownBlock = some g → w.heap.size ≤ g) :
    Fam w' B m a (upd b k l') F (upd H k (markV k 0 (N + p))) := by
  have := Fam.append h hk (v' := l') (zs := markV k N p) (p := p) (markV_length _ _ _) (by rw [upd_at, markV_length]; exact hown) (by rw [upd_at]; exact hgr) (by rw [upd_at, upd_at, markV_length]; exact hold) (by rw [upd_at]; exact hblk)
  rw [upd_upd, upd_upd, upd_at] at this
  have e := markV_append k 0 N p
  rw [Nat.zero_add] at e
  rw [e] at this
  exact this
theorem range_upd (b : Nat → Value) (k : Nat) (x : Value) : (List.range k).map b ++ [x] = (List.range (k + 1)).map (upd b k x) := by
  rw [List.range_succ, List.map_append, List.map_singleton, upd_at]
  congr 1
  refine List.map_congr_left fun i hi => ?_
  rw [upd_ne]
  have := List.mem_range.1 hi
  omega
theorem grown_low {w w' w'' : World} {B B2 : Nat} {e : TypeId} {v : Value} {n : Nat} {xs : List Value} (h : Below B w w') (hB : B ≤ w.heap.size) (hBB : B ≤ B2) (hown : w'.ownsRow B2 e 1 v n xs) (hgr : w'.grownBy w'' v.ownBlock) : Below B w w'' :=
  h.grown hgr (Nat.le_trans hB h.size) (fun k hk => Nat.le_trans hBB (World.ownsRow.lt hown k hk).1)
theorem grown_below {w w' w'' : World} {B : Nat} {e : TypeId} {v : Value} {n : Nat} {xs : List Value} (h : Below B w w') (hB : B ≤ w.heap.size) (hown : w'.ownsRow B e 1 v n xs) (hgr : w'.grownBy w'' v.ownBlock) : Below B w w'' :=
  h.grown hgr (Nat.le_trans hB h.size) (fun k hk => (World.ownsRow.lt hown k hk).1)

set_option maxRecDepth 100000 in
/-- Marks are made: all else is as it was. -/
theorem marks_at {w wr : World} {B S bk m k N p : Nat} {v1 v2 l o : Value} {L C : List Value} {a b : Nat → Value} {F H : Nat → List Int} {ox : List Value} {on : Nat} (hB : B ≤ w.heap.size)
    (hrow : wr.ownsRow B 3 1 l N ((markV k 0 N).map (Value.int .i64))) (hF : Fam wr B m a b F H) (hV : VBook wr B bk v1 v2 L C) (hO : wr.ownsRow S 22 1 o on ox) (hb : Below B w wr) (hk : k ≤ 1000) (hN : N + (p + 1) ≤ 1000000) :
    Calls Tryz.prog 137 #[.int .i64 (k : Int), .int .i64 (N : Int), .int .i64 ((p + 1 : Nat) : Int)] wr fun e w1 => ∃ gv cv, e = .returned (.slice (some ⟨gv, 0, none⟩) (p + 1) cv) ∧ Hid (∀ j u, ((markV k N (p + 1)).map (Value.int .i64))[j]? = some u → w1.cell? ((⟨gv, 0, none⟩ : Addr).add j) = some u)
      ∧ Hid (w1.ownsRow B 3 1 l N ((markV k 0 N).map (Value.int .i64))) ∧ Hid (Fam w1 B m a b F H) ∧ Hid (VBook w1 B bk v1 v2 L C) ∧ Hid (w1.ownsRow S 22 1 o on ox) ∧ Hid (Below B w w1) ∧ B ≤ w1.heap.size ∧ wr.heap.size ≤ w1.heap.size := by
  refine (markVecs_any k N (p + 1) wr hk hN).mono ?_
  rintro e w1 ⟨v, rfl, hNm, hbb⟩
  obtain ⟨gv, cv, ev⟩ := nums_some hNm (by rw [markV_length]; omega)
  rw [markV_length] at ev
  subst ev
  unfold Nums at hNm
  rw [markV_length] at hNm
  have hBw : B ≤ wr.heap.size := Nat.le_trans hB hb.size
  exact ⟨gv, cv, rfl, slice_cells hNm, own_below hrow hbb (Nat.le_refl _), hF.keep (KeepT.of_below hbb (Nat.le_refl _)), hV.below hbb (Nat.le_refl _), own_below hO hbb (Nat.le_refl _), hb.trans (hbb.mono hBw), Nat.le_trans hBw hbb.size, hbb.size⟩

set_option maxRecDepth 100000 in
set_option maxHeartbeats 4000000 in
theorem growVecs_any (B bk m : Nat) (v1 v2 : Value) (L C : List Value) (a : Nat → Value) (n : Nat → Nat) (w : World) (hV : VBook w B bk v1 v2 L C) (hLm : L.length = m) (hA : ∀ i, i < m → L[i]? = some (a i)) (hR : Rws w B m a (fun i => markV i 0 (n i))) (hn : ∀ i, i < m → n i ≤ 100000) (hm : m ≤ 250) (hB : B ≤ w.heap.size) :
    Calls Tryz.prog 82 #[.pointer (some ⟨bk, 0, none⟩)] w fun e w' => ∃ v b, e = .returned v ∧ w'.ownsRow w.heap.size 22 1 v m ((List.range m).map b) ∧ VBook w' B bk v1 v2 L C ∧ Fam w' B m a b (fun i => markV i 0 (n i)) (fun i => if i < m then markV i 0 (n i + 72) else markV i 0 (n i)) ∧ Below B w w' := by
  obtain ⟨i0, hi0, hz0, hz1, hz2⟩ := info_parts i64info
  obtain ⟨i1, ji0, jz0, jz1, jz2⟩ := info_parts sliceinfo
  have HV := Lib.hid hV
  have HR := Lib.hid hR
  have HA := Lib.hid hA
  have Hn := Lib.hid hn
  obtain ⟨a1, p1, e1⟩ := own_slice hV.r1
  rw [hLm] at e1
  have E1 := Lib.hid e1
  have HLm := Lib.hid hLm
  obtain ⟨S, hS⟩ : ∃ S, w.heap.size = S := ⟨_, rfl⟩
  have HO : Hid ((∀ g, v1.ownBlock = some g → g < S) ∧ (∀ g, v2.ownBlock = some g → g < S) ∧ bk < S) := by
    refine ⟨fun g hg => ?_, fun g hg => ?_, ?_⟩
    · rw [← hS]; exact (World.ownsRow.lt hV.r1 g hg).2
    · rw [← hS]; exact (World.ownsRow.lt hV.r2 g hg).2
    · rw [← hS]; exact hV.blk.lt
  have hm' : (m : Int) ≤ 250 := by omega
  have HS := Lib.hid hS
  have HBS : Hid (B ≤ S) := hS ▸ hB
  rw [hS]
  clear hV hR hA hn e1 hLm hS
  go_enter Tryz.func82, Tryz.ntmps82
  go_wp2_with fail
  go_loopw [3, 4] (fun o i wr => ∃ k : Nat, ∃ b : Nat → Value, ∃ H : Nat → List Int, k ≤ m ∧ i = .int .i64 (k : Int) ∧ Hid (wr.ownsRow S 22 1 o k ((List.range k).map b)) ∧ Hid (VBook wr B bk v1 v2 L C) ∧ Hid (Fam wr B m a b (fun i => markV i 0 (n i)) H ∧ (∀ i, i < k → H i = markV i 0 (n i + 72)) ∧ ∀ i, k ≤ i → b i = a i ∧ H i = markV i 0 (n i)) ∧ Hid (Below B w wr)) (fun _ i _ => m - (intOf i).toNat)
  case atStart => exact ⟨0, a, _, by omega, rfl, World.ownsRow_nil _ _ _ _, HV.out, ⟨Fam.start HR.out, fun i hi => absurd hi (by omega), fun i _ => ⟨rfl, rfl⟩⟩, Below.refl _ _⟩
  case round =>
    obtain ⟨k, b, H, hk, rfl, HO1, HV1, HF1, HB1⟩ := hrel
    obtain ⟨ao, co, eo⟩ := own_slice HO1.out
    subst eo
    have d4 := HV1.out.blk.cell 4
    simp [bookV, E1.out] at d4
    by_cases hl : k < m
    · obtain ⟨g1, o1, q1, f1, _, r1⟩ := own_cells HV1.out.r1 (by rw [HLm.out]; omega)
      have s1 := r1 k _ (HA.out k hl)
      rw [E1.out, HLm.out] at f1
      injection f1 with f11 f12 f13
      subst f11
      obtain ⟨nk, hnk⟩ : ∃ x, n k = x := ⟨_, rfl⟩
      have hnk2 := Hn.out k hl
      rw [hnk] at hnk2
      obtain ⟨ak, ck, ek⟩ := own_slice (HF1.out.1.ra k hl)
      rw [markV_length, hnk] at ek
      rw [ek] at s1
      have Hnk := Lib.hid hnk
      have Ek := Lib.hid ek
      have hl1 : (k : Int) < (m : Int) := by omega
      have hnk3 : (nk : Int) ≤ 100000 := by omega
      have HF2 : Hid (Fam wr B m a (upd b k (.slice ak nk ck)) (fun i => markV i 0 (n i)) (upd H k (markV k 0 (nk + 0)))) := by
        unfold Hid
        rw [upd_self b k _ (by rw [(HF1.out.2.2 k (Nat.le_refl _)).1, ek]), upd_self H k _ (by rw [(HF1.out.2.2 k (Nat.le_refl _)).2, hnk]; rfl)]
        exact HF1.out.1
      clear r1 f12 f13 hnk ek
      go_wp2_with fail
      go_loopw [5, 6] (fun l t wr' => ∃ j : Nat, j ≤ 12 ∧ t = .int .i64 (j : Int) ∧ Hid (wr'.ownsRow S 22 1 (.slice ao k co) k ((List.range k).map b)) ∧ Hid (VBook wr' B bk v1 v2 L C) ∧ Hid (Fam wr' B m a (upd b k l) (fun i => markV i 0 (n i)) (upd H k (markV k 0 (nk + j)))) ∧ Hid (Below B w wr')) (fun _ t _ => 12 - (intOf t).toNat)
      case atStart => exact ⟨0, by omega, rfl, HO1.out, HV1.out, HF2.out, HB1.out⟩
      case round =>
        obtain ⟨j, hj, rfl, HO2, HV2, HF3, HB2⟩ := hrel
        have hrow := HF3.out.rb k hl
        rw [upd_at, upd_at] at hrow
        unfold Nums at hrow
        rw [markV_length] at hrow
        obtain ⟨N, hN⟩ : ∃ N, nk + j = N := ⟨_, rfl⟩
        rw [hN] at hrow HF3
        obtain ⟨al, cl, el⟩ := own_slice hrow
        subst el
        have hN1 : N ≤ 100012 := by omega
        have HN := Lib.hid hN
        have Hrow := Lib.hid hrow
        clear hrow hN
        by_cases hlj : j < 12
        · have hlj1 : (j : Int) < 12 := by omega
          have M := Lib.hid (marks_at (p := 0) hB Hrow.out HF3.out HV2.out HO2.out HB2.out (by omega) (by omega))
          have q0 : ((markV k N 1).map (Value.int .i64)).length = 1 * 1 := by rw [List.length_map, markV_length]
          have q3 : N + 1 ≤ maxLen := by unfold maxLen; omega
          have q4 : (N + 1) * 8 ≤ 140737488355328 := by omega
          have Q0 := Lib.hid q0
          have Q3 := Lib.hid q3
          have Q4 := Lib.hid q4
          clear q0 q3 q4
          go_wp2_with (first
            | (go_at_call 137; refine M.out.mono ?_; rintro e w1 ⟨gv, cv, rfl, hcell, hrow1, HF4, HV4, HO4, HB4, hBw1, hsz1⟩)
            | (at_builtin; refine wpList_append_keep _ rfl _ _ 22 rfl B 3 i0 (.int .i64 0) 1 8 Tryz.underlying22 hi0 hz0 hz1 hz2 rfl (by decide) _ _ _ rfl hrow1.out ⟨gv, 0, none⟩ 1 cv ((markV k N 1).map (Value.int .i64)) rfl Q0.out hcell.out (one_cell_map _) Q3.out Q4.out hBw1 ?_; intro l' w2 hown2 hgr2 hold2 hblk2))
          have hrow1 := hrow1.out
          have HF5 := Lib.hid (grow_step HF4.out hl hown2 hgr2 hold2 hblk2)
          have HV5 := Lib.hid (HV4.out.grown_int hrow1 hgr2)
          have HO5 := Lib.hid (World.ownsRow.kept HO4.out hgr2 (own_types_ne HO4.out hrow1 (by decide)))
          have HB5 := Lib.hid (grown_below HB4.out hB hrow1 hgr2)
          clear hown2 hgr2 hold2 hblk2 hrow1
          go_wp2_with fail
          go_roundw
          case rel => exact ⟨j + 1, by omega, by go_num, HO5.out, HV5.out, by rw [← Nat.add_assoc, HN.out]; exact HF5.out, HB5.out⟩
          case measure => simp [intOf]; omega
        · obtain rfl : j = 12 := by omega
          have hSS : S ≤ wr.heap.size := HS.out ▸ HB2.out.size
          have M := Lib.hid (marks_at (p := 59) hB Hrow.out HF3.out HV2.out HO2.out HB2.out (by omega) (by omega))
          have q0 : ((markV k N 60).map (Value.int .i64)).length = 60 * 1 := by rw [List.length_map, markV_length]
          have q3 : N + 60 ≤ maxLen := by unfold maxLen; omega
          have q4 : (N + 60) * 8 ≤ 140737488355328 := by omega
          have q5 : k + 1 ≤ maxLen := by unfold maxLen; omega
          have q6 : (k + 1) * 24 ≤ 140737488355328 := by omega
          have Q0 := Lib.hid q0
          have Q3 := Lib.hid q3
          have Q4 := Lib.hid q4
          have Q5 := Lib.hid q5
          have Q6 := Lib.hid q6
          have Q7 := Lib.hid hSS
          clear q0 q3 q4 q5 q6 hSS
          go_wp2_with (first
            | (go_at_call 137; refine M.out.mono ?_; rintro e w1 ⟨gv, cv, rfl, hcell, hrow1, HF4, HV4, HO4, HB4, hBw1, hsz1⟩)
            | (at_builtin; refine wpList_append_keep _ rfl _ _ 22 rfl B 3 i0 (.int .i64 0) 1 8 Tryz.underlying22 hi0 hz0 hz1 hz2 rfl (by decide) _ _ _ rfl hrow1.out ⟨gv, 0, none⟩ 60 cv ((markV k N 60).map (Value.int .i64)) rfl Q0.out hcell.out (one_cell_map _) Q3.out Q4.out hBw1 ?_; intro l' w2 hown2 hgr2 hold2 hblk2; obtain ⟨al', cl', rfl⟩ := own_slice hown2; have hw12 : wr.heap.size ≤ w2.heap.size := Nat.le_trans hsz1 hgr2.size; have HO5 := Lib.hid (World.ownsRow.kept HO4.out hgr2 (own_types_ne HO4.out hrow1.out (by decide))))
            | (at_builtin; refine wpList_append_keep _ rfl _ _ 28 rfl S 22 i1 (.slice none 0 0) 1 24 Tryz.underlying28 ji0 jz0 jz1 jz2 rfl (by decide) _ _ _ rfl (World.ownsRow.alloc HO5.out _) ⟨w2.heap.size, 0, none⟩ 1 1 [.slice al' (N + 60) cl'] rfl rfl (cells_new _ _ [_]) (by intro u hu; simp at hu; subst hu; rfl) Q5.out Q6.out (Nat.le_trans Q7.out (Nat.le_trans hw12 (by simp))) ?_; intro o' w3 hown3 hgr3 hold3 hblk3))
          have HF5 := grow_step HF4.out hl hown2 hgr2 hold2 hblk2
          have HV5 := HV4.out.grown_int hrow1.out hgr2
          have hown5 := World.ownsRow.alloc HO5.out (.cells #[.slice al' (N + 60) cl'] 22)
          have hV6 := (HV5.below (below_alloc (Below.refl w2.heap.size w2) (Nat.le_refl _) (.cells #[.slice al' (N + 60) cl'] 22)) (Nat.le_refl _)).grown_out (fun g hg => (World.ownsRow.lt hown5 g hg).1) HO.out.1 HO.out.2.1 HO.out.2.2 hgr3
          have hF6 := HF5.keep (((KeepT.refl 3 w2).alloc (.cells #[.slice al' (N + 60) cl'] 22)).grown hgr3 hown5 (by decide))
          have hb5 := grown_below HB4.out hB hrow1.out hgr2
          have hb6 := grown_low (B := B) (below_alloc hb5 hB (.cells #[.slice al' (N + 60) cl'] 22)) hB HBS.out hown5 hgr3
          rw [range_upd] at hown3
          have Hown3 := Lib.hid hown3
          have HF6 := Lib.hid hF6
          have HV6 := Lib.hid hV6
          have HB6 := Lib.hid hb6
          clear hown2 hgr2 hold2 hblk2 hown3 hgr3 hold3 hblk3 HF5 HV5 hown5 hV6 hF6 hb5 hb6
          go_wp2_with fail
          go_roundw
          case rel =>
            refine ⟨k + 1, upd b k (.slice al' (N + 60) cl'), _, by omega, by go_num, Hown3.out, HV6.out, ⟨HF6.out, fun i hi => ?_, fun i hi => ?_⟩, HB6.out⟩
            · by_cases hik : i = k
              · subst hik
                rw [upd_at, Hnk.out, ← HN.out]
              · rw [upd_ne _ _ hik]
                exact HF1.out.2.1 i (by omega)
            · rw [upd_ne _ _ (show i ≠ k by omega), upd_ne _ _ (show i ≠ k by omega)]
              exact HF1.out.2.2 i (by omega)
          case measure => simp [intOf]; omega
    · obtain rfl : k = m := by omega
      go_wp2_with fail
      go_ret
      refine ⟨_, b, rfl, HO1.out, HV1.out, ⟨HF1.out.1.ra, fun i hi => ?_, HF1.out.1.oaa, HF1.out.1.oab, HF1.out.1.obb, fun i hi => ?_⟩, HB1.out⟩
      · rw [if_pos hi, ← HF1.out.2.1 i hi]
        exact HF1.out.1.rb i hi
      · rw [if_pos hi, ← HF1.out.2.1 i hi]
        exact HF1.out.1.tie i hi
end Go.Proofs.YtalacionlbmcpaaGreatDoor
