/-
  Chapter 3's own answers: copies, one time replaced, nothing done.
-/
import Derived.Test.YtalacionlbmcpaaGreatDoorBook11
import Derived.Test.YtalacionlbmcpaaGreatDoorVec3
namespace Go.Proofs.YtalacionlbmcpaaGreatDoor
open Go.RowKit

set_option maxRecDepth 100000 in
set_option maxHeartbeats 1000000 in
theorem rcopy_any (A : Option Addr) (n c : Nat) (zs : List Int) (w : World) (I : IntsIn w A n zs) (hn : n ≤ 17592186044416) :
    Calls Tryz.prog 44 #[.slice A n c] w fun e w' => ∃ v, e = .returned v ∧ Nums w' w.heap.size 3 v zs ∧ Below w.heap.size w w' := by
  obtain ⟨i0, hi, hz0, hz1, hz2⟩ := info_parts i64info
  have J := Lib.hid I
  have l := I.len
  clear I
  by_cases hn0 : n = 0
  · subst hn0
    have hz : zs = [] := List.eq_nil_of_length_eq_zero l
    go_enter Tryz.func44, Tryz.ntmps44
    go_wp2_with (at_builtin; refine wpList_append_nothing _ rfl _ _ 23 3 i0 rfl Tryz.underlying23 hi rfl A c rfl ?_)
    go_ret
    subst hz
    exact ⟨_, rfl, World.ownsRow_nil _ _ _ _, Below.refl _ _⟩
  · obtain ⟨b, o, rfl, hlt, hcc⟩ := J.out.some (by omega)
    have hcell : ∀ j u, (zs.map (Value.int .i64))[j]? = some u → w.cell? (({ block := b, off := o, spot := none } : Addr).add j) = some u := by
      intro j u hj
      have hjn : j < zs.length := by
        have := (List.getElem?_eq_some_iff.1 hj).1
        simpa using this
      rw [Addr.add_lit, hcc j (by omega)]
      rw [List.getElem?_map, List.getElem?_eq_getElem hjn] at hj
      rw [List.getD_eq_getElem?_getD, List.getElem?_eq_getElem hjn]
      simpa using hj
    have Hc := Lib.hid hcell
    clear hcell hcc
    go_enter Tryz.func44, Tryz.ntmps44
    go_wp2_with (at_builtin; refine wpList_append_own _ rfl _ _ 23 rfl w.heap.size 3 i0 (.int .i64 0) 1 8 Tryz.underlying23 hi hz0 hz1 hz2 rfl (by decide) _ _ _ rfl (World.ownsRow_nil w w.heap.size 3 1) ⟨b, o, none⟩ n c (zs.map (Value.int .i64)) rfl ?qc1 Hc.out ?qc3 ?qc4 ?qc5 ?qc6 ?_)
    case qc1 => simp; omega
    case qc3 => intro u hu; obtain ⟨x, _, rfl⟩ := List.mem_map.1 hu; rfl
    case qc4 => unfold maxLen; omega
    case qc5 => omega
    case qc6 => exact Nat.le_refl _
    intro v' w1 hown hgrow hnil
    have hb := (Below.refl w.heap.size w).grown hgrow (Nat.le_refl _) (by intro k hk; simp [Value.ownBlock] at hk)
    have hN : Nums w1 w.heap.size 3 v' zs := by
      unfold Nums
      rw [l]
      simpa using hown
    have HN := Lib.hid hN
    clear hown hgrow hnil hN
    go_wp2_with fail
    go_ret
    exact ⟨_, rfl, HN.out, hb⟩

set_option maxRecDepth 100000 in
set_option maxHeartbeats 1000000 in
theorem rwith_any (A : Option Addr) (n c : Nat) (zs : List Int) (i t : Int) (w : World) (I : IntsIn w A n zs) (hn : n ≤ 17592186044416) :
    Calls Tryz.prog 18 #[.slice A n c, .int .i64 i, .int .i64 t] w fun e w' => ∃ v, e = .returned v ∧ Nums w' w.heap.size 3 v (withL zs i t) ∧ Below w.heap.size w w' := by
  have l := I.len
  have hwf := I.wf
  have E := Lib.hid (rcopy_any A n c zs w I hn)
  have Hwf := Lib.hid hwf
  clear I hwf
  subst l
  by_cases h0 : 0 ≤ i
  · obtain ⟨i, rfl⟩ := Int.eq_ofNat_of_zero_le h0
    go_enter Tryz.func18, Tryz.ntmps18
    go_wp2_with fail
    refine E.out.mono ?_
    rintro e w1 ⟨v, rfl, hN, hb⟩
    obtain ⟨A', cp, rfl, hI, hg⟩ := hN.ints Hwf.out
    by_cases hin : i < zs.length
    · obtain ⟨g, rfl, hBg⟩ := hg (by omega)
      have hc := World.ownsRow.cellAt (g := g) (cap := cp) hN i (by omega)
      have hf := World.ownsRow.frozenAt (g := g) (cap := cp) hN i
      have hs := World.ownsRow.stored (g := g) (cap := cp) hN i (.int .i64 t)
      have hx : (zs.map (Value.int .i64))[i]? = some (.int .i64 zs[i]) := by rw [List.getElem?_map, List.getElem?_eq_getElem hin]; rfl
      rw [hx] at hc
      have Hs := Lib.hid hs
      have hin' : (i : Int) < (zs.length : Int) := by omega
      clear hN hI hg hs hx
      go_wp2_with fail
      go_ret
      refine ⟨_, rfl, ?_, below_setCell hb hBg _⟩
      unfold withL
      rw [if_pos ⟨by omega, hin'⟩]
      unfold Nums
      have := Hs.out.1
      rw [← List.map_set] at this
      rw [List.length_set]
      exact this
    · have hN' := Lib.hid hN
      clear hN hI hg
      have hin' : ¬ (i : Int) < (zs.length : Int) := by omega
      go_wp2_with fail
      go_ret
      refine ⟨_, rfl, ?_, hb⟩
      unfold withL
      rw [if_neg (by omega)]
      exact hN'.out
  · go_enter Tryz.func18, Tryz.ntmps18
    go_wp2_with fail
    refine E.out.mono ?_
    rintro e w1 ⟨v, rfl, hN, hb⟩
    have hN' := Lib.hid hN
    obtain ⟨A', cp, rfl, hI, hg⟩ := hN.ints Hwf.out
    clear hN hI hg
    go_wp2_with fail
    go_ret
    refine ⟨_, rfl, ?_, hb⟩
    unfold withL
    rw [if_neg (by omega)]
    exact hN'.out

/-- The vector of nothing done. -/
def zeroL (i : Int) : List Int := if 1 ≤ i ∧ i ≤ 8 then List.replicate i.toNat 0 else []
set_option maxRecDepth 100000 in
set_option maxHeartbeats 1000000 in
theorem rzero_any (i : Int) (w : World) :
    Calls Tryz.prog 19 #[.int .i64 i] w fun e w' => ∃ v, e = .returned v ∧ Nums w' w.heap.size 3 v (zeroL i) ∧ Below w.heap.size w w' := by
  obtain ⟨i0, hi0, hz0, hz1, hz2⟩ := info_parts i64info
  by_cases h : 1 ≤ i ∧ i ≤ 8
  · obtain ⟨h1, h8⟩ := h
    obtain ⟨n, rfl⟩ := Int.eq_ofNat_of_zero_le (show 0 ≤ i by omega)
    go_enter Tryz.func19, Tryz.ntmps19
    go_wp2_with (at_make; refine wpList_make_full _ rfl (.tmp 9) (.tmp 9) 23 rfl w.heap.size 3 i0 (.int .i64 0) 1 Tryz.underlying23 hi0 hz0 hz1 .i64 .i64 _ _ n rfl rfl rfl rfl ?b2 ?b3 ?b4 ?_)
    case b2 => rw [hz2]; omega
    case b3 => unfold maxLen; omega
    case b4 => exact Nat.le_refl _
    intro w1 hown hgr
    have hb1 : Below w.heap.size w w1 := (Below.refl _ _).grown hgr (Nat.le_refl _) (by simp)
    rw [show (madeCells #[Value.int IntKind.i64 0] n).toList = (List.replicate n (0 : Int)).map (Value.int .i64) from (toList_madeCells_one _ _).trans (by simp)] at hown
    have Hown := Lib.hid hown
    clear hown hgr
    go_wp2_with fail
    go_ret
    refine ⟨_, rfl, ?_, hb1⟩
    unfold zeroL Nums
    rw [if_pos ⟨h1, h8⟩]
    simpa using Hown.out
  · have hz : zeroL i = [] := if_neg h
    have Hz := Lib.hid hz
    clear hz
    by_cases h1 : i < 1
    · go_enter Tryz.func19, Tryz.ntmps19
      go_wp2_with fail
      go_ret
      exact ⟨_, rfl, by rw [Hz.out]; exact World.ownsRow_nil _ _ _ _, Below.refl _ _⟩
    · have h8 : 8 < i := by omega
      clear h
      go_enter Tryz.func19, Tryz.ntmps19
      go_wp2_with fail
      go_ret
      exact ⟨_, rfl, by rw [Hz.out]; exact World.ownsRow_nil _ _ _ _, Below.refl _ _⟩

set_option maxRecDepth 100000 in
set_option maxHeartbeats 1000000 in
theorem zero_any (i : Int) (w : World) :
    Calls Tryz.prog 10 #[.int .i64 i] w fun e w' => ∃ v, e = .returned v ∧ Nums w' w.heap.size 3 v (zeroL i) ∧ Below w.heap.size w w' := by
  obtain ⟨i0, hi0, hz0, hz1, hz2⟩ := info_parts i64info
  by_cases h : 1 ≤ i ∧ i ≤ 8
  · have hd : decide (1 ≤ i ∧ i ≤ 8) = true := decide_eq_true h
    obtain ⟨h1, h8⟩ := h
    have C := isCount_any i w
    rw [hd] at C
    clear hd
    obtain ⟨n, rfl⟩ := Int.eq_ofNat_of_zero_le (show 0 ≤ i by omega)
    have C := Lib.hid C
    have B2 : Hid (n * i0.size ≤ 16777216) := by unfold Hid; rw [hz1]; omega
    go_enter Tryz.func10, Tryz.ntmps10
    go_wp2_with (first
      | (refine C.out.mono ?_; rintro e w' ⟨rfl, rfl⟩)
      | (at_make; refine wpList_make_full _ rfl (.tmp 6) (.tmp 6) 23 rfl w.heap.size 3 i0 (.int .i64 0) 1 Tryz.underlying23 hi0 hz0 hz1 .i64 .i64 _ _ n rfl rfl rfl rfl (by rw [hz2]; omega) (by unfold maxLen; omega) (Nat.le_refl _) ?_; intro w1 hown hgr))
    have hb1 : Below w.heap.size w w1 := (Below.refl _ _).grown hgr (Nat.le_refl _) (by simp)
    rw [show (madeCells (Value.int IntKind.i64 0).cells (n * 1)).toList = (List.replicate n (0 : Int)).map (Value.int .i64) from by rw [Nat.mul_one]; exact (toList_madeCells_one _ _).trans (by simp)] at hown
    have Hown := Lib.hid hown
    clear hown hgr
    go_ret
    refine ⟨_, rfl, ?_, hb1⟩
    unfold zeroL Nums
    rw [if_pos ⟨h1, h8⟩]
    simpa using Hown.out
  · have hz : zeroL i = [] := if_neg h
    have Hz := Lib.hid hz
    have C := isCount_any i w
    rw [decide_eq_false h] at C
    have C := Lib.hid C
    clear hz h
    go_enter Tryz.func10, Tryz.ntmps10
    go_wp2_with fail
    refine C.out.mono ?_
    rintro e w' ⟨rfl, rfl⟩
    go_wp2_with fail
    go_ret
    exact ⟨_, rfl, by rw [Hz.out]; exact World.ownsRow_nil _ _ _ _, Below.refl _ _⟩
end Go.Proofs.YtalacionlbmcpaaGreatDoor
