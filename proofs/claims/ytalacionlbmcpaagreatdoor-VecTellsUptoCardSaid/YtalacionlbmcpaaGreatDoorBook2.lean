/-
  The book of lists, vectors: copies, marks, are two alike?
-/
import Derived.Test.YtalacionlbmcpaaGreatDoorBook1
namespace Go.Proofs.YtalacionlbmcpaaGreatDoor
open Go.RowKit

/-- The marks of list i, from a place on. -/
def markV (i start n : Nat) : List Int := (List.range n).map fun k => -1000000 * (i : Int) - ((start + k : Nat) : Int) - 9
theorem markV_length (i start n : Nat) : (markV i start n).length = n := by simp [markV]
theorem markV_succ (i start n : Nat) : markV i start (n + 1) = markV i start n ++ [-1000000 * (i : Int) - ((start + n : Nat) : Int) - 9] := by
  unfold markV
  rw [List.range_succ, List.map_append]
  rfl
theorem markV_append (i start n m : Nat) : markV i start n ++ markV i (start + n) m = markV i start (n + m) := by
  induction m with
  | zero => simp [markV]
  | succ m ih => rw [markV_succ, ← List.append_assoc, ih, ← Nat.add_assoc, markV_succ, Nat.add_assoc]
theorem markV_wf (i start n : Nat) (hi : i ≤ 1000) (hn : start + n ≤ 1000000) : ∀ z ∈ markV i start n, (Lit.int .i64 z).wf = true := by
  intro z hz
  unfold markV at hz
  obtain ⟨k, hk, rfl⟩ := List.mem_map.1 hz
  have := List.mem_range.1 hk
  exact WalkArith.wf_i64 ⟨by omega, by omega⟩

set_option maxRecDepth 100000 in
set_option maxHeartbeats 1000000 in
theorem markVecs_any (i start n : Nat) (w : World) (hi : i ≤ 1000) (hn : start + n ≤ 1000000) :
    Calls Tryz.prog 137 #[.int .i64 (i : Int), .int .i64 (start : Int), .int .i64 (n : Int)] w fun e w' => ∃ v, e = .returned v ∧ Nums w' w.heap.size 3 v (markV i start n) ∧ Below w.heap.size w w' := by
  obtain ⟨i0, hi0, hz0, hz1, hz2⟩ := info_parts i64info
  have a1 : (i : Int) ≤ 1000 := by omega
  have a2 : (start : Int) + (n : Int) ≤ 1000000 := by omega
  go_enter Tryz.func137, Tryz.ntmps137
  go_wp2_with fail
  go_loopw [7, 8] (fun o k wr => ∃ j : Nat, j ≤ n ∧ k = .int .i64 ((start : Int) + (j : Int)) ∧ Nums wr w.heap.size 3 o (markV i start j) ∧ Below w.heap.size w wr) (fun _ k _ => start + n - (intOf k).toNat)
  case atStart => exact ⟨0, by omega, by simp, World.ownsRow_nil _ _ _ _, Below.refl _ _⟩
  case round =>
    obtain ⟨j, hj, rfl, hN, hb⟩ := hrel
    by_cases hl : j < n
    · have HN := Lib.hid hN
      have hl1 : (start : Int) + (j : Int) < (start : Int) + (n : Int) := by omega
      have hsz := hb.size
      clear hN
      go_wp2_with (at_builtin; refine wpList_append_own _ rfl _ _ 22 rfl w.heap.size 3 i0 (.int .i64 0) 1 8 Tryz.underlying22 hi0 hz0 hz1 hz2 rfl (by decide) _ _ _ rfl (World.ownsRow.alloc HN.out _) ⟨wr.heap.size, 0, none⟩ 1 1 [.int .i64 (-1000000 * (i : Int) - ((start : Int) + (j : Int)) - 9)] rfl rfl ?c1 ?c2 ?c3 ?c4 ?c5 ?_)
      case c1 =>
        intro j' u hj'
        match j', hj' with
        | 0, hj' => simp at hj'; subst hj'; simp [Addr.add]
      case c2 => intro u hu; simp at hu; subst hu; rfl
      case c3 => rw [markV_length]; unfold maxLen; omega
      case c4 => rw [markV_length]; omega
      case c5 => simp; omega
      intro v' w2 hown hgr _
      have hb2 : Below w.heap.size w w2 := (below_alloc hb (Nat.le_refl _) _).grown hgr (by simp; omega) (fun k hk => (HN.out.lt_ hk).1)
      have hN2 : Nums w2 w.heap.size 3 v' (markV i start (j + 1)) := by
        unfold Nums
        rw [markV_succ, List.length_append, List.map_append]
        have e : -1000000 * (i : Int) - ((start + j : Nat) : Int) - 9 = -1000000 * (i : Int) - ((start : Int) + (j : Int)) - 9 := by omega
        rw [e]
        exact hown
      have HN2 := Lib.hid hN2
      clear hown hgr hN2 hsz
      go_wp2_with fail
      go_roundw
      case rel => exact ⟨j + 1, by omega, by go_num, HN2.out, hb2⟩
      case measure => simp [intOf]; omega
    · obtain rfl : j = n := by omega
      have HN := Lib.hid hN
      clear hN
      go_wp2_with fail
      go_ret
      exact ⟨_, rfl, HN.out, hb⟩
set_option maxRecDepth 100000 in
set_option maxHeartbeats 1000000 in
theorem sameVecs_any (A1 : Option Addr) (n1 c1 : Nat) (xs : List Int) (A2 : Option Addr) (n2 c2 : Nat) (ys : List Int) (w : World) (I1 : IntsIn w A1 n1 xs) (I2 : IntsIn w A2 n2 ys) :
    Calls Tryz.prog 117 #[.slice A1 n1 c1, .slice A2 n2 c2] w fun e w' => e = .returned (.bool (decide (xs = ys))) ∧ ∃ q, w' = w.drewN q := by
  have J1 := Lib.hid I1
  have J2 := Lib.hid I2
  have l1 := I1.len
  have l2 := I2.len
  have m1 := I1.max
  have m2 := I2.max
  clear I1 I2
  by_cases hne : n1 = n2
  · subst hne
    go_enter Tryz.func117, Tryz.ntmps117
    go_wp2_with fail
    go_loopw [5] (fun i wr => ∃ k q : Nat, k ≤ n1 ∧ i = .int .i64 (k : Int) ∧ Hid (wr = w.drewN q) ∧ Hid (∀ j, j < k → xs.getD j 0 = ys.getD j 0)) (fun i _ => n1 - (intOf i).toNat)
    case atStart => exact ⟨0, 0, by omega, rfl, rfl, fun j hj => absurd hj (by omega)⟩
    case round =>
      obtain ⟨k, q, hk, rfl, Hw, Hle⟩ := hrel
      by_cases hl : k < n1
      · have K1 := J1.out.drewN q
        have K2 := J2.out.drewN q
        rw [← Hw.out] at K1 K2
        obtain ⟨b1, o1, rfl, _, hc1⟩ := K1.some (by omega)
        obtain ⟨b2, o2, rfl, _, hc2⟩ := K2.some (by omega)
        have d1 := hc1 k hl
        have d2 := hc2 k hl
        obtain ⟨x, hx⟩ : ∃ x, xs.getD k 0 = x := ⟨_, rfl⟩
        obtain ⟨y, hy⟩ : ∃ y, ys.getD k 0 = y := ⟨_, rfl⟩
        rw [hx] at d1
        rw [hy] at d2
        have Hx := Lib.hid hx
        have Hy := Lib.hid hy
        have hl1 : (k : Int) < (n1 : Int) := by omega
        clear hc1 hc2 hx hy K1 K2
        by_cases hg : x ≠ y

        · have hbe : (x == y) = false := beq_eq_false_iff_ne.2 hg
          go_wp2_with fail
          go_quiet (fail)
          go_wp2_with fail
          have : decide (xs = ys) = false := by
            refine decide_eq_false fun h => ?_
            have h1 := Hx.out
            rw [h, Hy.out] at h1
            exact hg h1.symm
          rw [this]
          go_ret
          exact ⟨rfl, drewN_more Hw.out _⟩
        · have hbe : (x == y) = true := beq_iff_eq.2 (Decidable.of_not_not hg)
          go_wp2_with fail
          go_quiet (fail)
          go_wp2_with fail
          go_roundw
          case rel =>
            refine ⟨k + 1, _, by omega, by go_num, (by rw [Hw.out, World.drewN_drewN]; rfl), fun j hj => ?_⟩
            by_cases hjk : j = k
            · subst hjk; rw [Hx.out, Hy.out]; exact Decidable.of_not_not hg
            · exact Hle.out j (by omega)
          case measure => simp [intOf]; omega
      · obtain rfl : k = n1 := by omega
        go_wp2_with fail
        have : decide (xs = ys) = true := by
          exact decide_eq_true (list_ext_getD (by omega) (fun j hj => Hle.out j (by omega)))
        rw [this]
        go_ret
        exact ⟨rfl, _, Hw.out⟩
  · go_enter Tryz.func117, Tryz.ntmps117
    go_wp2_with fail
    have : decide (xs = ys) = false := by
      exact decide_eq_false fun h => hne (by rw [← l1, ← l2, h])
    rw [this]
    go_ret
    exact ⟨rfl, 0, rfl⟩


set_option maxRecDepth 100000 in
set_option maxHeartbeats 1000000 in
theorem copyVecs_any (A : Option Addr) (n c : Nat) (zs : List Int) (w : World) (I : IntsIn w A n zs) (hn : n ≤ 17592186044416) :
    Calls Tryz.prog 114 #[.slice A n c] w fun e w' => ∃ v, e = .returned v ∧ Nums w' w.heap.size 3 v zs ∧ Below w.heap.size w w' := by
  obtain ⟨i0, hi, hz0, hz1, hz2⟩ := info_parts i64info
  have J := Lib.hid I
  have l := I.len
  clear I
  by_cases hn0 : n = 0
  · subst hn0
    have hz : zs = [] := List.eq_nil_of_length_eq_zero l
    go_enter Tryz.func114, Tryz.ntmps114
    go_wp2_with (at_builtin; refine wpList_append_nothing _ rfl _ _ 22 3 i0 rfl Tryz.underlying22 hi rfl A c rfl ?_)
    go_ret
    subst hz
    exact ⟨_, rfl, World.ownsRow_nil _ _ _ _, Below.refl _ _⟩
  · obtain ⟨b, o, rfl, hlt, hcc⟩ := J.out.some (by omega)
    have hcell : ∀ j u, (zs.map (Value.int .i64))[j]? = some u → w.cell? (({ block := b, off := o, spot := none } : Addr).add j) = some u := by
      intro j u hj
      have hjn : j < zs.length := by
        have := (List.getElem?_eq_some_iff.1 hj).1
        simpa using this
      rw [Addr.add_lit, hcc j (by omega)]
      rw [List.getElem?_map, List.getElem?_eq_getElem hjn] at hj
      rw [List.getD_eq_getElem?_getD, List.getElem?_eq_getElem hjn]
      simpa using hj
    have Hc := Lib.hid hcell
    clear hcell hcc
    go_enter Tryz.func114, Tryz.ntmps114
    go_wp2_with (at_builtin; refine wpList_append_own _ rfl _ _ 22 rfl w.heap.size 3 i0 (.int .i64 0) 1 8 Tryz.underlying22 hi hz0 hz1 hz2 rfl (by decide) _ _ _ rfl (World.ownsRow_nil w w.heap.size 3 1) ⟨b, o, none⟩ n c (zs.map (Value.int .i64)) rfl ?qc1 Hc.out ?qc3 ?qc4 ?qc5 ?qc6 ?_)
    case qc1 => simp; omega
    case qc3 => intro u hu; obtain ⟨x, _, rfl⟩ := List.mem_map.1 hu; rfl
    case qc4 => unfold maxLen; omega
    case qc5 => omega
    case qc6 => exact Nat.le_refl _
    intro v' w1 hown hgrow hnil
    have hb := (Below.refl w.heap.size w).grown hgrow (Nat.le_refl _) (by intro k hk; simp [Value.ownBlock] at hk)
    have hN : Nums w1 w.heap.size 3 v' zs := by
      unfold Nums
      rw [l]
      simpa using hown
    have HN := Lib.hid hN
    clear hown hgrow hnil hN
    go_wp2_with fail
    go_ret
    exact ⟨_, rfl, HN.out, hb⟩
end Go.Proofs.YtalacionlbmcpaaGreatDoor
