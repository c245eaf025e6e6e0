/-
  Walks over package vec, part 3: With, each, Join, Meet.
-/
import Derived.Test.YtalacionlbmcpaaGreatDoorVec2
import Derived.Deep.RegionWith
namespace Go.Proofs.YtalacionlbmcpaaGreatDoor
open Go.RowKit

/-- A vector with another time at a place. -/
def withL (zs : List Int) (i t : Int) : List Int := if 0 ≤ i ∧ i < (zs.length : Int) then zs.set i.toNat t else zs

set_option maxRecDepth 100000 in
set_option maxHeartbeats 1000000 in
theorem with_any (A : Option Addr) (n c : Nat) (zs : List Int) (i t : Int) (w : World) (I : IntsIn w A n zs) (hn : n ≤ 17592186044416) :
    Calls Tryz.prog 9 #[.slice A n c, .int .i64 i, .int .i64 t] w fun e w' => ∃ v, e = .returned v ∧ Nums w' w.heap.size 3 v (withL zs i t) ∧ Below w.heap.size w w' := by
  have l := I.len
  have hwf := I.wf
  have E := Lib.hid (clone_any A n c zs w I hn)
  have Hwf := Lib.hid hwf
  clear I hwf
  subst l
  by_cases h0 : 0 ≤ i
  · obtain ⟨i, rfl⟩ := Int.eq_ofNat_of_zero_le h0
    go_enter Tryz.func9, Tryz.ntmps9
    go_wp2_with fail
    refine E.out.mono ?_
    rintro e w1 ⟨v, rfl, hN, hb⟩
    obtain ⟨A', cp, rfl, hI, hg⟩ := hN.ints Hwf.out
    by_cases hin : i < zs.length
    · obtain ⟨g, rfl, hBg⟩ := hg (by omega)
      have hc := World.ownsRow.cellAt (g := g) (cap := cp) hN i (by omega)
      have hf := World.ownsRow.frozenAt (g := g) (cap := cp) hN i
      have hs := World.ownsRow.stored (g := g) (cap := cp) hN i (.int .i64 t)
      have hx : (zs.map (Value.int .i64))[i]? = some (.int .i64 zs[i]) := by rw [List.getElem?_map, List.getElem?_eq_getElem hin]; rfl
      rw [hx] at hc
      have Hs := Lib.hid hs
      have hin' : (i : Int) < (zs.length : Int) := by omega
      clear hN hI hg hs hx
      go_wp2_with fail
      go_ret
      refine ⟨_, rfl, ?_, below_setCell hb hBg _⟩
      unfold withL
      rw [if_pos ⟨by omega, hin'⟩]
      unfold Nums
      have := Hs.out.1
      rw [← List.map_set] at this
      rw [List.length_set]
      exact this
    · have hN' := Lib.hid hN
      clear hN hI hg
      have hin' : ¬ (i : Int) < (zs.length : Int) := by omega
      go_wp2_with fail
      go_ret
      refine ⟨_, rfl, ?_, hb⟩
      unfold withL
      rw [if_neg (by omega)]
      exact hN'.out
  · go_enter Tryz.func9, Tryz.ntmps9
    go_wp2_with fail
    refine E.out.mono ?_
    rintro e w1 ⟨v, rfl, hN, hb⟩
    have hN' := Lib.hid hN
    obtain ⟨A', cp, rfl, hI, hg⟩ := hN.ints Hwf.out
    clear hN hI hg
    go_wp2_with fail
    go_ret
    refine ⟨_, rfl, ?_, hb⟩
    unfold withL
    rw [if_neg (by omega)]
    exact hN'.out

theorem run_max2 (x y : Int) (W : World) : (Builtin.max_ #[3, 3] 3 #[.int .i64 x, .int .i64 y]).run Tryz.prog W = .ok (.int .i64 (if x < y then y else x)) W := by
  simp [Builtin.max_, Builtin.max2]
theorem run_min2 (x y : Int) (W : World) : (Builtin.min_ #[3, 3] 3 #[.int .i64 x, .int .i64 y]).run Tryz.prog W = .ok (.int .i64 (if y < x then y else x)) W := by
  simp [Builtin.min_, Builtin.min2]

theorem joinf_any (x y : Int) (w : World) : Calls Tryz.prog 31 #[.int .i64 x, .int .i64 y] w fun e w' => e = .returned (.int .i64 (if x < y then y else x)) ∧ w = w' := by
  have h := run_max2 x y w
  by_cases hxy : x < y
  · rw [if_pos hxy] at h ⊢
    clear hxy
    go_enter Tryz.func31, Tryz.ntmps31
    go_wp2
    go_ret
    exact ⟨rfl, rfl⟩
  · rw [if_neg hxy] at h ⊢
    clear hxy
    go_enter Tryz.func31, Tryz.ntmps31
    go_wp2
    go_ret
    exact ⟨rfl, rfl⟩
theorem meetf_any (x y : Int) (w : World) : Calls Tryz.prog 32 #[.int .i64 x, .int .i64 y] w fun e w' => e = .returned (.int .i64 (if y < x then y else x)) ∧ w = w' := by
  have h := run_min2 x y w
  by_cases hxy : y < x
  · rw [if_pos hxy] at h ⊢
    clear hxy
    go_enter Tryz.func32, Tryz.ntmps32
    go_wp2
    go_ret
    exact ⟨rfl, rfl⟩
  · rw [if_neg hxy] at h ⊢
    clear hxy
    go_enter Tryz.func32, Tryz.ntmps32
    go_wp2
    go_ret
    exact ⟨rfl, rfl⟩

/-- Time by time; none, if they are not as long as each other. -/
def joinL (xs ys : List Int) : List Int := if xs.length = ys.length then List.zipWith (fun x y => if x < y then y else x) xs ys else []
def meetL (xs ys : List Int) : List Int := if xs.length = ys.length then List.zipWith (fun x y => if y < x then y else x) xs ys else []

theorem zip_step (f : Int → Int → Int) (xs ys : List Int) (n k : Nat) (hx : xs.length = n) (hy : ys.length = n) (hk : k < n) :
    (((List.zipWith f xs ys).take k ++ List.replicate (n - k) (0 : Int)).map (Value.int .i64)).set k (.int .i64 (f (xs.getD k 0) (ys.getD k 0)))
      = ((List.zipWith f xs ys).take (k + 1) ++ List.replicate (n - (k + 1)) (0 : Int)).map (Value.int .i64) := by
  have hl : (List.zipWith f xs ys).length = n := by rw [List.length_zipWith]; omega
  have hlt : (List.take k (List.zipWith f xs ys)).length = k := by simp; omega
  have hg : (List.zipWith f xs ys)[k]? = some (f (xs.getD k 0) (ys.getD k 0)) := by
    rw [List.getElem?_eq_getElem (by omega), List.getElem_zipWith]
    simp [List.getD, List.getElem?_eq_getElem (show k < xs.length by omega), List.getElem?_eq_getElem (show k < ys.length by omega)]
  rw [← List.map_set, List.set_append_right _ _ (by omega), hlt, Nat.sub_self, show n - k = (n - (k + 1)) + 1 from by omega, List.replicate_succ, List.set_cons_zero]
  rw [List.take_add_one, hg]
  simp

set_option maxRecDepth 100000 in
set_option maxHeartbeats 1000000 in
theorem each_join (A1 : Option Addr) (n1 c1 : Nat) (xs : List Int) (A2 : Option Addr) (n2 c2 : Nat) (ys : List Int) (w : World) (I1 : IntsIn w A1 n1 xs) (I2 : IntsIn w A2 n2 ys) (hn : n1 ≤ 17592186044416) :
    Calls Tryz.prog 30 #[.slice A1 n1 c1, .slice A2 n2 c2, .func (.func 31) #[] #[]] w fun e w' => ∃ v, e = .returned v ∧ Nums w' w.heap.size 3 v (joinL xs ys) ∧ Below w.heap.size w w' := by
  have J1 := Lib.hid I1
  have J2 := Lib.hid I2
  have l1 := I1.len
  have l2 := I2.len
  clear I1 I2
  by_cases hne : n1 = n2
  · subst hne
    obtain ⟨i0, hi0, hz0, hz1, hz2⟩ := info_parts i64info
    go_enter Tryz.func30, Tryz.ntmps30
    go_wp2_with (at_make; refine wpList_make_full _ rfl (.tmp 15) (.tmp 15) 23 rfl w.heap.size 3 i0 (.int .i64 0) 1 Tryz.underlying23 hi0 hz0 hz1 .i64 .i64 _ _ n1 rfl rfl rfl rfl ?b2 ?b3 ?b4 ?_)
    case b2 => rw [hz2]; omega
    case b3 => unfold maxLen; omega
    case b4 => exact Nat.le_refl _
    intro w1 hown hgr
    have hb1 : Below w.heap.size w w1 := (Below.refl _ _).grown hgr (Nat.le_refl _) (by simp)
    rw [show (madeCells #[Value.int IntKind.i64 0] n1).toList = (List.replicate n1 (0 : Int)).map (Value.int .i64) from (toList_madeCells_one _ _).trans (by simp)] at hown
    have Hown := Lib.hid hown
    clear hown hgr
    go_wp2_with fail
    go_loopw [19] (fun i wr => ∃ k : Nat, k ≤ n1 ∧ i = .int .i64 (k : Int) ∧ wr.ownsRow w.heap.size 3 1 (.slice (some ⟨w.heap.size, 0, none⟩) n1 n1) n1 (((List.zipWith (fun x y => if x < y then y else x) xs ys).take k ++ List.replicate (n1 - k) 0).map (Value.int .i64)) ∧ Below w.heap.size w wr)
      (fun i _ => n1 - (intOf i).toNat)
    case atStart => exact ⟨0, by omega, rfl, by simpa using Hown.out, hb1⟩
    case round =>
      obtain ⟨k, hk, rfl, hown, hbe⟩ := hrel
      by_cases hl : k < n1
      · have hlen : ((List.zipWith (fun x y : Int => if x < y then y else x) xs ys).take k ++ List.replicate (n1 - k) 0).length = n1 := by simp; omega
        have hc := hown.cellAt k (by omega)
        have hf := hown.frozenAt k
        obtain ⟨old, ho⟩ : ∃ x, (((List.zipWith (fun x y : Int => if x < y then y else x) xs ys).take k ++ List.replicate (n1 - k) 0).map (Value.int .i64))[k]? = some x := ⟨_, List.getElem?_eq_getElem (by rw [List.length_map, hlen]; omega)⟩
        rw [ho] at hc
        have hst := World.ownsRow.stored hown k (.int .i64 (if xs.getD k 0 < ys.getD k 0 then ys.getD k 0 else xs.getD k 0))
        rw [zip_step (fun x y => if x < y then y else x) xs ys n1 k l1 l2 hl] at hst
        obtain ⟨b1, o1, rfl, _, hc1⟩ := (J1.out.below hbe).some (by omega)
        obtain ⟨b2, o2, rfl, _, hc2⟩ := (J2.out.below hbe).some (by omega)
        have d1 := hc1 k hl
        have d2 := hc2 k hl
        obtain ⟨x, hx⟩ : ∃ x, xs.getD k 0 = x := ⟨_, rfl⟩
        obtain ⟨y, hy⟩ : ∃ y, ys.getD k 0 = y := ⟨_, rfl⟩
        rw [hx] at d1 hst
        rw [hy] at d2 hst
        obtain ⟨z, hz⟩ : ∃ z, (if x < y then y else x) = z := ⟨_, rfl⟩
        rw [hz] at hst
        have HZ := Lib.hid hz
        have Hst := Lib.hid hst
        have hl1 : (k : Int) < (n1 : Int) := by omega
        clear hc1 hc2 hx hy hown hst hz ho hlen
        go_wp2_with fail
        go_region_with (go_at_call 31; refine (joinf_any _ _ _).mono ?_; rw [HZ.out]; rintro e w2 ⟨rfl, rfl⟩)
        all_goals go_wp2_with fail
        all_goals go_roundw
        case rel => exact ⟨k + 1, by omega, by go_num, Hst.out.1, (below_setCell hbe (Nat.le_refl _) _).drew⟩
        case measure => simp [intOf]; omega
        case rel => exact ⟨k + 1, by omega, by go_num, Hst.out.1, (below_setCell hbe (Nat.le_refl _) _).drew⟩
        case measure => simp [intOf]; omega
      · obtain rfl : k = n1 := by omega
        have hN : Nums wr w.heap.size 3 (.slice (some ⟨w.heap.size, 0, none⟩) k k) (joinL xs ys) := by
          unfold Nums joinL
          rw [if_pos (by omega)]
          have hl2 : (List.zipWith (fun x y : Int => if x < y then y else x) xs ys).length = k := by simp; omega
          rw [hl2]
          simpa [List.take_of_length_le (Nat.le_of_eq hl2)] using hown
        have HN := Lib.hid hN
        clear hown hN
        go_wp2_with fail
        go_ret
        exact ⟨_, rfl, HN.out, hbe⟩
  · go_enter Tryz.func30, Tryz.ntmps30
    go_wp2_with fail
    go_ret
    refine ⟨_, rfl, ?_, Below.refl _ _⟩
    unfold joinL
    rw [if_neg (by omega)]
    exact World.ownsRow_nil _ _ _ _

set_option maxRecDepth 100000 in
set_option maxHeartbeats 1000000 in
theorem each_meet (A1 : Option Addr) (n1 c1 : Nat) (xs : List Int) (A2 : Option Addr) (n2 c2 : Nat) (ys : List Int) (w : World) (I1 : IntsIn w A1 n1 xs) (I2 : IntsIn w A2 n2 ys) (hn : n1 ≤ 17592186044416) :
    Calls Tryz.prog 30 #[.slice A1 n1 c1, .slice A2 n2 c2, .func (.func 32) #[] #[]] w fun e w' => ∃ v, e = .returned v ∧ Nums w' w.heap.size 3 v (meetL xs ys) ∧ Below w.heap.size w w' := by
  have J1 := Lib.hid I1
  have J2 := Lib.hid I2
  have l1 := I1.len
  have l2 := I2.len
  clear I1 I2
  by_cases hne : n1 = n2
  · subst hne
    obtain ⟨i0, hi0, hz0, hz1, hz2⟩ := info_parts i64info
    go_enter Tryz.func30, Tryz.ntmps30
    go_wp2_with (at_make; refine wpList_make_full _ rfl (.tmp 15) (.tmp 15) 23 rfl w.heap.size 3 i0 (.int .i64 0) 1 Tryz.underlying23 hi0 hz0 hz1 .i64 .i64 _ _ n1 rfl rfl rfl rfl ?b2 ?b3 ?b4 ?_)
    case b2 => rw [hz2]; omega
    case b3 => unfold maxLen; omega
    case b4 => exact Nat.le_refl _
    intro w1 hown hgr
    have hb1 : Below w.heap.size w w1 := (Below.refl _ _).grown hgr (Nat.le_refl _) (by simp)
    rw [show (madeCells #[Value.int IntKind.i64 0] n1).toList = (List.replicate n1 (0 : Int)).map (Value.int .i64) from (toList_madeCells_one _ _).trans (by simp)] at hown
    have Hown := Lib.hid hown
    clear hown hgr
    go_wp2_with fail
    go_loopw [19] (fun i wr => ∃ k : Nat, k ≤ n1 ∧ i = .int .i64 (k : Int) ∧ wr.ownsRow w.heap.size 3 1 (.slice (some ⟨w.heap.size, 0, none⟩) n1 n1) n1 (((List.zipWith (fun x y => if y < x then y else x) xs ys).take k ++ List.replicate (n1 - k) 0).map (Value.int .i64)) ∧ Below w.heap.size w wr)
      (fun i _ => n1 - (intOf i).toNat)
    case atStart => exact ⟨0, by omega, rfl, by simpa using Hown.out, hb1⟩
    case round =>
      obtain ⟨k, hk, rfl, hown, hbe⟩ := hrel
      by_cases hl : k < n1
      · have hlen : ((List.zipWith (fun x y : Int => if y < x then y else x) xs ys).take k ++ List.replicate (n1 - k) 0).length = n1 := by simp; omega
        have hc := hown.cellAt k (by omega)
        have hf := hown.frozenAt k
        obtain ⟨old, ho⟩ : ∃ x, (((List.zipWith (fun x y : Int => if y < x then y else x) xs ys).take k ++ List.replicate (n1 - k) 0).map (Value.int .i64))[k]? = some x := ⟨_, List.getElem?_eq_getElem (by rw [List.length_map, hlen]; omega)⟩
        rw [ho] at hc
        have hst := World.ownsRow.stored hown k (.int .i64 (if ys.getD k 0 < xs.getD k 0 then ys.getD k 0 else xs.getD k 0))
        rw [zip_step (fun x y => if y < x then y else x) xs ys n1 k l1 l2 hl] at hst
        obtain ⟨b1, o1, rfl, _, hc1⟩ := (J1.out.below hbe).some (by omega)
        obtain ⟨b2, o2, rfl, _, hc2⟩ := (J2.out.below hbe).some (by omega)
        have d1 := hc1 k hl
        have d2 := hc2 k hl
        obtain ⟨x, hx⟩ : ∃ x, xs.getD k 0 = x := ⟨_, rfl⟩
        obtain ⟨y, hy⟩ : ∃ y, ys.getD k 0 = y := ⟨_, rfl⟩
        rw [hx] at d1 hst
        rw [hy] at d2 hst
        obtain ⟨z, hz⟩ : ∃ z, (if y < x then y else x) = z := ⟨_, rfl⟩
        rw [hz] at hst
        have HZ := Lib.hid hz
        have Hst := Lib.hid hst
        have hl1 : (k : Int) < (n1 : Int) := by omega
        clear hc1 hc2 hx hy hown hst hz ho hlen
        go_wp2_with fail
        go_region_with (go_at_call 32; refine (meetf_any _ _ _).mono ?_; rw [HZ.out]; rintro e w2 ⟨rfl, rfl⟩)
        all_goals go_wp2_with fail
        all_goals go_roundw
        case rel => exact ⟨k + 1, by omega, by go_num, Hst.out.1, (below_setCell hbe (Nat.le_refl _) _).drew⟩
        case measure => simp [intOf]; omega
        case rel => exact ⟨k + 1, by omega, by go_num, Hst.out.1, (below_setCell hbe (Nat.le_refl _) _).drew⟩
        case measure => simp [intOf]; omega
      · obtain rfl : k = n1 := by omega
        have hN : Nums wr w.heap.size 3 (.slice (some ⟨w.heap.size, 0, none⟩) k k) (meetL xs ys) := by
          unfold Nums meetL
          rw [if_pos (by omega)]
          have hl2 : (List.zipWith (fun x y : Int => if y < x then y else x) xs ys).length = k := by simp; omega
          rw [hl2]
          simpa [List.take_of_length_le (Nat.le_of_eq hl2)] using hown
        have HN := Lib.hid hN
        clear hown hN
        go_wp2_with fail
        go_ret
        exact ⟨_, rfl, HN.out, hbe⟩
  · go_enter Tryz.func30, Tryz.ntmps30
    go_wp2_with fail
    go_ret
    refine ⟨_, rfl, ?_, Below.refl _ _⟩
    unfold meetL
    rw [if_neg (by omega)]
    exact World.ownsRow_nil _ _ _ _

set_option maxRecDepth 100000 in
theorem join_any (A1 : Option Addr) (n1 c1 : Nat) (xs : List Int) (A2 : Option Addr) (n2 c2 : Nat) (ys : List Int) (w : World) (I1 : IntsIn w A1 n1 xs) (I2 : IntsIn w A2 n2 ys) (hn : n1 ≤ 17592186044416) :
    Calls Tryz.prog 7 #[.slice A1 n1 c1, .slice A2 n2 c2] w fun e w' => ∃ v, e = .returned v ∧ Nums w' w.heap.size 3 v (joinL xs ys) ∧ Below w.heap.size w w' := by
  have E := Lib.hid (each_join A1 n1 c1 xs A2 n2 c2 ys w I1 I2 hn)
  clear I1 I2 hn
  go_enter Tryz.func7, Tryz.ntmps7
  go_wp2_with fail
  refine E.out.mono ?_
  rintro e w' ⟨v, rfl, hN, hb⟩
  have HN := Lib.hid hN
  clear hN
  go_wp2_with fail
  go_ret
  exact ⟨v, rfl, HN.out, hb⟩

set_option maxRecDepth 100000 in
theorem meet_any (A1 : Option Addr) (n1 c1 : Nat) (xs : List Int) (A2 : Option Addr) (n2 c2 : Nat) (ys : List Int) (w : World) (I1 : IntsIn w A1 n1 xs) (I2 : IntsIn w A2 n2 ys) (hn : n1 ≤ 17592186044416) :
    Calls Tryz.prog 8 #[.slice A1 n1 c1, .slice A2 n2 c2] w fun e w' => ∃ v, e = .returned v ∧ Nums w' w.heap.size 3 v (meetL xs ys) ∧ Below w.heap.size w w' := by
  have E := Lib.hid (each_meet A1 n1 c1 xs A2 n2 c2 ys w I1 I2 hn)
  clear I1 I2 hn
  go_enter Tryz.func8, Tryz.ntmps8
  go_wp2_with fail
  refine E.out.mono ?_
  rintro e w' ⟨v, rfl, hN, hb⟩
  have HN := Lib.hid hN
  clear hN
  go_wp2_with fail
  go_ret
  exact ⟨v, rfl, HN.out, hb⟩
end Go.Proofs.YtalacionlbmcpaaGreatDoor
