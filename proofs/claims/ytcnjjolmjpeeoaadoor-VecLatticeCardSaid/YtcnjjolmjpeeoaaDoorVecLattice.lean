/-
  VecLattice: Leq is an order; Join is the least above both, Meet the greatest below both.
-/
import Derived.Test.YtcnjjolmjpeeoaaDoorAliveV
import Derived.Test.YtcnjjolmjpeeoaaDoorVecLatP
import Derived.Test.YtcnjjolmjpeeoaaDoorVecBack
import Derived.Deep.CutRange
namespace Go.Proofs.YtcnjjolmjpeeoaaDoor
open Go.RowKit

theorem joinL_wf {xs ys : List Int} (hx : ∀ z ∈ xs, (Lit.int .i64 z).wf = true) (hy : ∀ z ∈ ys, (Lit.int .i64 z).wf = true) : ∀ z ∈ joinL xs ys, (Lit.int .i64 z).wf = true := by
  intro z hz
  unfold joinL at hz
  split at hz
  · rename_i h
    obtain ⟨j, hj, rfl⟩ := List.mem_iff_getElem.1 hz
    rw [List.length_zipWith] at hj
    rw [List.getElem_zipWith]
    split
    · exact hy _ (List.getElem_mem _)
    · exact hx _ (List.getElem_mem _)
  · cases hz
theorem meetL_wf {xs ys : List Int} (hx : ∀ z ∈ xs, (Lit.int .i64 z).wf = true) (hy : ∀ z ∈ ys, (Lit.int .i64 z).wf = true) : ∀ z ∈ meetL xs ys, (Lit.int .i64 z).wf = true := by
  intro z hz
  unfold meetL at hz
  split at hz
  · rename_i h
    obtain ⟨j, hj, rfl⟩ := List.mem_iff_getElem.1 hz
    rw [List.length_zipWith] at hj
    rw [List.getElem_zipWith]
    split
    · exact hy _ (List.getElem_mem _)
    · exact hx _ (List.getElem_mem _)
  · cases hz

/-- The call answers so from any world behind w0. -/
theorem leq_held {w0 : World} {A1 : Option Addr} {n1 c1 : Nat} {xs : List Int} {A2 : Option Addr} {n2 c2 : Nat} {ys : List Int} (I1 : IntsIn w0 A1 n1 xs) (I2 : IntsIn w0 A2 n2 ys) (W : World) (h : Below w0.heap.size w0 W) :
    Calls Tryd.prog 21 #[.slice A1 n1 c1, .slice A2 n2 c2] W fun e w' => e = .returned (.bool (leqL xs ys)) ∧ Below w0.heap.size w0 w' := by
  refine (leq_any A1 n1 c1 xs A2 n2 c2 ys W (I1.below h) (I2.below h)).mono ?_
  rintro e w' ⟨rfl, q, rfl⟩
  exact ⟨rfl, below_drewN h q⟩
theorem same_held {w0 : World} {A1 : Option Addr} {n1 c1 : Nat} {xs : List Int} {A2 : Option Addr} {n2 c2 : Nat} {ys : List Int} (I1 : IntsIn w0 A1 n1 xs) (I2 : IntsIn w0 A2 n2 ys) (W : World) (h : Below w0.heap.size w0 W) :
    Calls Tryd.prog 22 #[.slice A1 n1 c1, .slice A2 n2 c2] W fun e w' => e = .returned (.bool (decide (xs = ys))) ∧ Below w0.heap.size w0 w' := by
  refine (same_any A1 n1 c1 xs A2 n2 c2 ys W (I1.below h) (I2.below h)).mono ?_
  rintro e w' ⟨rfl, q, rfl⟩
  exact ⟨rfl, below_drewN h q⟩
theorem join_held {w0 : World} {A1 : Option Addr} {n c1 : Nat} {xs : List Int} {A2 : Option Addr} {c2 : Nat} {ys : List Int} (I1 : IntsIn w0 A1 n xs) (I2 : IntsIn w0 A2 n ys) (hn : n ≤ 60) (W : World) (h : Below w0.heap.size w0 W) :
    Calls Tryd.prog 19 #[.slice A1 n c1, .slice A2 n c2] W fun e w' => ∃ A c, e = .returned (.slice A n c) ∧ IntsIn w' A n (joinL xs ys) ∧ Below w0.heap.size w0 w' := by
  refine (join_any A1 n c1 xs A2 n c2 ys W (I1.below h) (I2.below h) (by omega)).mono ?_
  rintro e w' ⟨v, rfl, hN, hb⟩
  obtain ⟨A, c, rfl, I, _⟩ := hN.ints (joinL_wf I1.wf I2.wf)
  rw [joinL_length (I1.len.trans I2.len.symm), I1.len] at I ⊢
  exact ⟨A, c, rfl, I, h.trans (hb.mono h.size)⟩
theorem meet_held {w0 : World} {A1 : Option Addr} {n c1 : Nat} {xs : List Int} {A2 : Option Addr} {c2 : Nat} {ys : List Int} (I1 : IntsIn w0 A1 n xs) (I2 : IntsIn w0 A2 n ys) (hn : n ≤ 60) (W : World) (h : Below w0.heap.size w0 W) :
    Calls Tryd.prog 20 #[.slice A1 n c1, .slice A2 n c2] W fun e w' => ∃ A c, e = .returned (.slice A n c) ∧ IntsIn w' A n (meetL xs ys) ∧ Below w0.heap.size w0 w' := by
  refine (meet_any A1 n c1 xs A2 n c2 ys W (I1.below h) (I2.below h) (by omega)).mono ?_
  rintro e w' ⟨v, rfl, hN, hb⟩
  obtain ⟨A, c, rfl, I, _⟩ := hN.ints (meetL_wf I1.wf I2.wf)
  rw [meetL_length (I1.len.trans I2.len.symm), I1.len] at I ⊢
  exact ⟨A, c, rfl, I, h.trans (hb.mono h.size)⟩

set_option maxRecDepth 100000 in
set_option maxHeartbeats 4000000 in
theorem vecLattice_no (A0 : Option Addr) (n0 c0 : Nat) (A1 : Option Addr) (n1 c1 : Nat) (A2 : Option Addr) (n2 c2 : Nat) (w : World) (hL : LaidV w) (h : ¬ ((n0 ≤ 60 ∧ n1 ≤ 60) ∧ n0 = n1 ∧ n1 = n2)) :
    Calls Tryd.prog 4 #[.slice A0 n0 c0, .slice A1 n1 c1, .slice A2 n2 c2] w fun e w' => e = .returned (.bool true) ∧ Below w.heap.size w w' := by
  have Al := Lib.hid (aliveV_any w hL)
  clear hL
  by_cases hlt : n0 ≤ 60 ∧ n1 ≤ 60
  · have LG := Lib.hid (light_any A0 n0 c0 A1 n1 c1 w)
    have HT := Lib.hid (decide_eq_true hlt)
    by_cases h01 : n0 = n1
    · have g2 : ((n1 : Int) != (n2 : Int)) = true := by rw [bne_iff_ne]; omega
      subst h01
      clear h hlt
      go_enter Tryd.func4, Tryd.ntmps4
      go_wp2_with fail
      refine LG.out.mono ?_
      rw [HT.out]
      rintro e w' ⟨rfl, rfl⟩
      go_wp2_with fail
      refine Al.out.mono ?_
      rintro e w1 ⟨rfl, hb1⟩
      go_wp2_with fail
      go_ret
      exact ⟨rfl, hb1⟩
    · have g2 : ((n0 : Int) != (n1 : Int)) = true := by rw [bne_iff_ne]; omega
      clear h hlt h01
      go_enter Tryd.func4, Tryd.ntmps4
      go_wp2_with fail
      refine LG.out.mono ?_
      rw [HT.out]
      rintro e w' ⟨rfl, rfl⟩
      go_wp2_with fail
      refine Al.out.mono ?_
      rintro e w1 ⟨rfl, hb1⟩
      go_wp2_with fail
      go_ret
      exact ⟨rfl, hb1⟩
  · have LG := Lib.hid (light_any A0 n0 c0 A1 n1 c1 w)
    have HT := Lib.hid (decide_eq_false hlt)
    clear h hlt
    go_enter Tryd.func4, Tryd.ntmps4
    go_wp2_with fail
    refine LG.out.mono ?_
    rw [HT.out]
    rintro e w' ⟨rfl, rfl⟩
    go_wp2_with fail
    refine Al.out.mono ?_
    rintro e w1 ⟨rfl, hb1⟩
    go_wp2_with fail
    go_ret
    exact ⟨rfl, hb1⟩

set_option maxRecDepth 100000 in
set_option maxHeartbeats 8000000 in
theorem vecLattice_yes (A0 : Option Addr) (n c0 : Nat) (xs : List Int) (A1 : Option Addr) (c1 : Nat) (ys : List Int) (A2 : Option Addr) (c2 : Nat) (zs : List Int) (w : World) (I0 : IntsIn w A0 n xs) (I1 : IntsIn w A1 n ys) (I2 : IntsIn w A2 n zs) (hL : LaidV w) (hn : n ≤ 60) :
    Calls Tryd.prog 4 #[.slice A0 n c0, .slice A1 n c1, .slice A2 n c2] w fun e w' => e = .returned (.bool true) ∧ Below w.heap.size w w' := by
  have HL := Lib.hid hL
  have l01 : xs.length = ys.length := I0.len.trans I1.len.symm
  have l12 : ys.length = zs.length := I1.len.trans I2.len.symm
  have LG := Lib.hid (light_any A0 n c0 A1 n c1 w)
  have HT := Lib.hid (decide_eq_true (show n ≤ 60 ∧ n ≤ 60 from ⟨hn, hn⟩))
  have J := Lib.hid (join_held (c1 := c0) (c2 := c1) I0 I1 hn w (Below.refl _ _))
  have Lj := Lib.hid (joinL_length l01)
  have Lm := Lib.hid (meetL_length l01)
  have L01 := Lib.hid l01
  have L12 := Lib.hid l12
  have K0 := Lib.hid I0
  have K1 := Lib.hid I1
  have K2 := Lib.hid I2
  clear I0 I1 I2 hL l01 l12
  go_enter Tryd.func4, Tryd.ntmps4
  go_wp2_with fail
  refine LG.out.mono ?_
  rw [HT.out]
  rintro e w' ⟨rfl, rfl⟩
  go_wp2_with fail
  refine J.out.mono ?_
  rintro e w1 ⟨A3, c3, rfl, I3, hb1⟩
  go_wp2_with fail
  refine (meet_held (K0.out.below hb1) (K1.out.below hb1) hn w1 (Below.refl _ _)).mono ?_
  rintro e w2 ⟨A4, c4, rfl, I4, hb2⟩
  have I3 := I3.below hb2
  have hb : Below w.heap.size w w2 := hb1.trans (hb2.mono hb1.size)
  have I0 := K0.out.below hb
  have I1 := K1.out.below hb
  have I2 := K2.out.below hb
  have B2 : Below w2.heap.size w2 w2 := Below.refl _ _
  obtain ⟨j, hj⟩ : ∃ j, j = joinL xs ys := ⟨_, rfl⟩
  obtain ⟨m, hm⟩ : ∃ m, m = meetL xs ys := ⟨_, rfl⟩
  rw [← hj] at I3
  rw [← hm] at I4
  have Hj := Lib.hid hj
  have Hm := Lib.hid hm
  have HB := Lib.hid hb
  clear hb1 hb2 hb hj hm J LG HT
  go_upto_region 4 with fail
  go_cut [67] from 34 to 66 (fun s67 wx => s67 = .bool false ∧ Below w2.heap.size w2 wx)
  case first =>
    have haa := leqL_refl xs
    cases hab : leqL xs ys with
    | false =>
      go_wp2_with (first | (go_at_call 21; refine (leq_held (by assumption) (by assumption) _ (by assumption)).mono ?_; rintro e W ⟨rfl, hW⟩) | (go_at_call 22; refine (same_held (by assumption) (by assumption) _ (by assumption)).mono ?_; rintro e W ⟨rfl, hW⟩))
      go_meet
      exact ⟨rfl, by assumption⟩
    | true =>
      have hba := leqL_anti hab
      obtain ⟨d, hd⟩ : ∃ d, d = decide (xs = ys) := ⟨_, rfl⟩
      have SM : Hid (∀ W, Below w2.heap.size w2 W → Calls Tryd.prog 22 #[.slice A0 n c0, .slice A1 n c1] W fun e w' => e = .returned (.bool d) ∧ Below w2.heap.size w2 w') := by
        rw [hd]; exact same_held I0 I1
      rw [← hd] at hba
      clear hd
      cases hbc : leqL ys zs with
      | false =>
        go_wp2_with (first | (go_at_call 21; refine (leq_held (by assumption) (by assumption) _ (by assumption)).mono ?_; rintro e W ⟨rfl, hW⟩) | (go_at_call 22; refine (SM.out _ (by assumption)).mono ?_; rintro e W ⟨rfl, hW⟩))
        go_meet
        exact ⟨rfl, by assumption⟩
      | true =>
        have hac := leqL_trans hab hbc
        go_wp2_with (first | (go_at_call 21; refine (leq_held (by assumption) (by assumption) _ (by assumption)).mono ?_; rintro e W ⟨rfl, hW⟩) | (go_at_call 22; refine (SM.out _ (by assumption)).mono ?_; rintro e W ⟨rfl, hW⟩))
        go_meet
        exact ⟨rfl, by assumption⟩
  case rest =>
  obtain ⟨rfl, B3⟩ := hcut
  clear B2
  go_upto_region 6 with fail
  go_cut [121] from 68 to 120 (fun s121 wx => s121 = .bool false ∧ Below w2.heap.size w2 wx)
  case first =>
    have h1 : leqL xs j = true := by rw [Hj.out]; exact leq_join_l L01.out
    have h2 : leqL ys j = true := by rw [Hj.out]; exact leq_join_r L01.out
    have h3 : leqL m xs = true := by rw [Hm.out]; exact meet_leq_l L01.out
    have h4 : leqL m ys = true := by rw [Hm.out]; exact meet_leq_r L01.out
    have up : leqL xs zs = false ∨ (leqL xs zs = true ∧ leqL ys zs = false) ∨ (leqL xs zs = true ∧ leqL ys zs = true ∧ leqL j zs = true) := by
      cases k1 : leqL xs zs with
      | false => exact Or.inl rfl
      | true =>
        cases k2 : leqL ys zs with
        | false => exact Or.inr (Or.inl ⟨rfl, rfl⟩)
        | true => exact Or.inr (Or.inr ⟨rfl, rfl, by rw [Hj.out]; exact join_least k1 k2⟩)
    have dn : leqL zs xs = false ∨ (leqL zs xs = true ∧ leqL zs ys = false) ∨ (leqL zs xs = true ∧ leqL zs ys = true ∧ leqL zs m = true) := by
      cases k1 : leqL zs xs with
      | false => exact Or.inl rfl
      | true =>
        cases k2 : leqL zs ys with
        | false => exact Or.inr (Or.inl ⟨rfl, rfl⟩)
        | true => exact Or.inr (Or.inr ⟨rfl, rfl, by rw [Hm.out]; exact meet_greatest k1 k2⟩)
    rcases up with u1 | ⟨u1, u2⟩ | ⟨u1, u2, u3⟩
    all_goals
      rcases dn with e1 | ⟨e1, e2⟩ | ⟨e1, e2, e3⟩
      all_goals
        go_wp2_with (first | (go_at_call 21; refine (leq_held (by assumption) (by assumption) _ (by assumption)).mono ?_; rintro e W ⟨rfl, hW⟩))
        go_meet
        exact ⟨rfl, by assumption⟩
  case rest =>
  obtain ⟨rfl, B4⟩ := hcut
  clear B3
  have h4 : Below w.heap.size w wc := HB.out.trans (B4.mono HB.out.size)
  obtain ⟨d, hd⟩ : ∃ d, d = leqL xs ys := ⟨_, rfl⟩
  have E1 : Hid (decide (joinL j zs = joinL xs (joinL ys zs)) = true) := decide_eq_true (by rw [Hj.out]; exact join_assoc L01.out L12.out)
  have E2 : Hid (decide (meetL xs (joinL ys zs) = joinL m (meetL xs zs)) = true) := decide_eq_true (by rw [Hm.out]; exact meet_join L01.out L12.out)
  have E3 : Hid (decide (j = joinL ys xs) = true) := decide_eq_true (by rw [Hj.out]; exact (join_comm L01.out).symm)
  have E4 : Hid (leqL xs ys = d) := hd.symm
  have E5 : Hid (decide (j = ys) = d) := by rw [Hj.out]; exact ((leq_join L01.out).symm.trans hd.symm)
  have I0 := I0.below B4
  have I1 := I1.below B4
  have I2 := I2.below B4
  have I3 := I3.below B4
  have I4 := I4.below B4
  clear B4 hd
  go_wp2_with fail
  refine (aliveV_any wc (HL.out.on h4)).mono ?_
  rintro e w5 ⟨rfl, hb⟩
  have I0 := I0.below hb
  have I1 := I1.below hb
  have I2 := I2.below hb
  have I3 := I3.below hb
  have I4 := I4.below hb
  have h5 : Below w.heap.size w w5 := h4.trans (hb.mono h4.size)
  clear hb h4
  go_wp2_with fail
  refine (join_held I3 I2 hn w5 (Below.refl _ _)).mono ?_
  rintro e w6 ⟨AP1, cP1, rfl, P1, hb⟩
  have I0 := I0.below hb
  have I1 := I1.below hb
  have I2 := I2.below hb
  have I3 := I3.below hb
  have I4 := I4.below hb
  have h6 : Below w.heap.size w w6 := h5.trans (hb.mono h5.size)
  clear hb h5
  go_wp2_with fail
  refine (join_held I1 I2 hn w6 (Below.refl _ _)).mono ?_
  rintro e w7 ⟨AP2, cP2, rfl, P2, hb⟩
  have I0 := I0.below hb
  have I1 := I1.below hb
  have I2 := I2.below hb
  have I3 := I3.below hb
  have I4 := I4.below hb
  have P1 := P1.below hb
  have h7 : Below w.heap.size w w7 := h6.trans (hb.mono h6.size)
  clear hb h6
  go_wp2_with fail
  refine (join_held I0 P2 hn w7 (Below.refl _ _)).mono ?_
  rintro e w8 ⟨AP3, cP3, rfl, P3, hb⟩
  have I0 := I0.below hb
  have I1 := I1.below hb
  have I2 := I2.below hb
  have I3 := I3.below hb
  have I4 := I4.below hb
  have P1 := P1.below hb
  have P2 := P2.below hb
  have h8 : Below w.heap.size w w8 := h7.trans (hb.mono h7.size)
  clear hb h7
  go_wp2_with fail
  refine (same_held P1 P3 w8 (Below.refl _ _)).mono ?_
  rw [E1.out]
  rintro e w9 ⟨rfl, hb⟩
  have I0 := I0.below hb
  have I1 := I1.below hb
  have I2 := I2.below hb
  have I3 := I3.below hb
  have I4 := I4.below hb
  have P1 := P1.below hb
  have P2 := P2.below hb
  have P3 := P3.below hb
  have h9 : Below w.heap.size w w9 := h8.trans (hb.mono h8.size)
  clear hb h8
  go_wp2_with fail
  refine (join_held I1 I2 hn w9 (Below.refl _ _)).mono ?_
  rintro e w10 ⟨AP4, cP4, rfl, P4, hb⟩
  have I0 := I0.below hb
  have I1 := I1.below hb
  have I2 := I2.below hb
  have I3 := I3.below hb
  have I4 := I4.below hb
  have P1 := P1.below hb
  have P2 := P2.below hb
  have P3 := P3.below hb
  have h10 : Below w.heap.size w w10 := h9.trans (hb.mono h9.size)
  clear hb h9
  go_wp2_with fail
  refine (meet_held I0 P4 hn w10 (Below.refl _ _)).mono ?_
  rintro e w11 ⟨AP5, cP5, rfl, P5, hb⟩
  have I0 := I0.below hb
  have I1 := I1.below hb
  have I2 := I2.below hb
  have I3 := I3.below hb
  have I4 := I4.below hb
  have P1 := P1.below hb
  have P2 := P2.below hb
  have P3 := P3.below hb
  have P4 := P4.below hb
  have h11 : Below w.heap.size w w11 := h10.trans (hb.mono h10.size)
  clear hb h10
  go_wp2_with fail
  refine (meet_held I0 I2 hn w11 (Below.refl _ _)).mono ?_
  rintro e w12 ⟨AP6, cP6, rfl, P6, hb⟩
  have I0 := I0.below hb
  have I1 := I1.below hb
  have I2 := I2.below hb
  have I3 := I3.below hb
  have I4 := I4.below hb
  have P1 := P1.below hb
  have P2 := P2.below hb
  have P3 := P3.below hb
  have P4 := P4.below hb
  have P5 := P5.below hb
  have h12 : Below w.heap.size w w12 := h11.trans (hb.mono h11.size)
  clear hb h11
  go_wp2_with fail
  refine (join_held I4 P6 hn w12 (Below.refl _ _)).mono ?_
  rintro e w13 ⟨AP7, cP7, rfl, P7, hb⟩
  have I0 := I0.below hb
  have I1 := I1.below hb
  have I2 := I2.below hb
  have I3 := I3.below hb
  have I4 := I4.below hb
  have P1 := P1.below hb
  have P2 := P2.below hb
  have P3 := P3.below hb
  have P4 := P4.below hb
  have P5 := P5.below hb
  have P6 := P6.below hb
  have h13 : Below w.heap.size w w13 := h12.trans (hb.mono h12.size)
  clear hb h12
  go_wp2_with fail
  refine (same_held P5 P7 w13 (Below.refl _ _)).mono ?_
  rw [E2.out]
  rintro e w14 ⟨rfl, hb⟩
  have I0 := I0.below hb
  have I1 := I1.below hb
  have I2 := I2.below hb
  have I3 := I3.below hb
  have I4 := I4.below hb
  have P1 := P1.below hb
  have P2 := P2.below hb
  have P3 := P3.below hb
  have P4 := P4.below hb
  have P5 := P5.below hb
  have P6 := P6.below hb
  have P7 := P7.below hb
  have h14 : Below w.heap.size w w14 := h13.trans (hb.mono h13.size)
  clear hb h13
  go_wp2_with fail
  refine (join_held I1 I0 hn w14 (Below.refl _ _)).mono ?_
  rintro e w15 ⟨AP8, cP8, rfl, P8, hb⟩
  have I0 := I0.below hb
  have I1 := I1.below hb
  have I2 := I2.below hb
  have I3 := I3.below hb
  have I4 := I4.below hb
  have P1 := P1.below hb
  have P2 := P2.below hb
  have P3 := P3.below hb
  have P4 := P4.below hb
  have P5 := P5.below hb
  have P6 := P6.below hb
  have P7 := P7.below hb
  have h15 : Below w.heap.size w w15 := h14.trans (hb.mono h14.size)
  clear hb h14
  go_wp2_with fail
  refine (same_held I3 P8 w15 (Below.refl _ _)).mono ?_
  rw [E3.out]
  rintro e w16 ⟨rfl, hb⟩
  have I0 := I0.below hb
  have I1 := I1.below hb
  have I2 := I2.below hb
  have I3 := I3.below hb
  have I4 := I4.below hb
  have P1 := P1.below hb
  have P2 := P2.below hb
  have P3 := P3.below hb
  have P4 := P4.below hb
  have P5 := P5.below hb
  have P6 := P6.below hb
  have P7 := P7.below hb
  have P8 := P8.below hb
  have h16 : Below w.heap.size w w16 := h15.trans (hb.mono h15.size)
  clear hb h15
  go_wp2_with fail
  refine (leq_held I0 I1 w16 (Below.refl _ _)).mono ?_
  rw [E4.out]
  rintro e w17 ⟨rfl, hb⟩
  have I0 := I0.below hb
  have I1 := I1.below hb
  have I2 := I2.below hb
  have I3 := I3.below hb
  have I4 := I4.below hb
  have P1 := P1.below hb
  have P2 := P2.below hb
  have P3 := P3.below hb
  have P4 := P4.below hb
  have P5 := P5.below hb
  have P6 := P6.below hb
  have P7 := P7.below hb
  have P8 := P8.below hb
  have h17 : Below w.heap.size w w17 := h16.trans (hb.mono h16.size)
  clear hb h16
  go_wp2_with fail
  refine (same_held I3 I1 w17 (Below.refl _ _)).mono ?_
  rw [E5.out]
  rintro e w18 ⟨rfl, hb⟩
  have I0 := I0.below hb
  have I1 := I1.below hb
  have I2 := I2.below hb
  have I3 := I3.below hb
  have I4 := I4.below hb
  have P1 := P1.below hb
  have P2 := P2.below hb
  have P3 := P3.below hb
  have P4 := P4.below hb
  have P5 := P5.below hb
  have P6 := P6.below hb
  have P7 := P7.below hb
  have P8 := P8.below hb
  have h18 : Below w.heap.size w w18 := h17.trans (hb.mono h17.size)
  clear hb h17
  go_wp2_with fail
  go_ret
  exact ⟨rfl, h18⟩

theorem lawVecLattice (A0 : Option Addr) (n0 c0 : Nat) (xs : List Int) (A1 : Option Addr) (n1 c1 : Nat) (ys : List Int) (A2 : Option Addr) (n2 c2 : Nat) (zs : List Int) (w : World) (I0 : IntsIn w A0 n0 xs) (_m0 : n0 ≤ 17592186043904) (I1 : IntsIn w A1 n1 ys) (_m1 : n1 ≤ 17592186043904) (I2 : IntsIn w A2 n2 zs) (_m2 : n2 ≤ 17592186043904) (hL : LaidV w) :
    Calls Tryd.prog 4 #[.slice A0 n0 c0, .slice A1 n1 c1, .slice A2 n2 c2] w fun e w' => e = .returned (.bool true) ∧ Below w.heap.size w w' := by
  by_cases h : (n0 ≤ 60 ∧ n1 ≤ 60) ∧ n0 = n1 ∧ n1 = n2
  · obtain ⟨⟨h0, _⟩, rfl, rfl⟩ := h
    exact vecLattice_yes A0 n0 c0 xs A1 c1 ys A2 c2 zs w I0 I1 I2 hL h0
  · exact vecLattice_no A0 n0 c0 A1 n1 c1 A2 n2 c2 w hL h
end Go.Proofs.YtcnjjolmjpeeoaaDoor
