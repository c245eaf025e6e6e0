/-
  VecWith: a time that is raised makes a vector greater; what is set back is as it was; no other time changes.
-/
import Derived.Test.YtcnjjolmjpeeoaaDoorAliveV
import Derived.Deep.RegionHeld3
namespace Go.Proofs.YtcnjjolmjpeeoaaDoor
open Go.RowKit

theorem withL_length (xs : List Int) (i t : Int) : (withL xs i t).length = xs.length := by
  unfold withL; split <;> simp
theorem withL_at (xs : List Int) (i t : Int) (k : Nat) (hk : k < xs.length) : (withL xs i t).getD k 0 = if (k : Int) = i then t else xs.getD k 0 := by
  unfold withL
  split
  · rename_i h
    rw [List.getD_eq_getElem?_getD, List.getElem?_set, List.getD_eq_getElem?_getD]
    by_cases h2 : i.toNat = k
    · rw [if_pos h2, if_pos (by omega), if_pos (by omega)]; rfl
    · rw [if_neg h2, if_neg (by omega)]
  · rename_i h
    rw [if_neg (by omega)]
theorem withL_wf {xs : List Int} {i t : Int} (h : ∀ z ∈ xs, (Lit.int .i64 z).wf = true) (ht : (Lit.int .i64 t).wf = true) : ∀ z ∈ withL xs i t, (Lit.int .i64 z).wf = true := by
  intro z hz
  unfold withL at hz
  split at hz
  · rcases List.mem_or_eq_of_mem_set hz with h2 | rfl
    · exact h z h2
    · exact ht
  · exact h z hz
theorem withL_out (xs : List Int) (i t : Int) (h : ¬ (0 ≤ i ∧ i < (xs.length : Int))) : withL xs i t = xs := if_neg h
theorem withL_back (xs : List Int) (i : Nat) (t : Int) (hi : i < xs.length) : withL (withL xs i t) i (xs.getD i 0) = xs := by
  refine list_ext_getD (by rw [withL_length, withL_length]) fun j hj => ?_
  rw [withL_length, withL_length] at hj
  rw [withL_at _ _ _ _ (by rw [withL_length]; exact hj), withL_at _ _ _ _ hj]
  by_cases h : (j : Int) = (i : Int)
  · have : j = i := by omega
    subst this
    rw [if_pos h]
  · rw [if_neg h, if_neg h]
theorem withL_leq (xs : List Int) (i : Nat) (t : Int) (hi : i < xs.length) : leqL xs (withL xs i t) = decide (xs.getD i 0 ≤ t) := by
  unfold leqL
  refine decide_eq_decide.2 ⟨fun h => ?_, fun h => ⟨(withL_length _ _ _).symm, fun j hj => ?_⟩⟩
  · have := h.2 i hi
    rwa [withL_at _ _ _ _ hi, if_pos rfl] at this
  · rw [withL_at _ _ _ _ hj]
    by_cases h2 : (j : Int) = (i : Int)
    · have : j = i := by omega
      subst this
      rw [if_pos h2]; exact h
    · rw [if_neg h2]; exact Int.le_refl _

set_option maxRecDepth 100000 in
set_option maxHeartbeats 4000000 in
theorem lawVecWith (A0 : Option Addr) (n0 c0 : Nat) (xs : List Int) (i : Int) (hi : (Lit.int .i64 i).wf = true) (t : Int) (ht : (Lit.int .i64 t).wf = true) (w : World) (I0 : IntsIn w A0 n0 xs) (m0 : n0 ≤ 17592186043904) (hL : LaidV w) :
    Calls Tryd.prog 6 #[.slice A0 n0 c0, .int .i64 i, .int .i64 t] w fun e w' => e = .returned (.bool true) ∧ Below w.heap.size w w' := by
  have J0 := Lib.hid I0
  have HL := Lib.hid hL
  have Ht := Lib.hid ht
  have l0 := I0.len
  clear I0 hL hi ht
  by_cases hn : 60 < n0
  · go_enter Tryd.func6, Tryd.ntmps6
    go_wp2_with fail
    refine (aliveV_any w HL.out).mono ?_
    rintro e w1 ⟨rfl, hb1⟩
    go_wp2_with fail
    go_ret
    exact ⟨rfl, hb1⟩
  · subst l0
    go_enter Tryd.func6, Tryd.ntmps6
    go_wp2_with fail
    refine (with_any A0 xs.length c0 xs i t w J0.out (by omega)).mono ?_
    rintro e w1 ⟨v, rfl, hN, hb1⟩
    obtain ⟨A1, c1, rfl, I1, _⟩ := hN.ints (withL_wf J0.out.wf Ht.out)
    rw [withL_length] at I1 ⊢
    have J1 := Lib.hid I1
    have HN := Lib.hid hN
    clear hN I1
    go_wp2_with fail
    go_loopw [8] (fun k wr => ∃ (j q : Nat), j ≤ xs.length ∧ k = .int .i64 (j : Int) ∧ Hid (wr = w1.drewN q)) (fun k _ => xs.length - (intOf k).toNat)
    case atStart => exact ⟨0, 0, by omega, rfl, rfl⟩
    case round =>
      obtain ⟨j, q, hj, rfl, Hw⟩ := hrel
      have K0 := (J0.out.below hb1).drewN q
      have K1 := J1.out.drewN q
      rw [← Hw.out] at K0 K1
      by_cases hl : j < xs.length
      · obtain ⟨b0, o0, rfl, _, hc0⟩ := K0.some (by omega)
        obtain ⟨b1, o1, rfl, _, hc1⟩ := K1.some (by omega)
        have d0 := hc0 j hl
        have d1 := hc1 j hl
        rw [withL_at _ _ _ _ hl] at d1
        have hl1 : (j : Int) < (xs.length : Int) := by omega
        obtain ⟨x, hx⟩ : ∃ x, xs.getD j 0 = x := ⟨_, rfl⟩
        rw [hx] at d0 d1
        clear hc0 hc1 hx K0 K1
        by_cases hji : (j : Int) = i
        · rw [if_pos hji] at d1
          have g1 : ((j : Int) != i) = false := by rw [bne_eq_false_iff_eq]; exact hji
          have g2 : ((j : Int) == i) = true := beq_iff_eq.2 hji
          clear hji
          go_wp2_with fail
          go_quiet (fail)
          go_wp2_with fail
          go_roundw
          case rel => exact ⟨j + 1, _, by omega, by go_num, (by rw [Hw.out, World.drewN_drewN]; rfl)⟩
          case measure => simp [intOf]; omega
        · rw [if_neg hji] at d1
          have g1 : ((j : Int) != i) = true := by rw [bne_iff_ne]; exact hji
          have g2 : ((j : Int) == i) = false := beq_eq_false_iff_ne.2 hji
          clear hji
          go_wp2_with fail
          go_quiet (fail)
          go_wp2_with fail
          go_roundw
          case rel => exact ⟨j + 1, _, by omega, by go_num, (by rw [Hw.out, World.drewN_drewN]; rfl)⟩
          case measure => simp [intOf]; omega
      · obtain rfl : j = xs.length := by omega
        have hbr : Below w.heap.size w wr := by rw [Hw.out]; exact below_drewN hb1 q
        have hb1r : Below w1.heap.size w1 wr := by rw [Hw.out]; exact below_drewN (Below.refl _ _) q
        have Lr := Lib.hid (HL.out.on hbr)
        clear K0 K1 Hw
        by_cases hin : 0 ≤ i ∧ i < (xs.length : Int)
        · obtain ⟨i, rfl⟩ := Int.eq_ofNat_of_zero_le hin.1
          have hix : i < xs.length := by omega
          obtain ⟨b0, o0, rfl, hlt0, hc0⟩ := (J0.out.below hbr).some (by omega)
          have d0 := hc0 i hix
          obtain ⟨x, hx⟩ : ∃ x, xs.getD i 0 = x := ⟨_, rfl⟩
          rw [hx] at d0
          have hin' : (i : Int) < (xs.length : Int) := by omega
          have Keep : Hid (∀ w', Below wr.heap.size wr w' → Below wr.heap.size wr w' ∧ w'.cell? ⟨b0, o0 + i, none⟩ = some (.int .i64 x)) :=
            fun w' h => ⟨h, (h.cell (p := ⟨b0, o0 + i, none⟩) hlt0).trans d0⟩
          have Al : Hid (∀ w', Below wr.heap.size wr w' → Calls Tryd.prog 18 #[] w' fun e w'' => e = .returned (.bool true) ∧ Below wr.heap.size wr w'') :=
            fun w' h => (aliveV_any w' (Lr.out.on h)).mono fun e w'' h2 => ⟨h2.1, h.trans (h2.2.mono h.size)⟩
          have Lq : Hid (∀ w', Below wr.heap.size wr w' → Calls Tryd.prog 21 #[.slice (some ⟨b0, o0, none⟩) xs.length c0, .slice A1 xs.length c1] w' fun e w'' => e = .returned (.bool (decide (x ≤ t))) ∧ Below wr.heap.size wr w'') := by
            intro w' h
            refine (leq_any _ _ c0 xs _ _ c1 _ w' ((J0.out.below hbr).below h) ((J1.out.below hb1r).below h)).mono ?_
            rw [withL_leq xs i t hix, hx]
            rintro e w'' ⟨rfl, q2, rfl⟩
            exact ⟨rfl, below_drewN h q2⟩
          have Wi : Hid (∀ w', Below wr.heap.size wr w' → Calls Tryd.prog 26 #[.slice A1 xs.length c1, .int .i64 i, .int .i64 x] w' fun e w'' => ∃ A c, e = .returned (.slice A xs.length c) ∧ Below wr.heap.size wr w'' ∧ IntsIn w'' A xs.length xs) := by
            intro w' h
            refine (with_any A1 xs.length c1 _ i x w' ((J1.out.below hb1r).below h) (by omega)).mono ?_
            rw [← hx, withL_back xs i t hix]
            rintro e w'' ⟨v, rfl, hN, hb⟩
            obtain ⟨A, c, rfl, I, _⟩ := hN.ints J0.out.wf
            exact ⟨A, c, rfl, h.trans (hb.mono h.size), I⟩
          have Sa : Hid (∀ w' A c, Below wr.heap.size wr w' → IntsIn w' A xs.length xs → Calls Tryd.prog 22 #[.slice A xs.length c, .slice (some ⟨b0, o0, none⟩) xs.length c0] w' fun e w'' => e = .returned (.bool true) ∧ Below wr.heap.size wr w'') := by
            intro w' A c h I
            refine (same_any A _ c xs _ _ c0 xs w' I ((J0.out.below hbr).below h)).mono ?_
            rw [decide_eq_true rfl]
            rintro e w'' ⟨rfl, q2, rfl⟩
            exact ⟨rfl, below_drewN h q2⟩
          have B0 : Below wr.heap.size wr wr.drew := (Below.refl _ _).drew
          have Hbr := Lib.hid hbr
          clear hc0 hx hb1r hb1 hbr
          go_wp2_with fail
          go_region_held3 (fun w' => Below wr.heap.size wr w' ∧ w'.cell? ⟨b0, o0 + i, none⟩ = some (.int .i64 x))
            (first | exact Keep.out _ B0 | exact Keep.out _ (by assumption))
            (first
              | (go_at_call 18; refine (Al.out _ (by assumption)).mono ?_; rintro e w5 ⟨rfl, S5⟩)
              | (go_at_call 21; refine (Lq.out _ (by assumption)).mono ?_; rintro e w5 ⟨rfl, S5⟩)
              | (go_at_call 26; refine (Wi.out _ (by assumption)).mono ?_; rintro e w5 ⟨A5, c5, rfl, S5, I5⟩)
              | (go_at_call 22; refine (Sa.out _ _ _ (by assumption) (by assumption)).mono ?_; rintro e w5 ⟨rfl, S5⟩))
          go_wp2
          go_ret
          exact ⟨rfl, Hbr.out.trans (Below.mono (by assumption) Hbr.out.size)⟩
        · have hw0 := withL_out xs i t hin
          by_cases hneg : i < 0
          · go_wp2_with fail
            refine (aliveV_any wr Lr.out).mono ?_
            rintro e w2 ⟨rfl, hb2⟩
            have S2 := Lib.hid (same_any A0 xs.length c0 xs A1 xs.length c1 _ w2 ((J0.out.below hbr).below hb2) ((J1.out.below hb1r).below hb2))
            go_wp2_with fail
            refine S2.out.mono ?_
            rw [hw0, decide_eq_true rfl]
            rintro e w3 ⟨rfl, q3, hw3⟩
            have h3 : Below w.heap.size w w3 := by rw [hw3]; exact below_drewN (hbr.trans (hb2.mono hbr.size)) q3
            clear hw3
            go_wp2_with fail
            go_ret
            exact ⟨rfl, h3⟩
          · have hge : (xs.length : Int) ≤ i := by omega
            go_wp2_with fail
            refine (aliveV_any wr Lr.out).mono ?_
            rintro e w2 ⟨rfl, hb2⟩
            have S2 := Lib.hid (same_any A0 xs.length c0 xs A1 xs.length c1 _ w2 ((J0.out.below hbr).below hb2) ((J1.out.below hb1r).below hb2))
            go_wp2_with fail
            refine S2.out.mono ?_
            rw [hw0, decide_eq_true rfl]
            rintro e w3 ⟨rfl, q3, hw3⟩
            have h3 : Below w.heap.size w w3 := by rw [hw3]; exact below_drewN (hbr.trans (hb2.mono hbr.size)) q3
            clear hw3
            go_wp2_with fail
            go_ret
            exact ⟨rfl, h3⟩
end Go.Proofs.YtcnjjolmjpeeoaaDoor
