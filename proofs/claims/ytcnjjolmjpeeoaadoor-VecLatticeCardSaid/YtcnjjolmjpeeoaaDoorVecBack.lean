/-
  VecBack: what is put is got as it was, whatever stands behind it; of vectors as long as each other the bytes tell which are the same.
-/
import Derived.Test.YtcnjjolmjpeeoaaDoorAliveV
import Derived.Test.YtcnjjolmjpeeoaaDoorVec5
import Derived.Test.YtcnjjolmjpeeoaaDoorNumPlain
namespace Go.Proofs.YtcnjjolmjpeeoaaDoor
open Go.RowKit

theorem light_any (A0 : Option Addr) (n0 c0 : Nat) (A1 : Option Addr) (n1 c1 : Nat) (w : World) :
    Calls Tryd.prog 17 #[.slice A0 n0 c0, .slice A1 n1 c1] w fun e w' => e = .returned (.bool (decide (n0 ≤ 60 ∧ n1 ≤ 60))) ∧ w = w' := by
  by_cases h0 : n0 ≤ 60
  · have d0 : decide ((n0 : Int) ≤ 60) = true := decide_eq_true (by omega)
    by_cases h1 : n1 ≤ 60
    · have d1 : decide ((n1 : Int) ≤ 60) = true := decide_eq_true (by omega)
      rw [decide_eq_true (show n0 ≤ 60 ∧ n1 ≤ 60 from ⟨h0, h1⟩)]
      clear h0 h1
      go_enter Tryd.func17, Tryd.ntmps17
      go_wp2
      go_ret
      exact ⟨rfl, rfl⟩
    · have d1 : decide ((n1 : Int) ≤ 60) = false := decide_eq_false (by omega)
      rw [decide_eq_false (show ¬ (n0 ≤ 60 ∧ n1 ≤ 60) from fun h => h1 h.2)]
      clear h0 h1
      go_enter Tryd.func17, Tryd.ntmps17
      go_wp2
      go_ret
      exact ⟨rfl, rfl⟩
  · have d0 : decide ((n0 : Int) ≤ 60) = false := decide_eq_false (by omega)
    rw [decide_eq_false (show ¬ (n0 ≤ 60 ∧ n1 ≤ 60) from fun h => h0 h.1)]
    clear h0
    go_enter Tryd.func17, Tryd.ntmps17
    go_wp2
    go_ret
    exact ⟨rfl, rfl⟩

theorem same_self (A1 : Option Addr) (n1 c1 : Nat) (A2 : Option Addr) (n2 c2 : Nat) (xs : List Int) (w : World) (I1 : IntsIn w A1 n1 xs) (I2 : IntsIn w A2 n2 xs) :
    Calls Tryd.prog 22 #[.slice A1 n1 c1, .slice A2 n2 c2] w fun e w' => e = .returned (.bool true) ∧ ∃ q, w' = w.drewN q := by
  have := same_any A1 n1 c1 xs A2 n2 c2 xs w I1 I2
  rwa [decide_eq_true (rfl : xs = xs)] at this

theorem flat6_length (zs : List Int) : ((zs.map fun z => be z.toNat 6).flatten).length = 6 * zs.length := by
  induction zs with
  | nil => rfl
  | cons z r ih => rw [List.map_cons, List.flatten_cons, List.length_append, ih, be_length, List.length_cons]; omega
theorem vecB_length (xs : List Int) : (vecB xs).length = 1 + 6 * xs.length := by
  unfold vecB
  rw [List.length_cons, flat6_length]
  omega
theorem flat6_drop (zs : List Int) (more : List UInt8) : ∀ (k : Nat), k < zs.length → (((zs.map fun z => be z.toNat 6).flatten ++ more).drop (6 * k)).take 6 = be (zs.getD k 0).toNat 6 := by
  induction zs with
  | nil => intro k hk; simp at hk
  | cons z r ih =>
    intro k hk
    rw [List.map_cons, List.flatten_cons, List.append_assoc]
    cases k with
    | zero => rw [Nat.mul_zero, List.drop_zero, List.take_left' (be_length _ _)]; rfl
    | succ k =>
      rw [show 6 * (k + 1) = 6 + 6 * k from by omega, ← List.drop_drop, List.drop_left' (be_length _ _)]
      exact ih k (by simpa using hk)
theorem times_vecB (xs : List Int) (more : List UInt8) (h : validL xs = true) : timesL (vecB xs ++ more) xs.length = xs := by
  obtain ⟨_, hall⟩ := validL_of h
  refine list_ext_getD (by rw [timesL_length]) fun j hj => ?_
  rw [timesL_length] at hj
  unfold timesL
  rw [List.getD_eq_getElem?_getD, List.getElem?_map, List.getElem?_range hj]
  show ((getL _ : Nat) : Int) = _
  have e : ((vecB xs ++ more).drop (1 + 6 * j)).take 6 = be (xs.getD j 0).toNat 6 := by
    unfold vecB
    rw [List.cons_append, show 1 + 6 * j = 6 * j + 1 from by omega, List.drop_succ_cons, flat6_drop xs more j hj]
  have hz := hall j hj
  rw [e, getL_be 6 _ (by omega)]
  omega
theorem head_vecB (xs : List Int) (more : List UInt8) (h : validL xs = true) : getL ((vecB xs ++ more).take 1) = xs.length := by
  obtain ⟨⟨h1, h8⟩, _⟩ := validL_of h
  unfold vecB
  rw [List.cons_append, List.take_succ_cons, List.take_zero]
  show 0 * 256 + (UInt8.ofNat xs.length).toNat = xs.length
  rw [UInt8.toNat_ofNat']
  omega
theorem vecB_inj {xs ys : List Int} (hx : validL xs = true) (hy : validL ys = true) (h : vecB xs = vecB ys) : xs = ys := by
  have h1 := head_vecB xs [] hx
  have h2 := head_vecB ys [] hy
  rw [h] at h1
  have hl : xs.length = ys.length := h1.symm.trans h2
  have t1 := times_vecB xs [] hx
  have t2 := times_vecB ys [] hy
  rw [h, hl] at t1
  exact t1.symm.trans t2

set_option maxRecDepth 100000 in
set_option maxHeartbeats 4000000 in
theorem lawVecBack (A0 : Option Addr) (n0 c0 : Nat) (xs : List Int) (A1 : Option Addr) (n1 c1 : Nat) (ys : List Int) (more : ByteArray) (hm : more.size ≤ 140737488351232) (w : World) (I0 : IntsIn w A0 n0 xs) (m0 : n0 ≤ 17592186043904) (I1 : IntsIn w A1 n1 ys) (m1 : n1 ≤ 17592186043904) (hL : LaidV w) :
    Calls Tryd.prog 5 #[.slice A0 n0 c0, .slice A1 n1 c1, .string more] w fun e w' => e = .returned (.bool true) ∧ Below w.heap.size w w' := by
  have J0 := Lib.hid I0
  have J1 := Lib.hid I1
  have HL := Lib.hid hL
  have l0 := I0.len
  have l1 := I1.len
  have Al := Lib.hid (aliveV_any w hL)
  clear I0 I1 hL
  by_cases hlt : n0 ≤ 60 ∧ n1 ≤ 60
  · by_cases hmo : 3000 < more.size
    · go_enter Tryd.func5, Tryd.ntmps5
      go_wp2_with fail
      refine (light_any A0 n0 c0 A1 n1 c1 w).mono ?_
      rw [decide_eq_true hlt]
      rintro e w' ⟨rfl, rfl⟩
      have hmi : (3000 : Int) < (more.size : Int) := by omega
      go_wp2_with fail
      refine Al.out.mono ?_
      rintro e w1 ⟨rfl, hb1⟩
      go_wp2_with fail
      go_ret
      exact ⟨rfl, hb1⟩
    · have hmi : ¬ (3000 : Int) < (more.size : Int) := by omega
      by_cases hva : validL xs = true
      · obtain ⟨⟨v1, v8⟩, _⟩ := validL_of hva
        obtain ⟨s, hs⟩ : ∃ s : ByteArray, s = ⟨(vecB xs).toArray⟩ := ⟨_, rfl⟩
        have hsz : s.size = 1 + 6 * n0 := by rw [hs, size_mk, vecB_length, l0]
        obtain ⟨b, hb⟩ : ∃ b : ByteArray, b = s ++ more := ⟨_, rfl⟩
        have hbz : b.size = s.size + more.size := by rw [hb, ByteArray.size_append]
        have hbl : b.data.toList = vecB xs ++ more.data.toList := by rw [hb, hs]; simp [ByteArray.data_append]
        have hcat : ∀ W, (Op.stringOp .add s more).run Tryd.prog W = .ok (.string b) W := by
          intro W
          rw [run_string_add_sum _ _ _ (by omega), hb]
        have hse : ((s.toList : List UInt8) == []) = false := by
          rw [Lib.toList_data, hs]
          rfl
        have P0 := vput_ok A0 n0 c0 xs w J0.out hva
        rw [← hs] at P0
        have Gt : Hid (∀ W, Calls Tryd.prog 25 #[.string b] W fun e w' => (∃ v, e = .returned (.tuple #[v, .int .i64 (1 + 6 * (n0 : Int)), .int .i64 0]) ∧ Nums w' W.heap.size 3 v xs) ∧ Below W.heap.size W w') := by
          intro W
          have := vget_ok b n0 W (by omega) (by omega) (by rw [hbl, head_vecB xs _ hva, l0]) (by omega) (by omega) (by omega)
          rw [hbl, ← l0, times_vecB xs _ hva, l0] at this
          exact this
        have HP0 := Lib.hid P0
        have Hs := Lib.hid hs
        have Hva := Lib.hid hva
        have hsi : (1 + 6 * (n0 : Int)) = (s.size : Int) := by omega
        have heq : (1 + 6 * (n0 : Int) == (s.size : Int)) = true := beq_iff_eq.2 hsi
        have Hcat := Lib.hid hcat
        have Heq := Lib.hid heq
        clear P0 hs hb hbl hva hcat hse hsi heq hsz hbz
        by_cases hvb : validL ys = true
        · obtain ⟨t, ht⟩ : ∃ t : ByteArray, t = ⟨(vecB ys).toArray⟩ := ⟨_, rfl⟩
          have hst : (s.toList == t.toList) = decide (xs = ys) := by
            rw [Lib.toList_data, Lib.toList_data, Hs.out, ht]
            by_cases h : xs = ys
            · subst h; simp
            · rw [decide_eq_false h, beq_eq_false_iff_ne]
              exact fun e => h (vecB_inj Hva.out hvb e)
          obtain ⟨d, hd⟩ : ∃ d, d = decide (xs = ys) := ⟨_, rfl⟩
          rw [← hd] at hst
          have Hd := Lib.hid hd
          have Hst := Lib.hid hst
          have Ht := Lib.hid ht
          have Hvb := Lib.hid hvb
          clear hd hst ht hvb
          go_enter Tryd.func5, Tryd.ntmps5
          go_wp2_with fail
          refine (light_any A0 n0 c0 A1 n1 c1 w).mono ?_
          rw [decide_eq_true hlt]
          rintro e w' ⟨rfl, rfl⟩
          go_wp2_with fail
          refine HP0.out.mono ?_
          rintro e w1 ⟨rfl, hb1⟩
          have hcat := Hcat.out
          go_wp2_with fail
          refine (Gt.out w1).mono ?_
          rintro e w2 ⟨⟨v, rfl, hN⟩, hb2⟩
          have h2 : Below w.heap.size w w2 := hb1.trans (hb2.mono hb1.size)
          obtain ⟨A2, c2, rfl, I2, _⟩ := hN.ints J0.out.wf
          have J2 := Lib.hid I2
          clear hN I2 hcat hb1 hb2
          rw [l0]
          go_wp2_with fail
          have P1 := vput_ok A1 n1 c1 ys w2 (J1.out.below h2) Hvb.out
          rw [← Ht.out] at P1
          refine P1.mono ?_
          rintro e w3 ⟨rfl, hb3⟩
          have h3 : Below w.heap.size w w3 := h2.trans (hb3.mono h2.size)
          have Al3 := Lib.hid (aliveV_any w3 (HL.out.on h3))
          clear P1
          go_wp2_with fail
          refine Al3.out.mono ?_
          rintro e w4 ⟨rfl, hb4⟩
          have h4 : Below w.heap.size w w4 := h3.trans (hb4.mono h3.size)
          have h24 : Below w2.heap.size w2 w4 := hb3.trans (hb4.mono hb3.size)
          have V4 := Lib.hid (valid_any A0 n0 c0 xs w4 (J0.out.below h4))
          clear hb3 hb4 h2 h3
          go_wp2_with fail
          refine V4.out.mono ?_
          rw [Hva.out]
          rintro e w' ⟨rfl, rfl⟩
          have heq := Heq.out
          have S4 := Lib.hid (same_self A2 n0 c2 A0 n0 c0 xs w4 (l0 ▸ J2.out.below h24) (J0.out.below h4))
          go_wp2_with fail
          refine S4.out.mono ?_
          rintro e w5 ⟨rfl, q, hw5⟩
          have h5 : Below w.heap.size w w5 := by rw [hw5]; exact below_drewN h4 q
          have S5 := Lib.hid (same_any A0 n0 c0 xs A1 n1 c1 ys w5 (J0.out.below h5) (J1.out.below h5))
          have hst := Hst.out
          clear hw5 heq
          go_wp2_with fail
          refine S5.out.mono ?_
          rw [← Hd.out]
          rintro e w6 ⟨rfl, q6, hw6⟩
          have h6 : Below w.heap.size w w6 := by rw [hw6]; exact below_drewN h5 q6
          clear hw6
          go_wp2_with fail
          go_ret
          exact ⟨rfl, h6⟩
        · have hvb' : validL ys = false := by simpa using hvb
          have Hvb := Lib.hid hvb'
          clear hvb hvb'
          go_enter Tryd.func5, Tryd.ntmps5
          go_wp2_with fail
          refine (light_any A0 n0 c0 A1 n1 c1 w).mono ?_
          rw [decide_eq_true hlt]
          rintro e w' ⟨rfl, rfl⟩
          go_wp2_with fail
          refine HP0.out.mono ?_
          rintro e w1 ⟨rfl, hb1⟩
          have hcat := Hcat.out
          go_wp2_with fail
          refine (Gt.out w1).mono ?_
          rintro e w2 ⟨⟨v, rfl, hN⟩, hb2⟩
          have h2 : Below w.heap.size w w2 := hb1.trans (hb2.mono hb1.size)
          obtain ⟨A2, c2, rfl, I2, _⟩ := hN.ints J0.out.wf
          have J2 := Lib.hid I2
          clear hN I2 hcat hb1 hb2
          rw [l0]
          go_wp2_with fail
          have P1 := vput_bad A1 n1 c1 ys w2 (J1.out.below h2) Hvb.out
          refine P1.mono ?_
          rintro e w3 ⟨rfl, rfl⟩
          have h3 := h2
          have Al3 := Lib.hid (aliveV_any w2 (HL.out.on h3))
          clear P1
          go_wp2_with fail
          refine Al3.out.mono ?_
          rintro e w4 ⟨rfl, hb4⟩
          have h4 : Below w.heap.size w w4 := h3.trans (hb4.mono h3.size)
          have h24 : Below w2.heap.size w2 w4 := hb4
          have V4 := Lib.hid (valid_any A0 n0 c0 xs w4 (J0.out.below h4))
          clear hb4 h2 h3
          go_wp2_with fail
          refine V4.out.mono ?_
          rw [Hva.out]
          rintro e w' ⟨rfl, rfl⟩
          have heq := Heq.out
          have S4 := Lib.hid (same_self A2 n0 c2 A0 n0 c0 xs w4 (l0 ▸ J2.out.below h24) (J0.out.below h4))
          go_wp2_with fail
          refine S4.out.mono ?_
          rintro e w5 ⟨rfl, q, hw5⟩
          have h5 : Below w.heap.size w w5 := by rw [hw5]; exact below_drewN h4 q
          clear hw5 heq
          go_wp2_with fail
          go_ret
          exact ⟨rfl, h5⟩
      · have hva' : validL xs = false := by simpa using hva
        have P0 := Lib.hid (vput_bad A0 n0 c0 xs w J0.out hva')
        have Hva := Lib.hid hva'
        clear hva hva'
        go_enter Tryd.func5, Tryd.ntmps5
        go_wp2_with fail
        refine (light_any A0 n0 c0 A1 n1 c1 w).mono ?_
        rw [decide_eq_true hlt]
        rintro e w' ⟨rfl, rfl⟩
        go_wp2_with fail
        refine P0.out.mono ?_
        rintro e w' ⟨rfl, rfl⟩
        go_wp2_with fail
        refine Al.out.mono ?_
        rintro e w1 ⟨rfl, hb1⟩
        have V1 := Lib.hid (valid_any A0 n0 c0 xs w1 (J0.out.below hb1))
        go_wp2_with fail
        refine V1.out.mono ?_
        rw [Hva.out]
        rintro e w' ⟨rfl, rfl⟩
        go_wp2_with fail
        go_ret
        exact ⟨rfl, hb1⟩
  · go_enter Tryd.func5, Tryd.ntmps5
    go_wp2_with fail
    refine (light_any A0 n0 c0 A1 n1 c1 w).mono ?_
    rw [decide_eq_false hlt]
    rintro e w' ⟨rfl, rfl⟩
    go_wp2_with fail
    refine Al.out.mono ?_
    rintro e w1 ⟨rfl, hb1⟩
    go_wp2_with fail
    go_ret
    exact ⟨rfl, hb1⟩
end Go.Proofs.YtcnjjolmjpeeoaaDoor
