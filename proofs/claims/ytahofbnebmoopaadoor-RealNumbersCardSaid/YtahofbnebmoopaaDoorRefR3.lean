/-
  Walks over the document's own answer to chapter 2: Text.
-/
import Derived.Test.YtahofbnebmoopaaDoorRefR1
import Derived.Test.YtahofbnebmoopaaDoorRef4
import Derived.Test.YtahofbnebmoopaaDoorTextPlain
namespace Go.Proofs.YtahofbnebmoopaaDoor
open Go.RowKit

theorem whole_iff (r : Nat) (h0 : r ≠ 0) : whole r = decide (0 ≤ spE r ∧ spM r * 2 ^ (spE r).toNat < 9007199254740992) := by
  have hM := spM_lt r
  have hm0 : spM r ≠ 0 := oddN_pos _ (rawM_pos r h0) (Nat.lt_trans (rawM_lt r) (by decide))
  obtain ⟨l1, l2, l3, l4⟩ := bitLen_facts (spM r) hm0 hM
  unfold whole
  rw [decide_eq_decide]
  constructor
  · rintro ⟨a, b⟩
    exact ⟨a, len_lt (spM r) (spE r).toNat (by omega) (by omega)⟩
  · rintro ⟨a, b⟩
    refine ⟨a, ?_⟩
    have h2 : 2 ^ (Lib.bitLen (spM r) - 1) * 2 ^ (spE r).toNat ≤ spM r * 2 ^ (spE r).toNat := Nat.mul_le_mul_right _ l4
    rw [← Nat.pow_add] at h2
    rcases Nat.lt_or_ge (Lib.bitLen (spM r) - 1 + (spE r).toNat) 53 with h3 | h3
    · omega
    · have : 2 ^ 53 ≤ 2 ^ (Lib.bitLen (spM r) - 1 + (spE r).toNat) := Nat.pow_le_pow_right (by decide) h3
      omega

theorem k_le (u k M : Nat) (h : u * 2 ^ k = M) (hu : u ≠ 0) (hM : M < 9007199254740992) : k ≤ 53 := by
  rcases Nat.lt_or_ge 53 k with h1 | h1
  · have h2 : 2 ^ 53 ≤ 2 ^ k := Nat.pow_le_pow_right (by decide) (by omega)
    have h3 : 1 * 2 ^ k ≤ u * 2 ^ k := Nat.mul_le_mul_right _ (by omega)
    omega
  · exact h1
theorem half_step (u k M : Nat) (h : u * 2 ^ k = M) (he : u % 2 = 0) : u / 2 * 2 ^ (k + 1) = M := by
  rw [Nat.pow_succ, Nat.mul_comm (2 ^ k) 2, ← Nat.mul_assoc, show u / 2 * 2 = u from by omega]
  exact h

set_option maxRecDepth 100000 in
set_option maxHeartbeats 1000000 in
theorem qtext_nan (x : Nat) (w : World) (hn : isN x = true) :
    Calls Tryd.prog 20 #[.float .f64 x] w fun e w' => e = .returned (.string ⟨(textN x).toArray⟩) ∧ Below w.heap.size w w' := by
  have C := Lib.hid (qisnan_any x w)
  rw [hn] at C
  have ht : textN x = [110, 97, 110] := by unfold textN; rw [hn]; rfl
  rw [ht]
  go_enter Tryd.func20, Tryd.ntmps20
  go_wp2_with fail
  refine C.out.mono ?_
  rintro e w' ⟨rfl, rfl⟩
  go_wp2_with fail
  go_ret
  exact ⟨rfl, Below.refl _ _⟩
set_option maxRecDepth 100000 in
set_option maxHeartbeats 1000000 in
theorem qtext_inf (w : World) :
    Calls Tryd.prog 20 #[.float .f64 9218868437227405312] w fun e w' => e = .returned (.string ⟨(textN 9218868437227405312).toArray⟩) ∧ Below w.heap.size w w' := by
  have C := qisnan_any 9218868437227405312 w
  rw [show isN 9218868437227405312 = false from by decide] at C
  have C := Lib.hid C
  rw [show textN 9218868437227405312 = [105, 110, 102] from by decide]
  have g1 : (FloatKind.f64.format.order 9218868437227405312 9218868437227405311 == some .gt) = true := by decide
  go_enter Tryd.func20, Tryd.ntmps20
  go_wp2_with fail
  refine C.out.mono ?_
  rintro e w' ⟨rfl, rfl⟩
  go_wp2_with fail
  go_ret
  exact ⟨rfl, Below.refl _ _⟩
set_option maxRecDepth 100000 in
set_option maxHeartbeats 1000000 in
theorem qtext_minf (w : World) :
    Calls Tryd.prog 20 #[.float .f64 18442240474082181120] w fun e w' => e = .returned (.string ⟨(textN 18442240474082181120).toArray⟩) ∧ Below w.heap.size w w' := by
  have C := qisnan_any 18442240474082181120 w
  rw [show isN 18442240474082181120 = false from by decide] at C
  have C := Lib.hid C
  rw [show textN 18442240474082181120 = [45, 105, 110, 102] from by decide]
  have g1 : (FloatKind.f64.format.order 18442240474082181120 9218868437227405311 == some .gt) = false := by decide
  have g2 : (FloatKind.f64.format.order 18442240474082181120 18442240474082181119 == some .lt) = true := by decide
  go_enter Tryd.func20, Tryd.ntmps20
  go_wp2_with fail
  refine C.out.mono ?_
  rintro e w' ⟨rfl, rfl⟩
  go_wp2_with fail
  go_ret
  exact ⟨rfl, Below.refl _ _⟩

theorem fin_tests (x : Nat) (hx : x < 18446744073709551616) (h : rung x < infR) :
    isN x = false ∧ (FloatKind.f64.format.order x 9218868437227405311 == some .gt) = false ∧ (FloatKind.f64.format.order x 18442240474082181119 == some .lt) = false := by
  have hc : infR = 9218868437227405312 := rfl
  have hn : isN x = false := by unfold isN; exact decide_eq_false (by omega)
  have k1 : nkey 9218868437227405311 = 9218868437227405311 := by decide
  have k2 : nkey 18442240474082181119 = -9218868437227405311 := by decide
  rw [gtr_eq, lss_eq, hn, show isN 9218868437227405311 = false from by decide, show isN 18442240474082181119 = false from by decide, k1, k2]
  have hk : -(rung x : Int) ≤ nkey x ∧ nkey x ≤ (rung x : Int) := by unfold nkey; split <;> omega
  rw [decide_eq_false (by omega), decide_eq_false (by omega)]
  exact ⟨rfl, rfl, rfl⟩

set_option maxRecDepth 100000 in
set_option maxHeartbeats 4000000 in
theorem qtext_p0 (x : Nat) (hx : x < 18446744073709551616) (hi : rung x < infR) (hsg : isNeg x = false) (h0 : rung x = 0) (w : World) :
    Calls Tryd.prog 20 #[.float .f64 x] w fun e w' => e = .returned (.string ⟨(textN x).toArray⟩) ∧ Below w.heap.size w w' := by
  obtain ⟨t1, t2, t3⟩ := fin_tests x hx hi
  have hfb := run_float64bits x
  have C := qisnan_any x w
  rw [t1] at C
  have C := Lib.hid C
  have htx : textN x = [] ++ unsN (rung x) := by unfold textN; rw [t1, hsg]; rfl
  have hxr : (x : Int) = (rung x : Int) ∧ rung x < 9223372036854775808 := by
    rcases word_parts x hx with ⟨h1, h2, h3⟩ | ⟨h1, h2, h3⟩ <;> rw [hsg] at h1 <;> first | (cases h1; done) | omega
  have hbig : decide ((9223372036854775808 : Int) ≤ (x : Int)) = false := decide_eq_false (by omega)
  rw [htx, h0, unsN_zero]
  have z1 : ((x : Int) % 4503599627370496) = 0 := by omega
  have z2 : ((x : Int) / 4503599627370496) = 0 := by omega
  have hcat := run_cat [] [48] (by decide) (by decide)
  clear hx hi hsg h0 htx hxr t1
  go_enter Tryd.func20, Tryd.ntmps20
  go_wp2_with fail
  refine C.out.mono ?_
  rintro e w' ⟨rfl, rfl⟩
  go_wp2_with fail
  go_ret
  exact ⟨rfl, Below.refl _ _⟩

set_option maxRecDepth 100000 in
set_option maxHeartbeats 4000000 in
theorem qtext_ps (x : Nat) (hx : x < 18446744073709551616) (hi : rung x < infR) (hsg : isNeg x = false) (h0 : rung x ≠ 0) (hs : rung x < 4503599627370496) (w : World) :
    Calls Tryd.prog 20 #[.float .f64 x] w fun e w' => e = .returned (.string ⟨(textN x).toArray⟩) ∧ Below w.heap.size w w' := by
  obtain ⟨t1, t2, t3⟩ := fin_tests x hx hi
  have hfb := run_float64bits x
  have C := qisnan_any x w
  rw [t1] at C
  have C := Lib.hid C
  have htx : textN x = [] ++ unsN (rung x) := by unfold textN; rw [t1, hsg]; rfl
  have hxr : (x : Int) = (rung x : Int) ∧ rung x < 9223372036854775808 := by
    rcases word_parts x hx with ⟨h1, h2, h3⟩ | ⟨h1, h2, h3⟩ <;> rw [hsg] at h1 <;> first | (cases h1; done) | omega
  have hbig : decide ((9223372036854775808 : Int) ≤ (x : Int)) = false := decide_eq_false (by omega)
  rw [htx]
  generalize hr : rung x = r at *
  have hM := rawM_lt r
  have hEb := rawE_lt r hi
  have hMe : (rawM r : Int) = (x : Int) % 4503599627370496 := by unfold rawM; rw [if_pos hs]; omega
  have hEe : rawE r = 1 - 1075 := by unfold rawE; rw [if_pos hs]; rfl
  have z1 : (((x : Int) % 4503599627370496) == 0) = false := by rw [beq_eq_false_iff_ne]; omega
  have z2 : ((x : Int) / 4503599627370496) = 0 := by omega
  have hM0 := rawM_pos r h0
  have hwi := whole_iff r h0
  have hun : unsN r = if whole r then Lib.itoa ((spM r * 2 ^ (spE r).toNat : Nat) : Int) else Lib.itoa (spM r : Int) ++ 112 :: Lib.itoa (spE r) := by
    unfold unsN
    rw [if_neg h0, if_neg (by omega)]
  obtain ⟨E, hE⟩ : ∃ E, E = rawE r := ⟨_, rfl⟩
  obtain ⟨M, hMM⟩ : ∃ M, M = rawM r := ⟨_, rfl⟩
  have hsp : spM r = oddN M ∧ spE r = E + (tzN M : Int) := by rw [hMM, hE]; exact ⟨rfl, rfl⟩
  rw [hsp.1, hsp.2] at hwi hun
  rw [← hE] at hEe hEb
  rw [← hMM] at hMe hM hM0
  obtain ⟨o, ho⟩ : ∃ o, o = unsN r := ⟨_, rfl⟩
  rw [← ho]
  rw [← ho, hwi] at hun
  have Hun := Lib.hid hun
  have HM0 := Lib.hid hM0
  have HM := Lib.hid hM
  have hE1 := hEb.1
  have hE2 := hEb.2
  have HMe := Lib.hid hMe
  have HEe := Lib.hid hEe
  clear hsp hun hwi ho hE hMM hx hi hsg hs h0 htx hxr t1 hr hM hM0 hEb hMe hEe
  go_enter Tryd.func20, Tryd.ntmps20
  go_wp2_with fail
  refine C.out.mono ?_
  rintro e w' ⟨rfl, rfl⟩
  go_wp2_with fail
  go_loop [5, 6] (fun m e => ∃ u k : Nat, m = .int .i64 (u : Int) ∧ e = .int .i64 (E + (k : Int)) ∧ k ≤ 53 ∧ u < 9007199254740992 ∧ Hid (u * 2 ^ k = M ∧ u ≠ 0)) (fun m _ => (intOf m).toNat)
  case atStart =>
    refine ⟨M, 0, ?_, ?_, by omega, HM.out, ⟨by rw [Nat.pow_zero, Nat.mul_one], HM0.out⟩⟩
    · have := HMe.out; first | rfl | (congr 1; omega) | (rw [← this])
    · have := HEe.out; first | rfl | (congr 1; omega)
  case round =>
    obtain ⟨u, k, rfl, rfl, hk, hu, H⟩ := hrel
    by_cases he : u % 2 = 0
    · have q1 : ((u : Int) % 2 == 0) = true := by rw [beq_iff_eq]; omega
      have Hs := Lib.hid (half_step u k M H.out.1 he)
      have hk1 := k_le (u / 2) (k + 1) M Hs.out (by have := H.out.2; omega) HM.out
      have Hu0 := Lib.hid (show u / 2 ≠ 0 by have := H.out.2; omega)
      clear he
      go_wp2_with fail
      go_round
      case rel => exact ⟨u / 2, k + 1, by go_num, by go_num, hk1, by omega, ⟨Hs.out, Hu0.out⟩⟩
      case measure => simp [intOf]; have := H.out.2; omega
    · have q1 : ((u : Int) % 2 == 0) = false := by rw [beq_eq_false_iff_ne]; omega
      have ht : tzN M = k := by rw [← H.out.1]; exact tzN_mul u k (by omega) (by omega)
      have ho : oddN M = u := by rw [← H.out.1]; exact oddN_mul u k (by omega) (by omega)
      have hun := Hun.out
      rw [ht, ho] at hun
      have Hun := Lib.hid hun
      have Hu0 := Lib.hid H.out.2
      clear hun ht ho he H
      have hp0 : -1074 ≤ E + (k : Int) := by omega
      have hp1 : E + (k : Int) ≤ 1024 := by omega
      generalize E + (k : Int) = p at *
      go_wp2_with fail
      go_loop [7, 8] (fun v i => ∃ j V : Nat, i = .int .i64 (j : Int) ∧ v = .int .i64 (V : Int) ∧ (V : Int) ≤ 18014398509481983 ∧ Hid (V = u * 2 ^ j) ∧ Hid (j = 0 ∨ (j : Int) ≤ p)) (fun _ i => (p - intOf i).toNat)
      case atStart => exact ⟨0, u, rfl, rfl, by omega, by show _ = _; rw [Nat.pow_zero, Nat.mul_one], Or.inl rfl⟩
      case round =>
        obtain ⟨j, V, rfl, rfl, hV, HV, Hj⟩ := hrel
        by_cases hj : (j : Int) < p
        · have a1 : decide ((j : Int) < p) = true := decide_eq_true hj
          by_cases hv : (V : Int) < 9007199254740992
          · have a2 : decide ((V : Int) < 9007199254740992) = true := decide_eq_true hv
            have Hv := Lib.hid hv
            have Hj2 := Lib.hid hj
            have hj64 : (j : Int) ≤ 1024 := by omega
            clear hj hv
            go_wp2_with fail
            go_round
            case rel =>
              refine ⟨j + 1, V * 2, by go_num, by go_num, by have := Hv.out; omega, ?_, Or.inr (by have := Hj2.out; omega)⟩
              show _ = _
              rw [HV.out, Nat.pow_succ, Nat.mul_assoc]
            case measure => simp [intOf]; have := Hj2.out; omega
          · have a2 : decide ((V : Int) < 9007199254740992) = false := decide_eq_false hv
            have a3 : decide (0 ≤ p) = true := decide_eq_true (by omega)
            have Hu : Hid (o = Lib.itoa (u : Int) ++ 112 :: Lib.itoa p) := by
              have h2 : u * 2 ^ j ≤ u * 2 ^ p.toNat := Nat.mul_le_mul_left _ (Nat.pow_le_pow_right (by decide) (by omega))
              have h3 := Hun.out
              have h4 := HV.out
              rw [decide_eq_false (by omega)] at h3
              exact h3
            have dl := itoa_len (u : Int) (by omega) (by omega)
            have dp := itoa_len p (by omega) (by omega)
            have k1 : ∀ W : World, (Op.stringOp .add ⟨([] : List UInt8).toArray⟩ ⟨(Lib.itoa (u : Int)).toArray⟩).run Tryd.prog W = .ok (.string ⟨(Lib.itoa (u : Int)).toArray⟩) W := run_cat [] (Lib.itoa (u : Int)) (by decide) (by omega)
            have k2 : ∀ W : World, (Op.stringOp .add ⟨(Lib.itoa (u : Int)).toArray⟩ ⟨([112] : List UInt8).toArray⟩).run Tryd.prog W = .ok (.string ⟨((Lib.itoa (u : Int) ++ [112])).toArray⟩) W := run_cat (Lib.itoa (u : Int)) [112] (by first | omega | (simp; omega)) (by decide)
            have k3 : ∀ W : World, (Op.stringOp .add ⟨((Lib.itoa (u : Int) ++ [112])).toArray⟩ ⟨(Lib.itoa p).toArray⟩).run Tryd.prog W = .ok (.string ⟨((Lib.itoa (u : Int) ++ 112 :: Lib.itoa p)).toArray⟩) W := by
              intro W
              have := run_cat ((Lib.itoa (u : Int) ++ [112])) (Lib.itoa p) (by first | omega | (simp; omega)) (by omega) W
              rw [show ((Lib.itoa (u : Int) ++ [112])) ++ Lib.itoa p = (Lib.itoa (u : Int) ++ 112 :: Lib.itoa p) from by simp] at this
              exact this
            have D1 := fun W => Lib.hid (rdigits_any (u : Int) W (by omega) (by omega))
            have D2 := fun W => Lib.hid (rdigits_any p W (by omega) (by omega))
            clear dl dp
            clear hj
            try clear hv
            try clear hp hjp hVp
            try clear hp
            go_wp2_with fail
            refine (D1 _).out.mono ?_
            rintro e w1 ⟨rfl, hb1⟩
            go_wp2_with fail
            refine (D2 _).out.mono ?_
            rintro e w2 ⟨rfl, hb2⟩
            go_wp2_with fail
            go_ret
            exact ⟨by rw [Hu.out]; rfl, hb1.trans (hb2.mono hb1.size)⟩
        · have a1 : decide ((j : Int) < p) = false := decide_eq_false hj
          by_cases hp : 0 ≤ p
          · have a3 : decide (0 ≤ p) = true := decide_eq_true hp
            have hjp : j = p.toNat := by have := Hj.out; omega
            have hVp : V = u * 2 ^ p.toNat := by rw [← hjp]; exact HV.out
            by_cases hv : (V : Int) < 9007199254740992
            · have a2 : decide ((V : Int) < 9007199254740992) = true := decide_eq_true hv
              have Hu : Hid (o = Lib.itoa (V : Int)) := by
                have h3 := Hun.out
                rw [← hVp, decide_eq_true ⟨hp, by omega⟩] at h3
                exact h3
              have dl := itoa_len (V : Int) (by omega) (by omega)
              have k1 : ∀ W : World, (Op.stringOp .add ⟨([] : List UInt8).toArray⟩ ⟨(Lib.itoa (V : Int)).toArray⟩).run Tryd.prog W = .ok (.string ⟨(Lib.itoa (V : Int)).toArray⟩) W := run_cat [] (Lib.itoa (V : Int)) (by decide) (by omega)
              have D := fun W => Lib.hid (rdigits_any (V : Int) W (by omega) (by omega))
              clear hj hv hp hjp hVp
              clear dl
              go_wp2_with fail
              refine (D _).out.mono ?_
              rintro e w1 ⟨rfl, hb1⟩
              go_wp2_with fail
              go_ret
              exact ⟨by rw [Hu.out]; rfl, hb1⟩
            · have a2 : decide ((V : Int) < 9007199254740992) = false := decide_eq_false hv
              have Hu : Hid (o = Lib.itoa (u : Int) ++ 112 :: Lib.itoa p) := by
                have h3 := Hun.out
                rw [← hVp, decide_eq_false (by omega)] at h3
                exact h3
              have dl := itoa_len (u : Int) (by omega) (by omega)
              have dp := itoa_len p (by omega) (by omega)
              have k1 : ∀ W : World, (Op.stringOp .add ⟨([] : List UInt8).toArray⟩ ⟨(Lib.itoa (u : Int)).toArray⟩).run Tryd.prog W = .ok (.string ⟨(Lib.itoa (u : Int)).toArray⟩) W := run_cat [] (Lib.itoa (u : Int)) (by decide) (by omega)
              have k2 : ∀ W : World, (Op.stringOp .add ⟨(Lib.itoa (u : Int)).toArray⟩ ⟨([112] : List UInt8).toArray⟩).run Tryd.prog W = .ok (.string ⟨((Lib.itoa (u : Int) ++ [112])).toArray⟩) W := run_cat (Lib.itoa (u : Int)) [112] (by first | omega | (simp; omega)) (by decide)
              have k3 : ∀ W : World, (Op.stringOp .add ⟨((Lib.itoa (u : Int) ++ [112])).toArray⟩ ⟨(Lib.itoa p).toArray⟩).run Tryd.prog W = .ok (.string ⟨((Lib.itoa (u : Int) ++ 112 :: Lib.itoa p)).toArray⟩) W := by
                intro W
                have := run_cat ((Lib.itoa (u : Int) ++ [112])) (Lib.itoa p) (by first | omega | (simp; omega)) (by omega) W
                rw [show ((Lib.itoa (u : Int) ++ [112])) ++ Lib.itoa p = (Lib.itoa (u : Int) ++ 112 :: Lib.itoa p) from by simp] at this
                exact this
              have D1 := fun W => Lib.hid (rdigits_any (u : Int) W (by omega) (by omega))
              have D2 := fun W => Lib.hid (rdigits_any p W (by omega) (by omega))
              clear dl dp
              clear hj
              try clear hv
              try clear hp hjp hVp
              try clear hp
              go_wp2_with fail
              refine (D1 _).out.mono ?_
              rintro e w1 ⟨rfl, hb1⟩
              go_wp2_with fail
              refine (D2 _).out.mono ?_
              rintro e w2 ⟨rfl, hb2⟩
              go_wp2_with fail
              go_ret
              exact ⟨by rw [Hu.out]; rfl, hb1.trans (hb2.mono hb1.size)⟩
          · have a3 : decide (0 ≤ p) = false := decide_eq_false hp
            have Hu : Hid (o = Lib.itoa (u : Int) ++ 112 :: Lib.itoa p) := by
              have h3 := Hun.out
              rw [decide_eq_false (by omega)] at h3
              exact h3
            have dl := itoa_len (u : Int) (by omega) (by omega)
            have dp := itoa_len p (by omega) (by omega)
            have k1 : ∀ W : World, (Op.stringOp .add ⟨([] : List UInt8).toArray⟩ ⟨(Lib.itoa (u : Int)).toArray⟩).run Tryd.prog W = .ok (.string ⟨(Lib.itoa (u : Int)).toArray⟩) W := run_cat [] (Lib.itoa (u : Int)) (by decide) (by omega)
            have k2 : ∀ W : World, (Op.stringOp .add ⟨(Lib.itoa (u : Int)).toArray⟩ ⟨([112] : List UInt8).toArray⟩).run Tryd.prog W = .ok (.string ⟨((Lib.itoa (u : Int) ++ [112])).toArray⟩) W := run_cat (Lib.itoa (u : Int)) [112] (by first | omega | (simp; omega)) (by decide)
            have k3 : ∀ W : World, (Op.stringOp .add ⟨((Lib.itoa (u : Int) ++ [112])).toArray⟩ ⟨(Lib.itoa p).toArray⟩).run Tryd.prog W = .ok (.string ⟨((Lib.itoa (u : Int) ++ 112 :: Lib.itoa p)).toArray⟩) W := by
              intro W
              have := run_cat ((Lib.itoa (u : Int) ++ [112])) (Lib.itoa p) (by first | omega | (simp; omega)) (by omega) W
              rw [show ((Lib.itoa (u : Int) ++ [112])) ++ Lib.itoa p = (Lib.itoa (u : Int) ++ 112 :: Lib.itoa p) from by simp] at this
              exact this
            have D1 := fun W => Lib.hid (rdigits_any (u : Int) W (by omega) (by omega))
            have D2 := fun W => Lib.hid (rdigits_any p W (by omega) (by omega))
            clear dl dp
            clear hj
            try clear hv
            try clear hp hjp hVp
            try clear hp
            go_wp2_with fail
            refine (D1 _).out.mono ?_
            rintro e w1 ⟨rfl, hb1⟩
            go_wp2_with fail
            refine (D2 _).out.mono ?_
            rintro e w2 ⟨rfl, hb2⟩
            go_wp2_with fail
            go_ret
            exact ⟨by rw [Hu.out]; rfl, hb1.trans (hb2.mono hb1.size)⟩

set_option maxRecDepth 100000 in
set_option maxHeartbeats 4000000 in
theorem qtext_pb (x : Nat) (hx : x < 18446744073709551616) (hi : rung x < infR) (hsg : isNeg x = false) (hs : 4503599627370496 ≤ rung x) (w : World) :
    Calls Tryd.prog 20 #[.float .f64 x] w fun e w' => e = .returned (.string ⟨(textN x).toArray⟩) ∧ Below w.heap.size w w' := by
  obtain ⟨t1, t2, t3⟩ := fin_tests x hx hi
  have hfb := run_float64bits x
  have C := qisnan_any x w
  rw [t1] at C
  have C := Lib.hid C
  have htx : textN x = [] ++ unsN (rung x) := by unfold textN; rw [t1, hsg]; rfl
  have hxr : (x : Int) = (rung x : Int) ∧ rung x < 9223372036854775808 := by
    rcases word_parts x hx with ⟨h1, h2, h3⟩ | ⟨h1, h2, h3⟩ <;> rw [hsg] at h1 <;> first | (cases h1; done) | omega
  have hbig : decide ((9223372036854775808 : Int) ≤ (x : Int)) = false := decide_eq_false (by omega)
  rw [htx]
  generalize hr : rung x = r at *
  have hM := rawM_lt r
  have hEb := rawE_lt r hi
  have h0 : r ≠ 0 := by omega
  have hMe : (rawM r : Int) = (x : Int) % 4503599627370496 + 4503599627370496 := by unfold rawM; rw [if_neg (by omega)]; omega
  have hEe : rawE r = (x : Int) / 4503599627370496 - 1075 := by unfold rawE; rw [if_neg (by omega)]; omega
  have z1 : (((x : Int) % 4503599627370496 + 4503599627370496) == 0) = false := by rw [beq_eq_false_iff_ne]; omega
  have z2 : (((x : Int) / 4503599627370496) == 0) = false := by rw [beq_eq_false_iff_ne]; omega
  have z3 : 0 ≤ (x : Int) / 4503599627370496 := by omega
  have z4 : (x : Int) / 4503599627370496 ≤ 2047 := by omega
  have hM0 := rawM_pos r h0
  have hwi := whole_iff r h0
  have hun : unsN r = if whole r then Lib.itoa ((spM r * 2 ^ (spE r).toNat : Nat) : Int) else Lib.itoa (spM r : Int) ++ 112 :: Lib.itoa (spE r) := by
    unfold unsN
    rw [if_neg h0, if_neg (by omega)]
  obtain ⟨E, hE⟩ : ∃ E, E = rawE r := ⟨_, rfl⟩
  obtain ⟨M, hMM⟩ : ∃ M, M = rawM r := ⟨_, rfl⟩
  have hsp : spM r = oddN M ∧ spE r = E + (tzN M : Int) := by rw [hMM, hE]; exact ⟨rfl, rfl⟩
  rw [hsp.1, hsp.2] at hwi hun
  rw [← hE] at hEe hEb
  rw [← hMM] at hMe hM hM0
  obtain ⟨o, ho⟩ : ∃ o, o = unsN r := ⟨_, rfl⟩
  rw [← ho]
  rw [← ho, hwi] at hun
  have Hun := Lib.hid hun
  have HM0 := Lib.hid hM0
  have HM := Lib.hid hM
  have hE1 := hEb.1
  have hE2 := hEb.2
  have HMe := Lib.hid hMe
  have HEe := Lib.hid hEe
  clear hsp hun hwi ho hE hMM hx hi hsg hs h0 htx hxr t1 hr hM hM0 hEb hMe hEe
  go_enter Tryd.func20, Tryd.ntmps20
  go_wp2_with fail
  refine C.out.mono ?_
  rintro e w' ⟨rfl, rfl⟩
  go_wp2_with fail
  go_loop [5, 6] (fun m e => ∃ u k : Nat, m = .int .i64 (u : Int) ∧ e = .int .i64 (E + (k : Int)) ∧ k ≤ 53 ∧ u < 9007199254740992 ∧ Hid (u * 2 ^ k = M ∧ u ≠ 0)) (fun m _ => (intOf m).toNat)
  case atStart =>
    refine ⟨M, 0, ?_, ?_, by omega, HM.out, ⟨by rw [Nat.pow_zero, Nat.mul_one], HM0.out⟩⟩
    · have := HMe.out; first | rfl | (congr 1; omega) | (rw [← this])
    · have := HEe.out; first | rfl | (congr 1; omega)
  case round =>
    obtain ⟨u, k, rfl, rfl, hk, hu, H⟩ := hrel
    by_cases he : u % 2 = 0
    · have q1 : ((u : Int) % 2 == 0) = true := by rw [beq_iff_eq]; omega
      have Hs := Lib.hid (half_step u k M H.out.1 he)
      have hk1 := k_le (u / 2) (k + 1) M Hs.out (by have := H.out.2; omega) HM.out
      have Hu0 := Lib.hid (show u / 2 ≠ 0 by have := H.out.2; omega)
      clear he
      go_wp2_with fail
      go_round
      case rel => exact ⟨u / 2, k + 1, by go_num, by go_num, hk1, by omega, ⟨Hs.out, Hu0.out⟩⟩
      case measure => simp [intOf]; have := H.out.2; omega
    · have q1 : ((u : Int) % 2 == 0) = false := by rw [beq_eq_false_iff_ne]; omega
      have ht : tzN M = k := by rw [← H.out.1]; exact tzN_mul u k (by omega) (by omega)
      have ho : oddN M = u := by rw [← H.out.1]; exact oddN_mul u k (by omega) (by omega)
      have hun := Hun.out
      rw [ht, ho] at hun
      have Hun := Lib.hid hun
      have Hu0 := Lib.hid H.out.2
      clear hun ht ho he H
      have hp0 : -1074 ≤ E + (k : Int) := by omega
      have hp1 : E + (k : Int) ≤ 1024 := by omega
      generalize E + (k : Int) = p at *
      go_wp2_with fail
      go_loop [7, 8] (fun v i => ∃ j V : Nat, i = .int .i64 (j : Int) ∧ v = .int .i64 (V : Int) ∧ (V : Int) ≤ 18014398509481983 ∧ Hid (V = u * 2 ^ j) ∧ Hid (j = 0 ∨ (j : Int) ≤ p)) (fun _ i => (p - intOf i).toNat)
      case atStart => exact ⟨0, u, rfl, rfl, by omega, by show _ = _; rw [Nat.pow_zero, Nat.mul_one], Or.inl rfl⟩
      case round =>
        obtain ⟨j, V, rfl, rfl, hV, HV, Hj⟩ := hrel
        by_cases hj : (j : Int) < p
        · have a1 : decide ((j : Int) < p) = true := decide_eq_true hj
          by_cases hv : (V : Int) < 9007199254740992
          · have a2 : decide ((V : Int) < 9007199254740992) = true := decide_eq_true hv
            have Hv := Lib.hid hv
            have Hj2 := Lib.hid hj
            have hj64 : (j : Int) ≤ 1024 := by omega
            clear hj hv
            go_wp2_with fail
            go_round
            case rel =>
              refine ⟨j + 1, V * 2, by go_num, by go_num, by have := Hv.out; omega, ?_, Or.inr (by have := Hj2.out; omega)⟩
              show _ = _
              rw [HV.out, Nat.pow_succ, Nat.mul_assoc]
            case measure => simp [intOf]; have := Hj2.out; omega
          · have a2 : decide ((V : Int) < 9007199254740992) = false := decide_eq_false hv
            have a3 : decide (0 ≤ p) = true := decide_eq_true (by omega)
            have Hu : Hid (o = Lib.itoa (u : Int) ++ 112 :: Lib.itoa p) := by
              have h2 : u * 2 ^ j ≤ u * 2 ^ p.toNat := Nat.mul_le_mul_left _ (Nat.pow_le_pow_right (by decide) (by omega))
              have h3 := Hun.out
              have h4 := HV.out
              rw [decide_eq_false (by omega)] at h3
              exact h3
            have dl := itoa_len (u : Int) (by omega) (by omega)
            have dp := itoa_len p (by omega) (by omega)
            have k1 : ∀ W : World, (Op.stringOp .add ⟨([] : List UInt8).toArray⟩ ⟨(Lib.itoa (u : Int)).toArray⟩).run Tryd.prog W = .ok (.string ⟨(Lib.itoa (u : Int)).toArray⟩) W := run_cat [] (Lib.itoa (u : Int)) (by decide) (by omega)
            have k2 : ∀ W : World, (Op.stringOp .add ⟨(Lib.itoa (u : Int)).toArray⟩ ⟨([112] : List UInt8).toArray⟩).run Tryd.prog W = .ok (.string ⟨((Lib.itoa (u : Int) ++ [112])).toArray⟩) W := run_cat (Lib.itoa (u : Int)) [112] (by first | omega | (simp; omega)) (by decide)
            have k3 : ∀ W : World, (Op.stringOp .add ⟨((Lib.itoa (u : Int) ++ [112])).toArray⟩ ⟨(Lib.itoa p).toArray⟩).run Tryd.prog W = .ok (.string ⟨((Lib.itoa (u : Int) ++ 112 :: Lib.itoa p)).toArray⟩) W := by
              intro W
              have := run_cat ((Lib.itoa (u : Int) ++ [112])) (Lib.itoa p) (by first | omega | (simp; omega)) (by omega) W
              rw [show ((Lib.itoa (u : Int) ++ [112])) ++ Lib.itoa p = (Lib.itoa (u : Int) ++ 112 :: Lib.itoa p) from by simp] at this
              exact this
            have D1 := fun W => Lib.hid (rdigits_any (u : Int) W (by omega) (by omega))
            have D2 := fun W => Lib.hid (rdigits_any p W (by omega) (by omega))
            clear dl dp
            clear hj
            try clear hv
            try clear hp hjp hVp
            try clear hp
            go_wp2_with fail
            refine (D1 _).out.mono ?_
            rintro e w1 ⟨rfl, hb1⟩
            go_wp2_with fail
            refine (D2 _).out.mono ?_
            rintro e w2 ⟨rfl, hb2⟩
            go_wp2_with fail
            go_ret
            exact ⟨by rw [Hu.out]; rfl, hb1.trans (hb2.mono hb1.size)⟩
        · have a1 : decide ((j : Int) < p) = false := decide_eq_false hj
          by_cases hp : 0 ≤ p
          · have a3 : decide (0 ≤ p) = true := decide_eq_true hp
            have hjp : j = p.toNat := by have := Hj.out; omega
            have hVp : V = u * 2 ^ p.toNat := by rw [← hjp]; exact HV.out
            by_cases hv : (V : Int) < 9007199254740992
            · have a2 : decide ((V : Int) < 9007199254740992) = true := decide_eq_true hv
              have Hu : Hid (o = Lib.itoa (V : Int)) := by
                have h3 := Hun.out
                rw [← hVp, decide_eq_true ⟨hp, by omega⟩] at h3
                exact h3
              have dl := itoa_len (V : Int) (by omega) (by omega)
              have k1 : ∀ W : World, (Op.stringOp .add ⟨([] : List UInt8).toArray⟩ ⟨(Lib.itoa (V : Int)).toArray⟩).run Tryd.prog W = .ok (.string ⟨(Lib.itoa (V : Int)).toArray⟩) W := run_cat [] (Lib.itoa (V : Int)) (by decide) (by omega)
              have D := fun W => Lib.hid (rdigits_any (V : Int) W (by omega) (by omega))
              clear hj hv hp hjp hVp
              clear dl
              go_wp2_with fail
              refine (D _).out.mono ?_
              rintro e w1 ⟨rfl, hb1⟩
              go_wp2_with fail
              go_ret
              exact ⟨by rw [Hu.out]; rfl, hb1⟩
            · have a2 : decide ((V : Int) < 9007199254740992) = false := decide_eq_false hv
              have Hu : Hid (o = Lib.itoa (u : Int) ++ 112 :: Lib.itoa p) := by
                have h3 := Hun.out
                rw [← hVp, decide_eq_false (by omega)] at h3
                exact h3
              have dl := itoa_len (u : Int) (by omega) (by omega)
              have dp := itoa_len p (by omega) (by omega)
              have k1 : ∀ W : World, (Op.stringOp .add ⟨([] : List UInt8).toArray⟩ ⟨(Lib.itoa (u : Int)).toArray⟩).run Tryd.prog W = .ok (.string ⟨(Lib.itoa (u : Int)).toArray⟩) W := run_cat [] (Lib.itoa (u : Int)) (by decide) (by omega)
              have k2 : ∀ W : World, (Op.stringOp .add ⟨(Lib.itoa (u : Int)).toArray⟩ ⟨([112] : List UInt8).toArray⟩).run Tryd.prog W = .ok (.string ⟨((Lib.itoa (u : Int) ++ [112])).toArray⟩) W := run_cat (Lib.itoa (u : Int)) [112] (by first | omega | (simp; omega)) (by decide)
              have k3 : ∀ W : World, (Op.stringOp .add ⟨((Lib.itoa (u : Int) ++ [112])).toArray⟩ ⟨(Lib.itoa p).toArray⟩).run Tryd.prog W = .ok (.string ⟨((Lib.itoa (u : Int) ++ 112 :: Lib.itoa p)).toArray⟩) W := by
                intro W
                have := run_cat ((Lib.itoa (u : Int) ++ [112])) (Lib.itoa p) (by first | omega | (simp; omega)) (by omega) W
                rw [show ((Lib.itoa (u : Int) ++ [112])) ++ Lib.itoa p = (Lib.itoa (u : Int) ++ 112 :: Lib.itoa p) from by simp] at this
                exact this
              have D1 := fun W => Lib.hid (rdigits_any (u : Int) W (by omega) (by omega))
              have D2 := fun W => Lib.hid (rdigits_any p W (by omega) (by omega))
              clear dl dp
              clear hj
              try clear hv
              try clear hp hjp hVp
              try clear hp
              go_wp2_with fail
              refine (D1 _).out.mono ?_
              rintro e w1 ⟨rfl, hb1⟩
              go_wp2_with fail
              refine (D2 _).out.mono ?_
              rintro e w2 ⟨rfl, hb2⟩
              go_wp2_with fail
              go_ret
              exact ⟨by rw [Hu.out]; rfl, hb1.trans (hb2.mono hb1.size)⟩
          · have a3 : decide (0 ≤ p) = false := decide_eq_false hp
            have Hu : Hid (o = Lib.itoa (u : Int) ++ 112 :: Lib.itoa p) := by
              have h3 := Hun.out
              rw [decide_eq_false (by omega)] at h3
              exact h3
            have dl := itoa_len (u : Int) (by omega) (by omega)
            have dp := itoa_len p (by omega) (by omega)
            have k1 : ∀ W : World, (Op.stringOp .add ⟨([] : List UInt8).toArray⟩ ⟨(Lib.itoa (u : Int)).toArray⟩).run Tryd.prog W = .ok (.string ⟨(Lib.itoa (u : Int)).toArray⟩) W := run_cat [] (Lib.itoa (u : Int)) (by decide) (by omega)
            have k2 : ∀ W : World, (Op.stringOp .add ⟨(Lib.itoa (u : Int)).toArray⟩ ⟨([112] : List UInt8).toArray⟩).run Tryd.prog W = .ok (.string ⟨((Lib.itoa (u : Int) ++ [112])).toArray⟩) W := run_cat (Lib.itoa (u : Int)) [112] (by first | omega | (simp; omega)) (by decide)
            have k3 : ∀ W : World, (Op.stringOp .add ⟨((Lib.itoa (u : Int) ++ [112])).toArray⟩ ⟨(Lib.itoa p).toArray⟩).run Tryd.prog W = .ok (.string ⟨((Lib.itoa (u : Int) ++ 112 :: Lib.itoa p)).toArray⟩) W := by
              intro W
              have := run_cat ((Lib.itoa (u : Int) ++ [112])) (Lib.itoa p) (by first | omega | (simp; omega)) (by omega) W
              rw [show ((Lib.itoa (u : Int) ++ [112])) ++ Lib.itoa p = (Lib.itoa (u : Int) ++ 112 :: Lib.itoa p) from by simp] at this
              exact this
            have D1 := fun W => Lib.hid (rdigits_any (u : Int) W (by omega) (by omega))
            have D2 := fun W => Lib.hid (rdigits_any p W (by omega) (by omega))
            clear dl dp
            clear hj
            try clear hv
            try clear hp hjp hVp
            try clear hp
            go_wp2_with fail
            refine (D1 _).out.mono ?_
            rintro e w1 ⟨rfl, hb1⟩
            go_wp2_with fail
            refine (D2 _).out.mono ?_
            rintro e w2 ⟨rfl, hb2⟩
            go_wp2_with fail
            go_ret
            exact ⟨by rw [Hu.out]; rfl, hb1.trans (hb2.mono hb1.size)⟩

set_option maxRecDepth 100000 in
set_option maxHeartbeats 4000000 in
theorem qtext_n0 (x : Nat) (hx : x < 18446744073709551616) (hi : rung x < infR) (hsg : isNeg x = true) (h0 : rung x = 0) (w : World) :
    Calls Tryd.prog 20 #[.float .f64 x] w fun e w' => e = .returned (.string ⟨(textN x).toArray⟩) ∧ Below w.heap.size w w' := by
  obtain ⟨t1, t2, t3⟩ := fin_tests x hx hi
  have hfb := run_float64bits x
  have C := qisnan_any x w
  rw [t1] at C
  have C := Lib.hid C
  have htx : textN x = [45] ++ unsN (rung x) := by unfold textN; rw [t1, hsg]; rfl
  have hxr : (x : Int) = (rung x : Int) + 9223372036854775808 ∧ rung x < 9223372036854775808 := by
    rcases word_parts x hx with ⟨h1, h2, h3⟩ | ⟨h1, h2, h3⟩ <;> rw [hsg] at h1 <;> first | (cases h1; done) | omega
  have hbig : decide ((9223372036854775808 : Int) ≤ (x : Int)) = true := decide_eq_true (by omega)
  have hsub : IntKind.u64.wrap ((x : Int) - 9223372036854775808) = (x : Int) - 9223372036854775808 := by rw [IntKind.wrap_u64]; omega
  rw [htx, h0, unsN_zero]
  have z1 : (((x : Int) - 9223372036854775808) % 4503599627370496) = 0 := by omega
  have z2 : (((x : Int) - 9223372036854775808) / 4503599627370496) = 0 := by omega
  have hcat := run_cat [45] [48] (by decide) (by decide)
  clear hx hi hsg h0 htx hxr t1
  go_enter Tryd.func20, Tryd.ntmps20
  go_wp2_with fail
  refine C.out.mono ?_
  rintro e w' ⟨rfl, rfl⟩
  go_wp2_with fail
  go_ret
  exact ⟨rfl, Below.refl _ _⟩

set_option maxRecDepth 100000 in
set_option maxHeartbeats 4000000 in
theorem qtext_ns (x : Nat) (hx : x < 18446744073709551616) (hi : rung x < infR) (hsg : isNeg x = true) (h0 : rung x ≠ 0) (hs : rung x < 4503599627370496) (w : World) :
    Calls Tryd.prog 20 #[.float .f64 x] w fun e w' => e = .returned (.string ⟨(textN x).toArray⟩) ∧ Below w.heap.size w w' := by
  obtain ⟨t1, t2, t3⟩ := fin_tests x hx hi
  have hfb := run_float64bits x
  have C := qisnan_any x w
  rw [t1] at C
  have C := Lib.hid C
  have htx : textN x = [45] ++ unsN (rung x) := by unfold textN; rw [t1, hsg]; rfl
  have hxr : (x : Int) = (rung x : Int) + 9223372036854775808 ∧ rung x < 9223372036854775808 := by
    rcases word_parts x hx with ⟨h1, h2, h3⟩ | ⟨h1, h2, h3⟩ <;> rw [hsg] at h1 <;> first | (cases h1; done) | omega
  have hbig : decide ((9223372036854775808 : Int) ≤ (x : Int)) = true := decide_eq_true (by omega)
  have hsub : IntKind.u64.wrap ((x : Int) - 9223372036854775808) = (x : Int) - 9223372036854775808 := by rw [IntKind.wrap_u64]; omega
  rw [htx]
  generalize hr : rung x = r at *
  have hM := rawM_lt r
  have hEb := rawE_lt r hi
  have hMe : (rawM r : Int) = ((x : Int) - 9223372036854775808) % 4503599627370496 := by unfold rawM; rw [if_pos hs]; omega
  have hEe : rawE r = 1 - 1075 := by unfold rawE; rw [if_pos hs]; rfl
  have z1 : ((((x : Int) - 9223372036854775808) % 4503599627370496) == 0) = false := by rw [beq_eq_false_iff_ne]; omega
  have z2 : (((x : Int) - 9223372036854775808) / 4503599627370496) = 0 := by omega
  have hM0 := rawM_pos r h0
  have hwi := whole_iff r h0
  have hun : unsN r = if whole r then Lib.itoa ((spM r * 2 ^ (spE r).toNat : Nat) : Int) else Lib.itoa (spM r : Int) ++ 112 :: Lib.itoa (spE r) := by
    unfold unsN
    rw [if_neg h0, if_neg (by omega)]
  obtain ⟨E, hE⟩ : ∃ E, E = rawE r := ⟨_, rfl⟩
  obtain ⟨M, hMM⟩ : ∃ M, M = rawM r := ⟨_, rfl⟩
  have hsp : spM r = oddN M ∧ spE r = E + (tzN M : Int) := by rw [hMM, hE]; exact ⟨rfl, rfl⟩
  rw [hsp.1, hsp.2] at hwi hun
  rw [← hE] at hEe hEb
  rw [← hMM] at hMe hM hM0
  obtain ⟨o, ho⟩ : ∃ o, o = unsN r := ⟨_, rfl⟩
  rw [← ho]
  rw [← ho, hwi] at hun
  have Hun := Lib.hid hun
  have HM0 := Lib.hid hM0
  have HM := Lib.hid hM
  have hE1 := hEb.1
  have hE2 := hEb.2
  have HMe := Lib.hid hMe
  have HEe := Lib.hid hEe
  clear hsp hun hwi ho hE hMM hx hi hsg hs h0 htx hxr t1 hr hM hM0 hEb hMe hEe
  go_enter Tryd.func20, Tryd.ntmps20
  go_wp2_with fail
  refine C.out.mono ?_
  rintro e w' ⟨rfl, rfl⟩
  go_wp2_with fail
  go_loop [5, 6] (fun m e => ∃ u k : Nat, m = .int .i64 (u : Int) ∧ e = .int .i64 (E + (k : Int)) ∧ k ≤ 53 ∧ u < 9007199254740992 ∧ Hid (u * 2 ^ k = M ∧ u ≠ 0)) (fun m _ => (intOf m).toNat)
  case atStart =>
    refine ⟨M, 0, ?_, ?_, by omega, HM.out, ⟨by rw [Nat.pow_zero, Nat.mul_one], HM0.out⟩⟩
    · have := HMe.out; first | rfl | (congr 1; omega) | (rw [← this])
    · have := HEe.out; first | rfl | (congr 1; omega)
  case round =>
    obtain ⟨u, k, rfl, rfl, hk, hu, H⟩ := hrel
    by_cases he : u % 2 = 0
    · have q1 : ((u : Int) % 2 == 0) = true := by rw [beq_iff_eq]; omega
      have Hs := Lib.hid (half_step u k M H.out.1 he)
      have hk1 := k_le (u / 2) (k + 1) M Hs.out (by have := H.out.2; omega) HM.out
      have Hu0 := Lib.hid (show u / 2 ≠ 0 by have := H.out.2; omega)
      clear he
      go_wp2_with fail
      go_round
      case rel => exact ⟨u / 2, k + 1, by go_num, by go_num, hk1, by omega, ⟨Hs.out, Hu0.out⟩⟩
      case measure => simp [intOf]; have := H.out.2; omega
    · have q1 : ((u : Int) % 2 == 0) = false := by rw [beq_eq_false_iff_ne]; omega
      have ht : tzN M = k := by rw [← H.out.1]; exact tzN_mul u k (by omega) (by omega)
      have ho : oddN M = u := by rw [← H.out.1]; exact oddN_mul u k (by omega) (by omega)
      have hun := Hun.out
      rw [ht, ho] at hun
      have Hun := Lib.hid hun
      have Hu0 := Lib.hid H.out.2
      clear hun ht ho he H
      have hp0 : -1074 ≤ E + (k : Int) := by omega
      have hp1 : E + (k : Int) ≤ 1024 := by omega
      generalize E + (k : Int) = p at *
      go_wp2_with fail
      go_loop [7, 8] (fun v i => ∃ j V : Nat, i = .int .i64 (j : Int) ∧ v = .int .i64 (V : Int) ∧ (V : Int) ≤ 18014398509481983 ∧ Hid (V = u * 2 ^ j) ∧ Hid (j = 0 ∨ (j : Int) ≤ p)) (fun _ i => (p - intOf i).toNat)
      case atStart => exact ⟨0, u, rfl, rfl, by omega, by show _ = _; rw [Nat.pow_zero, Nat.mul_one], Or.inl rfl⟩
      case round =>
        obtain ⟨j, V, rfl, rfl, hV, HV, Hj⟩ := hrel
        by_cases hj : (j : Int) < p
        · have a1 : decide ((j : Int) < p) = true := decide_eq_true hj
          by_cases hv : (V : Int) < 9007199254740992
          · have a2 : decide ((V : Int) < 9007199254740992) = true := decide_eq_true hv
            have Hv := Lib.hid hv
            have Hj2 := Lib.hid hj
            have hj64 : (j : Int) ≤ 1024 := by omega
            clear hj hv
            go_wp2_with fail
            go_round
            case rel =>
              refine ⟨j + 1, V * 2, by go_num, by go_num, by have := Hv.out; omega, ?_, Or.inr (by have := Hj2.out; omega)⟩
              show _ = _
              rw [HV.out, Nat.pow_succ, Nat.mul_assoc]
            case measure => simp [intOf]; have := Hj2.out; omega
          · have a2 : decide ((V : Int) < 9007199254740992) = false := decide_eq_false hv
            have a3 : decide (0 ≤ p) = true := decide_eq_true (by omega)
            have Hu : Hid (o = Lib.itoa (u : Int) ++ 112 :: Lib.itoa p) := by
              have h2 : u * 2 ^ j ≤ u * 2 ^ p.toNat := Nat.mul_le_mul_left _ (Nat.pow_le_pow_right (by decide) (by omega))
              have h3 := Hun.out
              have h4 := HV.out
              rw [decide_eq_false (by omega)] at h3
              exact h3
            have dl := itoa_len (u : Int) (by omega) (by omega)
            have dp := itoa_len p (by omega) (by omega)
            have k1 : ∀ W : World, (Op.stringOp .add ⟨([45] : List UInt8).toArray⟩ ⟨(Lib.itoa (u : Int)).toArray⟩).run Tryd.prog W = .ok (.string ⟨(45 :: Lib.itoa (u : Int)).toArray⟩) W := run_cat [45] (Lib.itoa (u : Int)) (by decide) (by omega)
            have k2 : ∀ W : World, (Op.stringOp .add ⟨(45 :: Lib.itoa (u : Int)).toArray⟩ ⟨([112] : List UInt8).toArray⟩).run Tryd.prog W = .ok (.string ⟨(45 :: (Lib.itoa (u : Int) ++ [112])).toArray⟩) W := run_cat (45 :: Lib.itoa (u : Int)) [112] (by first | omega | (simp; omega)) (by decide)
            have k3 : ∀ W : World, (Op.stringOp .add ⟨(45 :: (Lib.itoa (u : Int) ++ [112])).toArray⟩ ⟨(Lib.itoa p).toArray⟩).run Tryd.prog W = .ok (.string ⟨(45 :: (Lib.itoa (u : Int) ++ 112 :: Lib.itoa p)).toArray⟩) W := by
              intro W
              have := run_cat (45 :: (Lib.itoa (u : Int) ++ [112])) (Lib.itoa p) (by first | omega | (simp; omega)) (by omega) W
              rw [show (45 :: (Lib.itoa (u : Int) ++ [112])) ++ Lib.itoa p = 45 :: (Lib.itoa (u : Int) ++ 112 :: Lib.itoa p) from by simp] at this
              exact this
            have D1 := fun W => Lib.hid (rdigits_any (u : Int) W (by omega) (by omega))
            have D2 := fun W => Lib.hid (rdigits_any p W (by omega) (by omega))
            clear dl dp
            clear hj
            try clear hv
            try clear hp hjp hVp
            try clear hp
            go_wp2_with fail
            refine (D1 _).out.mono ?_
            rintro e w1 ⟨rfl, hb1⟩
            go_wp2_with fail
            refine (D2 _).out.mono ?_
            rintro e w2 ⟨rfl, hb2⟩
            go_wp2_with fail
            go_ret
            exact ⟨by rw [Hu.out]; rfl, hb1.trans (hb2.mono hb1.size)⟩
        · have a1 : decide ((j : Int) < p) = false := decide_eq_false hj
          by_cases hp : 0 ≤ p
          · have a3 : decide (0 ≤ p) = true := decide_eq_true hp
            have hjp : j = p.toNat := by have := Hj.out; omega
            have hVp : V = u * 2 ^ p.toNat := by rw [← hjp]; exact HV.out
            by_cases hv : (V : Int) < 9007199254740992
            · have a2 : decide ((V : Int) < 9007199254740992) = true := decide_eq_true hv
              have Hu : Hid (o = Lib.itoa (V : Int)) := by
                have h3 := Hun.out
                rw [← hVp, decide_eq_true ⟨hp, by omega⟩] at h3
                exact h3
              have dl := itoa_len (V : Int) (by omega) (by omega)
              have k1 : ∀ W : World, (Op.stringOp .add ⟨([45] : List UInt8).toArray⟩ ⟨(Lib.itoa (V : Int)).toArray⟩).run Tryd.prog W = .ok (.string ⟨(45 :: Lib.itoa (V : Int)).toArray⟩) W := run_cat [45] (Lib.itoa (V : Int)) (by decide) (by omega)
              have D := fun W => Lib.hid (rdigits_any (V : Int) W (by omega) (by omega))
              clear hj hv hp hjp hVp
              clear dl
              go_wp2_with fail
              refine (D _).out.mono ?_
              rintro e w1 ⟨rfl, hb1⟩
              go_wp2_with fail
              go_ret
              exact ⟨by rw [Hu.out]; rfl, hb1⟩
            · have a2 : decide ((V : Int) < 9007199254740992) = false := decide_eq_false hv
              have Hu : Hid (o = Lib.itoa (u : Int) ++ 112 :: Lib.itoa p) := by
                have h3 := Hun.out
                rw [← hVp, decide_eq_false (by omega)] at h3
                exact h3
              have dl := itoa_len (u : Int) (by omega) (by omega)
              have dp := itoa_len p (by omega) (by omega)
              have k1 : ∀ W : World, (Op.stringOp .add ⟨([45] : List UInt8).toArray⟩ ⟨(Lib.itoa (u : Int)).toArray⟩).run Tryd.prog W = .ok (.string ⟨(45 :: Lib.itoa (u : Int)).toArray⟩) W := run_cat [45] (Lib.itoa (u : Int)) (by decide) (by omega)
              have k2 : ∀ W : World, (Op.stringOp .add ⟨(45 :: Lib.itoa (u : Int)).toArray⟩ ⟨([112] : List UInt8).toArray⟩).run Tryd.prog W = .ok (.string ⟨(45 :: (Lib.itoa (u : Int) ++ [112])).toArray⟩) W := run_cat (45 :: Lib.itoa (u : Int)) [112] (by first | omega | (simp; omega)) (by decide)
              have k3 : ∀ W : World, (Op.stringOp .add ⟨(45 :: (Lib.itoa (u : Int) ++ [112])).toArray⟩ ⟨(Lib.itoa p).toArray⟩).run Tryd.prog W = .ok (.string ⟨(45 :: (Lib.itoa (u : Int) ++ 112 :: Lib.itoa p)).toArray⟩) W := by
                intro W
                have := run_cat (45 :: (Lib.itoa (u : Int) ++ [112])) (Lib.itoa p) (by first | omega | (simp; omega)) (by omega) W
                rw [show (45 :: (Lib.itoa (u : Int) ++ [112])) ++ Lib.itoa p = 45 :: (Lib.itoa (u : Int) ++ 112 :: Lib.itoa p) from by simp] at this
                exact this
              have D1 := fun W => Lib.hid (rdigits_any (u : Int) W (by omega) (by omega))
              have D2 := fun W => Lib.hid (rdigits_any p W (by omega) (by omega))
              clear dl dp
              clear hj
              try clear hv
              try clear hp hjp hVp
              try clear hp
              go_wp2_with fail
              refine (D1 _).out.mono ?_
              rintro e w1 ⟨rfl, hb1⟩
              go_wp2_with fail
              refine (D2 _).out.mono ?_
              rintro e w2 ⟨rfl, hb2⟩
              go_wp2_with fail
              go_ret
              exact ⟨by rw [Hu.out]; rfl, hb1.trans (hb2.mono hb1.size)⟩
          · have a3 : decide (0 ≤ p) = false := decide_eq_false hp
            have Hu : Hid (o = Lib.itoa (u : Int) ++ 112 :: Lib.itoa p) := by
              have h3 := Hun.out
              rw [decide_eq_false (by omega)] at h3
              exact h3
            have dl := itoa_len (u : Int) (by omega) (by omega)
            have dp := itoa_len p (by omega) (by omega)
            have k1 : ∀ W : World, (Op.stringOp .add ⟨([45] : List UInt8).toArray⟩ ⟨(Lib.itoa (u : Int)).toArray⟩).run Tryd.prog W = .ok (.string ⟨(45 :: Lib.itoa (u : Int)).toArray⟩) W := run_cat [45] (Lib.itoa (u : Int)) (by decide) (by omega)
            have k2 : ∀ W : World, (Op.stringOp .add ⟨(45 :: Lib.itoa (u : Int)).toArray⟩ ⟨([112] : List UInt8).toArray⟩).run Tryd.prog W = .ok (.string ⟨(45 :: (Lib.itoa (u : Int) ++ [112])).toArray⟩) W := run_cat (45 :: Lib.itoa (u : Int)) [112] (by first | omega | (simp; omega)) (by decide)
            have k3 : ∀ W : World, (Op.stringOp .add ⟨(45 :: (Lib.itoa (u : Int) ++ [112])).toArray⟩ ⟨(Lib.itoa p).toArray⟩).run Tryd.prog W = .ok (.string ⟨(45 :: (Lib.itoa (u : Int) ++ 112 :: Lib.itoa p)).toArray⟩) W := by
              intro W
              have := run_cat (45 :: (Lib.itoa (u : Int) ++ [112])) (Lib.itoa p) (by first | omega | (simp; omega)) (by omega) W
              rw [show (45 :: (Lib.itoa (u : Int) ++ [112])) ++ Lib.itoa p = 45 :: (Lib.itoa (u : Int) ++ 112 :: Lib.itoa p) from by simp] at this
              exact this
            have D1 := fun W => Lib.hid (rdigits_any (u : Int) W (by omega) (by omega))
            have D2 := fun W => Lib.hid (rdigits_any p W (by omega) (by omega))
            clear dl dp
            clear hj
            try clear hv
            try clear hp hjp hVp
            try clear hp
            go_wp2_with fail
            refine (D1 _).out.mono ?_
            rintro e w1 ⟨rfl, hb1⟩
            go_wp2_with fail
            refine (D2 _).out.mono ?_
            rintro e w2 ⟨rfl, hb2⟩
            go_wp2_with fail
            go_ret
            exact ⟨by rw [Hu.out]; rfl, hb1.trans (hb2.mono hb1.size)⟩

set_option maxRecDepth 100000 in
set_option maxHeartbeats 4000000 in
theorem qtext_nb (x : Nat) (hx : x < 18446744073709551616) (hi : rung x < infR) (hsg : isNeg x = true) (hs : 4503599627370496 ≤ rung x) (w : World) :
    Calls Tryd.prog 20 #[.float .f64 x] w fun e w' => e = .returned (.string ⟨(textN x).toArray⟩) ∧ Below w.heap.size w w' := by
  obtain ⟨t1, t2, t3⟩ := fin_tests x hx hi
  have hfb := run_float64bits x
  have C := qisnan_any x w
  rw [t1] at C
  have C := Lib.hid C
  have htx : textN x = [45] ++ unsN (rung x) := by unfold textN; rw [t1, hsg]; rfl
  have hxr : (x : Int) = (rung x : Int) + 9223372036854775808 ∧ rung x < 9223372036854775808 := by
    rcases word_parts x hx with ⟨h1, h2, h3⟩ | ⟨h1, h2, h3⟩ <;> rw [hsg] at h1 <;> first | (cases h1; done) | omega
  have hbig : decide ((9223372036854775808 : Int) ≤ (x : Int)) = true := decide_eq_true (by omega)
  have hsub : IntKind.u64.wrap ((x : Int) - 9223372036854775808) = (x : Int) - 9223372036854775808 := by rw [IntKind.wrap_u64]; omega
  rw [htx]
  generalize hr : rung x = r at *
  have hM := rawM_lt r
  have hEb := rawE_lt r hi
  have h0 : r ≠ 0 := by omega
  have hMe : (rawM r : Int) = ((x : Int) - 9223372036854775808) % 4503599627370496 + 4503599627370496 := by unfold rawM; rw [if_neg (by omega)]; omega
  have hEe : rawE r = ((x : Int) - 9223372036854775808) / 4503599627370496 - 1075 := by unfold rawE; rw [if_neg (by omega)]; omega
  have z1 : ((((x : Int) - 9223372036854775808) % 4503599627370496 + 4503599627370496) == 0) = false := by rw [beq_eq_false_iff_ne]; omega
  have z2 : ((((x : Int) - 9223372036854775808) / 4503599627370496) == 0) = false := by rw [beq_eq_false_iff_ne]; omega
  have z3 : 0 ≤ ((x : Int) - 9223372036854775808) / 4503599627370496 := by omega
  have z4 : ((x : Int) - 9223372036854775808) / 4503599627370496 ≤ 2047 := by omega
  have hM0 := rawM_pos r h0
  have hwi := whole_iff r h0
  have hun : unsN r = if whole r then Lib.itoa ((spM r * 2 ^ (spE r).toNat : Nat) : Int) else Lib.itoa (spM r : Int) ++ 112 :: Lib.itoa (spE r) := by
    unfold unsN
    rw [if_neg h0, if_neg (by omega)]
  obtain ⟨E, hE⟩ : ∃ E, E = rawE r := ⟨_, rfl⟩
  obtain ⟨M, hMM⟩ : ∃ M, M = rawM r := ⟨_, rfl⟩
  have hsp : spM r = oddN M ∧ spE r = E + (tzN M : Int) := by rw [hMM, hE]; exact ⟨rfl, rfl⟩
  rw [hsp.1, hsp.2] at hwi hun
  rw [← hE] at hEe hEb
  rw [← hMM] at hMe hM hM0
  obtain ⟨o, ho⟩ : ∃ o, o = unsN r := ⟨_, rfl⟩
  rw [← ho]
  rw [← ho, hwi] at hun
  have Hun := Lib.hid hun
  have HM0 := Lib.hid hM0
  have HM := Lib.hid hM
  have hE1 := hEb.1
  have hE2 := hEb.2
  have HMe := Lib.hid hMe
  have HEe := Lib.hid hEe
  clear hsp hun hwi ho hE hMM hx hi hsg hs h0 htx hxr t1 hr hM hM0 hEb hMe hEe
  go_enter Tryd.func20, Tryd.ntmps20
  go_wp2_with fail
  refine C.out.mono ?_
  rintro e w' ⟨rfl, rfl⟩
  go_wp2_with fail
  go_loop [5, 6] (fun m e => ∃ u k : Nat, m = .int .i64 (u : Int) ∧ e = .int .i64 (E + (k : Int)) ∧ k ≤ 53 ∧ u < 9007199254740992 ∧ Hid (u * 2 ^ k = M ∧ u ≠ 0)) (fun m _ => (intOf m).toNat)
  case atStart =>
    refine ⟨M, 0, ?_, ?_, by omega, HM.out, ⟨by rw [Nat.pow_zero, Nat.mul_one], HM0.out⟩⟩
    · have := HMe.out; first | rfl | (congr 1; omega) | (rw [← this])
    · have := HEe.out; first | rfl | (congr 1; omega)
  case round =>
    obtain ⟨u, k, rfl, rfl, hk, hu, H⟩ := hrel
    by_cases he : u % 2 = 0
    · have q1 : ((u : Int) % 2 == 0) = true := by rw [beq_iff_eq]; omega
      have Hs := Lib.hid (half_step u k M H.out.1 he)
      have hk1 := k_le (u / 2) (k + 1) M Hs.out (by have := H.out.2; omega) HM.out
      have Hu0 := Lib.hid (show u / 2 ≠ 0 by have := H.out.2; omega)
      clear he
      go_wp2_with fail
      go_round
      case rel => exact ⟨u / 2, k + 1, by go_num, by go_num, hk1, by omega, ⟨Hs.out, Hu0.out⟩⟩
      case measure => simp [intOf]; have := H.out.2; omega
    · have q1 : ((u : Int) % 2 == 0) = false := by rw [beq_eq_false_iff_ne]; omega
      have ht : tzN M = k := by rw [← H.out.1]; exact tzN_mul u k (by omega) (by omega)
      have ho : oddN M = u := by rw [← H.out.1]; exact oddN_mul u k (by omega) (by omega)
      have hun := Hun.out
      rw [ht, ho] at hun
      have Hun := Lib.hid hun
      have Hu0 := Lib.hid H.out.2
      clear hun ht ho he H
      have hp0 : -1074 ≤ E + (k : Int) := by omega
      have hp1 : E + (k : Int) ≤ 1024 := by omega
      generalize E + (k : Int) = p at *
      go_wp2_with fail
      go_loop [7, 8] (fun v i => ∃ j V : Nat, i = .int .i64 (j : Int) ∧ v = .int .i64 (V : Int) ∧ (V : Int) ≤ 18014398509481983 ∧ Hid (V = u * 2 ^ j) ∧ Hid (j = 0 ∨ (j : Int) ≤ p)) (fun _ i => (p - intOf i).toNat)
      case atStart => exact ⟨0, u, rfl, rfl, by omega, by show _ = _; rw [Nat.pow_zero, Nat.mul_one], Or.inl rfl⟩
      case round =>
        obtain ⟨j, V, rfl, rfl, hV, HV, Hj⟩ := hrel
        by_cases hj : (j : Int) < p
        · have a1 : decide ((j : Int) < p) = true := decide_eq_true hj
          by_cases hv : (V : Int) < 9007199254740992
          · have a2 : decide ((V : Int) < 9007199254740992) = true := decide_eq_true hv
            have Hv := Lib.hid hv
            have Hj2 := Lib.hid hj
            have hj64 : (j : Int) ≤ 1024 := by omega
            clear hj hv
            go_wp2_with fail
            go_round
            case rel =>
              refine ⟨j + 1, V * 2, by go_num, by go_num, by have := Hv.out; omega, ?_, Or.inr (by have := Hj2.out; omega)⟩
              show _ = _
              rw [HV.out, Nat.pow_succ, Nat.mul_assoc]
            case measure => simp [intOf]; have := Hj2.out; omega
          · have a2 : decide ((V : Int) < 9007199254740992) = false := decide_eq_false hv
            have a3 : decide (0 ≤ p) = true := decide_eq_true (by omega)
            have Hu : Hid (o = Lib.itoa (u : Int) ++ 112 :: Lib.itoa p) := by
              have h2 : u * 2 ^ j ≤ u * 2 ^ p.toNat := Nat.mul_le_mul_left _ (Nat.pow_le_pow_right (by decide) (by omega))
              have h3 := Hun.out
              have h4 := HV.out
              rw [decide_eq_false (by omega)] at h3
              exact h3
            have dl := itoa_len (u : Int) (by omega) (by omega)
            have dp := itoa_len p (by omega) (by omega)
            have k1 : ∀ W : World, (Op.stringOp .add ⟨([45] : List UInt8).toArray⟩ ⟨(Lib.itoa (u : Int)).toArray⟩).run Tryd.prog W = .ok (.string ⟨(45 :: Lib.itoa (u : Int)).toArray⟩) W := run_cat [45] (Lib.itoa (u : Int)) (by decide) (by omega)
            have k2 : ∀ W : World, (Op.stringOp .add ⟨(45 :: Lib.itoa (u : Int)).toArray⟩ ⟨([112] : List UInt8).toArray⟩).run Tryd.prog W = .ok (.string ⟨(45 :: (Lib.itoa (u : Int) ++ [112])).toArray⟩) W := run_cat (45 :: Lib.itoa (u : Int)) [112] (by first | omega | (simp; omega)) (by decide)
            have k3 : ∀ W : World, (Op.stringOp .add ⟨(45 :: (Lib.itoa (u : Int) ++ [112])).toArray⟩ ⟨(Lib.itoa p).toArray⟩).run Tryd.prog W = .ok (.string ⟨(45 :: (Lib.itoa (u : Int) ++ 112 :: Lib.itoa p)).toArray⟩) W := by
              intro W
              have := run_cat (45 :: (Lib.itoa (u : Int) ++ [112])) (Lib.itoa p) (by first | omega | (simp; omega)) (by omega) W
              rw [show (45 :: (Lib.itoa (u : Int) ++ [112])) ++ Lib.itoa p = 45 :: (Lib.itoa (u : Int) ++ 112 :: Lib.itoa p) from by simp] at this
              exact this
            have D1 := fun W => Lib.hid (rdigits_any (u : Int) W (by omega) (by omega))
            have D2 := fun W => Lib.hid (rdigits_any p W (by omega) (by omega))
            clear dl dp
            clear hj
            try clear hv
            try clear hp hjp hVp
            try clear hp
            go_wp2_with fail
            refine (D1 _).out.mono ?_
            rintro e w1 ⟨rfl, hb1⟩
            go_wp2_with fail
            refine (D2 _).out.mono ?_
            rintro e w2 ⟨rfl, hb2⟩
            go_wp2_with fail
            go_ret
            exact ⟨by rw [Hu.out]; rfl, hb1.trans (hb2.mono hb1.size)⟩
        · have a1 : decide ((j : Int) < p) = false := decide_eq_false hj
          by_cases hp : 0 ≤ p
          · have a3 : decide (0 ≤ p) = true := decide_eq_true hp
            have hjp : j = p.toNat := by have := Hj.out; omega
            have hVp : V = u * 2 ^ p.toNat := by rw [← hjp]; exact HV.out
            by_cases hv : (V : Int) < 9007199254740992
            · have a2 : decide ((V : Int) < 9007199254740992) = true := decide_eq_true hv
              have Hu : Hid (o = Lib.itoa (V : Int)) := by
                have h3 := Hun.out
                rw [← hVp, decide_eq_true ⟨hp, by omega⟩] at h3
                exact h3
              have dl := itoa_len (V : Int) (by omega) (by omega)
              have k1 : ∀ W : World, (Op.stringOp .add ⟨([45] : List UInt8).toArray⟩ ⟨(Lib.itoa (V : Int)).toArray⟩).run Tryd.prog W = .ok (.string ⟨(45 :: Lib.itoa (V : Int)).toArray⟩) W := run_cat [45] (Lib.itoa (V : Int)) (by decide) (by omega)
              have D := fun W => Lib.hid (rdigits_any (V : Int) W (by omega) (by omega))
              clear hj hv hp hjp hVp
              clear dl
              go_wp2_with fail
              refine (D _).out.mono ?_
              rintro e w1 ⟨rfl, hb1⟩
              go_wp2_with fail
              go_ret
              exact ⟨by rw [Hu.out]; rfl, hb1⟩
            · have a2 : decide ((V : Int) < 9007199254740992) = false := decide_eq_false hv
              have Hu : Hid (o = Lib.itoa (u : Int) ++ 112 :: Lib.itoa p) := by
                have h3 := Hun.out
                rw [← hVp, decide_eq_false (by omega)] at h3
                exact h3
              have dl := itoa_len (u : Int) (by omega) (by omega)
              have dp := itoa_len p (by omega) (by omega)
              have k1 : ∀ W : World, (Op.stringOp .add ⟨([45] : List UInt8).toArray⟩ ⟨(Lib.itoa (u : Int)).toArray⟩).run Tryd.prog W = .ok (.string ⟨(45 :: Lib.itoa (u : Int)).toArray⟩) W := run_cat [45] (Lib.itoa (u : Int)) (by decide) (by omega)
              have k2 : ∀ W : World, (Op.stringOp .add ⟨(45 :: Lib.itoa (u : Int)).toArray⟩ ⟨([112] : List UInt8).toArray⟩).run Tryd.prog W = .ok (.string ⟨(45 :: (Lib.itoa (u : Int) ++ [112])).toArray⟩) W := run_cat (45 :: Lib.itoa (u : Int)) [112] (by first | omega | (simp; omega)) (by decide)
              have k3 : ∀ W : World, (Op.stringOp .add ⟨(45 :: (Lib.itoa (u : Int) ++ [112])).toArray⟩ ⟨(Lib.itoa p).toArray⟩).run Tryd.prog W = .ok (.string ⟨(45 :: (Lib.itoa (u : Int) ++ 112 :: Lib.itoa p)).toArray⟩) W := by
                intro W
                have := run_cat (45 :: (Lib.itoa (u : Int) ++ [112])) (Lib.itoa p) (by first | omega | (simp; omega)) (by omega) W
                rw [show (45 :: (Lib.itoa (u : Int) ++ [112])) ++ Lib.itoa p = 45 :: (Lib.itoa (u : Int) ++ 112 :: Lib.itoa p) from by simp] at this
                exact this
              have D1 := fun W => Lib.hid (rdigits_any (u : Int) W (by omega) (by omega))
              have D2 := fun W => Lib.hid (rdigits_any p W (by omega) (by omega))
              clear dl dp
              clear hj
              try clear hv
              try clear hp hjp hVp
              try clear hp
              go_wp2_with fail
              refine (D1 _).out.mono ?_
              rintro e w1 ⟨rfl, hb1⟩
              go_wp2_with fail
              refine (D2 _).out.mono ?_
              rintro e w2 ⟨rfl, hb2⟩
              go_wp2_with fail
              go_ret
              exact ⟨by rw [Hu.out]; rfl, hb1.trans (hb2.mono hb1.size)⟩
          · have a3 : decide (0 ≤ p) = false := decide_eq_false hp
            have Hu : Hid (o = Lib.itoa (u : Int) ++ 112 :: Lib.itoa p) := by
              have h3 := Hun.out
              rw [decide_eq_false (by omega)] at h3
              exact h3
            have dl := itoa_len (u : Int) (by omega) (by omega)
            have dp := itoa_len p (by omega) (by omega)
            have k1 : ∀ W : World, (Op.stringOp .add ⟨([45] : List UInt8).toArray⟩ ⟨(Lib.itoa (u : Int)).toArray⟩).run Tryd.prog W = .ok (.string ⟨(45 :: Lib.itoa (u : Int)).toArray⟩) W := run_cat [45] (Lib.itoa (u : Int)) (by decide) (by omega)
            have k2 : ∀ W : World, (Op.stringOp .add ⟨(45 :: Lib.itoa (u : Int)).toArray⟩ ⟨([112] : List UInt8).toArray⟩).run Tryd.prog W = .ok (.string ⟨(45 :: (Lib.itoa (u : Int) ++ [112])).toArray⟩) W := run_cat (45 :: Lib.itoa (u : Int)) [112] (by first | omega | (simp; omega)) (by decide)
            have k3 : ∀ W : World, (Op.stringOp .add ⟨(45 :: (Lib.itoa (u : Int) ++ [112])).toArray⟩ ⟨(Lib.itoa p).toArray⟩).run Tryd.prog W = .ok (.string ⟨(45 :: (Lib.itoa (u : Int) ++ 112 :: Lib.itoa p)).toArray⟩) W := by
              intro W
              have := run_cat (45 :: (Lib.itoa (u : Int) ++ [112])) (Lib.itoa p) (by first | omega | (simp; omega)) (by omega) W
              rw [show (45 :: (Lib.itoa (u : Int) ++ [112])) ++ Lib.itoa p = 45 :: (Lib.itoa (u : Int) ++ 112 :: Lib.itoa p) from by simp] at this
              exact this
            have D1 := fun W => Lib.hid (rdigits_any (u : Int) W (by omega) (by omega))
            have D2 := fun W => Lib.hid (rdigits_any p W (by omega) (by omega))
            clear dl dp
            clear hj
            try clear hv
            try clear hp hjp hVp
            try clear hp
            go_wp2_with fail
            refine (D1 _).out.mono ?_
            rintro e w1 ⟨rfl, hb1⟩
            go_wp2_with fail
            refine (D2 _).out.mono ?_
            rintro e w2 ⟨rfl, hb2⟩
            go_wp2_with fail
            go_ret
            exact ⟨by rw [Hu.out]; rfl, hb1.trans (hb2.mono hb1.size)⟩

theorem qtext_any (x : Nat) (hx : x < 18446744073709551616) (w : World) :
    Calls Tryd.prog 20 #[.float .f64 x] w fun e w' => e = .returned (.string ⟨(textN x).toArray⟩) ∧ Below w.heap.size w w' := by
  have hc : infR = 9218868437227405312 := rfl
  cases hn : isN x
  · have hi : rung x ≤ infR := by simpa [isN] using hn
    by_cases hr : rung x = infR
    · rcases word_parts x hx with ⟨h1, h2, h3⟩ | ⟨h1, h2, h3⟩
      · obtain rfl : x = 18442240474082181120 := by omega
        exact qtext_minf w
      · obtain rfl : x = 9218868437227405312 := by omega
        exact qtext_inf w
    · cases hs : isNeg x
      · by_cases h0 : rung x = 0
        · exact qtext_p0 x hx (by omega) hs h0 w
        · by_cases hb : rung x < 4503599627370496
          · exact qtext_ps x hx (by omega) hs h0 hb w
          · exact qtext_pb x hx (by omega) hs (by omega) w
      · by_cases h0 : rung x = 0
        · exact qtext_n0 x hx (by omega) hs h0 w
        · by_cases hb : rung x < 4503599627370496
          · exact qtext_ns x hx (by omega) hs h0 hb w
          · exact qtext_nb x hx (by omega) hs (by omega) w
  · exact qtext_nan x w hn
end Go.Proofs.YtahofbnebmoopaaDoor
