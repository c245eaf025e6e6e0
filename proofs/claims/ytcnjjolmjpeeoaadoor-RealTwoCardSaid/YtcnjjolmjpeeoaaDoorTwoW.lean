/-
  RealTwo: what its text is read as; Frexp and Ldexp behind their wrappers.
-/
import Derived.Test.YtcnjjolmjpeeoaaDoorTwoP
namespace Go.Proofs.YtcnjjolmjpeeoaaDoor
open Go.RowKit

/-- Digits, 'p', a power, with a sign. -/
def twoT (neg : Bool) (m : Nat) (e : Int) : List UInt8 := if neg then 45 :: (Lib.itoa (m : Int) ++ 112 :: Lib.itoa e) else Lib.itoa (m : Int) ++ 112 :: Lib.itoa e

theorem prod_two (m : Nat) (e : Int) (hm : m < 9007199254740992) (h0 : -2000 ≤ e) (h1 : e ≤ 2000) : prodL (Lib.itoa (m : Int) ++ 112 :: Lib.itoa e) = some (m, e) := by
  have hd : ∀ c ∈ Lib.itoa (m : Int), Dig c := by
    intro c hc
    rw [itoa_nat] at hc
    exact dec_digit m c hc
  have hl := itoa_le5 e (by omega) (by omega)
  rw [prodL_p _ _ hd, if_neg (by omega), numL_itoa, if_pos (by omega), numL_itoa, if_pos (by omega)]
  simp

theorem parse_two (neg : Bool) (m : Nat) (e : Int) (hm : m < 9007199254740992) (h0 : -2000 ≤ e) (h1 : e ≤ 2000) : parseN (twoT neg m e) = madeN neg (some (m, e)) := by
  unfold twoT
  have hP := prod_two m e hm h0 h1
  obtain ⟨c, r, hc, g1, g2⟩ := dec_cons m
  have hu : Lib.itoa (m : Int) ++ 112 :: Lib.itoa e = c :: (r ++ 112 :: Lib.itoa e) := by rw [itoa_nat, hc]; rfl
  generalize Lib.itoa (m : Int) ++ 112 :: Lib.itoa e = l at *
  have hc1 : c ≠ 110 := by rintro rfl; revert g2; decide
  have hc2 : c ≠ 105 := by rintro rfl; revert g2; decide
  have hc3 : c ≠ 45 := by rintro rfl; revert g1; decide
  cases neg with
  | true =>
    have ht : Lib.trimPrefix (45 :: l) [45] = l := by
      unfold Lib.trimPrefix
      rw [if_pos (by simp [Lib.hasPrefix])]
      rfl
    have hh : Lib.hasPrefix (45 :: l) [45] = true := by simp [Lib.hasPrefix]
    show parseN (45 :: l) = _
    unfold parseN
    rw [ht, hh, hP, if_neg (by rw [hu]; simp), if_neg (by rw [hu]; simp), if_neg (by rw [hu]; simp [hc2])]
    rfl
  | false =>
    have hh : Lib.hasPrefix l [45] = false := by rw [hu]; exact pre_digit c _ g1
    have ht : Lib.trimPrefix l [45] = l := by
      unfold Lib.trimPrefix
      rw [if_neg (by rw [hh]; decide)]
    show parseN l = _
    unfold parseN
    rw [ht, hh, hP, if_neg (by rw [hu]; simp [hc1]), if_neg (by rw [hu]; simp [hc2]), if_neg (by rw [hu]; simp [hc3])]
    rfl

theorem twoT_len (neg : Bool) (m : Nat) (e : Int) (hm : m < 9007199254740992) (h0 : -2000 ≤ e) (h1 : e ≤ 2000) : (twoT neg m e).length ≤ 47 := by
  have a := itoa_len (m : Int) (by omega) (by omega)
  have b := itoa_le5 e (by omega) (by omega)
  unfold twoT
  split
  · rw [List.length_cons, List.length_append, List.length_cons]; omega
  · rw [List.length_append, List.length_cons]; omega

/-! ### The wrappers -/
theorem ldexpW_of (x : Nat) (e : Int) (z : Nat) (w : World) (C : Calls Tryd.prog 42 #[.float .f64 x, .int .i64 e] w fun r w' => r = .returned (.float .f64 z) ∧ w = w') :
    Calls Tryd.prog 11 #[.float .f64 x, .int .i64 e] w fun r w' => r = .returned (.float .f64 z) ∧ w = w' := by
  have C := Lib.hid C
  go_enter Tryd.func11, Tryd.ntmps11
  go_wp2_with fail
  refine C.out.mono ?_
  rintro e w' ⟨rfl, rfl⟩
  go_wp2_with fail
  go_ret
  exact ⟨rfl, rfl⟩
theorem frexpW_of (x : Nat) (y : Nat) (k : Int) (w : World) (C : Calls Tryd.prog 44 #[.float .f64 x] w fun r w' => r = .returned (.tuple #[.float .f64 y, .int .i64 k]) ∧ w = w') :
    Calls Tryd.prog 12 #[.float .f64 x] w fun r w' => r = .returned (.tuple #[.float .f64 y, .int .i64 k]) ∧ w = w' := by
  have C := Lib.hid C
  go_enter Tryd.func12, Tryd.ntmps12
  go_wp2_with fail
  refine C.out.mono ?_
  rintro e w' ⟨rfl, rfl⟩
  go_wp2_with fail
  go_ret2
  exact ⟨rfl, rfl⟩

set_option maxRecDepth 100000 in
set_option maxHeartbeats 1000000 in
theorem ldexp_inf (e : Int) (w : World) : Calls Tryd.prog 42 #[.float .f64 9218868437227405312, .int .i64 e] w fun r w' => r = .returned (.float .f64 9218868437227405312) ∧ w = w' := by
  have T1 : (FloatKind.f64.format.order 9218868437227405312 0 == some .eq) = false := by decide +kernel
  have I := isinf_any 9218868437227405312 (by decide) w
  rw [show decide (rung 9218868437227405312 = infR) = true from by decide] at I
  have I := Lib.hid I
  go_enter Tryd.func42, Tryd.ntmps42
  go_wp2_with fail
  refine I.out.mono ?_
  rintro e w' ⟨rfl, rfl⟩
  go_wp2_with fail
  go_ret
  exact ⟨rfl, rfl⟩

/-- How many binary digits. -/
theorem bitLen_half (m : Nat) (h0 : m ≠ 0) (hm : m < 9007199254740992) : Lib.bitLen m = Lib.bitLen (m / 2) + 1 := by
  obtain ⟨l1, l2, l3, l4⟩ := bitLen_facts m h0 hm
  by_cases h1 : m = 1
  · subst h1; decide
  · obtain ⟨q1, q2, q3, q4⟩ := bitLen_facts (m / 2) (by omega) (by omega)
    refine bitLen_eq m _ h0 hm ?_ ?_
    · rw [show Lib.bitLen (m / 2) + 1 - 1 = (Lib.bitLen (m / 2) - 1) + 1 from by omega, Nat.pow_succ]; omega
    · rw [Nat.pow_succ]; omega

set_option maxRecDepth 100000 in
theorem bits_any (m : Nat) (w : World) (hm : m < 9007199254740992) :
    Calls Tryd.prog 14 #[.int .i64 (m : Int)] w fun r w' => r = .returned (.int .i64 (Lib.bitLen m : Int)) ∧ w = w' := by
  go_enter Tryd.func14, Tryd.ntmps14
  go_wp2_with fail
  go_loop [0, 3] (fun x n => ∃ (u k : Nat), x = .int .i64 (u : Int) ∧ n = .int .i64 (k : Int) ∧ u ≤ m ∧ k ≤ 60 ∧ Hid (k + Lib.bitLen u = Lib.bitLen m)) (fun x _ => (intOf x).toNat)
  case atStart => exact ⟨m, 0, rfl, rfl, Nat.le_refl _, by omega, Nat.zero_add _⟩
  case round =>
    obtain ⟨u, k, rfl, rfl, hu, hk, Hk⟩ := hrel
    by_cases h : u = 0
    · subst h
      have hkk : (k : Int) = (Lib.bitLen m : Int) := by
        have := Hk.out
        rw [show Lib.bitLen 0 = 0 from by decide] at this
        omega
      have HK := Lib.hid hkk
      clear hkk
      go_wp2_with fail
      go_ret
      exact ⟨by rw [← HK.out]; rfl, rfl⟩
    · have hh := bitLen_half u h (by omega)
      have h53 : Lib.bitLen m ≤ 53 := by
        by_cases h0 : m = 0
        · subst h0; decide
        · exact (bitLen_facts m h0 hm).2.1
      have hk2 : k + 1 ≤ 53 := by have := Hk.out; omega
      have Hh := Lib.hid hh
      have hpos : 0 < u := by omega
      clear hh
      go_wp2_with fail
      go_round
      case rel => exact ⟨u / 2, k + 1, by go_num, by go_num, by omega, by omega, by have := Hk.out; have := Hh.out; show _ = _; omega⟩
      case measure => simp [intOf]; omega
end Go.Proofs.YtcnjjolmjpeeoaaDoor
