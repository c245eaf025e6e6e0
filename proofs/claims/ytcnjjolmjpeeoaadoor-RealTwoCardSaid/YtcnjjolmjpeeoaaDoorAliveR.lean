/-
  The walk over chapter 2's laws' first call (alive), and Copysign.
-/
import Derived.Test.YtcnjjolmjpeeoaaDoorReal3
import Derived.Test.YtcnjjolmjpeeoaaDoorReal8
namespace Go.Proofs.YtcnjjolmjpeeoaaDoor
open Go.RowKit

/-- x with the sign of y. -/
def copysignN (x y : Nat) : Nat := if isNeg y then rung x + 9223372036854775808 else rung x

set_option maxRecDepth 100000 in
set_option maxHeartbeats 1000000 in
theorem copysign_any (x y : Nat) (hx : x < 18446744073709551616) (hy : y < 18446744073709551616) (w : World) :
    Calls Tryd.prog 30 #[.float .f64 x, .float .f64 y] w fun e w' => e = .returned (.float .f64 (copysignN x y)) ∧ w = w' := by
  have hfx := run_float64bits x
  have hfy := run_float64bits y
  have hfb := run_float64frombits
  have h1 := andNot_rung x hx
  have h2 := and_sign_eq y hy
  have hr := rung_lt x
  have h3 : bits .or .u64 (bits .andNot .u64 (x : Int) 9223372036854775808) (bits .and .u64 (y : Int) 9223372036854775808) = (copysignN x y : Int) := by
    rw [h1, h2]
    unfold copysignN
    cases isNeg y
    · simp only [Bool.false_eq_true, if_false]
      rw [u64_or_nat _ _ (by omega) (by decide), Nat.or_zero]
    · simp only [if_true]
      rw [u64_or_nat _ _ (by omega) (by decide), or_sign _ hr]
  have h4 : (bits .or .u64 (bits .andNot .u64 (x : Int) 9223372036854775808) (bits .and .u64 (y : Int) 9223372036854775808)).toNat = copysignN x y := by rw [h3]; rfl
  have H4 := Lib.hid h4
  clear h1 h2 h3 h4 hr
  go_enter Tryd.func30, Tryd.ntmps30
  go_wp2_with fail
  go_ret
  exact ⟨ret_float H4.out, rfl⟩

theorem al_parse : parseN [49, 50, 112, 45, 51] = (4609434218613702656, 0) := by decide +kernel
theorem al_text1 : textN 4609434218613702656 = [51, 112, 45, 49] := by decide +kernel
theorem al_text2 : textN 13844065254536904704 = [45, 56] := by decide +kernel
theorem al_scale : scaleN (capN 10) 4609659398595071181 = 15 := by decide +kernel
theorem al_put : be (rankN 4607182418800017408) 8 = [191, 240, 0, 0, 0, 0, 0, 0] := by decide +kernel
theorem al_copy : copysignN 0 13830554455654793216 = 9223372036854775808 := by decide +kernel
theorem al_cmp : cmpN 9223372036854775808 0 = -1 := by decide +kernel
theorem al_eq : (FloatKind.f64.format.order 4609434218613702656 4609434218613702656 == some .eq) = true := by decide +kernel

set_option maxRecDepth 100000 in
set_option maxHeartbeats 2000000 in
theorem aliveR_any (w : World) (hL : LaidR w) :
    Calls Tryd.prog 8 #[] w fun e w' => e = .returned (.bool true) ∧ Below w.heap.size w w' := by
  have C1 := parse_any ⟨#[49, 50, 112, 45, 51]⟩ w hL (by decide)
  rw [show (⟨#[49, 50, 112, 45, 51]⟩ : ByteArray).data.toList = [49, 50, 112, 45, 51] from rfl, al_parse] at C1
  have C2 := fun W hb => text_any 4609434218613702656 (by decide) W (hL.on hb)
  have C3 := fun W hb => text_any 13844065254536904704 (by decide) W (hL.on hb)
  rw [al_text1] at C2
  rw [al_text2] at C3
  have C4 := fun W => copysign_any 0 13830554455654793216 (by decide) (by decide) W
  rw [al_copy] at C4
  have C5 := fun W => fcompare_any 9223372036854775808 0 (by decide) (by decide) W
  rw [al_cmp] at C5
  have C6 := fun W => fscale_any 10 4609659398595071181 W
  rw [al_scale] at C6
  have C7 := fun W => fput_any 4607182418800017408 (by decide) W
  rw [al_put] at C7
  have C1 := Lib.hid C1
  have C2 := fun W hb => Lib.hid (C2 W hb)
  have C3 := fun W hb => Lib.hid (C3 W hb)
  have C4 := fun W => Lib.hid (C4 W)
  have C5 := fun W => Lib.hid (C5 W)
  have C6 := fun W => Lib.hid (C6 W)
  have C7 := fun W => Lib.hid (C7 W)
  have hq := al_eq
  go_enter Tryd.func8, Tryd.ntmps8
  go_wp2_with fail
  refine C1.out.mono ?_
  rintro e w1 ⟨rfl, hb1⟩
  go_wp2_with fail
  refine (C2 _ hb1).out.mono ?_
  rintro e w2 ⟨rfl, hb2⟩
  have hb2 := hb1.trans (hb2.mono hb1.size)
  go_wp2_with fail
  refine (C3 _ hb2).out.mono ?_
  rintro e w3 ⟨rfl, hb3⟩
  have hb3 := hb2.trans (hb3.mono hb2.size)
  go_wp2_with fail
  refine (C4 _).out.mono ?_
  rintro e w4 ⟨rfl, rfl⟩
  go_wp2_with fail
  refine (C5 _).out.mono ?_
  rintro e w5 ⟨rfl, rfl⟩
  go_wp2_with fail
  refine (C6 _).out.mono ?_
  rintro e w6 ⟨rfl, rfl⟩
  go_wp2_with fail
  refine (C7 _).out.mono ?_
  rintro e w7 ⟨rfl, hb7⟩
  have hb7 := hb3.trans (hb7.mono hb3.size)
  go_wp2_with fail
  go_ret
  exact ⟨rfl, hb7⟩
end Go.Proofs.YtcnjjolmjpeeoaaDoor
