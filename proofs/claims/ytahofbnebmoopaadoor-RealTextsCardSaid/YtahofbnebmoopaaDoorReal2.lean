/-
  Walks over package real, part 2: Put, Get.
-/
import Derived.Test.YtahofbnebmoopaaDoorReal1
import Derived.Test.YtahofbnebmoopaaDoorRaw7
import Derived.Test.YtahofbnebmoopaaDoorRaw12
namespace Go.Proofs.YtahofbnebmoopaaDoor
open Go.RowKit

theorem be_step7 (v k : Nat) (h : k < 8) : (((be v 8).take k ++ List.replicate (8 - k) (0 : UInt8)).map b8).set k (.int .u8 ((v : Int) / 2 ^ (8 * (7 - k)) % 256)) =
    ((be v 8).take (k + 1) ++ List.replicate (8 - (k + 1)) (0 : UInt8)).map b8 := be_step v 8 k h

set_option maxRecDepth 100000 in
set_option maxHeartbeats 1000000 in
theorem fput_any (x : Nat) (hx : x < 18446744073709551616) (w : World) :
    Calls Tryd.prog 13 #[.float .f64 x] w fun e w' => e = .returned (.string ⟨(be (rankN x) 8).toArray⟩) ∧ Below w.heap.size w w' := by
  have C := Lib.hid (rank_any x hx w)
  have hv := rankN_lt x hx
  generalize rankN x = v at *
  obtain ⟨i0, hi0, hz0, hz1, hz2⟩ := info_parts u8info
  go_enter Tryd.func13, Tryd.ntmps13
  go_wp2_with fail
  refine C.out.mono ?_
  rintro e w' ⟨rfl, rfl⟩
  go_wp2_with (at_make; refine wpList_make_full _ rfl (.const (.int .i64 8)) (.const (.int .i64 8)) 52 rfl w.heap.size 5 i0 (.int .u8 0) 1 Tryd.underlying52 hi0 hz0 hz1 .i64 .i64 _ _ 8 rfl rfl rfl rfl ?b2 ?b3 ?b4 ?_)
  case b2 => rw [hz2]; omega
  case b3 => unfold maxLen; omega
  case b4 => exact Nat.le_refl _
  intro w1 hown hgr
  have hb1 : Below w.heap.size w w1 := (Below.refl _ _).grown hgr (Nat.le_refl _) (by simp)
  have hlt := (World.ownsRow.lt hown w.heap.size rfl).2
  rw [show (madeCells #[Value.int IntKind.u8 0] 8).toList = (List.replicate 8 (0 : UInt8)).map b8 from (toList_madeCells_one _ _).trans (by simp [b8])] at hown
  have Hown := Lib.hid hown
  clear hown hgr
  go_wp2
  go_loopw [11] (fun i wr => ∃ k : Nat, k ≤ 8 ∧ i = .int .i64 (k : Int) ∧ wr.ownsRow w.heap.size 5 1 (.slice (some ⟨w.heap.size, 0, none⟩) 8 8) 8 (((be v 8).take k ++ List.replicate (8 - k) 0).map b8) ∧ Below w.heap.size w wr)
    (fun i _ => 8 - (intOf i).toNat)
  case atStart => exact ⟨0, by omega, rfl, by simpa using Hown.out, hb1⟩
  case round =>
    obtain ⟨k, hk, rfl, hown, hbe⟩ := hrel
    by_cases hlt' : k < 8
    · have hc := hown.cellAt k (by omega)
      have hf := hown.frozenAt k
      have hln : ((be v 8).take k ++ List.replicate (8 - k) (0 : UInt8)).length = 8 := by simp [be]; omega
      obtain ⟨x, hx⟩ : ∃ x, (((be v 8).take k ++ List.replicate (8 - k) (0 : UInt8)).map b8)[k]? = some x := ⟨_, List.getElem?_eq_getElem (by rw [List.length_map, hln]; omega)⟩
      rw [hx] at hc
      have Hown' := Lib.hid hown
      clear hown hx hln
      go_wp2
      go_roundw
      case rel =>
        have hst := World.ownsRow.stored Hown'.out k (.int .u8 ((v : Int) / 2 ^ (8 * (7 - k)) % 256))
        rw [be_step7 v k hlt'] at hst
        exact ⟨k + 1, by omega, by go_num, hst.1, below_setCell hbe (Nat.le_refl _) _⟩
      case measure => simp [intOf]; omega
    · obtain rfl : k = 8 := by omega
      have hby : Byt wr w.heap.size 5 (.slice (some ⟨w.heap.size, 0, none⟩) 8 8) (be v 8) := by
        unfold Byt
        rw [be_length]
        simpa [List.take_of_length_le (Nat.le_of_eq (be_length v 8))] using hown
      have hcv := hby.string (src := 52) (dst := 9) Tryd.underlying52 Tryd.underlying5 Tryd.underlying9
      clear hown hby
      go_wp2
      go_ret
      exact ⟨rfl, hbe⟩

theorem run_float64frombits (z : Int) (w : World) : (callFunc 57 #[.int .u64 z]).run Tryd.prog w = .ok (.value (.float .f64 z.toNat)) w := by
  rw [run_callFunc_extern (e := Extern.MathFloatBits.float64frombits) Tryd.func57 (by kernel_rfl) (by kernel_rfl) (by kernel_rfl) (by kernel_rfl)]
  rfl
theorem ret_float {a b : Nat} (h : a = b) : Ending.returned (.float .f64 a) = .returned (.float .f64 b) := by rw [h]

set_option maxRecDepth 100000 in
set_option maxHeartbeats 400000 in
theorem unrank_any (x : Nat) (hx : x < 18446744073709551616) (w : World) : Calls Tryd.prog 55 #[.int .u64 (x : Int)] w fun e w' => e = .returned (.float .f64 (unrankN x)) ∧ w = w' := by
  have hs := and_sign_int x hx
  have hfb := run_float64frombits
  obtain ⟨y, hy⟩ : ∃ y, y = unrankN x := ⟨_, rfl⟩
  rw [← hy]
  unfold unrankN at hy
  cases hg : isNeg x
  · rw [hg] at hs hy
    have ho := u64_not_nat x hx
    simp only [Bool.false_eq_true, if_false] at hy
    rw [← hy] at ho
    have Ho := Lib.hid ho
    clear hg hx hy ho
    go_enter Tryd.func55, Tryd.ntmps55
    go_wp2_with fail
    go_ret
    exact ⟨ret_float (by rw [Ho.out]; rfl), rfl⟩
  · rw [hg] at hs hy
    have ho := andNot_sign x hx hg
    simp only [if_true] at hy
    rw [← hy] at ho
    have Ho := Lib.hid ho
    clear hg hx hy ho
    go_enter Tryd.func55, Tryd.ntmps55
    go_wp2_with fail
    go_ret
    exact ⟨ret_float (by rw [Ho.out]; rfl), rfl⟩

set_option maxRecDepth 100000 in
theorem fget_bad (s : ByteArray) (w : World) (h : s.size ≠ 8) (hs : s.size ≤ 9223372036854775807) :
    Calls Tryd.prog 30 #[.string s] w fun e w' => e = .returned (.tuple #[.float .f64 0, .int .i64 4]) ∧ w = w' := by
  have h1 : ((s.size : Int) != 8) = true := by rw [bne_iff_ne]; omega
  go_enter Tryd.func30, Tryd.ntmps30
  go_wp2
  go_ret2
  exact ⟨rfl, rfl⟩

def getF (r : Nat) : Nat × Int := if rankN (unrankN r) = r then (unrankN r, 0) else (0, 4)

set_option maxRecDepth 100000 in
set_option maxHeartbeats 1000000 in
theorem fget_ok (s : ByteArray) (w : World) (h : s.size = 8) :
    Calls Tryd.prog 30 #[.string s] w fun e w' => e = .returned (.tuple #[.float .f64 (getF (getL s.data.toList)).1, .int .i64 (getF (getL s.data.toList)).2]) ∧ w = w' := by
  have h1 : ((s.size : Int) != 8) = false := by rw [bne_eq_false_iff_eq]; omega
  obtain ⟨r, hr⟩ : ∃ r, r = getL s.data.toList := ⟨_, rfl⟩
  rw [← hr]
  have Hr := Lib.hid hr
  clear hr
  go_enter Tryd.func30, Tryd.ntmps30
  go_wp2
  go_loop [4, 12] (fun v i => ∃ k a : Nat, k ≤ s.size ∧ i = .int .i64 (k : Int) ∧ v = .int .u64 (a : Int) ∧ a < 2 ^ (8 * k) ∧ Hid (a = getL (s.data.toList.take k))) (fun _ i => s.size - (intOf i).toNat)
  case atStart => exact ⟨0, 0, by omega, rfl, rfl, by decide, rfl⟩
  case round =>
    obtain ⟨k, a, hk, rfl, rfl, ha, Ha⟩ := hrel
    by_cases hl : k < s.size
    · have hb8 := UInt8.toNat_lt s[k]
      have h56 : (2 : Nat) ^ (8 * k) ≤ 2 ^ 56 := Nat.pow_le_pow_right (by decide) (by omega)
      have ha48 : a < 72057594037927936 := by omega
      have ho : bits .or .u64 ((a : Int) * 256) (s[k].toNat : Int) = ((a * 256 + s[k].toNat : Nat) : Int) := by
        have h1 := u64_or_nat (a * 256) s[k].toNat (by omega) (by omega)
        have h2 : a * 256 ||| s[k].toNat = a * 256 + s[k].toNat := by
          have := Nat.two_pow_add_eq_or_of_lt (i := 8) (b := s[k].toNat) (by omega) a
          rw [show 2 ^ 8 * a = a * 256 from by omega] at this
          exact this.symm
        rw [h2] at h1
        exact h1
      have hlt : a * 256 + s[k].toNat < 2 ^ (8 * (k + 1)) := by
        have : 2 ^ (8 * (k + 1)) = 2 ^ (8 * k) * 256 := by rw [Nat.mul_add, Nat.pow_add]
        omega
      have hsn := getL_snoc s k hl
      rw [← Ha.out] at hsn
      obtain ⟨x, hx⟩ : ∃ x, x = a * 256 + s[k].toNat := ⟨_, rfl⟩
      rw [← hx] at ho hlt hsn
      have Hsn := Lib.hid hsn
      have Hlt := Lib.hid hlt
      clear hsn hlt hx ha h56
      go_wp2
      go_round
      case rel => exact ⟨k + 1, x, by omega, by go_num, rfl, Hlt.out, Hsn.out.symm⟩
      case measure => simp [intOf]; omega
    · obtain rfl : k = s.size := by omega
      have hae : a = r := by
        have := Ha.out
        rwa [List.take_of_length_le (by simp), ← Hr.out] at this
      have ha64 : a < 18446744073709551616 := by rw [h] at ha; exact ha
      subst hae
      have U := Lib.hid (unrank_any a ha64 w)
      have R := Lib.hid (rank_any (unrankN a) (unrankN_lt a ha64) w)
      clear ha Ha Hr
      by_cases hr : rankN (unrankN a) = a
      · have hq : ((rankN (unrankN a) : Int) != (a : Int)) = false := by rw [hr]; exact bne_self_eq_false _
        have HG : Hid (getF a = (unrankN a, 0)) := Lib.hid (if_pos hr)
        clear hr
        go_wp2_with fail
        refine U.out.mono ?_
        rintro e w' ⟨rfl, rfl⟩
        go_wp2_with fail
        refine R.out.mono ?_
        rintro e w' ⟨rfl, rfl⟩
        go_wp2_with fail
        go_ret2
        exact ⟨by rw [HG.out]; rfl, rfl⟩
      · have hq : ((rankN (unrankN a) : Int) != (a : Int)) = true := by rw [bne_iff_ne]; omega
        have HG : Hid (getF a = (0, 4)) := Lib.hid (if_neg hr)
        clear hr
        go_wp2_with fail
        refine U.out.mono ?_
        rintro e w' ⟨rfl, rfl⟩
        go_wp2_with fail
        refine R.out.mono ?_
        rintro e w' ⟨rfl, rfl⟩
        go_wp2_with fail
        go_ret2
        exact ⟨by rw [HG.out]; rfl, rfl⟩
end Go.Proofs.YtahofbnebmoopaaDoor
