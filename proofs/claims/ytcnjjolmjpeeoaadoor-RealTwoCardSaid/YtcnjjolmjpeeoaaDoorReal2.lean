/-
  Walks over package real, part 2: Put, Get.
-/
import Derived.Test.YtcnjjolmjpeeoaaDoorReal1
import Derived.Test.YtcnjjolmjpeeoaaDoorRaw7
import Derived.Test.YtcnjjolmjpeeoaaDoorRaw12
namespace Go.Proofs.YtcnjjolmjpeeoaaDoor
open Go.RowKit

theorem be_step7 (v k : Nat) (h : k < 8) : (((be v 8).take k ++ List.replicate (8 - k) (0 : UInt8)).map b8).set k (.int .u8 ((v : Int) / 2 ^ (8 * (7 - k)) % 256)) =
    ((be v 8).take (k + 1) ++ List.replicate (8 - (k + 1)) (0 : UInt8)).map b8 := be_step v 8 k h

set_option maxRecDepth 100000 in
set_option maxHeartbeats 1000000 in
theorem fput_any (x : Nat) (hx : x < 18446744073709551616) (w : World) :
    Calls Tryd.prog 32 #[.float .f64 x] w fun e w' => e = .returned (.string ⟨(be (rankN x) 8).toArray⟩) ∧ Below w.heap.size w w' := by
  have C := Lib.hid (rank_any x hx w)
  have hv := rankN_lt x hx
  generalize rankN x = v at *
  obtain ⟨i0, hi0, hz0, hz1, hz2⟩ := info_parts u8info
  go_enter Tryd.func32, Tryd.ntmps32
  go_wp2_with fail
  refine C.out.mono ?_
  rintro e w' ⟨rfl, rfl⟩
  go_wp2_with (at_make; refine wpList_make_full _ rfl (.const (.int .i64 8)) (.const (.int .i64 8)) 68 rfl w.heap.size 5 i0 (.int .u8 0) 1 Tryd.underlying68 hi0 hz0 hz1 .i64 .i64 _ _ 8 rfl rfl rfl rfl ?b2 ?b3 ?b4 ?_)
  case b2 => rw [hz2]; omega
  case b3 => unfold maxLen; omega
  case b4 => exact Nat.le_refl _
  intro w1 hown hgr
  have hb1 : Below w.heap.size w w1 := (Below.refl _ _).grown hgr (Nat.le_refl _) (by simp)
  have hlt := (World.ownsRow.lt hown w.heap.size rfl).2
  rw [show (madeCells #[Value.int IntKind.u8 0] 8).toList = (List.replicate 8 (0 : UInt8)).map b8 from (toList_madeCells_one _ _).trans (by simp [b8])] at hown
  have Hown := Lib.hid hown
  clear hown hgr
  go_wp2
  go_loopw [11] (fun i wr => ∃ k : Nat, k ≤ 8 ∧ i = .int .i64 (k : Int) ∧ wr.ownsRow w.heap.size 5 1 (.slice (some ⟨w.heap.size, 0, none⟩) 8 8) 8 (((be v 8).take k ++ List.replicate (8 - k) 0).map b8) ∧ Below w.heap.size w wr)
    (fun i _ => 8 - (intOf i).toNat)
  case atStart => exact ⟨0, by omega, rfl, by simpa using Hown.out, hb1⟩
  case round =>
    obtain ⟨k, hk, rfl, hown, hbe⟩ := hrel
    by_cases hlt' : k < 8
    · have hc := hown.cellAt k (by omega)
      have hf := hown.frozenAt k
      have hln : ((be v 8).take k ++ List.replicate (8 - k) (0 : UInt8)).length = 8 := by simp [be]; omega
      obtain ⟨x, hx⟩ : ∃ x, (((be v 8).take k ++ List.replicate (8 - k) (0 : UInt8)).map b8)[k]? = some x := ⟨_, List.getElem?_eq_getElem (by rw [List.length_map, hln]; omega)⟩
      rw [hx] at hc
      have Hown' := Lib.hid hown
      clear hown hx hln
      go_wp2
      go_roundw
      case rel =>
        have hst := World.ownsRow.stored Hown'.out k (.int .u8 ((v : Int) / 2 ^ (8 * (7 - k)) % 256))
        rw [be_step7 v k hlt'] at hst
        exact ⟨k + 1, by omega, by go_num, hst.1, below_setCell hbe (Nat.le_refl _) _⟩
      case measure => simp [intOf]; omega
    · obtain rfl : k = 8 := by omega
      have hby : Byt wr w.heap.size 5 (.slice (some ⟨w.heap.size, 0, none⟩) 8 8) (be v 8) := by
        unfold Byt
        rw [be_length]
        simpa [List.take_of_length_le (Nat.le_of_eq (be_length v 8))] using hown
      have hcv := hby.string (src := 68) (dst := 9) Tryd.underlying68 Tryd.underlying5 Tryd.underlying9
      clear hown hby
      go_wp2
      go_ret
      exact ⟨rfl, hbe⟩

theorem run_float64frombits (z : Int) (w : World) : (callFunc 45 #[.int .u64 z]).run Tryd.prog w = .ok (.value (.float .f64 z.toNat)) w := by
  rw [run_callFunc_extern (e := Extern.MathFloatBits.float64frombits) Tryd.func45 (by kernel_rfl) (by kernel_rfl) (by kernel_rfl) (by kernel_rfl)]
  rfl
theorem ret_float {a b : Nat} (h : a = b) : Ending.returned (.float .f64 a) = .returned (.float .f64 b) := by rw [h]

def getF (r : Nat) : Nat × Int := if rankN (unrankN r) = r then (unrankN r, 0) else (0, 4)

end Go.Proofs.YtcnjjolmjpeeoaaDoor
