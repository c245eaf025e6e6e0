/-
  Walks over package raw, part 4: PutVar.
-/
import Derived.Test.YtmagkkkecihgmaaGreatRows
import Derived.Test.YtmagkkkecihgmaaGreatLib
namespace Go.Proofs.YtmagkkkecihgmaaGreat
open Go.RowKit

theorem u8info : (Tryz.prog.info? 5).map (fun i => (i.zero, i.size, i.bytes)) = some (some (.int .u8 0), 1, 1) := by kernel_rfl

/-- A number in groups of seven bits. -/
def pv (v : Nat) : List UInt8 := if v < 128 then [UInt8.ofNat v] else UInt8.ofNat (v % 128 + 128) :: pv (v / 128)
  termination_by v
  decreasing_by omega

theorem or_128 : ∀ c : Nat, c < 256 → bits .or .u8 (c : Int) 128 = ((c % 128 + 128 : Nat) : Int) := by decide +kernel

theorem u8_of (n : Nat) (h : n < 256) : (n : Int) = ((UInt8.ofNat n).toNat : Int) := by simp; omega

theorem pv_more (v : Nat) (h : 128 ≤ v) : pv v = UInt8.ofNat (v % 128 + 128) :: pv (v / 128) := by rw [pv, if_neg (by omega)]
theorem pv_last (v : Nat) (h : v < 128) : pv v = [UInt8.ofNat v] := by rw [pv, if_pos h]

end Go.Proofs.YtmagkkkecihgmaaGreat
