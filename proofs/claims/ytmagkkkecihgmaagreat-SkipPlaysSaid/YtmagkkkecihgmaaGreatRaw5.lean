/-
  Walks over package raw, part 5: Put and Get.
-/
import Derived.Test.YtmagkkkecihgmaaGreatRows
import Derived.Test.YtmagkkkecihgmaaGreatLib
import Derived.Test.YtmagkkkecihgmaaGreatRaw4
namespace Go.Proofs.YtmagkkkecihgmaaGreat
open Go.RowKit

/-- A number as n bytes, the highest first. -/
def be (v n : Nat) : List UInt8 := (List.range n).map fun i => UInt8.ofNat (v / 2 ^ (8 * (n - 1 - i)) % 256)

theorem be_length (v n : Nat) : (be v n).length = n := by simp [be]
theorem be_get (v n k : Nat) (h : k < n) : (be v n)[k]? = some (UInt8.ofNat (v / 2 ^ (8 * (n - 1 - k)) % 256)) := by unfold be; rw [List.getElem?_map, List.getElem?_range h]; rfl
theorem be_step (v n k : Nat) (h : k < n) : (((be v n).take k ++ List.replicate (n - k) (0 : UInt8)).map b8).set k (.int .u8 ((v : Int) / 2 ^ (8 * (n - 1 - k)) % 256)) =
    ((be v n).take (k + 1) ++ List.replicate (n - (k + 1)) (0 : UInt8)).map b8 := by
  obtain ⟨c, hc⟩ : ∃ c, c = UInt8.ofNat (v / 2 ^ (8 * (n - 1 - k)) % 256) := ⟨_, rfl⟩
  have hb : Value.int .u8 ((v : Int) / 2 ^ (8 * (n - 1 - k)) % 256) = b8 c := by
    have e : (v : Int) / 2 ^ (8 * (n - 1 - k)) % 256 = ((v / 2 ^ (8 * (n - 1 - k)) % 256 : Nat) : Int) := by rw [Int.natCast_emod, Int.natCast_ediv, Int.natCast_pow]; rfl
    rw [e, u8_of _ (by omega), ← hc]
    rfl
  have hg := be_get v n k h
  rw [← hc] at hg
  have hl := be_length v n
  have hlt : (List.take k (be v n)).length = k := by simp; omega
  rw [hb, ← List.map_set, List.set_append_right _ _ (by omega), hlt, Nat.sub_self, show n - k = (n - (k + 1)) + 1 from by omega, List.replicate_succ, List.set_cons_zero]
  rw [List.take_add_one, hg]
  simp

end Go.Proofs.YtmagkkkecihgmaaGreat
