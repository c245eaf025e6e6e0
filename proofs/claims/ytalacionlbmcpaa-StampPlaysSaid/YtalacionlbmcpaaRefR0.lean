/-
  A walk over the document's own answer to chapter 2: isNan.
-/
import Derived.Test.YtalacionlbmcpaaReal1
namespace Go.Proofs.Ytalacionlbmcpaa
open Go.RowKit

set_option maxHeartbeats 400000 in
theorem qisnan_any (x : Nat) (w : World) : Calls Try.prog 25 #[.float .f64 x] w fun e w' => e = .returned (.bool (isN x)) ∧ w = w' := by
  rw [← neq_self x]
  go_enter Try.func25, Try.ntmps25
  go_wp2_with fail
  go_ret
  exact ⟨rfl, rfl⟩

end Go.Proofs.Ytalacionlbmcpaa
