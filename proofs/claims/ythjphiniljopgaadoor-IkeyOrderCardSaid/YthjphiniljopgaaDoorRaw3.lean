/-
  Walks over package raw, part 3: GetVar, with its deferred closure.
-/
import Derived.Test.YthjphiniljopgaaDoorRaw2
import Derived.Defers
import Derived.Recover
namespace Go.Proofs.YthjphiniljopgaaDoor
open Go.RowKit

theorem run_assert_errno (n : Int) (w : World) : (Instr.typeAssert (.iface 29 (.int .i64 n)) 20 29 true).run Tryd.prog w = .ok (.tuple #[.int .i64 n, .bool true]) w := by kernel_rfl

set_option maxHeartbeats 400000 in
theorem told_errno (er : Int) (w : World) :
    Calls Tryd.prog 22 #[.iface 29 (.int .i64 er)] w fun e w' => e = .returned (.int .i64 er) ∧ w = w' := by
  have hta := run_assert_errno er
  go_enter Tryd.func22, Tryd.ntmps22
  go_wp2
  go_ret
  exact ⟨rfl, rfl⟩

end Go.Proofs.YthjphiniljopgaaDoor
