/-
  Walks over package real, part 1: nan, sign, rank, the order.
-/
import Derived.Test.YtalacionlbmcpaaRows
import Derived.Test.YtalacionlbmcpaaF64o
import Derived.WalkKit
import Derived.WalkSpells
import Derived.WalkLawsBesides
import Derived.Laws.Externs
import Derived.Lib.Hide
namespace Go.Proofs.Ytalacionlbmcpaa
open Go.RowKit

theorem run_float64bits (x : Nat) (w : World) : (callFunc 36 #[.float .f64 x]).run Try.prog w = .ok (.value (.int .u64 (x : Int))) w := by
  rw [run_callFunc_extern (e := Extern.MathFloatBits.float64bits) Try.func36 (by kernel_rfl) (by kernel_rfl) (by kernel_rfl) (by kernel_rfl)]
  rfl
theorem run_neg_float (x : Nat) (w : World) : (Op.unary .neg (.float .f64 x)).run Try.prog w = .ok (.float .f64 (Op.negFloat .f64 x)) w := rfl

set_option maxHeartbeats 400000 in
theorem isnan_any (x : Nat) (w : World) : Calls Try.prog 24 #[.float .f64 x] w fun e w' => e = .returned (.bool (isN x)) ∧ w = w' := by
  rw [← neq_self x]
  go_enter Try.func24, Try.ntmps24
  go_wp2_with fail
  go_ret
  exact ⟨rfl, rfl⟩

theorem xor_max_int (x : Nat) (hx : x < 18446744073709551616) : bits .xor .u64 18446744073709551615 (x : Int) = ((18446744073709551615 - x : Nat) : Int) := u64_not_nat x hx

def sgnC (s t : Bool) : Int := if s == t then 0 else if s then -1 else 1

def maxN (x y : Nat) : Nat := if cmpN x y < 0 then y else x
def minN (x y : Nat) : Nat := if cmpN x y > 0 then y else x

end Go.Proofs.Ytalacionlbmcpaa
