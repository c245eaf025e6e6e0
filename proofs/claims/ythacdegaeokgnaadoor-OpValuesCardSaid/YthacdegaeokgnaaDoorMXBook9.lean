/-
  The book of lists, where vectors alone were kept: each is as it was, and none shares memory with another. (Written by wip/gen/gen_apart.py.)
-/
import Derived.Test.YthacdegaeokgnaaDoorMXBookNil
import Derived.Test.YthacdegaeokgnaaDoorMXBook8
namespace Go.Proofs.YthacdegaeokgnaaDoor
open Go.RowKit

end Go.Proofs.YthacdegaeokgnaaDoor
