/-
  The book of lists: a vector is kept.
-/
import Derived.Test.YthacdegaeokgnaaDoorMXBook9
import Derived.Test.YthacdegaeokgnaaDoorM1
namespace Go.Proofs.YthacdegaeokgnaaDoor
open Go.RowKit

end Go.Proofs.YthacdegaeokgnaaDoor
