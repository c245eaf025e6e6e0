/-
  Walks over package raw, part 1: the reader's steps.
-/
import Derived.Test.YthjphiniljopgaaDoorRows
import Derived.WalkKit
import Derived.WalkSpells
import Derived.WalkLawsBesides
import Derived.Deep.QuietTactic
import Derived.BigQuiet
import Derived.Lib.Hide
namespace Go.Proofs.YthjphiniljopgaaDoor
open Go.RowKit

end Go.Proofs.YthjphiniljopgaaDoor
