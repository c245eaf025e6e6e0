/-
  The book of lists: of a kind of which nothing was kept. (Written by wip/gen/gen_booknil.py.)
-/
import Derived.Test.YthacdegaeokgnaaDoorRows
import Derived.Test.YthacdegaeokgnaaDoorM1
import Derived.WalkKit
import Derived.WalkSpells
import Derived.WalkLawsBesides
namespace Go.Proofs.YthacdegaeokgnaaDoor
open Go.RowKit

def nilS : Value := .slice none 0 0


end Go.Proofs.YthacdegaeokgnaaDoor
