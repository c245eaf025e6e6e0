/-
  DERIVED. GIVEN WITH THE SEED: THE CARDS: each row of YtmoffcgbjmeiaaaDoorRows.lean that lists a variable, with what it lists TIED to the program's text (the seventh form; the later family's looks); each row that meets fmt, with fmt's text TOLD by the authors' own Lean function (tested against real Go, not proved from fmt's source: count such statements apart). THE CARD IS WHAT COUNTS. Prove the row's statement (the work); the ties are given (YtmoffcgbjmeiaaaDoorTie.lean); close each card by the builder's one call (the guide's Derived/Test/ToyasCard.lean, 'card_holds'). Laid BY PROGRAM, IN A SANDBOX (cutbox-door.mjs). By AI agents, Wed Nov 11 2026. No macro, syntax, notation, axiom, sorry.
-/
import Derived.Test.YtmoffcgbjmeiaaaDoorRows
import GoSem.ClaimSeven
namespace Go.Proofs.YtmoffcgbjmeiaaaDoor
namespace Rows

/-- THE TIED CARD OF 'bedrocklaw11.BlockBack'. -/
def blockBackCard : Claim7 := { stood := { row := blockBackRow, standIns := [], harness := (true, "eb1014638ae56103c4cac4812671abd6d244cb61dafbf57d74aeb9bb8fb90d4b"), looks := true }, kinds := [], alts := [], laidByText := true, laidKinds := [.data], laidTests := true, laidLooks := .later }
def BlockBackCardSaid : Prop := Claim7.holds Tryd.pinned (.plain (OpenSpec.ofChange blockBackSpec)) blockBackCard

/-- THE TIED CARD OF 'bedrocklaw11.BlockSeeks'. -/
def blockSeeksCard : Claim7 := { stood := { row := blockSeeksRow, standIns := [], harness := (true, "eb1014638ae56103c4cac4812671abd6d244cb61dafbf57d74aeb9bb8fb90d4b"), looks := true }, kinds := [], alts := [], laidByText := true, laidKinds := [.data], laidTests := true, laidLooks := .later }
def BlockSeeksCardSaid : Prop := Claim7.holds Tryd.pinned (.plain (OpenSpec.ofChange blockSeeksSpec)) blockSeeksCard

/-- THE TIED CARD OF 'bedrocklaw11.BlockShort'. -/
def blockShortCard : Claim7 := { stood := { row := blockShortRow, standIns := [], harness := (true, "eb1014638ae56103c4cac4812671abd6d244cb61dafbf57d74aeb9bb8fb90d4b"), looks := true }, kinds := [], alts := [], laidByText := true, laidKinds := [.data], laidTests := true, laidLooks := .later }
def BlockShortCardSaid : Prop := Claim7.holds Tryd.pinned (.plain (OpenSpec.ofChange blockShortSpec)) blockShortCard

/-- THE TIED CARD OF 'bedrocklaw11.BlockCut'. -/
def blockCutCard : Claim7 := { stood := { row := blockCutRow, standIns := [], harness := (true, "eb1014638ae56103c4cac4812671abd6d244cb61dafbf57d74aeb9bb8fb90d4b"), looks := true }, kinds := [], alts := [], laidByText := true, laidKinds := [.data], laidTests := true, laidLooks := .later }
def BlockCutCardSaid : Prop := Claim7.holds Tryd.pinned (.plain (OpenSpec.ofChange blockCutSpec)) blockCutCard

/-- THE SECOND FORM's CARD OF 'bedrocklaw11.BlockBack'. -/
def blockBackUptoCard : Claim7 := { stood := { row := blockBackUptoRow, standIns := [], harness := (true, "eb1014638ae56103c4cac4812671abd6d244cb61dafbf57d74aeb9bb8fb90d4b"), looks := true }, kinds := [], alts := [], laidByText := true, laidKinds := [.data], laidTests := true, laidLooks := .later }
def BlockBackUptoCardSaid : Prop := Claim7.holds Tryd.pinned (.plain (OpenSpec.upto blockBackSpec)) blockBackUptoCard

/-- THE SECOND FORM's CARD OF 'bedrocklaw11.BlockSeeks'. -/
def blockSeeksUptoCard : Claim7 := { stood := { row := blockSeeksUptoRow, standIns := [], harness := (true, "eb1014638ae56103c4cac4812671abd6d244cb61dafbf57d74aeb9bb8fb90d4b"), looks := true }, kinds := [], alts := [], laidByText := true, laidKinds := [.data], laidTests := true, laidLooks := .later }
def BlockSeeksUptoCardSaid : Prop := Claim7.holds Tryd.pinned (.plain (OpenSpec.upto blockSeeksSpec)) blockSeeksUptoCard

/-- THE SECOND FORM's CARD OF 'bedrocklaw11.BlockShort'. -/
def blockShortUptoCard : Claim7 := { stood := { row := blockShortUptoRow, standIns := [], harness := (true, "eb1014638ae56103c4cac4812671abd6d244cb61dafbf57d74aeb9bb8fb90d4b"), looks := true }, kinds := [], alts := [], laidByText := true, laidKinds := [.data], laidTests := true, laidLooks := .later }
def BlockShortUptoCardSaid : Prop := Claim7.holds Tryd.pinned (.plain (OpenSpec.upto blockShortSpec)) blockShortUptoCard

/-- THE SECOND FORM's CARD OF 'bedrocklaw11.BlockCut'. -/
def blockCutUptoCard : Claim7 := { stood := { row := blockCutUptoRow, standIns := [], harness := (true, "eb1014638ae56103c4cac4812671abd6d244cb61dafbf57d74aeb9bb8fb90d4b"), looks := true }, kinds := [], alts := [], laidByText := true, laidKinds := [.data], laidTests := true, laidLooks := .later }
def BlockCutUptoCardSaid : Prop := Claim7.holds Tryd.pinned (.plain (OpenSpec.upto blockCutSpec)) blockCutUptoCard
end Rows
end Go.Proofs.YtmoffcgbjmeiaaaDoor
