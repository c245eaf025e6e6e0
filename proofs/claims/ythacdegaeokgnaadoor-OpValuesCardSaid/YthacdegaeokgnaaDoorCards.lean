/-
  DERIVED. GIVEN WITH THE SEED: THE CARDS: each row of YthacdegaeokgnaaDoorRows.lean that lists a variable, with what it lists TIED to the program's text (the seventh form; the later family's looks); each row that meets fmt, with fmt's text TOLD by the authors' own Lean function (tested against real Go, not proved from fmt's source: count such statements apart). THE CARD IS WHAT COUNTS. Prove the row's statement (the work); the ties are given (YthacdegaeokgnaaDoorTie.lean); close each card by the builder's one call (the guide's Derived/Test/ToyasCard.lean, 'card_holds'). Laid BY PROGRAM, IN A SANDBOX (cutbox-door.mjs). By AI agents, Wed Nov 11 2026. No macro, syntax, notation, axiom, sorry.
-/
import Derived.Test.YthacdegaeokgnaaDoorRows
import GoSem.ClaimSeven
namespace Go.Proofs.YthacdegaeokgnaaDoor
namespace Rows

/-- THE TIED CARD OF 'bedrocklaw6.OpActs'. -/
def opActsCard : Claim7 := { stood := { row := opActsRow, standIns := [], harness := (true, "8812aabffde3e3a4c442831a20f6c559901f3e1edeb4b2f41d7aac0e55dd4ac0"), looks := true }, kinds := [], alts := [], laidByText := true, laidKinds := [.data, .data, .data], laidTests := true, laidLooks := .later }
def OpActsCardSaid : Prop := Claim7.holds Tryd.pinned (.plain (OpenSpec.ofChange opActsSpec)) opActsCard

/-- THE TIED CARD OF 'bedrocklaw6.OpValues'. -/
def opValuesCard : Claim7 := { stood := { row := opValuesRow, standIns := [], harness := (true, "8812aabffde3e3a4c442831a20f6c559901f3e1edeb4b2f41d7aac0e55dd4ac0"), looks := true }, kinds := [], alts := [], laidByText := true, laidKinds := [.data, .data, .data], laidTests := true, laidLooks := .later }
def OpValuesCardSaid : Prop := Claim7.holds Tryd.pinned (.plain (OpenSpec.ofChange opValuesSpec)) opValuesCard

/-- THE TIED CARD OF 'bedrocklaw6.OpLatest'. -/
def opLatestCard : Claim7 := { stood := { row := opLatestRow, standIns := [], harness := (true, "8812aabffde3e3a4c442831a20f6c559901f3e1edeb4b2f41d7aac0e55dd4ac0"), looks := true }, kinds := [], alts := [], laidByText := true, laidKinds := [.data, .data, .data], laidTests := true, laidLooks := .later }
def OpLatestCardSaid : Prop := Claim7.holds Tryd.pinned (.plain (OpenSpec.ofChange opLatestSpec)) opLatestCard

/-- THE TIED CARD OF 'bedrocklaw6.OpTexts'. -/
def opTextsCard : Claim7 := { stood := { row := opTextsRow, standIns := [], harness := (true, "8812aabffde3e3a4c442831a20f6c559901f3e1edeb4b2f41d7aac0e55dd4ac0"), looks := true }, kinds := [], alts := [], laidByText := true, laidKinds := [.data, .data, .data], laidTests := true, laidLooks := .later }
def OpTextsCardSaid : Prop := Claim7.holds Tryd.pinned (.plain (OpenSpec.ofChange opTextsSpec)) opTextsCard

/-- THE TIED CARD OF 'bedrocklaw6.OpBack'. -/
def opBackCard : Claim7 := { stood := { row := opBackRow, standIns := [], harness := (true, "8812aabffde3e3a4c442831a20f6c559901f3e1edeb4b2f41d7aac0e55dd4ac0"), looks := true }, kinds := [], alts := [], laidByText := true, laidKinds := [.data, .data, .data], laidTests := true, laidLooks := .later }
def OpBackCardSaid : Prop := Claim7.holds Tryd.pinned (.plain (OpenSpec.ofChange opBackSpec)) opBackCard

/-- THE TIED CARD OF 'bedrocklaw6.OpShuffled'. -/
def opShuffledCard : Claim7 := { stood := { row := opShuffledRow, standIns := [], harness := (true, "8812aabffde3e3a4c442831a20f6c559901f3e1edeb4b2f41d7aac0e55dd4ac0"), looks := true }, kinds := [], alts := [], laidByText := true, laidKinds := [.data, .data, .data], laidTests := true, laidLooks := .later }
def OpShuffledCardSaid : Prop := Claim7.holds Tryd.pinned (.plain (OpenSpec.ofChange opShuffledSpec)) opShuffledCard

/-- THE TIED CARD OF 'bedrocklaw6.OpTogether'. -/
def opTogetherCard : Claim7 := { stood := { row := opTogetherRow, standIns := [], harness := (true, "8812aabffde3e3a4c442831a20f6c559901f3e1edeb4b2f41d7aac0e55dd4ac0"), looks := true }, kinds := [], alts := [], laidByText := true, laidKinds := [.data, .data, .data], laidTests := true, laidLooks := .later }
def OpTogetherCardSaid : Prop := Claim7.holds Tryd.pinned (.plain (OpenSpec.ofChange opTogetherSpec)) opTogetherCard

/-- THE TIED CARD OF 'bedrocklaw6.OpGrows'. -/
def opGrowsCard : Claim7 := { stood := { row := opGrowsRow, standIns := [], harness := (true, "8812aabffde3e3a4c442831a20f6c559901f3e1edeb4b2f41d7aac0e55dd4ac0"), looks := true }, kinds := [], alts := [], laidByText := true, laidKinds := [.data, .data, .data], laidTests := true, laidLooks := .later }
def OpGrowsCardSaid : Prop := Claim7.holds Tryd.pinned (.plain (OpenSpec.ofChange opGrowsSpec)) opGrowsCard

/-- THE SECOND FORM's CARD OF 'bedrocklaw6.OpActs'. -/
def opActsUptoCard : Claim7 := { stood := { row := opActsUptoRow, standIns := [], harness := (true, "8812aabffde3e3a4c442831a20f6c559901f3e1edeb4b2f41d7aac0e55dd4ac0"), looks := true }, kinds := [], alts := [], laidByText := true, laidKinds := [.data, .data, .data], laidTests := true, laidLooks := .later }
def OpActsUptoCardSaid : Prop := Claim7.holds Tryd.pinned (.plain (OpenSpec.upto opActsSpec)) opActsUptoCard

/-- THE SECOND FORM's CARD OF 'bedrocklaw6.OpValues'. -/
def opValuesUptoCard : Claim7 := { stood := { row := opValuesUptoRow, standIns := [], harness := (true, "8812aabffde3e3a4c442831a20f6c559901f3e1edeb4b2f41d7aac0e55dd4ac0"), looks := true }, kinds := [], alts := [], laidByText := true, laidKinds := [.data, .data, .data], laidTests := true, laidLooks := .later }
def OpValuesUptoCardSaid : Prop := Claim7.holds Tryd.pinned (.plain (OpenSpec.upto opValuesSpec)) opValuesUptoCard

/-- THE SECOND FORM's CARD OF 'bedrocklaw6.OpLatest'. -/
def opLatestUptoCard : Claim7 := { stood := { row := opLatestUptoRow, standIns := [], harness := (true, "8812aabffde3e3a4c442831a20f6c559901f3e1edeb4b2f41d7aac0e55dd4ac0"), looks := true }, kinds := [], alts := [], laidByText := true, laidKinds := [.data, .data, .data], laidTests := true, laidLooks := .later }
def OpLatestUptoCardSaid : Prop := Claim7.holds Tryd.pinned (.plain (OpenSpec.upto opLatestSpec)) opLatestUptoCard

/-- THE SECOND FORM's CARD OF 'bedrocklaw6.OpTexts'. -/
def opTextsUptoCard : Claim7 := { stood := { row := opTextsUptoRow, standIns := [], harness := (true, "8812aabffde3e3a4c442831a20f6c559901f3e1edeb4b2f41d7aac0e55dd4ac0"), looks := true }, kinds := [], alts := [], laidByText := true, laidKinds := [.data, .data, .data], laidTests := true, laidLooks := .later }
def OpTextsUptoCardSaid : Prop := Claim7.holds Tryd.pinned (.plain (OpenSpec.upto opTextsSpec)) opTextsUptoCard

/-- THE SECOND FORM's CARD OF 'bedrocklaw6.OpBack'. -/
def opBackUptoCard : Claim7 := { stood := { row := opBackUptoRow, standIns := [], harness := (true, "8812aabffde3e3a4c442831a20f6c559901f3e1edeb4b2f41d7aac0e55dd4ac0"), looks := true }, kinds := [], alts := [], laidByText := true, laidKinds := [.data, .data, .data], laidTests := true, laidLooks := .later }
def OpBackUptoCardSaid : Prop := Claim7.holds Tryd.pinned (.plain (OpenSpec.upto opBackSpec)) opBackUptoCard

/-- THE SECOND FORM's CARD OF 'bedrocklaw6.OpShuffled'. -/
def opShuffledUptoCard : Claim7 := { stood := { row := opShuffledUptoRow, standIns := [], harness := (true, "8812aabffde3e3a4c442831a20f6c559901f3e1edeb4b2f41d7aac0e55dd4ac0"), looks := true }, kinds := [], alts := [], laidByText := true, laidKinds := [.data, .data, .data], laidTests := true, laidLooks := .later }
def OpShuffledUptoCardSaid : Prop := Claim7.holds Tryd.pinned (.plain (OpenSpec.upto opShuffledSpec)) opShuffledUptoCard

/-- THE SECOND FORM's CARD OF 'bedrocklaw6.OpTogether'. -/
def opTogetherUptoCard : Claim7 := { stood := { row := opTogetherUptoRow, standIns := [], harness := (true, "8812aabffde3e3a4c442831a20f6c559901f3e1edeb4b2f41d7aac0e55dd4ac0"), looks := true }, kinds := [], alts := [], laidByText := true, laidKinds := [.data, .data, .data], laidTests := true, laidLooks := .later }
def OpTogetherUptoCardSaid : Prop := Claim7.holds Tryd.pinned (.plain (OpenSpec.upto opTogetherSpec)) opTogetherUptoCard

/-- THE SECOND FORM's CARD OF 'bedrocklaw6.OpGrows'. -/
def opGrowsUptoCard : Claim7 := { stood := { row := opGrowsUptoRow, standIns := [], harness := (true, "8812aabffde3e3a4c442831a20f6c559901f3e1edeb4b2f41d7aac0e55dd4ac0"), looks := true }, kinds := [], alts := [], laidByText := true, laidKinds := [.data, .data, .data], laidTests := true, laidLooks := .later }
def OpGrowsUptoCardSaid : Prop := Claim7.holds Tryd.pinned (.plain (OpenSpec.upto opGrowsSpec)) opGrowsUptoCard
end Rows
end Go.Proofs.YthacdegaeokgnaaDoor
