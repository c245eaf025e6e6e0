/-
  DERIVED. GIVEN WITH THE SEED: THE CARDS: each row of YthjphiniljopgaaDoorRows.lean that lists a variable, with what it lists TIED to the program's text (the seventh form; the later family's looks); each row that meets fmt, with fmt's text TOLD by the authors' own Lean function (tested against real Go, not proved from fmt's source: count such statements apart). THE CARD IS WHAT COUNTS. Prove the row's statement (the work); the ties are given (YthjphiniljopgaaDoorTie.lean); close each card by the builder's one call (the guide's Derived/Test/ToyasCard.lean, 'card_holds'). Laid BY PROGRAM, IN A SANDBOX (cutbox-door.mjs). By AI agents, Wed Nov 11 2026. No macro, syntax, notation, axiom, sorry.
-/
import Derived.Test.YthjphiniljopgaaDoorRows
import GoSem.ClaimSeven
namespace Go.Proofs.YthjphiniljopgaaDoor
namespace Rows

/-- THE TIED CARD OF 'bedrocklaw5.IkeyBack'. -/
def ikeyBackCard : Claim7 := { stood := { row := ikeyBackRow, standIns := [], harness := (true, "d9c9907696dfc4c5e54a9cff4acbe1acb29e48d88e94f3b536eebadb4d45db82"), looks := true }, kinds := [], alts := [], laidByText := true, laidKinds := [.data, .pinned], laidTests := true, laidLooks := .later }
def IkeyBackCardSaid : Prop := Claim7.holds Tryd.pinned (.plain (OpenSpec.ofChange ikeyBackSpec)) ikeyBackCard

/-- THE TIED CARD OF 'bedrocklaw5.IkeyOrder'. -/
def ikeyOrderCard : Claim7 := { stood := { row := ikeyOrderRow, standIns := [], harness := (true, "d9c9907696dfc4c5e54a9cff4acbe1acb29e48d88e94f3b536eebadb4d45db82"), looks := true }, kinds := [], alts := [], laidByText := true, laidKinds := [.data, .pinned], laidTests := true, laidLooks := .later }
def IkeyOrderCardSaid : Prop := Claim7.holds Tryd.pinned (.plain (OpenSpec.ofChange ikeyOrderSpec)) ikeyOrderCard

/-- THE TIED CARD OF 'bedrocklaw5.IkeyHeads'. -/
def ikeyHeadsCard : Claim7 := { stood := { row := ikeyHeadsRow, standIns := [], harness := (true, "d9c9907696dfc4c5e54a9cff4acbe1acb29e48d88e94f3b536eebadb4d45db82"), looks := true }, kinds := [], alts := [], laidByText := true, laidKinds := [.data, .pinned], laidTests := true, laidLooks := .later }
def IkeyHeadsCardSaid : Prop := Claim7.holds Tryd.pinned (.plain (OpenSpec.ofChange ikeyHeadsSpec)) ikeyHeadsCard

/-- THE TIED CARD OF 'bedrocklaw5.IkeyFolded'. -/
def ikeyFoldedCard : Claim7 := { stood := { row := ikeyFoldedRow, standIns := [], harness := (true, "d9c9907696dfc4c5e54a9cff4acbe1acb29e48d88e94f3b536eebadb4d45db82"), looks := true }, kinds := [], alts := [], laidByText := true, laidKinds := [.data, .pinned], laidTests := true, laidLooks := .later }
def IkeyFoldedCardSaid : Prop := Claim7.holds Tryd.pinned (.plain (OpenSpec.ofChange ikeyFoldedSpec)) ikeyFoldedCard

/-- THE SECOND FORM's CARD OF 'bedrocklaw5.IkeyBack'. -/
def ikeyBackUptoCard : Claim7 := { stood := { row := ikeyBackUptoRow, standIns := [], harness := (true, "d9c9907696dfc4c5e54a9cff4acbe1acb29e48d88e94f3b536eebadb4d45db82"), looks := true }, kinds := [], alts := [], laidByText := true, laidKinds := [.data, .pinned], laidTests := true, laidLooks := .later }
def IkeyBackUptoCardSaid : Prop := Claim7.holds Tryd.pinned (.plain (OpenSpec.upto ikeyBackSpec)) ikeyBackUptoCard

/-- THE SECOND FORM's CARD OF 'bedrocklaw5.IkeyOrder'. -/
def ikeyOrderUptoCard : Claim7 := { stood := { row := ikeyOrderUptoRow, standIns := [], harness := (true, "d9c9907696dfc4c5e54a9cff4acbe1acb29e48d88e94f3b536eebadb4d45db82"), looks := true }, kinds := [], alts := [], laidByText := true, laidKinds := [.data, .pinned], laidTests := true, laidLooks := .later }
def IkeyOrderUptoCardSaid : Prop := Claim7.holds Tryd.pinned (.plain (OpenSpec.upto ikeyOrderSpec)) ikeyOrderUptoCard

/-- THE SECOND FORM's CARD OF 'bedrocklaw5.IkeyHeads'. -/
def ikeyHeadsUptoCard : Claim7 := { stood := { row := ikeyHeadsUptoRow, standIns := [], harness := (true, "d9c9907696dfc4c5e54a9cff4acbe1acb29e48d88e94f3b536eebadb4d45db82"), looks := true }, kinds := [], alts := [], laidByText := true, laidKinds := [.data, .pinned], laidTests := true, laidLooks := .later }
def IkeyHeadsUptoCardSaid : Prop := Claim7.holds Tryd.pinned (.plain (OpenSpec.upto ikeyHeadsSpec)) ikeyHeadsUptoCard

/-- THE SECOND FORM's CARD OF 'bedrocklaw5.IkeyFolded'. -/
def ikeyFoldedUptoCard : Claim7 := { stood := { row := ikeyFoldedUptoRow, standIns := [], harness := (true, "d9c9907696dfc4c5e54a9cff4acbe1acb29e48d88e94f3b536eebadb4d45db82"), looks := true }, kinds := [], alts := [], laidByText := true, laidKinds := [.data, .pinned], laidTests := true, laidLooks := .later }
def IkeyFoldedUptoCardSaid : Prop := Claim7.holds Tryd.pinned (.plain (OpenSpec.upto ikeyFoldedSpec)) ikeyFoldedUptoCard
end Rows
end Go.Proofs.YthjphiniljopgaaDoor
