/-
  DERIVED. GIVEN WITH THE SEED: THE CARDS: each row of YtahofbnebmoopaaDoorRows.lean that lists a variable, with what it lists TIED to the program's text (the seventh form; the later family's looks); each row that meets fmt, with fmt's text TOLD by the authors' own Lean function (tested against real Go, not proved from fmt's source: count such statements apart). THE CARD IS WHAT COUNTS. Prove the row's statement (the work); the ties are given (YtahofbnebmoopaaDoorTie.lean); close each card by the builder's one call (the guide's Derived/Test/ToyasCard.lean, 'card_holds'). Laid BY PROGRAM, IN A SANDBOX (cutbox-door.mjs). By AI agents, Wed Nov 11 2026. No macro, syntax, notation, axiom, sorry.
-/
import Derived.Test.YtahofbnebmoopaaDoorRows
import GoSem.ClaimSeven
namespace Go.Proofs.YtahofbnebmoopaaDoor
namespace Rows

/-- THE TIED CARD OF 'bedrocklaw2.RealNumbers'. -/
def realNumbersCard : Claim7 := { stood := { row := realNumbersRow, standIns := [], harness := (true, "9bd044f0579d8f6903259cf9e08e9b89fe67be142eaa3b1861b805631705a5ff"), looks := true }, kinds := [], alts := [], laidByText := true, laidKinds := [.data, .data, .data], laidTests := true, laidLooks := .later }
def RealNumbersCardSaid : Prop := Claim7.holds Tryd.pinned (.plain (OpenSpec.ofChange realNumbersSpec)) realNumbersCard

/-- THE TIED CARD OF 'bedrocklaw2.RealTexts'. -/
def realTextsCard : Claim7 := { stood := { row := realTextsRow, standIns := [], harness := (true, "9bd044f0579d8f6903259cf9e08e9b89fe67be142eaa3b1861b805631705a5ff"), looks := true }, kinds := [], alts := [], laidByText := true, laidKinds := [.data, .data, .data], laidTests := true, laidLooks := .later }
def RealTextsCardSaid : Prop := Claim7.holds Tryd.pinned (.plain (OpenSpec.ofChange realTextsSpec)) realTextsCard

/-- THE TIED CARD OF 'bedrocklaw2.RealRatios'. -/
def realRatiosCard : Claim7 := { stood := { row := realRatiosRow, standIns := [], harness := (true, "9bd044f0579d8f6903259cf9e08e9b89fe67be142eaa3b1861b805631705a5ff"), looks := true }, kinds := [], alts := [], laidByText := true, laidKinds := [.data, .data, .data], laidTests := true, laidLooks := .later }
def RealRatiosCardSaid : Prop := Claim7.holds Tryd.pinned (.plain (OpenSpec.ofChange realRatiosSpec)) realRatiosCard

/-- THE TIED CARD OF 'bedrocklaw2.RealBytes'. -/
def realBytesCard : Claim7 := { stood := { row := realBytesRow, standIns := [], harness := (true, "9bd044f0579d8f6903259cf9e08e9b89fe67be142eaa3b1861b805631705a5ff"), looks := true }, kinds := [], alts := [], laidByText := true, laidKinds := [.data, .data, .data], laidTests := true, laidLooks := .later }
def RealBytesCardSaid : Prop := Claim7.holds Tryd.pinned (.plain (OpenSpec.ofChange realBytesSpec)) realBytesCard

/-- THE TIED CARD OF 'bedrocklaw2.RealTurned'. -/
def realTurnedCard : Claim7 := { stood := { row := realTurnedRow, standIns := [], harness := (true, "9bd044f0579d8f6903259cf9e08e9b89fe67be142eaa3b1861b805631705a5ff"), looks := true }, kinds := [], alts := [], laidByText := true, laidKinds := [.data, .data, .data], laidTests := true, laidLooks := .later }
def RealTurnedCardSaid : Prop := Claim7.holds Tryd.pinned (.plain (OpenSpec.ofChange realTurnedSpec)) realTurnedCard

/-- THE TIED CARD OF 'bedrocklaw2.RealBack'. -/
def realBackCard : Claim7 := { stood := { row := realBackRow, standIns := [], harness := (true, "9bd044f0579d8f6903259cf9e08e9b89fe67be142eaa3b1861b805631705a5ff"), looks := true }, kinds := [], alts := [], laidByText := true, laidKinds := [.data, .data, .data], laidTests := true, laidLooks := .later }
def RealBackCardSaid : Prop := Claim7.holds Tryd.pinned (.plain (OpenSpec.ofChange realBackSpec)) realBackCard

/-- THE TIED CARD OF 'bedrocklaw2.RealOrder'. -/
def realOrderCard : Claim7 := { stood := { row := realOrderRow, standIns := [], harness := (true, "9bd044f0579d8f6903259cf9e08e9b89fe67be142eaa3b1861b805631705a5ff"), looks := true }, kinds := [], alts := [], laidByText := true, laidKinds := [.data, .data, .data], laidTests := true, laidLooks := .later }
def RealOrderCardSaid : Prop := Claim7.holds Tryd.pinned (.plain (OpenSpec.ofChange realOrderSpec)) realOrderCard

/-- THE TIED CARD OF 'bedrocklaw2.RealMeets'. -/
def realMeetsCard : Claim7 := { stood := { row := realMeetsRow, standIns := [], harness := (true, "9bd044f0579d8f6903259cf9e08e9b89fe67be142eaa3b1861b805631705a5ff"), looks := true }, kinds := [], alts := [], laidByText := true, laidKinds := [.data, .data, .data], laidTests := true, laidLooks := .later }
def RealMeetsCardSaid : Prop := Claim7.holds Tryd.pinned (.plain (OpenSpec.ofChange realMeetsSpec)) realMeetsCard

/-- THE TIED CARD OF 'bedrocklaw2.RealScales'. -/
def realScalesCard : Claim7 := { stood := { row := realScalesRow, standIns := [], harness := (true, "9bd044f0579d8f6903259cf9e08e9b89fe67be142eaa3b1861b805631705a5ff"), looks := true }, kinds := [], alts := [], laidByText := true, laidKinds := [.data, .data, .data], laidTests := true, laidLooks := .later }
def RealScalesCardSaid : Prop := Claim7.holds Tryd.pinned (.plain (OpenSpec.ofChange realScalesSpec)) realScalesCard

/-- THE TIED CARD OF 'bedrocklaw2.RealTwo'. -/
def realTwoCard : Claim7 := { stood := { row := realTwoRow, standIns := [], harness := (true, "9bd044f0579d8f6903259cf9e08e9b89fe67be142eaa3b1861b805631705a5ff"), looks := true }, kinds := [], alts := [], laidByText := true, laidKinds := [.data, .data, .data], laidTests := true, laidLooks := .later }
def RealTwoCardSaid : Prop := Claim7.holds Tryd.pinned (.plain (OpenSpec.ofChange realTwoSpec)) realTwoCard

/-- THE SECOND FORM's CARD OF 'bedrocklaw2.RealNumbers'. -/
def realNumbersUptoCard : Claim7 := { stood := { row := realNumbersUptoRow, standIns := [], harness := (true, "9bd044f0579d8f6903259cf9e08e9b89fe67be142eaa3b1861b805631705a5ff"), looks := true }, kinds := [], alts := [], laidByText := true, laidKinds := [.data, .data, .data], laidTests := true, laidLooks := .later }
def RealNumbersUptoCardSaid : Prop := Claim7.holds Tryd.pinned (.plain (OpenSpec.upto realNumbersSpec)) realNumbersUptoCard

/-- THE SECOND FORM's CARD OF 'bedrocklaw2.RealTexts'. -/
def realTextsUptoCard : Claim7 := { stood := { row := realTextsUptoRow, standIns := [], harness := (true, "9bd044f0579d8f6903259cf9e08e9b89fe67be142eaa3b1861b805631705a5ff"), looks := true }, kinds := [], alts := [], laidByText := true, laidKinds := [.data, .data, .data], laidTests := true, laidLooks := .later }
def RealTextsUptoCardSaid : Prop := Claim7.holds Tryd.pinned (.plain (OpenSpec.upto realTextsSpec)) realTextsUptoCard

/-- THE SECOND FORM's CARD OF 'bedrocklaw2.RealRatios'. -/
def realRatiosUptoCard : Claim7 := { stood := { row := realRatiosUptoRow, standIns := [], harness := (true, "9bd044f0579d8f6903259cf9e08e9b89fe67be142eaa3b1861b805631705a5ff"), looks := true }, kinds := [], alts := [], laidByText := true, laidKinds := [.data, .data, .data], laidTests := true, laidLooks := .later }
def RealRatiosUptoCardSaid : Prop := Claim7.holds Tryd.pinned (.plain (OpenSpec.upto realRatiosSpec)) realRatiosUptoCard

/-- THE SECOND FORM's CARD OF 'bedrocklaw2.RealBytes'. -/
def realBytesUptoCard : Claim7 := { stood := { row := realBytesUptoRow, standIns := [], harness := (true, "9bd044f0579d8f6903259cf9e08e9b89fe67be142eaa3b1861b805631705a5ff"), looks := true }, kinds := [], alts := [], laidByText := true, laidKinds := [.data, .data, .data], laidTests := true, laidLooks := .later }
def RealBytesUptoCardSaid : Prop := Claim7.holds Tryd.pinned (.plain (OpenSpec.upto realBytesSpec)) realBytesUptoCard

/-- THE SECOND FORM's CARD OF 'bedrocklaw2.RealTurned'. -/
def realTurnedUptoCard : Claim7 := { stood := { row := realTurnedUptoRow, standIns := [], harness := (true, "9bd044f0579d8f6903259cf9e08e9b89fe67be142eaa3b1861b805631705a5ff"), looks := true }, kinds := [], alts := [], laidByText := true, laidKinds := [.data, .data, .data], laidTests := true, laidLooks := .later }
def RealTurnedUptoCardSaid : Prop := Claim7.holds Tryd.pinned (.plain (OpenSpec.upto realTurnedSpec)) realTurnedUptoCard

/-- THE SECOND FORM's CARD OF 'bedrocklaw2.RealBack'. -/
def realBackUptoCard : Claim7 := { stood := { row := realBackUptoRow, standIns := [], harness := (true, "9bd044f0579d8f6903259cf9e08e9b89fe67be142eaa3b1861b805631705a5ff"), looks := true }, kinds := [], alts := [], laidByText := true, laidKinds := [.data, .data, .data], laidTests := true, laidLooks := .later }
def RealBackUptoCardSaid : Prop := Claim7.holds Tryd.pinned (.plain (OpenSpec.upto realBackSpec)) realBackUptoCard

/-- THE SECOND FORM's CARD OF 'bedrocklaw2.RealOrder'. -/
def realOrderUptoCard : Claim7 := { stood := { row := realOrderUptoRow, standIns := [], harness := (true, "9bd044f0579d8f6903259cf9e08e9b89fe67be142eaa3b1861b805631705a5ff"), looks := true }, kinds := [], alts := [], laidByText := true, laidKinds := [.data, .data, .data], laidTests := true, laidLooks := .later }
def RealOrderUptoCardSaid : Prop := Claim7.holds Tryd.pinned (.plain (OpenSpec.upto realOrderSpec)) realOrderUptoCard

/-- THE SECOND FORM's CARD OF 'bedrocklaw2.RealMeets'. -/
def realMeetsUptoCard : Claim7 := { stood := { row := realMeetsUptoRow, standIns := [], harness := (true, "9bd044f0579d8f6903259cf9e08e9b89fe67be142eaa3b1861b805631705a5ff"), looks := true }, kinds := [], alts := [], laidByText := true, laidKinds := [.data, .data, .data], laidTests := true, laidLooks := .later }
def RealMeetsUptoCardSaid : Prop := Claim7.holds Tryd.pinned (.plain (OpenSpec.upto realMeetsSpec)) realMeetsUptoCard

/-- THE SECOND FORM's CARD OF 'bedrocklaw2.RealScales'. -/
def realScalesUptoCard : Claim7 := { stood := { row := realScalesUptoRow, standIns := [], harness := (true, "9bd044f0579d8f6903259cf9e08e9b89fe67be142eaa3b1861b805631705a5ff"), looks := true }, kinds := [], alts := [], laidByText := true, laidKinds := [.data, .data, .data], laidTests := true, laidLooks := .later }
def RealScalesUptoCardSaid : Prop := Claim7.holds Tryd.pinned (.plain (OpenSpec.upto realScalesSpec)) realScalesUptoCard

/-- THE SECOND FORM's CARD OF 'bedrocklaw2.RealTwo'. -/
def realTwoUptoCard : Claim7 := { stood := { row := realTwoUptoRow, standIns := [], harness := (true, "9bd044f0579d8f6903259cf9e08e9b89fe67be142eaa3b1861b805631705a5ff"), looks := true }, kinds := [], alts := [], laidByText := true, laidKinds := [.data, .data, .data], laidTests := true, laidLooks := .later }
def RealTwoUptoCardSaid : Prop := Claim7.holds Tryd.pinned (.plain (OpenSpec.upto realTwoSpec)) realTwoUptoCard
end Rows
end Go.Proofs.YtahofbnebmoopaaDoor
