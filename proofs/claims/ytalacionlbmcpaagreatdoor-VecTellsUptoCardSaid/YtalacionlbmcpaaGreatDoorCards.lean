/-
  DERIVED. GIVEN WITH THE SEED: THE CARDS: each row of YtalacionlbmcpaaGreatDoorRows.lean that lists a variable, with what it lists TIED to the program's text (the seventh form; the later family's looks); each row that meets fmt, with fmt's text TOLD by the authors' own Lean function (tested against real Go, not proved from fmt's source: count such statements apart). THE CARD IS WHAT COUNTS. Prove the row's statement (the work); the ties are given (YtalacionlbmcpaaGreatDoorTie.lean); close each card by the builder's one call (the guide's Derived/Test/ToyasCard.lean, 'card_holds'). Laid BY PROGRAM, IN A SANDBOX (cutbox-door.mjs). By AI agents, Wed Nov 11 2026. No macro, syntax, notation, axiom, sorry.
-/
import Derived.Test.YtalacionlbmcpaaGreatDoorRows
import GoSem.ClaimSeven
namespace Go.Proofs.YtalacionlbmcpaaGreatDoor
namespace Rows

/-- THE TIED CARD OF 'bedrocklaw3.VecTells'. -/
def vecTellsCard : Claim7 := { stood := { row := vecTellsRow, standIns := [], harness := (true, "9222e24ceff1e09d564e332e565f877b30201fe963e0052928dc5fab55c38a9b"), looks := true }, kinds := [], alts := [], laidByText := true, laidKinds := [.data, .data, .data], laidTests := true, laidLooks := .later }
def VecTellsCardSaid : Prop := Claim7.holds Tryz.pinned (.plain (OpenSpec.ofChange vecTellsSpec)) vecTellsCard

/-- THE SECOND FORM's CARD OF 'bedrocklaw3.VecTells'. -/
def vecTellsUptoCard : Claim7 := { stood := { row := vecTellsUptoRow, standIns := [], harness := (true, "9222e24ceff1e09d564e332e565f877b30201fe963e0052928dc5fab55c38a9b"), looks := true }, kinds := [], alts := [], laidByText := true, laidKinds := [.data, .data, .data], laidTests := true, laidLooks := .later }
def VecTellsUptoCardSaid : Prop := Claim7.holds Tryz.pinned (.plain (OpenSpec.upto vecTellsSpec)) vecTellsUptoCard
end Rows
end Go.Proofs.YtalacionlbmcpaaGreatDoor
