/-
  DERIVED. GIVEN WITH THE SEED: THE CARDS: each row of YtcbgflidlpmhcaaGreatDoorRows.lean that lists a variable, with what it lists TIED to the program's text (the seventh form; the later family's looks); each row that meets fmt, with fmt's text TOLD by the authors' own Lean function (tested against real Go, not proved from fmt's source: count such statements apart). THE CARD IS WHAT COUNTS. Prove the row's statement (the work); the ties are given (YtcbgflidlpmhcaaGreatDoorTie.lean); close each card by the builder's one call (the guide's Derived/Test/ToyasCard.lean, 'card_holds'). Laid BY PROGRAM, IN A SANDBOX (cutbox-door.mjs). By AI agents, Wed Nov 11 2026. No macro, syntax, notation, axiom, sorry.
-/
import Derived.Test.YtcbgflidlpmhcaaGreatDoorRows
import GoSem.ClaimSeven
namespace Go.Proofs.YtcbgflidlpmhcaaGreatDoor
namespace Rows

/-- THE TIED CARD OF 'bedrocklaw13.SstTells'. -/
def sstTellsCard : Claim7 := { stood := { row := sstTellsRow, standIns := [], harness := (true, "a5fbc9c983cb49765612d660be8cb01729072cfcb1bb91aeee6db620cb67453c"), looks := true }, kinds := [], alts := [], laidByText := true, laidKinds := [.data], laidTests := true, laidLooks := .later }
def SstTellsCardSaid : Prop := Claim7.holds Tryz.pinned (.plain (OpenSpec.ofChange sstTellsSpec)) sstTellsCard

/-- THE SECOND FORM's CARD OF 'bedrocklaw13.SstTells'. -/
def sstTellsUptoCard : Claim7 := { stood := { row := sstTellsUptoRow, standIns := [], harness := (true, "a5fbc9c983cb49765612d660be8cb01729072cfcb1bb91aeee6db620cb67453c"), looks := true }, kinds := [], alts := [], laidByText := true, laidKinds := [.data], laidTests := true, laidLooks := .later }
def SstTellsUptoCardSaid : Prop := Claim7.holds Tryz.pinned (.plain (OpenSpec.upto sstTellsSpec)) sstTellsUptoCard
end Rows
end Go.Proofs.YtcbgflidlpmhcaaGreatDoor
