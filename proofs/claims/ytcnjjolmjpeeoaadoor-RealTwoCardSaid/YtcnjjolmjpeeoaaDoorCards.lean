/-
  DERIVED. GIVEN WITH THE SEED: THE CARDS: each row of YtcnjjolmjpeeoaaDoorRows.lean that lists a variable, with what it lists TIED to the program's text (the seventh form; the later family's looks); each row that meets fmt, with fmt's text TOLD by the authors' own Lean function (tested against real Go, not proved from fmt's source: count such statements apart). THE CARD IS WHAT COUNTS. Prove the row's statement (the work); the ties are given (YtcnjjolmjpeeoaaDoorTie.lean); close each card by the builder's one call (the guide's Derived/Test/ToyasCard.lean, 'card_holds'). Laid BY PROGRAM, IN A SANDBOX (cutbox-door.mjs). By AI agents, Wed Nov 11 2026. No macro, syntax, notation, axiom, sorry.
-/
import Derived.Test.YtcnjjolmjpeeoaaDoorRows
import GoSem.ClaimSeven
namespace Go.Proofs.YtcnjjolmjpeeoaaDoor
namespace Rows

/-- THE TIED CARD OF 'bedrocklaw2.RealTwo'. -/
def realTwoCard : Claim7 := { stood := { row := realTwoRow, standIns := [], harness := (true, "4525d5f6bbcc66ca7e8664305ed8f10bbe055647735f4700498ac11f878a5774"), looks := true }, kinds := [], alts := [], laidByText := true, laidKinds := [.data, .data, .data], laidTests := true, laidLooks := .later }
def RealTwoCardSaid : Prop := Claim7.holds Tryd.pinned (.plain (OpenSpec.ofChange realTwoSpec)) realTwoCard

/-- THE TIED CARD OF 'bedrocklaw3.VecLattice'. -/
def vecLatticeCard : Claim7 := { stood := { row := vecLatticeRow, standIns := [], harness := (true, "4525d5f6bbcc66ca7e8664305ed8f10bbe055647735f4700498ac11f878a5774"), looks := true }, kinds := [], alts := [], laidByText := true, laidKinds := [.data, .data, .data], laidTests := true, laidLooks := .later }
def VecLatticeCardSaid : Prop := Claim7.holds Tryd.pinned (.plain (OpenSpec.ofChange vecLatticeSpec)) vecLatticeCard

/-- THE TIED CARD OF 'bedrocklaw3.VecBack'. -/
def vecBackCard : Claim7 := { stood := { row := vecBackRow, standIns := [], harness := (true, "4525d5f6bbcc66ca7e8664305ed8f10bbe055647735f4700498ac11f878a5774"), looks := true }, kinds := [], alts := [], laidByText := true, laidKinds := [.data, .data, .data], laidTests := true, laidLooks := .later }
def VecBackCardSaid : Prop := Claim7.holds Tryd.pinned (.plain (OpenSpec.ofChange vecBackSpec)) vecBackCard

/-- THE TIED CARD OF 'bedrocklaw3.VecWith'. -/
def vecWithCard : Claim7 := { stood := { row := vecWithRow, standIns := [], harness := (true, "4525d5f6bbcc66ca7e8664305ed8f10bbe055647735f4700498ac11f878a5774"), looks := true }, kinds := [], alts := [], laidByText := true, laidKinds := [.data, .data, .data], laidTests := true, laidLooks := .later }
def VecWithCardSaid : Prop := Claim7.holds Tryd.pinned (.plain (OpenSpec.ofChange vecWithSpec)) vecWithCard

/-- THE TIED CARD OF 'bedrocklaw3.VecTexts'. -/
def vecTextsCard : Claim7 := { stood := { row := vecTextsRow, standIns := [], harness := (true, "4525d5f6bbcc66ca7e8664305ed8f10bbe055647735f4700498ac11f878a5774"), looks := true }, kinds := [], alts := [], laidByText := true, laidKinds := [.data, .data, .data], laidTests := true, laidLooks := .later }
def VecTextsCardSaid : Prop := Claim7.holds Tryd.pinned (.plain (OpenSpec.ofChange vecTextsSpec)) vecTextsCard

/-- THE SECOND FORM's CARD OF 'bedrocklaw2.RealTwo'. -/
def realTwoUptoCard : Claim7 := { stood := { row := realTwoUptoRow, standIns := [], harness := (true, "4525d5f6bbcc66ca7e8664305ed8f10bbe055647735f4700498ac11f878a5774"), looks := true }, kinds := [], alts := [], laidByText := true, laidKinds := [.data, .data, .data], laidTests := true, laidLooks := .later }
def RealTwoUptoCardSaid : Prop := Claim7.holds Tryd.pinned (.plain (OpenSpec.upto realTwoSpec)) realTwoUptoCard

/-- THE SECOND FORM's CARD OF 'bedrocklaw3.VecLattice'. -/
def vecLatticeUptoCard : Claim7 := { stood := { row := vecLatticeUptoRow, standIns := [], harness := (true, "4525d5f6bbcc66ca7e8664305ed8f10bbe055647735f4700498ac11f878a5774"), looks := true }, kinds := [], alts := [], laidByText := true, laidKinds := [.data, .data, .data], laidTests := true, laidLooks := .later }
def VecLatticeUptoCardSaid : Prop := Claim7.holds Tryd.pinned (.plain (OpenSpec.upto vecLatticeSpec)) vecLatticeUptoCard

/-- THE SECOND FORM's CARD OF 'bedrocklaw3.VecBack'. -/
def vecBackUptoCard : Claim7 := { stood := { row := vecBackUptoRow, standIns := [], harness := (true, "4525d5f6bbcc66ca7e8664305ed8f10bbe055647735f4700498ac11f878a5774"), looks := true }, kinds := [], alts := [], laidByText := true, laidKinds := [.data, .data, .data], laidTests := true, laidLooks := .later }
def VecBackUptoCardSaid : Prop := Claim7.holds Tryd.pinned (.plain (OpenSpec.upto vecBackSpec)) vecBackUptoCard

/-- THE SECOND FORM's CARD OF 'bedrocklaw3.VecWith'. -/
def vecWithUptoCard : Claim7 := { stood := { row := vecWithUptoRow, standIns := [], harness := (true, "4525d5f6bbcc66ca7e8664305ed8f10bbe055647735f4700498ac11f878a5774"), looks := true }, kinds := [], alts := [], laidByText := true, laidKinds := [.data, .data, .data], laidTests := true, laidLooks := .later }
def VecWithUptoCardSaid : Prop := Claim7.holds Tryd.pinned (.plain (OpenSpec.upto vecWithSpec)) vecWithUptoCard

/-- THE SECOND FORM's CARD OF 'bedrocklaw3.VecTexts'. -/
def vecTextsUptoCard : Claim7 := { stood := { row := vecTextsUptoRow, standIns := [], harness := (true, "4525d5f6bbcc66ca7e8664305ed8f10bbe055647735f4700498ac11f878a5774"), looks := true }, kinds := [], alts := [], laidByText := true, laidKinds := [.data, .data, .data], laidTests := true, laidLooks := .later }
def VecTextsUptoCardSaid : Prop := Claim7.holds Tryd.pinned (.plain (OpenSpec.upto vecTextsSpec)) vecTextsUptoCard
end Rows
end Go.Proofs.YtcnjjolmjpeeoaaDoor
