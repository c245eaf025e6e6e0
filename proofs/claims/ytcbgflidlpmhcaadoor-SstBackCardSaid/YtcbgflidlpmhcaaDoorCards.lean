/-
  DERIVED. GIVEN WITH THE SEED: THE CARDS: each row of YtcbgflidlpmhcaaDoorRows.lean that lists a variable, with what it lists TIED to the program's text (the seventh form; the later family's looks); each row that meets fmt, with fmt's text TOLD by the authors' own Lean function (tested against real Go, not proved from fmt's source: count such statements apart). THE CARD IS WHAT COUNTS. Prove the row's statement (the work); the ties are given (YtcbgflidlpmhcaaDoorTie.lean); close each card by the builder's one call (the guide's Derived/Test/ToyasCard.lean, 'card_holds'). Laid BY PROGRAM, IN A SANDBOX (cutbox-door.mjs). By AI agents, Wed Nov 11 2026. No macro, syntax, notation, axiom, sorry.
-/
import Derived.Test.YtcbgflidlpmhcaaDoorRows
import GoSem.ClaimSeven
namespace Go.Proofs.YtcbgflidlpmhcaaDoor
namespace Rows

/-- THE TIED CARD OF 'bedrocklaw13.SstBack'. -/
def sstBackCard : Claim7 := { stood := { row := sstBackRow, standIns := [], harness := (true, "edfea4a4c22cd5c7fde3d621dbae5176ef87433f397554251bae7e74ead04d19"), looks := true }, kinds := [], alts := [], laidByText := true, laidKinds := [.data], laidTests := true, laidLooks := .later }
def SstBackCardSaid : Prop := Claim7.holds Tryd.pinned (.plain (OpenSpec.ofChange sstBackSpec)) sstBackCard

/-- THE TIED CARD OF 'bedrocklaw13.SstBytes'. -/
def sstBytesCard : Claim7 := { stood := { row := sstBytesRow, standIns := [], harness := (true, "edfea4a4c22cd5c7fde3d621dbae5176ef87433f397554251bae7e74ead04d19"), looks := true }, kinds := [], alts := [], laidByText := true, laidKinds := [.data], laidTests := true, laidLooks := .later }
def SstBytesCardSaid : Prop := Claim7.holds Tryd.pinned (.plain (OpenSpec.ofChange sstBytesSpec)) sstBytesCard

/-- THE TIED CARD OF 'bedrocklaw13.SstNone'. -/
def sstNoneCard : Claim7 := { stood := { row := sstNoneRow, standIns := [], harness := (true, "edfea4a4c22cd5c7fde3d621dbae5176ef87433f397554251bae7e74ead04d19"), looks := true }, kinds := [], alts := [], laidByText := true, laidKinds := [.data], laidTests := true, laidLooks := .later }
def SstNoneCardSaid : Prop := Claim7.holds Tryd.pinned (.plain (OpenSpec.ofChange sstNoneSpec)) sstNoneCard

/-- THE TIED CARD OF 'bedrocklaw13.SstAlike'. -/
def sstAlikeCard : Claim7 := { stood := { row := sstAlikeRow, standIns := [], harness := (true, "edfea4a4c22cd5c7fde3d621dbae5176ef87433f397554251bae7e74ead04d19"), looks := true }, kinds := [], alts := [], laidByText := true, laidKinds := [.data], laidTests := true, laidLooks := .later }
def SstAlikeCardSaid : Prop := Claim7.holds Tryd.pinned (.plain (OpenSpec.ofChange sstAlikeSpec)) sstAlikeCard

/-- THE SECOND FORM's CARD OF 'bedrocklaw13.SstBack'. -/
def sstBackUptoCard : Claim7 := { stood := { row := sstBackUptoRow, standIns := [], harness := (true, "edfea4a4c22cd5c7fde3d621dbae5176ef87433f397554251bae7e74ead04d19"), looks := true }, kinds := [], alts := [], laidByText := true, laidKinds := [.data], laidTests := true, laidLooks := .later }
def SstBackUptoCardSaid : Prop := Claim7.holds Tryd.pinned (.plain (OpenSpec.upto sstBackSpec)) sstBackUptoCard

/-- THE SECOND FORM's CARD OF 'bedrocklaw13.SstBytes'. -/
def sstBytesUptoCard : Claim7 := { stood := { row := sstBytesUptoRow, standIns := [], harness := (true, "edfea4a4c22cd5c7fde3d621dbae5176ef87433f397554251bae7e74ead04d19"), looks := true }, kinds := [], alts := [], laidByText := true, laidKinds := [.data], laidTests := true, laidLooks := .later }
def SstBytesUptoCardSaid : Prop := Claim7.holds Tryd.pinned (.plain (OpenSpec.upto sstBytesSpec)) sstBytesUptoCard

/-- THE SECOND FORM's CARD OF 'bedrocklaw13.SstNone'. -/
def sstNoneUptoCard : Claim7 := { stood := { row := sstNoneUptoRow, standIns := [], harness := (true, "edfea4a4c22cd5c7fde3d621dbae5176ef87433f397554251bae7e74ead04d19"), looks := true }, kinds := [], alts := [], laidByText := true, laidKinds := [.data], laidTests := true, laidLooks := .later }
def SstNoneUptoCardSaid : Prop := Claim7.holds Tryd.pinned (.plain (OpenSpec.upto sstNoneSpec)) sstNoneUptoCard

/-- THE SECOND FORM's CARD OF 'bedrocklaw13.SstAlike'. -/
def sstAlikeUptoCard : Claim7 := { stood := { row := sstAlikeUptoRow, standIns := [], harness := (true, "edfea4a4c22cd5c7fde3d621dbae5176ef87433f397554251bae7e74ead04d19"), looks := true }, kinds := [], alts := [], laidByText := true, laidKinds := [.data], laidTests := true, laidLooks := .later }
def SstAlikeUptoCardSaid : Prop := Claim7.holds Tryd.pinned (.plain (OpenSpec.upto sstAlikeSpec)) sstAlikeUptoCard
end Rows
end Go.Proofs.YtcbgflidlpmhcaaDoor
