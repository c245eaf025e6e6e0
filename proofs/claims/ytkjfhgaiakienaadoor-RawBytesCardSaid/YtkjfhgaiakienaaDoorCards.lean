/-
  DERIVED. GIVEN WITH THE SEED: THE CARDS: each row of YtkjfhgaiakienaaDoorRows.lean that lists a variable, with what it lists TIED to the program's text (the seventh form; the later family's looks); each row that meets fmt, with fmt's text TOLD by the authors' own Lean function (tested against real Go, not proved from fmt's source: count such statements apart). THE CARD IS WHAT COUNTS. Prove the row's statement (the work); the ties are given (YtkjfhgaiakienaaDoorTie.lean); close each card by the builder's one call (the guide's Derived/Test/ToyasCard.lean, 'card_holds'). Laid BY PROGRAM, IN A SANDBOX (cutbox-door.mjs). By AI agents, Wed Nov 11 2026. No macro, syntax, notation, axiom, sorry.
-/
import Derived.Test.YtkjfhgaiakienaaDoorRows
import GoSem.ClaimSeven
namespace Go.Proofs.YtkjfhgaiakienaaDoor
namespace Rows

/-- THE TIED CARD OF 'bedrocklaw1.RawNumbers'. -/
def rawNumbersCard : Claim7 := { stood := { row := rawNumbersRow, standIns := [], harness := (true, "9f52fac6f4ae71c6d7717f42be02eaec4f28033c2c4580e3edaca0f092ef72d7"), looks := true }, kinds := [], alts := [], laidByText := true, laidKinds := [.data, .data, .data, .data], laidTests := true, laidLooks := .later }
def RawNumbersCardSaid : Prop := Claim7.holds Tryd.pinned (.plain (OpenSpec.ofChange rawNumbersSpec)) rawNumbersCard

/-- THE TIED CARD OF 'bedrocklaw1.RawBytes'. -/
def rawBytesCard : Claim7 := { stood := { row := rawBytesRow, standIns := [], harness := (true, "9f52fac6f4ae71c6d7717f42be02eaec4f28033c2c4580e3edaca0f092ef72d7"), looks := true }, kinds := [], alts := [], laidByText := true, laidKinds := [.data, .data, .data, .data], laidTests := true, laidLooks := .later }
def RawBytesCardSaid : Prop := Claim7.holds Tryd.pinned (.plain (OpenSpec.ofChange rawBytesSpec)) rawBytesCard

/-- THE TIED CARD OF 'bedrocklaw1.RawVars'. -/
def rawVarsCard : Claim7 := { stood := { row := rawVarsRow, standIns := [], harness := (true, "9f52fac6f4ae71c6d7717f42be02eaec4f28033c2c4580e3edaca0f092ef72d7"), looks := true }, kinds := [], alts := [], laidByText := true, laidKinds := [.data, .data, .data, .data], laidTests := true, laidLooks := .later }
def RawVarsCardSaid : Prop := Claim7.holds Tryd.pinned (.plain (OpenSpec.ofChange rawVarsSpec)) rawVarsCard

/-- THE TIED CARD OF 'bedrocklaw1.RawQuoted'. -/
def rawQuotedCard : Claim7 := { stood := { row := rawQuotedRow, standIns := [], harness := (true, "9f52fac6f4ae71c6d7717f42be02eaec4f28033c2c4580e3edaca0f092ef72d7"), looks := true }, kinds := [], alts := [], laidByText := true, laidKinds := [.data, .data, .data, .data], laidTests := true, laidLooks := .later }
def RawQuotedCardSaid : Prop := Claim7.holds Tryd.pinned (.plain (OpenSpec.ofChange rawQuotedSpec)) rawQuotedCard

/-- THE TIED CARD OF 'bedrocklaw1.RawBack'. -/
def rawBackCard : Claim7 := { stood := { row := rawBackRow, standIns := [], harness := (true, "9f52fac6f4ae71c6d7717f42be02eaec4f28033c2c4580e3edaca0f092ef72d7"), looks := true }, kinds := [], alts := [], laidByText := true, laidKinds := [.data, .data, .data, .data], laidTests := true, laidLooks := .later }
def RawBackCardSaid : Prop := Claim7.holds Tryd.pinned (.plain (OpenSpec.ofChange rawBackSpec)) rawBackCard

/-- THE TIED CARD OF 'bedrocklaw1.RawChanged'. -/
def rawChangedCard : Claim7 := { stood := { row := rawChangedRow, standIns := [], harness := (true, "9f52fac6f4ae71c6d7717f42be02eaec4f28033c2c4580e3edaca0f092ef72d7"), looks := true }, kinds := [], alts := [], laidByText := true, laidKinds := [.data, .data, .data, .data], laidTests := true, laidLooks := .later }
def RawChangedCardSaid : Prop := Claim7.holds Tryd.pinned (.plain (OpenSpec.ofChange rawChangedSpec)) rawChangedCard

/-- THE TIED CARD OF 'bedrocklaw1.RawOrder'. -/
def rawOrderCard : Claim7 := { stood := { row := rawOrderRow, standIns := [], harness := (true, "9f52fac6f4ae71c6d7717f42be02eaec4f28033c2c4580e3edaca0f092ef72d7"), looks := true }, kinds := [], alts := [], laidByText := true, laidKinds := [.data, .data, .data, .data], laidTests := true, laidLooks := .later }
def RawOrderCardSaid : Prop := Claim7.holds Tryd.pinned (.plain (OpenSpec.ofChange rawOrderSpec)) rawOrderCard

/-- THE TIED CARD OF 'bedrocklaw1.RawShort'. -/
def rawShortCard : Claim7 := { stood := { row := rawShortRow, standIns := [], harness := (true, "9f52fac6f4ae71c6d7717f42be02eaec4f28033c2c4580e3edaca0f092ef72d7"), looks := true }, kinds := [], alts := [], laidByText := true, laidKinds := [.data, .data, .data, .data], laidTests := true, laidLooks := .later }
def RawShortCardSaid : Prop := Claim7.holds Tryd.pinned (.plain (OpenSpec.ofChange rawShortSpec)) rawShortCard

/-- THE SECOND FORM's CARD OF 'bedrocklaw1.RawNumbers'. -/
def rawNumbersUptoCard : Claim7 := { stood := { row := rawNumbersUptoRow, standIns := [], harness := (true, "9f52fac6f4ae71c6d7717f42be02eaec4f28033c2c4580e3edaca0f092ef72d7"), looks := true }, kinds := [], alts := [], laidByText := true, laidKinds := [.data, .data, .data, .data], laidTests := true, laidLooks := .later }
def RawNumbersUptoCardSaid : Prop := Claim7.holds Tryd.pinned (.plain (OpenSpec.upto rawNumbersSpec)) rawNumbersUptoCard

/-- THE SECOND FORM's CARD OF 'bedrocklaw1.RawBytes'. -/
def rawBytesUptoCard : Claim7 := { stood := { row := rawBytesUptoRow, standIns := [], harness := (true, "9f52fac6f4ae71c6d7717f42be02eaec4f28033c2c4580e3edaca0f092ef72d7"), looks := true }, kinds := [], alts := [], laidByText := true, laidKinds := [.data, .data, .data, .data], laidTests := true, laidLooks := .later }
def RawBytesUptoCardSaid : Prop := Claim7.holds Tryd.pinned (.plain (OpenSpec.upto rawBytesSpec)) rawBytesUptoCard

/-- THE SECOND FORM's CARD OF 'bedrocklaw1.RawVars'. -/
def rawVarsUptoCard : Claim7 := { stood := { row := rawVarsUptoRow, standIns := [], harness := (true, "9f52fac6f4ae71c6d7717f42be02eaec4f28033c2c4580e3edaca0f092ef72d7"), looks := true }, kinds := [], alts := [], laidByText := true, laidKinds := [.data, .data, .data, .data], laidTests := true, laidLooks := .later }
def RawVarsUptoCardSaid : Prop := Claim7.holds Tryd.pinned (.plain (OpenSpec.upto rawVarsSpec)) rawVarsUptoCard

/-- THE SECOND FORM's CARD OF 'bedrocklaw1.RawQuoted'. -/
def rawQuotedUptoCard : Claim7 := { stood := { row := rawQuotedUptoRow, standIns := [], harness := (true, "9f52fac6f4ae71c6d7717f42be02eaec4f28033c2c4580e3edaca0f092ef72d7"), looks := true }, kinds := [], alts := [], laidByText := true, laidKinds := [.data, .data, .data, .data], laidTests := true, laidLooks := .later }
def RawQuotedUptoCardSaid : Prop := Claim7.holds Tryd.pinned (.plain (OpenSpec.upto rawQuotedSpec)) rawQuotedUptoCard

/-- THE SECOND FORM's CARD OF 'bedrocklaw1.RawBack'. -/
def rawBackUptoCard : Claim7 := { stood := { row := rawBackUptoRow, standIns := [], harness := (true, "9f52fac6f4ae71c6d7717f42be02eaec4f28033c2c4580e3edaca0f092ef72d7"), looks := true }, kinds := [], alts := [], laidByText := true, laidKinds := [.data, .data, .data, .data], laidTests := true, laidLooks := .later }
def RawBackUptoCardSaid : Prop := Claim7.holds Tryd.pinned (.plain (OpenSpec.upto rawBackSpec)) rawBackUptoCard

/-- THE SECOND FORM's CARD OF 'bedrocklaw1.RawChanged'. -/
def rawChangedUptoCard : Claim7 := { stood := { row := rawChangedUptoRow, standIns := [], harness := (true, "9f52fac6f4ae71c6d7717f42be02eaec4f28033c2c4580e3edaca0f092ef72d7"), looks := true }, kinds := [], alts := [], laidByText := true, laidKinds := [.data, .data, .data, .data], laidTests := true, laidLooks := .later }
def RawChangedUptoCardSaid : Prop := Claim7.holds Tryd.pinned (.plain (OpenSpec.upto rawChangedSpec)) rawChangedUptoCard

/-- THE SECOND FORM's CARD OF 'bedrocklaw1.RawOrder'. -/
def rawOrderUptoCard : Claim7 := { stood := { row := rawOrderUptoRow, standIns := [], harness := (true, "9f52fac6f4ae71c6d7717f42be02eaec4f28033c2c4580e3edaca0f092ef72d7"), looks := true }, kinds := [], alts := [], laidByText := true, laidKinds := [.data, .data, .data, .data], laidTests := true, laidLooks := .later }
def RawOrderUptoCardSaid : Prop := Claim7.holds Tryd.pinned (.plain (OpenSpec.upto rawOrderSpec)) rawOrderUptoCard

/-- THE SECOND FORM's CARD OF 'bedrocklaw1.RawShort'. -/
def rawShortUptoCard : Claim7 := { stood := { row := rawShortUptoRow, standIns := [], harness := (true, "9f52fac6f4ae71c6d7717f42be02eaec4f28033c2c4580e3edaca0f092ef72d7"), looks := true }, kinds := [], alts := [], laidByText := true, laidKinds := [.data, .data, .data, .data], laidTests := true, laidLooks := .later }
def RawShortUptoCardSaid : Prop := Claim7.holds Tryd.pinned (.plain (OpenSpec.upto rawShortSpec)) rawShortUptoCard
end Rows
end Go.Proofs.YtkjfhgaiakienaaDoor
