/-
  DERIVED. GIVEN WITH THE SEED: THE CARDS: each row of YtgiodfpkkdaflaaDoorRows.lean that lists a variable, with what it lists TIED to the program's text (the seventh form; the later family's looks); each row that meets fmt, with fmt's text TOLD by the authors' own Lean function (tested against real Go, not proved from fmt's source: count such statements apart). THE CARD IS WHAT COUNTS. Prove the row's statement (the work); the ties are given (YtgiodfpkkdaflaaDoorTie.lean); close each card by the builder's one call (the guide's Derived/Test/ToyasCard.lean, 'card_holds'). Laid BY PROGRAM, IN A SANDBOX (cutbox-door.mjs). By AI agents, Wed Nov 11 2026. No macro, syntax, notation, axiom, sorry.
-/
import Derived.Test.YtgiodfpkkdaflaaDoorRows
import GoSem.ClaimSeven
namespace Go.Proofs.YtgiodfpkkdaflaaDoor
namespace Rows

/-- THE TIED CARD OF 'bedrocklaw12.BloomTells'. -/
def bloomTellsCard : Claim7 := { stood := { row := bloomTellsRow, standIns := [], harness := (true, "455be64f03f901f33bffb88320d2152107f3d425d6c69206b799ef3d10350a2c"), looks := false }, kinds := [], alts := [], laidByText := true, laidKinds := [.data], laidTests := true, laidLooks := .later }
def BloomTellsCardSaid : Prop := Claim7.holds Tryd.pinned (.plain (OpenSpec.ofChange bloomTellsSpec)) bloomTellsCard

/-- THE TIED CARD OF 'bedrocklaw12.BloomMembers'. -/
def bloomMembersCard : Claim7 := { stood := { row := bloomMembersRow, standIns := [], harness := (true, "455be64f03f901f33bffb88320d2152107f3d425d6c69206b799ef3d10350a2c"), looks := false }, kinds := [], alts := [], laidByText := true, laidKinds := [.data], laidTests := true, laidLooks := .later }
def BloomMembersCardSaid : Prop := Claim7.holds Tryd.pinned (.plain (OpenSpec.ofChange bloomMembersSpec)) bloomMembersCard

/-- THE TIED CARD OF 'bedrocklaw12.BloomSizes'. -/
def bloomSizesCard : Claim7 := { stood := { row := bloomSizesRow, standIns := [], harness := (true, "455be64f03f901f33bffb88320d2152107f3d425d6c69206b799ef3d10350a2c"), looks := false }, kinds := [], alts := [], laidByText := true, laidKinds := [.data], laidTests := true, laidLooks := .later }
def BloomSizesCardSaid : Prop := Claim7.holds Tryd.pinned (.plain (OpenSpec.ofChange bloomSizesSpec)) bloomSizesCard

/-- THE TIED CARD OF 'bedrocklaw12.BloomEmpty'. -/
def bloomEmptyCard : Claim7 := { stood := { row := bloomEmptyRow, standIns := [], harness := (true, "455be64f03f901f33bffb88320d2152107f3d425d6c69206b799ef3d10350a2c"), looks := false }, kinds := [], alts := [], laidByText := true, laidKinds := [.data], laidTests := true, laidLooks := .later }
def BloomEmptyCardSaid : Prop := Claim7.holds Tryd.pinned (.plain (OpenSpec.ofChange bloomEmptySpec)) bloomEmptyCard

/-- THE SECOND FORM's CARD OF 'bedrocklaw12.BloomTells'. -/
def bloomTellsUptoCard : Claim7 := { stood := { row := bloomTellsUptoRow, standIns := [], harness := (true, "455be64f03f901f33bffb88320d2152107f3d425d6c69206b799ef3d10350a2c"), looks := false }, kinds := [], alts := [], laidByText := true, laidKinds := [.data], laidTests := true, laidLooks := .later }
def BloomTellsUptoCardSaid : Prop := Claim7.holds Tryd.pinned (.plain (OpenSpec.upto bloomTellsSpec)) bloomTellsUptoCard

/-- THE SECOND FORM's CARD OF 'bedrocklaw12.BloomMembers'. -/
def bloomMembersUptoCard : Claim7 := { stood := { row := bloomMembersUptoRow, standIns := [], harness := (true, "455be64f03f901f33bffb88320d2152107f3d425d6c69206b799ef3d10350a2c"), looks := false }, kinds := [], alts := [], laidByText := true, laidKinds := [.data], laidTests := true, laidLooks := .later }
def BloomMembersUptoCardSaid : Prop := Claim7.holds Tryd.pinned (.plain (OpenSpec.upto bloomMembersSpec)) bloomMembersUptoCard

/-- THE SECOND FORM's CARD OF 'bedrocklaw12.BloomSizes'. -/
def bloomSizesUptoCard : Claim7 := { stood := { row := bloomSizesUptoRow, standIns := [], harness := (true, "455be64f03f901f33bffb88320d2152107f3d425d6c69206b799ef3d10350a2c"), looks := false }, kinds := [], alts := [], laidByText := true, laidKinds := [.data], laidTests := true, laidLooks := .later }
def BloomSizesUptoCardSaid : Prop := Claim7.holds Tryd.pinned (.plain (OpenSpec.upto bloomSizesSpec)) bloomSizesUptoCard

/-- THE SECOND FORM's CARD OF 'bedrocklaw12.BloomEmpty'. -/
def bloomEmptyUptoCard : Claim7 := { stood := { row := bloomEmptyUptoRow, standIns := [], harness := (true, "455be64f03f901f33bffb88320d2152107f3d425d6c69206b799ef3d10350a2c"), looks := false }, kinds := [], alts := [], laidByText := true, laidKinds := [.data], laidTests := true, laidLooks := .later }
def BloomEmptyUptoCardSaid : Prop := Claim7.holds Tryd.pinned (.plain (OpenSpec.upto bloomEmptySpec)) bloomEmptyUptoCard
end Rows
end Go.Proofs.YtgiodfpkkdaflaaDoor
