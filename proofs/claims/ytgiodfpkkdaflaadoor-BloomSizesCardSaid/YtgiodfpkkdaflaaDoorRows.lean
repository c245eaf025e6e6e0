/-
  NARROWER THAN 'FOR EVERY INPUT', by the rows' own cells (each row's printed sentence says how): BloomTells: laid · BloomMembers: laid · BloomSizes: laid · BloomEmpty: laid.
  DERIVED. THE GIVEN ROWS OF THIS SEAT. 4 by the template 'for every input the law returns true; each argument reads behind the call as it read before'; 0 by the template 'total and deterministic' (their statements: YtgiodfpkkdaflaaDoorTotals.lean).
  GIVEN WITH THE SEED: the statements are not yours to turn. If you find one false, say at which input.
  Laid BY PROGRAM, IN A SANDBOX (cutbox-rows.mjs): the forced cells as the released guide's own fill.sh prints them over the translation 758bcbde7d8bf86f… (all of the seat's roots in one cut). By AI agents, Wed Nov 11 2026. No macro, syntax, notation, axiom, sorry.
-/
import Derived.Test.YtgiodfpkkdaflaaDoorChecked
import GoSem.Claim
import GoSem.ClaimJoined
import GoSem.ClaimMapViews
import Derived.JoinedTies
import Derived.KernelRfl
namespace Go.Proofs.YtgiodfpkkdaflaaDoor
/- THE CELL 'sum', in the pinned program and in every row, IS THE sha256 OF THE DUMP (.gsa) THAT YtgiodfpkkdaflaaDoorProg.lean LOADS. Nothing in Lean hashes anything: it is a label: what it is worth is what the hold of that sum in a sandbox is worth. -/
noncomputable def Tryd.pinned : Pinned := { name := "ytgiodfpkkdaflaadoor", sum := "758bcbde7d8bf86f03ab43ea1fb031129cae9b453be3839f3b4c9b11cfbf970f", checked := Tryd.checked }
namespace Rows
def none {H : Type} : Left H := { results := [], args := [] }

/- WHAT THE LISTED PACKAGE-LEVEL VARIABLES READ AS WHEN THE CALL BEGINS. Each datum BY PROGRAM (the guide's laid-datum.mjs) off the statement by which the dump's own 'gosem.cut.vars' lays the variable. In a bare row this is a premise. The card (YtgiodfpkkdaflaaDoorCards.lean) ties it to the program's text. -/
def laid_bedrock_raw_halves {H : Type} : DataW H := .agg [.lit (.int .u32 0), .lit (.int .u32 274646895), .lit (.int .u32 549293790), .lit (.int .u32 820201905), .lit (.int .u32 1098587580), .lit (.int .u32 1361435347), .lit (.int .u32 1640403810), .lit (.int .u32 1905808397), .lit (.int .u32 2197175160), .lit (.int .u32 2460548119), .lit (.int .u32 2722870694), .lit (.int .u32 2987750089), .lit (.int .u32 3280807620), .lit (.int .u32 3553878443), .lit (.int .u32 3811616794), .lit (.int .u32 4084100981)]

/-- 'bedrocklaw12.BloomTells': WHATEVER THE INPUT: true; the input reads as it did. -/
def bloomTellsSpec : ChangeSpec := { name := "bloomTells", fn := fun _ => fun
  | [d1, d2, d3, d4, d5, d6] => { results := [.lit (.bool true)], args := [d1, d2, d3, d4, d5, d6] }
  | _ => none }
def bloomTellsRow : OpenClaim := { program := "ytgiodfpkkdaflaadoor", sum := "758bcbde7d8bf86f03ab43ea1fb031129cae9b453be3839f3b4c9b11cfbf970f", func := "bedrock/bedrocklaw12.BloomTells", spec := "bloomTells", inPlace := ["math.archFloor", "math.Float64bits", "math.Float64frombits", "math.archTrunc", "math.archCeil"], unfollowed := true, recurses := true, named := ["bedrock/raw.halves"], apart := false, laid := [("bedrock/raw.halves", laid_bedrock_raw_halves)] }
def BloomTellsSaid : Prop := bloomTellsRow.holds Tryd.pinned (OpenSpec.ofChange bloomTellsSpec)

/-- ITS FALSE NEIGHBOUR: 'it returns false'. Refute it at one input. -/
def bloomTellsWrong : ChangeSpec := { name := "bloomTells", fn := fun _ => fun
  | [d1, d2, d3, d4, d5, d6] => { results := [.lit (.bool false)], args := [d1, d2, d3, d4, d5, d6] }
  | _ => none }
def BloomTellsWrongFalsely : Prop := bloomTellsRow.holds Tryd.pinned (OpenSpec.ofChange bloomTellsWrong)

/-- 'bedrocklaw12.BloomMembers': WHATEVER THE INPUT: true; the input reads as it did. -/
def bloomMembersSpec : ChangeSpec := { name := "bloomMembers", fn := fun _ => fun
  | [d1, d2] => { results := [.lit (.bool true)], args := [d1, d2] }
  | _ => none }
def bloomMembersRow : OpenClaim := { program := "ytgiodfpkkdaflaadoor", sum := "758bcbde7d8bf86f03ab43ea1fb031129cae9b453be3839f3b4c9b11cfbf970f", func := "bedrock/bedrocklaw12.BloomMembers", spec := "bloomMembers", inPlace := ["math.archFloor", "math.Float64bits", "math.Float64frombits", "math.archTrunc", "math.archCeil"], unfollowed := true, recurses := true, named := ["bedrock/raw.halves"], apart := false, laid := [("bedrock/raw.halves", laid_bedrock_raw_halves)] }
def BloomMembersSaid : Prop := bloomMembersRow.holds Tryd.pinned (OpenSpec.ofChange bloomMembersSpec)

/-- ITS FALSE NEIGHBOUR: 'it returns false'. Refute it at one input. -/
def bloomMembersWrong : ChangeSpec := { name := "bloomMembers", fn := fun _ => fun
  | [d1, d2] => { results := [.lit (.bool false)], args := [d1, d2] }
  | _ => none }
def BloomMembersWrongFalsely : Prop := bloomMembersRow.holds Tryd.pinned (OpenSpec.ofChange bloomMembersWrong)

/-- 'bedrocklaw12.BloomSizes': WHATEVER THE INPUT: true; the input reads as it did. -/
def bloomSizesSpec : ChangeSpec := { name := "bloomSizes", fn := fun _ => fun
  | [d1, d2, d3, d4] => { results := [.lit (.bool true)], args := [d1, d2, d3, d4] }
  | _ => none }
def bloomSizesRow : OpenClaim := { program := "ytgiodfpkkdaflaadoor", sum := "758bcbde7d8bf86f03ab43ea1fb031129cae9b453be3839f3b4c9b11cfbf970f", func := "bedrock/bedrocklaw12.BloomSizes", spec := "bloomSizes", inPlace := ["math.archCeil", "math.archFloor", "math.Float64bits", "math.Float64frombits", "math.archTrunc"], unfollowed := true, recurses := true, named := ["bedrock/raw.halves"], apart := false, laid := [("bedrock/raw.halves", laid_bedrock_raw_halves)] }
def BloomSizesSaid : Prop := bloomSizesRow.holds Tryd.pinned (OpenSpec.ofChange bloomSizesSpec)

/-- ITS FALSE NEIGHBOUR: 'it returns false'. Refute it at one input. -/
def bloomSizesWrong : ChangeSpec := { name := "bloomSizes", fn := fun _ => fun
  | [d1, d2, d3, d4] => { results := [.lit (.bool false)], args := [d1, d2, d3, d4] }
  | _ => none }
def BloomSizesWrongFalsely : Prop := bloomSizesRow.holds Tryd.pinned (OpenSpec.ofChange bloomSizesWrong)

/-- 'bedrocklaw12.BloomEmpty': WHATEVER THE INPUT: true; the input reads as it did. -/
def bloomEmptySpec : ChangeSpec := { name := "bloomEmpty", fn := fun _ => fun
  | [d1, d2, d3] => { results := [.lit (.bool true)], args := [d1, d2, d3] }
  | _ => none }
def bloomEmptyRow : OpenClaim := { program := "ytgiodfpkkdaflaadoor", sum := "758bcbde7d8bf86f03ab43ea1fb031129cae9b453be3839f3b4c9b11cfbf970f", func := "bedrock/bedrocklaw12.BloomEmpty", spec := "bloomEmpty", inPlace := ["math.archFloor", "math.Float64bits", "math.Float64frombits", "math.archTrunc", "math.archCeil"], unfollowed := true, recurses := true, named := ["bedrock/raw.halves"], apart := false, laid := [("bedrock/raw.halves", laid_bedrock_raw_halves)] }
def BloomEmptySaid : Prop := bloomEmptyRow.holds Tryd.pinned (OpenSpec.ofChange bloomEmptySpec)

/-- ITS FALSE NEIGHBOUR: 'it returns false'. Refute it at one input. -/
def bloomEmptyWrong : ChangeSpec := { name := "bloomEmpty", fn := fun _ => fun
  | [d1, d2, d3] => { results := [.lit (.bool false)], args := [d1, d2, d3] }
  | _ => none }
def BloomEmptyWrongFalsely : Prop := bloomEmptyRow.holds Tryd.pinned (OpenSpec.ofChange bloomEmptyWrong)

/- THE SECOND FORM. 'bulk': how many values and letters a reading holds, each counted each time it is reached (what is shared counts as often as it is met; a slice's spare places count too). A statement '..UptoSaid' is the law's where the arguments, and the package variables that the reading takes, are together of bulk at most 1048576: NARROWER than '..Said'. Prove '..Said' where nothing that the law and all that it calls make is longer than what came in: it says more and counts as full. Else prove '..UptoSaid'. A law counts once. -/
mutual
def uptoBulk {H : Type} : DataW H → Nat
  | .lit (.string bytes) => bytes.length + 1
  | .lit _ => 1
  | .nil => 1
  | .ptr d => uptoBulk d + 1
  | .slice elems spare => uptoBulkAll elems + uptoBulkAll spare + 1
  | .agg parts => uptoBulkAll parts + 1
  | .iface _ d => uptoBulk d + 1
  | .map entries => uptoBulkEntries entries + 1
  | .held _ => 1
def uptoBulkAll {H : Type} : List (DataW H) → Nat
  | [] => 0
  | d :: r => uptoBulk d + uptoBulkAll r
def uptoBulkEntries {H : Type} : List (Lit × DataW H) → Nat
  | [] => 0
  | x :: r => uptoBulkEntry x + uptoBulkEntries r
def uptoBulkEntry {H : Type} : Lit × DataW H → Nat
  | (.string bytes, d) => bytes.length + uptoBulk d + 1
  | (_, d) => uptoBulk d + 1
 end
def uptoSmall : (H : Type) → List (DataW H) → Bool := fun _ ds => decide (uptoBulkAll ds ≤ 1048576)
def OpenSpec.upto (s : _root_.Go.ChangeSpec) : _root_.Go.OpenSpec := { _root_.Go.OpenSpec.ofChange s with cond := some uptoSmall }

/-- 'bedrocklaw12.BloomTells', WHERE WHAT IT READS IS OF BULK AT MOST 1048576: true; the input reads as it did. -/
def bloomTellsUptoRow : OpenClaim := { program := "ytgiodfpkkdaflaadoor", sum := "758bcbde7d8bf86f03ab43ea1fb031129cae9b453be3839f3b4c9b11cfbf970f", func := "bedrock/bedrocklaw12.BloomTells", spec := "bloomTells", inPlace := ["math.archFloor", "math.Float64bits", "math.Float64frombits", "math.archTrunc", "math.archCeil"], unfollowed := true, recurses := true, named := ["bedrock/raw.halves"], apart := false, laid := [("bedrock/raw.halves", laid_bedrock_raw_halves)], narrowed := true }
def BloomTellsUptoSaid : Prop := bloomTellsUptoRow.holds Tryd.pinned (OpenSpec.upto bloomTellsSpec)

/-- 'bedrocklaw12.BloomMembers', WHERE WHAT IT READS IS OF BULK AT MOST 1048576: true; the input reads as it did. -/
def bloomMembersUptoRow : OpenClaim := { program := "ytgiodfpkkdaflaadoor", sum := "758bcbde7d8bf86f03ab43ea1fb031129cae9b453be3839f3b4c9b11cfbf970f", func := "bedrock/bedrocklaw12.BloomMembers", spec := "bloomMembers", inPlace := ["math.archFloor", "math.Float64bits", "math.Float64frombits", "math.archTrunc", "math.archCeil"], unfollowed := true, recurses := true, named := ["bedrock/raw.halves"], apart := false, laid := [("bedrock/raw.halves", laid_bedrock_raw_halves)], narrowed := true }
def BloomMembersUptoSaid : Prop := bloomMembersUptoRow.holds Tryd.pinned (OpenSpec.upto bloomMembersSpec)

/-- 'bedrocklaw12.BloomSizes', WHERE WHAT IT READS IS OF BULK AT MOST 1048576: true; the input reads as it did. -/
def bloomSizesUptoRow : OpenClaim := { program := "ytgiodfpkkdaflaadoor", sum := "758bcbde7d8bf86f03ab43ea1fb031129cae9b453be3839f3b4c9b11cfbf970f", func := "bedrock/bedrocklaw12.BloomSizes", spec := "bloomSizes", inPlace := ["math.archCeil", "math.archFloor", "math.Float64bits", "math.Float64frombits", "math.archTrunc"], unfollowed := true, recurses := true, named := ["bedrock/raw.halves"], apart := false, laid := [("bedrock/raw.halves", laid_bedrock_raw_halves)], narrowed := true }
def BloomSizesUptoSaid : Prop := bloomSizesUptoRow.holds Tryd.pinned (OpenSpec.upto bloomSizesSpec)

/-- 'bedrocklaw12.BloomEmpty', WHERE WHAT IT READS IS OF BULK AT MOST 1048576: true; the input reads as it did. -/
def bloomEmptyUptoRow : OpenClaim := { program := "ytgiodfpkkdaflaadoor", sum := "758bcbde7d8bf86f03ab43ea1fb031129cae9b453be3839f3b4c9b11cfbf970f", func := "bedrock/bedrocklaw12.BloomEmpty", spec := "bloomEmpty", inPlace := ["math.archFloor", "math.Float64bits", "math.Float64frombits", "math.archTrunc", "math.archCeil"], unfollowed := true, recurses := true, named := ["bedrock/raw.halves"], apart := false, laid := [("bedrock/raw.halves", laid_bedrock_raw_halves)], narrowed := true }
def BloomEmptyUptoSaid : Prop := bloomEmptyUptoRow.holds Tryd.pinned (OpenSpec.upto bloomEmptySpec)

end Rows
end Go.Proofs.YtgiodfpkkdaflaaDoor
