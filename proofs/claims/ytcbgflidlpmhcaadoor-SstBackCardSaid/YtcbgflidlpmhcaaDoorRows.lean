/-
  NARROWER THAN 'FOR EVERY INPUT', by the rows' own cells (each row's printed sentence says how): SstBack: laid · SstBytes: laid · SstNone: laid · SstAlike: laid.
  DERIVED. THE GIVEN ROWS OF THIS SEAT. 4 by the template 'for every input the law returns true; each argument reads behind the call as it read before'; 0 by the template 'total and deterministic' (their statements: YtcbgflidlpmhcaaDoorTotals.lean).
  GIVEN WITH THE SEED: the statements are not yours to turn. If you find one false, say at which input.
  Laid BY PROGRAM, IN A SANDBOX (cutbox-rows.mjs): the forced cells as the released guide's own fill.sh prints them over the translation e074a1fd39bdaf4b… (all of the seat's roots in one cut). By AI agents, Wed Nov 11 2026. No macro, syntax, notation, axiom, sorry.
-/
import Derived.Test.YtcbgflidlpmhcaaDoorChecked
import GoSem.Claim
import GoSem.ClaimJoined
import GoSem.ClaimMapViews
import Derived.JoinedTies
import Derived.KernelRfl
namespace Go.Proofs.YtcbgflidlpmhcaaDoor
/- THE CELL 'sum', in the pinned program and in every row, IS THE sha256 OF THE DUMP (.gsa) THAT YtcbgflidlpmhcaaDoorProg.lean LOADS. Nothing in Lean hashes anything: it is a label: what it is worth is what the hold of that sum in a sandbox is worth. -/
noncomputable def Tryd.pinned : Pinned := { name := "ytcbgflidlpmhcaadoor", sum := "e074a1fd39bdaf4bbd65635facb6f628ba51f20124b82d755d1ed0b743421309", checked := Tryd.checked }
namespace Rows
def none {H : Type} : Left H := { results := [], args := [] }

/- WHAT THE LISTED PACKAGE-LEVEL VARIABLES READ AS WHEN THE CALL BEGINS. Each datum BY PROGRAM (the guide's laid-datum.mjs) off the statement by which the dump's own 'gosem.cut.vars' lays the variable. In a bare row this is a premise. The card (YtcbgflidlpmhcaaDoorCards.lean) ties it to the program's text. -/
def laid_bedrock_raw_halves {H : Type} : DataW H := .agg [.lit (.int .u32 0), .lit (.int .u32 274646895), .lit (.int .u32 549293790), .lit (.int .u32 820201905), .lit (.int .u32 1098587580), .lit (.int .u32 1361435347), .lit (.int .u32 1640403810), .lit (.int .u32 1905808397), .lit (.int .u32 2197175160), .lit (.int .u32 2460548119), .lit (.int .u32 2722870694), .lit (.int .u32 2987750089), .lit (.int .u32 3280807620), .lit (.int .u32 3553878443), .lit (.int .u32 3811616794), .lit (.int .u32 4084100981)]

/-- 'bedrocklaw13.SstBack': WHATEVER THE INPUT: true; the input reads as it did. -/
def sstBackSpec : ChangeSpec := { name := "sstBack", fn := fun _ => fun
  | [d1, d2, d3, d4, d5] => { results := [.lit (.bool true)], args := [d1, d2, d3, d4, d5] }
  | _ => none }
def sstBackRow : OpenClaim := { program := "ytcbgflidlpmhcaadoor", sum := "e074a1fd39bdaf4bbd65635facb6f628ba51f20124b82d755d1ed0b743421309", func := "bedrock/bedrocklaw13.SstBack", spec := "sstBack", inPlace := ["internal/bytealg.abigen_runtime_cmpstring", "internal/abi.NoEscape", "internal/bytealg.IndexByteString", "internal/bytealg.IndexString", "math.archFloor", "math.Float64bits", "math.Float64frombits", "math.archTrunc", "math.archCeil"], unfollowed := true, recurses := true, named := ["bedrock/raw.halves", "internal/bytealg.MaxLen"], apart := false, laid := [("bedrock/raw.halves", laid_bedrock_raw_halves)] }
def SstBackSaid : Prop := sstBackRow.holds Tryd.pinned (OpenSpec.ofChange sstBackSpec)

/-- ITS FALSE NEIGHBOUR: 'it returns false'. Refute it at one input. -/
def sstBackWrong : ChangeSpec := { name := "sstBack", fn := fun _ => fun
  | [d1, d2, d3, d4, d5] => { results := [.lit (.bool false)], args := [d1, d2, d3, d4, d5] }
  | _ => none }
def SstBackWrongFalsely : Prop := sstBackRow.holds Tryd.pinned (OpenSpec.ofChange sstBackWrong)

/-- 'bedrocklaw13.SstBytes': WHATEVER THE INPUT: true; the input reads as it did. -/
def sstBytesSpec : ChangeSpec := { name := "sstBytes", fn := fun _ => fun
  | [d1, d2, d3] => { results := [.lit (.bool true)], args := [d1, d2, d3] }
  | _ => none }
def sstBytesRow : OpenClaim := { program := "ytcbgflidlpmhcaadoor", sum := "e074a1fd39bdaf4bbd65635facb6f628ba51f20124b82d755d1ed0b743421309", func := "bedrock/bedrocklaw13.SstBytes", spec := "sstBytes", inPlace := ["internal/bytealg.abigen_runtime_cmpstring", "internal/abi.NoEscape", "internal/bytealg.IndexByteString", "internal/bytealg.IndexString", "math.archFloor", "math.Float64bits", "math.Float64frombits", "math.archTrunc", "math.archCeil"], unfollowed := true, recurses := true, named := ["bedrock/raw.halves", "internal/bytealg.MaxLen"], apart := false, laid := [("bedrock/raw.halves", laid_bedrock_raw_halves)] }
def SstBytesSaid : Prop := sstBytesRow.holds Tryd.pinned (OpenSpec.ofChange sstBytesSpec)

/-- ITS FALSE NEIGHBOUR: 'it returns false'. Refute it at one input. -/
def sstBytesWrong : ChangeSpec := { name := "sstBytes", fn := fun _ => fun
  | [d1, d2, d3] => { results := [.lit (.bool false)], args := [d1, d2, d3] }
  | _ => none }
def SstBytesWrongFalsely : Prop := sstBytesRow.holds Tryd.pinned (OpenSpec.ofChange sstBytesWrong)

/-- 'bedrocklaw13.SstNone': WHATEVER THE INPUT: true; the input reads as it did. -/
def sstNoneSpec : ChangeSpec := { name := "sstNone", fn := fun _ => fun
  | [d1, d2] => { results := [.lit (.bool true)], args := [d1, d2] }
  | _ => none }
def sstNoneRow : OpenClaim := { program := "ytcbgflidlpmhcaadoor", sum := "e074a1fd39bdaf4bbd65635facb6f628ba51f20124b82d755d1ed0b743421309", func := "bedrock/bedrocklaw13.SstNone", spec := "sstNone", inPlace := ["internal/bytealg.abigen_runtime_cmpstring", "internal/abi.NoEscape", "internal/bytealg.IndexByteString", "internal/bytealg.IndexString", "math.archFloor", "math.Float64bits", "math.Float64frombits", "math.archTrunc", "math.archCeil"], unfollowed := true, recurses := true, named := ["bedrock/raw.halves", "internal/bytealg.MaxLen"], apart := false, laid := [("bedrock/raw.halves", laid_bedrock_raw_halves)] }
def SstNoneSaid : Prop := sstNoneRow.holds Tryd.pinned (OpenSpec.ofChange sstNoneSpec)

/-- ITS FALSE NEIGHBOUR: 'it returns false'. Refute it at one input. -/
def sstNoneWrong : ChangeSpec := { name := "sstNone", fn := fun _ => fun
  | [d1, d2] => { results := [.lit (.bool false)], args := [d1, d2] }
  | _ => none }
def SstNoneWrongFalsely : Prop := sstNoneRow.holds Tryd.pinned (OpenSpec.ofChange sstNoneWrong)

/-- 'bedrocklaw13.SstAlike': WHATEVER THE INPUT: true; the input reads as it did. -/
def sstAlikeSpec : ChangeSpec := { name := "sstAlike", fn := fun _ => fun
  | [d1, d2, d3, d4] => { results := [.lit (.bool true)], args := [d1, d2, d3, d4] }
  | _ => none }
def sstAlikeRow : OpenClaim := { program := "ytcbgflidlpmhcaadoor", sum := "e074a1fd39bdaf4bbd65635facb6f628ba51f20124b82d755d1ed0b743421309", func := "bedrock/bedrocklaw13.SstAlike", spec := "sstAlike", inPlace := ["internal/bytealg.abigen_runtime_cmpstring", "internal/abi.NoEscape", "internal/bytealg.IndexByteString", "internal/bytealg.IndexString", "math.archFloor", "math.Float64bits", "math.Float64frombits", "math.archTrunc", "math.archCeil"], unfollowed := true, recurses := true, named := ["bedrock/raw.halves", "internal/bytealg.MaxLen"], apart := false, laid := [("bedrock/raw.halves", laid_bedrock_raw_halves)] }
def SstAlikeSaid : Prop := sstAlikeRow.holds Tryd.pinned (OpenSpec.ofChange sstAlikeSpec)

/-- ITS FALSE NEIGHBOUR: 'it returns false'. Refute it at one input. -/
def sstAlikeWrong : ChangeSpec := { name := "sstAlike", fn := fun _ => fun
  | [d1, d2, d3, d4] => { results := [.lit (.bool false)], args := [d1, d2, d3, d4] }
  | _ => none }
def SstAlikeWrongFalsely : Prop := sstAlikeRow.holds Tryd.pinned (OpenSpec.ofChange sstAlikeWrong)

/- THE SECOND FORM. 'bulk': how many values and letters a reading holds, each counted each time it is reached (what is shared counts as often as it is met; a slice's spare places count too). A statement '..UptoSaid' is the law's where the arguments, and the package variables that the reading takes, are together of bulk at most 1048576: NARROWER than '..Said'. Prove '..Said' where nothing that the law and all that it calls make is longer than what came in: it says more and counts as full. Else prove '..UptoSaid'. A law counts once. -/
mutual
def uptoBulk {H : Type} : DataW H → Nat
  | .lit (.string bytes) => bytes.length + 1
  | .lit _ => 1
  | .nil => 1
  | .ptr d => uptoBulk d + 1
  | .slice elems spare => uptoBulkAll elems + uptoBulkAll spare + 1
  | .agg parts => uptoBulkAll parts + 1
  | .iface _ d => uptoBulk d + 1
  | .map entries => uptoBulkEntries entries + 1
  | .held _ => 1
def uptoBulkAll {H : Type} : List (DataW H) → Nat
  | [] => 0
  | d :: r => uptoBulk d + uptoBulkAll r
def uptoBulkEntries {H : Type} : List (Lit × DataW H) → Nat
  | [] => 0
  | x :: r => uptoBulkEntry x + uptoBulkEntries r
def uptoBulkEntry {H : Type} : Lit × DataW H → Nat
  | (.string bytes, d) => bytes.length + uptoBulk d + 1
  | (_, d) => uptoBulk d + 1
 end
def uptoSmall : (H : Type) → List (DataW H) → Bool := fun _ ds => decide (uptoBulkAll ds ≤ 1048576)
def OpenSpec.upto (s : _root_.Go.ChangeSpec) : _root_.Go.OpenSpec := { _root_.Go.OpenSpec.ofChange s with cond := some uptoSmall }

/-- 'bedrocklaw13.SstBack', WHERE WHAT IT READS IS OF BULK AT MOST 1048576: true; the input reads as it did. -/
def sstBackUptoRow : OpenClaim := { program := "ytcbgflidlpmhcaadoor", sum := "e074a1fd39bdaf4bbd65635facb6f628ba51f20124b82d755d1ed0b743421309", func := "bedrock/bedrocklaw13.SstBack", spec := "sstBack", inPlace := ["internal/bytealg.abigen_runtime_cmpstring", "internal/abi.NoEscape", "internal/bytealg.IndexByteString", "internal/bytealg.IndexString", "math.archFloor", "math.Float64bits", "math.Float64frombits", "math.archTrunc", "math.archCeil"], unfollowed := true, recurses := true, named := ["bedrock/raw.halves", "internal/bytealg.MaxLen"], apart := false, laid := [("bedrock/raw.halves", laid_bedrock_raw_halves)], narrowed := true }
def SstBackUptoSaid : Prop := sstBackUptoRow.holds Tryd.pinned (OpenSpec.upto sstBackSpec)

/-- 'bedrocklaw13.SstBytes', WHERE WHAT IT READS IS OF BULK AT MOST 1048576: true; the input reads as it did. -/
def sstBytesUptoRow : OpenClaim := { program := "ytcbgflidlpmhcaadoor", sum := "e074a1fd39bdaf4bbd65635facb6f628ba51f20124b82d755d1ed0b743421309", func := "bedrock/bedrocklaw13.SstBytes", spec := "sstBytes", inPlace := ["internal/bytealg.abigen_runtime_cmpstring", "internal/abi.NoEscape", "internal/bytealg.IndexByteString", "internal/bytealg.IndexString", "math.archFloor", "math.Float64bits", "math.Float64frombits", "math.archTrunc", "math.archCeil"], unfollowed := true, recurses := true, named := ["bedrock/raw.halves", "internal/bytealg.MaxLen"], apart := false, laid := [("bedrock/raw.halves", laid_bedrock_raw_halves)], narrowed := true }
def SstBytesUptoSaid : Prop := sstBytesUptoRow.holds Tryd.pinned (OpenSpec.upto sstBytesSpec)

/-- 'bedrocklaw13.SstNone', WHERE WHAT IT READS IS OF BULK AT MOST 1048576: true; the input reads as it did. -/
def sstNoneUptoRow : OpenClaim := { program := "ytcbgflidlpmhcaadoor", sum := "e074a1fd39bdaf4bbd65635facb6f628ba51f20124b82d755d1ed0b743421309", func := "bedrock/bedrocklaw13.SstNone", spec := "sstNone", inPlace := ["internal/bytealg.abigen_runtime_cmpstring", "internal/abi.NoEscape", "internal/bytealg.IndexByteString", "internal/bytealg.IndexString", "math.archFloor", "math.Float64bits", "math.Float64frombits", "math.archTrunc", "math.archCeil"], unfollowed := true, recurses := true, named := ["bedrock/raw.halves", "internal/bytealg.MaxLen"], apart := false, laid := [("bedrock/raw.halves", laid_bedrock_raw_halves)], narrowed := true }
def SstNoneUptoSaid : Prop := sstNoneUptoRow.holds Tryd.pinned (OpenSpec.upto sstNoneSpec)

/-- 'bedrocklaw13.SstAlike', WHERE WHAT IT READS IS OF BULK AT MOST 1048576: true; the input reads as it did. -/
def sstAlikeUptoRow : OpenClaim := { program := "ytcbgflidlpmhcaadoor", sum := "e074a1fd39bdaf4bbd65635facb6f628ba51f20124b82d755d1ed0b743421309", func := "bedrock/bedrocklaw13.SstAlike", spec := "sstAlike", inPlace := ["internal/bytealg.abigen_runtime_cmpstring", "internal/abi.NoEscape", "internal/bytealg.IndexByteString", "internal/bytealg.IndexString", "math.archFloor", "math.Float64bits", "math.Float64frombits", "math.archTrunc", "math.archCeil"], unfollowed := true, recurses := true, named := ["bedrock/raw.halves", "internal/bytealg.MaxLen"], apart := false, laid := [("bedrock/raw.halves", laid_bedrock_raw_halves)], narrowed := true }
def SstAlikeUptoSaid : Prop := sstAlikeUptoRow.holds Tryd.pinned (OpenSpec.upto sstAlikeSpec)

end Rows
end Go.Proofs.YtcbgflidlpmhcaaDoor
