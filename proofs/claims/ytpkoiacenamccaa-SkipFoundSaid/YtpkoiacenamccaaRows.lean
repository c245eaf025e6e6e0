/-
  No cell of these rows narrows 'for every input' (looked for: loops, veiled, ifaces, maps, wideKeys, modest, calm, conditions, laid).
  DERIVED. THE GIVEN ROWS OF THIS SEAT. 5 by the template 'for every input the law returns true; each argument reads behind the call as it read before'; 0 by the template 'total and deterministic' (their statements: YtpkoiacenamccaaTotals.lean).
  GIVEN WITH THE SEED: the statements are not yours to turn. If you find one false, say at which input.
  Laid BY PROGRAM, IN A SANDBOX (cutbox-rows.mjs): the forced cells as the released guide's own fill.sh prints them over the translation 15f5cafb5a817e0c… (all of the seat's roots in one cut). By AI agents, Wed Nov 11 2026. No macro, syntax, notation, axiom, sorry.
-/
import Derived.Test.YtpkoiacenamccaaChecked
import GoSem.Claim
import GoSem.ClaimJoined
import GoSem.ClaimMapViews
import Derived.JoinedTies
import Derived.KernelRfl
namespace Go.Proofs.Ytpkoiacenamccaa
/- THE CELL 'sum', in the pinned program and in every row, IS THE sha256 OF THE DUMP (.gsa) THAT YtpkoiacenamccaaProg.lean LOADS. Nothing in Lean hashes anything: it is a label: what it is worth is what the hold of that sum in a sandbox is worth. -/
noncomputable def Try.pinned : Pinned := { name := "ytpkoiacenamccaa", sum := "15f5cafb5a817e0ce0358aad4f0bc728a9041ef33ebdec8e4846f98ed75e8230", checked := Try.checked }
namespace Rows
def none {H : Type} : Left H := { results := [], args := [] }

/-- 'bedrocklaw10.SkipNone': WHATEVER THE INPUT: true; the input reads as it did. -/
def skipNoneSpec : ChangeSpec := { name := "skipNone", fn := fun _ => fun
  | [d1, d2] => { results := [.lit (.bool true)], args := [d1, d2] }
  | _ => none }
def skipNoneRow : OpenClaim := { program := "ytpkoiacenamccaa", sum := "15f5cafb5a817e0ce0358aad4f0bc728a9041ef33ebdec8e4846f98ed75e8230", func := "bedrock/bedrocklaw10.SkipNone", spec := "skipNone", inPlace := ["internal/bytealg.abigen_runtime_cmpstring"], unfollowed := true, recurses := true, apart := false }
def SkipNoneSaid : Prop := skipNoneRow.holds Try.pinned (OpenSpec.ofChange skipNoneSpec)

/-- ITS FALSE NEIGHBOUR: 'it returns false'. Refute it at one input. -/
def skipNoneWrong : ChangeSpec := { name := "skipNone", fn := fun _ => fun
  | [d1, d2] => { results := [.lit (.bool false)], args := [d1, d2] }
  | _ => none }
def SkipNoneWrongFalsely : Prop := skipNoneRow.holds Try.pinned (OpenSpec.ofChange skipNoneWrong)

/-- 'bedrocklaw10.SkipHeights': WHATEVER THE INPUT: true; the input reads as it did. -/
def skipHeightsSpec : ChangeSpec := { name := "skipHeights", fn := fun _ => fun
  | [d1, d2, d3] => { results := [.lit (.bool true)], args := [d1, d2, d3] }
  | _ => none }
def skipHeightsRow : OpenClaim := { program := "ytpkoiacenamccaa", sum := "15f5cafb5a817e0ce0358aad4f0bc728a9041ef33ebdec8e4846f98ed75e8230", func := "bedrock/bedrocklaw10.SkipHeights", spec := "skipHeights", inPlace := ["internal/bytealg.abigen_runtime_cmpstring"], unfollowed := true, recurses := true, apart := false }
def SkipHeightsSaid : Prop := skipHeightsRow.holds Try.pinned (OpenSpec.ofChange skipHeightsSpec)

/-- ITS FALSE NEIGHBOUR: 'it returns false'. Refute it at one input. -/
def skipHeightsWrong : ChangeSpec := { name := "skipHeights", fn := fun _ => fun
  | [d1, d2, d3] => { results := [.lit (.bool false)], args := [d1, d2, d3] }
  | _ => none }
def SkipHeightsWrongFalsely : Prop := skipHeightsRow.holds Try.pinned (OpenSpec.ofChange skipHeightsWrong)

/-- 'bedrocklaw10.SkipFound': WHATEVER THE INPUT: true; the input reads as it did. -/
def skipFoundSpec : ChangeSpec := { name := "skipFound", fn := fun _ => fun
  | [d1, d2] => { results := [.lit (.bool true)], args := [d1, d2] }
  | _ => none }
def skipFoundRow : OpenClaim := { program := "ytpkoiacenamccaa", sum := "15f5cafb5a817e0ce0358aad4f0bc728a9041ef33ebdec8e4846f98ed75e8230", func := "bedrock/bedrocklaw10.SkipFound", spec := "skipFound", inPlace := ["internal/bytealg.abigen_runtime_cmpstring"], unfollowed := true, recurses := true, apart := false }
def SkipFoundSaid : Prop := skipFoundRow.holds Try.pinned (OpenSpec.ofChange skipFoundSpec)

/-- ITS FALSE NEIGHBOUR: 'it returns false'. Refute it at one input. -/
def skipFoundWrong : ChangeSpec := { name := "skipFound", fn := fun _ => fun
  | [d1, d2] => { results := [.lit (.bool false)], args := [d1, d2] }
  | _ => none }
def SkipFoundWrongFalsely : Prop := skipFoundRow.holds Try.pinned (OpenSpec.ofChange skipFoundWrong)

/-- 'bedrocklaw10.SkipLanes': WHATEVER THE INPUT: true; the input reads as it did. -/
def skipLanesSpec : ChangeSpec := { name := "skipLanes", fn := fun _ => fun
  | [d1, d2] => { results := [.lit (.bool true)], args := [d1, d2] }
  | _ => none }
def skipLanesRow : OpenClaim := { program := "ytpkoiacenamccaa", sum := "15f5cafb5a817e0ce0358aad4f0bc728a9041ef33ebdec8e4846f98ed75e8230", func := "bedrock/bedrocklaw10.SkipLanes", spec := "skipLanes", inPlace := ["internal/bytealg.abigen_runtime_cmpstring"], unfollowed := true, recurses := true, apart := false }
def SkipLanesSaid : Prop := skipLanesRow.holds Try.pinned (OpenSpec.ofChange skipLanesSpec)

/-- ITS FALSE NEIGHBOUR: 'it returns false'. Refute it at one input. -/
def skipLanesWrong : ChangeSpec := { name := "skipLanes", fn := fun _ => fun
  | [d1, d2] => { results := [.lit (.bool false)], args := [d1, d2] }
  | _ => none }
def SkipLanesWrongFalsely : Prop := skipLanesRow.holds Try.pinned (OpenSpec.ofChange skipLanesWrong)

/-- 'bedrocklaw10.SkipFrozen': WHATEVER THE INPUT: true; the input reads as it did. -/
def skipFrozenSpec : ChangeSpec := { name := "skipFrozen", fn := fun _ => fun
  | [d1, d2] => { results := [.lit (.bool true)], args := [d1, d2] }
  | _ => none }
def skipFrozenRow : OpenClaim := { program := "ytpkoiacenamccaa", sum := "15f5cafb5a817e0ce0358aad4f0bc728a9041ef33ebdec8e4846f98ed75e8230", func := "bedrock/bedrocklaw10.SkipFrozen", spec := "skipFrozen", inPlace := ["internal/bytealg.abigen_runtime_cmpstring"], unfollowed := true, recurses := true, apart := false }
def SkipFrozenSaid : Prop := skipFrozenRow.holds Try.pinned (OpenSpec.ofChange skipFrozenSpec)

/-- ITS FALSE NEIGHBOUR: 'it returns false'. Refute it at one input. -/
def skipFrozenWrong : ChangeSpec := { name := "skipFrozen", fn := fun _ => fun
  | [d1, d2] => { results := [.lit (.bool false)], args := [d1, d2] }
  | _ => none }
def SkipFrozenWrongFalsely : Prop := skipFrozenRow.holds Try.pinned (OpenSpec.ofChange skipFrozenWrong)

/- THE SECOND FORM. 'bulk': how many values and letters a reading holds, each counted each time it is reached (what is shared counts as often as it is met; a slice's spare places count too). A statement '..UptoSaid' is the law's where the arguments, and the package variables that the reading takes, are together of bulk at most 1048576: NARROWER than '..Said'. Prove '..Said' where nothing that the law and all that it calls make is longer than what came in: it says more and counts as full. Else prove '..UptoSaid'. A law counts once. -/
mutual
def uptoBulk {H : Type} : DataW H → Nat
  | .lit (.string bytes) => bytes.length + 1
  | .lit _ => 1
  | .nil => 1
  | .ptr d => uptoBulk d + 1
  | .slice elems spare => uptoBulkAll elems + uptoBulkAll spare + 1
  | .agg parts => uptoBulkAll parts + 1
  | .iface _ d => uptoBulk d + 1
  | .map entries => uptoBulkEntries entries + 1
  | .held _ => 1
def uptoBulkAll {H : Type} : List (DataW H) → Nat
  | [] => 0
  | d :: r => uptoBulk d + uptoBulkAll r
def uptoBulkEntries {H : Type} : List (Lit × DataW H) → Nat
  | [] => 0
  | x :: r => uptoBulkEntry x + uptoBulkEntries r
def uptoBulkEntry {H : Type} : Lit × DataW H → Nat
  | (.string bytes, d) => bytes.length + uptoBulk d + 1
  | (_, d) => uptoBulk d + 1
 end
def uptoSmall : (H : Type) → List (DataW H) → Bool := fun _ ds => decide (uptoBulkAll ds ≤ 1048576)
def OpenSpec.upto (s : _root_.Go.ChangeSpec) : _root_.Go.OpenSpec := { _root_.Go.OpenSpec.ofChange s with cond := some uptoSmall }

/-- 'bedrocklaw10.SkipNone', WHERE WHAT IT READS IS OF BULK AT MOST 1048576: true; the input reads as it did. -/
def skipNoneUptoRow : OpenClaim := { program := "ytpkoiacenamccaa", sum := "15f5cafb5a817e0ce0358aad4f0bc728a9041ef33ebdec8e4846f98ed75e8230", func := "bedrock/bedrocklaw10.SkipNone", spec := "skipNone", inPlace := ["internal/bytealg.abigen_runtime_cmpstring"], unfollowed := true, recurses := true, apart := false, narrowed := true }
def SkipNoneUptoSaid : Prop := skipNoneUptoRow.holds Try.pinned (OpenSpec.upto skipNoneSpec)

/-- 'bedrocklaw10.SkipHeights', WHERE WHAT IT READS IS OF BULK AT MOST 1048576: true; the input reads as it did. -/
def skipHeightsUptoRow : OpenClaim := { program := "ytpkoiacenamccaa", sum := "15f5cafb5a817e0ce0358aad4f0bc728a9041ef33ebdec8e4846f98ed75e8230", func := "bedrock/bedrocklaw10.SkipHeights", spec := "skipHeights", inPlace := ["internal/bytealg.abigen_runtime_cmpstring"], unfollowed := true, recurses := true, apart := false, narrowed := true }
def SkipHeightsUptoSaid : Prop := skipHeightsUptoRow.holds Try.pinned (OpenSpec.upto skipHeightsSpec)

/-- 'bedrocklaw10.SkipFound', WHERE WHAT IT READS IS OF BULK AT MOST 1048576: true; the input reads as it did. -/
def skipFoundUptoRow : OpenClaim := { program := "ytpkoiacenamccaa", sum := "15f5cafb5a817e0ce0358aad4f0bc728a9041ef33ebdec8e4846f98ed75e8230", func := "bedrock/bedrocklaw10.SkipFound", spec := "skipFound", inPlace := ["internal/bytealg.abigen_runtime_cmpstring"], unfollowed := true, recurses := true, apart := false, narrowed := true }
def SkipFoundUptoSaid : Prop := skipFoundUptoRow.holds Try.pinned (OpenSpec.upto skipFoundSpec)

/-- 'bedrocklaw10.SkipLanes', WHERE WHAT IT READS IS OF BULK AT MOST 1048576: true; the input reads as it did. -/
def skipLanesUptoRow : OpenClaim := { program := "ytpkoiacenamccaa", sum := "15f5cafb5a817e0ce0358aad4f0bc728a9041ef33ebdec8e4846f98ed75e8230", func := "bedrock/bedrocklaw10.SkipLanes", spec := "skipLanes", inPlace := ["internal/bytealg.abigen_runtime_cmpstring"], unfollowed := true, recurses := true, apart := false, narrowed := true }
def SkipLanesUptoSaid : Prop := skipLanesUptoRow.holds Try.pinned (OpenSpec.upto skipLanesSpec)

/-- 'bedrocklaw10.SkipFrozen', WHERE WHAT IT READS IS OF BULK AT MOST 1048576: true; the input reads as it did. -/
def skipFrozenUptoRow : OpenClaim := { program := "ytpkoiacenamccaa", sum := "15f5cafb5a817e0ce0358aad4f0bc728a9041ef33ebdec8e4846f98ed75e8230", func := "bedrock/bedrocklaw10.SkipFrozen", spec := "skipFrozen", inPlace := ["internal/bytealg.abigen_runtime_cmpstring"], unfollowed := true, recurses := true, apart := false, narrowed := true }
def SkipFrozenUptoSaid : Prop := skipFrozenUptoRow.holds Try.pinned (OpenSpec.upto skipFrozenSpec)

end Rows
end Go.Proofs.Ytpkoiacenamccaa
