/-
  NARROWER THAN 'FOR EVERY INPUT', by the rows' own cells (each row's printed sentence says how): RawNumbers: laid · RawBytes: laid · RawVars: laid · RawQuoted: laid · RawBack: laid · RawChanged: laid · RawOrder: laid · RawShort: laid.
  DERIVED. THE GIVEN ROWS OF THIS SEAT. 8 by the template 'for every input the law returns true; each argument reads behind the call as it read before'; 0 by the template 'total and deterministic' (their statements: YtkjfhgaiakienaaDoorTotals.lean).
  GIVEN WITH THE SEED: the statements are not yours to turn. If you find one false, say at which input.
  Laid BY PROGRAM, IN A SANDBOX (cutbox-rows.mjs): the forced cells as the released guide's own fill.sh prints them over the translation 9a3e7766fead4c4f… (all of the seat's roots in one cut). By AI agents, Wed Nov 11 2026. No macro, syntax, notation, axiom, sorry.
-/
import Derived.Test.YtkjfhgaiakienaaDoorChecked
import GoSem.Claim
import GoSem.ClaimJoined
import GoSem.ClaimMapViews
import Derived.JoinedTies
import Derived.KernelRfl
namespace Go.Proofs.YtkjfhgaiakienaaDoor
/- THE CELL 'sum', in the pinned program and in every row, IS THE sha256 OF THE DUMP (.gsa) THAT YtkjfhgaiakienaaDoorProg.lean LOADS. Nothing in Lean hashes anything: it is a label: what it is worth is what the hold of that sum in a sandbox is worth. -/
noncomputable def Tryd.pinned : Pinned := { name := "ytkjfhgaiakienaadoor", sum := "9a3e7766fead4c4ff77b8a8ff5613756937312868ce26eff1140a633d9351983", checked := Tryd.checked }
namespace Rows
def none {H : Type} : Left H := { results := [], args := [] }

/- WHAT THE LISTED PACKAGE-LEVEL VARIABLES READ AS WHEN THE CALL BEGINS. Each datum BY PROGRAM (the guide's laid-datum.mjs) off the statement by which the dump's own 'gosem.cut.vars' lays the variable. In a bare row this is a premise. The card (YtkjfhgaiakienaaDoorCards.lean) ties it to the program's text. -/
def laid_math_bits_deBruijn32tab {H : Type} : DataW H := .agg [.lit (.int .u8 0), .lit (.int .u8 1), .lit (.int .u8 28), .lit (.int .u8 2), .lit (.int .u8 29), .lit (.int .u8 14), .lit (.int .u8 24), .lit (.int .u8 3), .lit (.int .u8 30), .lit (.int .u8 22), .lit (.int .u8 20), .lit (.int .u8 15), .lit (.int .u8 25), .lit (.int .u8 17), .lit (.int .u8 4), .lit (.int .u8 8), .lit (.int .u8 31), .lit (.int .u8 27), .lit (.int .u8 13), .lit (.int .u8 23), .lit (.int .u8 21), .lit (.int .u8 19), .lit (.int .u8 16), .lit (.int .u8 7), .lit (.int .u8 26), .lit (.int .u8 12), .lit (.int .u8 18), .lit (.int .u8 6), .lit (.int .u8 11), .lit (.int .u8 5), .lit (.int .u8 10), .lit (.int .u8 9)]
def laid_math_bits_deBruijn64tab {H : Type} : DataW H := .agg [.lit (.int .u8 0), .lit (.int .u8 1), .lit (.int .u8 56), .lit (.int .u8 2), .lit (.int .u8 57), .lit (.int .u8 49), .lit (.int .u8 28), .lit (.int .u8 3), .lit (.int .u8 61), .lit (.int .u8 58), .lit (.int .u8 42), .lit (.int .u8 50), .lit (.int .u8 38), .lit (.int .u8 29), .lit (.int .u8 17), .lit (.int .u8 4), .lit (.int .u8 62), .lit (.int .u8 47), .lit (.int .u8 59), .lit (.int .u8 36), .lit (.int .u8 45), .lit (.int .u8 43), .lit (.int .u8 51), .lit (.int .u8 22), .lit (.int .u8 53), .lit (.int .u8 39), .lit (.int .u8 33), .lit (.int .u8 30), .lit (.int .u8 24), .lit (.int .u8 18), .lit (.int .u8 12), .lit (.int .u8 5), .lit (.int .u8 63), .lit (.int .u8 55), .lit (.int .u8 48), .lit (.int .u8 27), .lit (.int .u8 60), .lit (.int .u8 41), .lit (.int .u8 37), .lit (.int .u8 16), .lit (.int .u8 46), .lit (.int .u8 35), .lit (.int .u8 44), .lit (.int .u8 21), .lit (.int .u8 52), .lit (.int .u8 32), .lit (.int .u8 23), .lit (.int .u8 11), .lit (.int .u8 54), .lit (.int .u8 26), .lit (.int .u8 40), .lit (.int .u8 15), .lit (.int .u8 34), .lit (.int .u8 20), .lit (.int .u8 31), .lit (.int .u8 10), .lit (.int .u8 25), .lit (.int .u8 14), .lit (.int .u8 19), .lit (.int .u8 9), .lit (.int .u8 13), .lit (.int .u8 8), .lit (.int .u8 7), .lit (.int .u8 6)]
def laid_internal_strconv_uint64pow10 {H : Type} : DataW H := .agg [.lit (.int .u64 1), .lit (.int .u64 10), .lit (.int .u64 100), .lit (.int .u64 1000), .lit (.int .u64 10000), .lit (.int .u64 100000), .lit (.int .u64 1000000), .lit (.int .u64 10000000), .lit (.int .u64 100000000), .lit (.int .u64 1000000000), .lit (.int .u64 10000000000), .lit (.int .u64 100000000000), .lit (.int .u64 1000000000000), .lit (.int .u64 10000000000000), .lit (.int .u64 100000000000000), .lit (.int .u64 1000000000000000), .lit (.int .u64 10000000000000000), .lit (.int .u64 100000000000000000), .lit (.int .u64 1000000000000000000), .lit (.int .u64 10000000000000000000)]
def laid_bedrock_raw_halves {H : Type} : DataW H := .agg [.lit (.int .u32 0), .lit (.int .u32 274646895), .lit (.int .u32 549293790), .lit (.int .u32 820201905), .lit (.int .u32 1098587580), .lit (.int .u32 1361435347), .lit (.int .u32 1640403810), .lit (.int .u32 1905808397), .lit (.int .u32 2197175160), .lit (.int .u32 2460548119), .lit (.int .u32 2722870694), .lit (.int .u32 2987750089), .lit (.int .u32 3280807620), .lit (.int .u32 3553878443), .lit (.int .u32 3811616794), .lit (.int .u32 4084100981)]

/-- 'bedrocklaw1.RawNumbers': WHATEVER THE INPUT: true; the input reads as it did. -/
def rawNumbersSpec : ChangeSpec := { name := "rawNumbers", fn := fun _ => fun
  | [d1, d2, d3, d4] => { results := [.lit (.bool true)], args := [d1, d2, d3, d4] }
  | _ => none }
def rawNumbersRow : OpenClaim := { program := "ytkjfhgaiakienaadoor", sum := "9a3e7766fead4c4ff77b8a8ff5613756937312868ce26eff1140a633d9351983", func := "bedrock/bedrocklaw1.RawNumbers", spec := "rawNumbers", unfollowed := true, recurses := true, named := ["bedrock/raw.halves", "internal/strconv.uint64pow10", "math/bits.deBruijn32tab", "math/bits.deBruijn64tab"], apart := false, laid := [("math/bits.deBruijn32tab", laid_math_bits_deBruijn32tab), ("math/bits.deBruijn64tab", laid_math_bits_deBruijn64tab), ("internal/strconv.uint64pow10", laid_internal_strconv_uint64pow10), ("bedrock/raw.halves", laid_bedrock_raw_halves)] }
def RawNumbersSaid : Prop := rawNumbersRow.holds Tryd.pinned (OpenSpec.ofChange rawNumbersSpec)

/-- ITS FALSE NEIGHBOUR: 'it returns false'. Refute it at one input. -/
def rawNumbersWrong : ChangeSpec := { name := "rawNumbers", fn := fun _ => fun
  | [d1, d2, d3, d4] => { results := [.lit (.bool false)], args := [d1, d2, d3, d4] }
  | _ => none }
def RawNumbersWrongFalsely : Prop := rawNumbersRow.holds Tryd.pinned (OpenSpec.ofChange rawNumbersWrong)

/-- 'bedrocklaw1.RawBytes': WHATEVER THE INPUT: true; the input reads as it did. -/
def rawBytesSpec : ChangeSpec := { name := "rawBytes", fn := fun _ => fun
  | [d1, d2] => { results := [.lit (.bool true)], args := [d1, d2] }
  | _ => none }
def rawBytesRow : OpenClaim := { program := "ytkjfhgaiakienaadoor", sum := "9a3e7766fead4c4ff77b8a8ff5613756937312868ce26eff1140a633d9351983", func := "bedrock/bedrocklaw1.RawBytes", spec := "rawBytes", inPlace := ["internal/bytealg.abigen_runtime_cmpstring"], unfollowed := true, recurses := true, named := ["bedrock/raw.halves", "internal/strconv.uint64pow10", "math/bits.deBruijn32tab", "math/bits.deBruijn64tab"], apart := false, laid := [("math/bits.deBruijn32tab", laid_math_bits_deBruijn32tab), ("math/bits.deBruijn64tab", laid_math_bits_deBruijn64tab), ("internal/strconv.uint64pow10", laid_internal_strconv_uint64pow10), ("bedrock/raw.halves", laid_bedrock_raw_halves)] }
def RawBytesSaid : Prop := rawBytesRow.holds Tryd.pinned (OpenSpec.ofChange rawBytesSpec)

/-- ITS FALSE NEIGHBOUR: 'it returns false'. Refute it at one input. -/
def rawBytesWrong : ChangeSpec := { name := "rawBytes", fn := fun _ => fun
  | [d1, d2] => { results := [.lit (.bool false)], args := [d1, d2] }
  | _ => none }
def RawBytesWrongFalsely : Prop := rawBytesRow.holds Tryd.pinned (OpenSpec.ofChange rawBytesWrong)

/-- 'bedrocklaw1.RawVars': WHATEVER THE INPUT: true; the input reads as it did. -/
def rawVarsSpec : ChangeSpec := { name := "rawVars", fn := fun _ => fun
  | [d] => { results := [.lit (.bool true)], args := [d] }
  | _ => none }
def rawVarsRow : OpenClaim := { program := "ytkjfhgaiakienaadoor", sum := "9a3e7766fead4c4ff77b8a8ff5613756937312868ce26eff1140a633d9351983", func := "bedrock/bedrocklaw1.RawVars", spec := "rawVars", unfollowed := true, recurses := true, named := ["bedrock/raw.halves", "internal/strconv.uint64pow10", "math/bits.deBruijn32tab", "math/bits.deBruijn64tab"], apart := false, laid := [("math/bits.deBruijn32tab", laid_math_bits_deBruijn32tab), ("math/bits.deBruijn64tab", laid_math_bits_deBruijn64tab), ("internal/strconv.uint64pow10", laid_internal_strconv_uint64pow10), ("bedrock/raw.halves", laid_bedrock_raw_halves)] }
def RawVarsSaid : Prop := rawVarsRow.holds Tryd.pinned (OpenSpec.ofChange rawVarsSpec)

/-- ITS FALSE NEIGHBOUR: 'it returns false'. Refute it at one input. -/
def rawVarsWrong : ChangeSpec := { name := "rawVars", fn := fun _ => fun
  | [d] => { results := [.lit (.bool false)], args := [d] }
  | _ => none }
def RawVarsWrongFalsely : Prop := rawVarsRow.holds Tryd.pinned (OpenSpec.ofChange rawVarsWrong)

/-- 'bedrocklaw1.RawQuoted': WHATEVER THE INPUT: true; the input reads as it did. -/
def rawQuotedSpec : ChangeSpec := { name := "rawQuoted", fn := fun _ => fun
  | [d] => { results := [.lit (.bool true)], args := [d] }
  | _ => none }
def rawQuotedRow : OpenClaim := { program := "ytkjfhgaiakienaadoor", sum := "9a3e7766fead4c4ff77b8a8ff5613756937312868ce26eff1140a633d9351983", func := "bedrock/bedrocklaw1.RawQuoted", spec := "rawQuoted", unfollowed := true, recurses := true, named := ["bedrock/raw.halves", "internal/strconv.uint64pow10", "math/bits.deBruijn32tab", "math/bits.deBruijn64tab"], apart := false, laid := [("math/bits.deBruijn32tab", laid_math_bits_deBruijn32tab), ("math/bits.deBruijn64tab", laid_math_bits_deBruijn64tab), ("internal/strconv.uint64pow10", laid_internal_strconv_uint64pow10), ("bedrock/raw.halves", laid_bedrock_raw_halves)] }
def RawQuotedSaid : Prop := rawQuotedRow.holds Tryd.pinned (OpenSpec.ofChange rawQuotedSpec)

/-- ITS FALSE NEIGHBOUR: 'it returns false'. Refute it at one input. -/
def rawQuotedWrong : ChangeSpec := { name := "rawQuoted", fn := fun _ => fun
  | [d] => { results := [.lit (.bool false)], args := [d] }
  | _ => none }
def RawQuotedWrongFalsely : Prop := rawQuotedRow.holds Tryd.pinned (OpenSpec.ofChange rawQuotedWrong)

/-- 'bedrocklaw1.RawBack': WHATEVER THE INPUT: true; the input reads as it did. -/
def rawBackSpec : ChangeSpec := { name := "rawBack", fn := fun _ => fun
  | [d1, d2, d3, d4] => { results := [.lit (.bool true)], args := [d1, d2, d3, d4] }
  | _ => none }
def rawBackRow : OpenClaim := { program := "ytkjfhgaiakienaadoor", sum := "9a3e7766fead4c4ff77b8a8ff5613756937312868ce26eff1140a633d9351983", func := "bedrock/bedrocklaw1.RawBack", spec := "rawBack", unfollowed := true, recurses := true, named := ["bedrock/raw.halves", "internal/strconv.uint64pow10", "math/bits.deBruijn32tab", "math/bits.deBruijn64tab"], apart := false, laid := [("math/bits.deBruijn32tab", laid_math_bits_deBruijn32tab), ("math/bits.deBruijn64tab", laid_math_bits_deBruijn64tab), ("internal/strconv.uint64pow10", laid_internal_strconv_uint64pow10), ("bedrock/raw.halves", laid_bedrock_raw_halves)] }
def RawBackSaid : Prop := rawBackRow.holds Tryd.pinned (OpenSpec.ofChange rawBackSpec)

/-- ITS FALSE NEIGHBOUR: 'it returns false'. Refute it at one input. -/
def rawBackWrong : ChangeSpec := { name := "rawBack", fn := fun _ => fun
  | [d1, d2, d3, d4] => { results := [.lit (.bool false)], args := [d1, d2, d3, d4] }
  | _ => none }
def RawBackWrongFalsely : Prop := rawBackRow.holds Tryd.pinned (OpenSpec.ofChange rawBackWrong)

/-- 'bedrocklaw1.RawChanged': WHATEVER THE INPUT: true; the input reads as it did. -/
def rawChangedSpec : ChangeSpec := { name := "rawChanged", fn := fun _ => fun
  | [d1, d2, d3] => { results := [.lit (.bool true)], args := [d1, d2, d3] }
  | _ => none }
def rawChangedRow : OpenClaim := { program := "ytkjfhgaiakienaadoor", sum := "9a3e7766fead4c4ff77b8a8ff5613756937312868ce26eff1140a633d9351983", func := "bedrock/bedrocklaw1.RawChanged", spec := "rawChanged", unfollowed := true, recurses := true, named := ["bedrock/raw.halves", "internal/strconv.uint64pow10", "math/bits.deBruijn32tab", "math/bits.deBruijn64tab"], apart := false, laid := [("math/bits.deBruijn32tab", laid_math_bits_deBruijn32tab), ("math/bits.deBruijn64tab", laid_math_bits_deBruijn64tab), ("internal/strconv.uint64pow10", laid_internal_strconv_uint64pow10), ("bedrock/raw.halves", laid_bedrock_raw_halves)] }
def RawChangedSaid : Prop := rawChangedRow.holds Tryd.pinned (OpenSpec.ofChange rawChangedSpec)

/-- ITS FALSE NEIGHBOUR: 'it returns false'. Refute it at one input. -/
def rawChangedWrong : ChangeSpec := { name := "rawChanged", fn := fun _ => fun
  | [d1, d2, d3] => { results := [.lit (.bool false)], args := [d1, d2, d3] }
  | _ => none }
def RawChangedWrongFalsely : Prop := rawChangedRow.holds Tryd.pinned (OpenSpec.ofChange rawChangedWrong)

/-- 'bedrocklaw1.RawOrder': WHATEVER THE INPUT: true; the input reads as it did. -/
def rawOrderSpec : ChangeSpec := { name := "rawOrder", fn := fun _ => fun
  | [d1, d2, d3, d4, d5, d6] => { results := [.lit (.bool true)], args := [d1, d2, d3, d4, d5, d6] }
  | _ => none }
def rawOrderRow : OpenClaim := { program := "ytkjfhgaiakienaadoor", sum := "9a3e7766fead4c4ff77b8a8ff5613756937312868ce26eff1140a633d9351983", func := "bedrock/bedrocklaw1.RawOrder", spec := "rawOrder", inPlace := ["internal/bytealg.abigen_runtime_cmpstring"], unfollowed := true, recurses := true, named := ["bedrock/raw.halves", "internal/strconv.uint64pow10", "math/bits.deBruijn32tab", "math/bits.deBruijn64tab"], apart := false, laid := [("math/bits.deBruijn32tab", laid_math_bits_deBruijn32tab), ("math/bits.deBruijn64tab", laid_math_bits_deBruijn64tab), ("internal/strconv.uint64pow10", laid_internal_strconv_uint64pow10), ("bedrock/raw.halves", laid_bedrock_raw_halves)] }
def RawOrderSaid : Prop := rawOrderRow.holds Tryd.pinned (OpenSpec.ofChange rawOrderSpec)

/-- ITS FALSE NEIGHBOUR: 'it returns false'. Refute it at one input. -/
def rawOrderWrong : ChangeSpec := { name := "rawOrder", fn := fun _ => fun
  | [d1, d2, d3, d4, d5, d6] => { results := [.lit (.bool false)], args := [d1, d2, d3, d4, d5, d6] }
  | _ => none }
def RawOrderWrongFalsely : Prop := rawOrderRow.holds Tryd.pinned (OpenSpec.ofChange rawOrderWrong)

/-- 'bedrocklaw1.RawShort': WHATEVER THE INPUT: true; the input reads as it did. -/
def rawShortSpec : ChangeSpec := { name := "rawShort", fn := fun _ => fun
  | [d] => { results := [.lit (.bool true)], args := [d] }
  | _ => none }
def rawShortRow : OpenClaim := { program := "ytkjfhgaiakienaadoor", sum := "9a3e7766fead4c4ff77b8a8ff5613756937312868ce26eff1140a633d9351983", func := "bedrock/bedrocklaw1.RawShort", spec := "rawShort", unfollowed := true, recurses := true, named := ["bedrock/raw.halves", "internal/strconv.uint64pow10", "math/bits.deBruijn32tab", "math/bits.deBruijn64tab"], apart := false, laid := [("math/bits.deBruijn32tab", laid_math_bits_deBruijn32tab), ("math/bits.deBruijn64tab", laid_math_bits_deBruijn64tab), ("internal/strconv.uint64pow10", laid_internal_strconv_uint64pow10), ("bedrock/raw.halves", laid_bedrock_raw_halves)] }
def RawShortSaid : Prop := rawShortRow.holds Tryd.pinned (OpenSpec.ofChange rawShortSpec)

/-- ITS FALSE NEIGHBOUR: 'it returns false'. Refute it at one input. -/
def rawShortWrong : ChangeSpec := { name := "rawShort", fn := fun _ => fun
  | [d] => { results := [.lit (.bool false)], args := [d] }
  | _ => none }
def RawShortWrongFalsely : Prop := rawShortRow.holds Tryd.pinned (OpenSpec.ofChange rawShortWrong)

/- THE SECOND FORM. 'bulk': how many values and letters a reading holds, each counted each time it is reached (what is shared counts as often as it is met; a slice's spare places count too). A statement '..UptoSaid' is the law's where the arguments, and the package variables that the reading takes, are together of bulk at most 1048576: NARROWER than '..Said'. Prove '..Said' where nothing that the law and all that it calls make is longer than what came in: it says more and counts as full. Else prove '..UptoSaid'. A law counts once. -/
mutual
def uptoBulk {H : Type} : DataW H → Nat
  | .lit (.string bytes) => bytes.length + 1
  | .lit _ => 1
  | .nil => 1
  | .ptr d => uptoBulk d + 1
  | .slice elems spare => uptoBulkAll elems + uptoBulkAll spare + 1
  | .agg parts => uptoBulkAll parts + 1
  | .iface _ d => uptoBulk d + 1
  | .map entries => uptoBulkEntries entries + 1
  | .held _ => 1
def uptoBulkAll {H : Type} : List (DataW H) → Nat
  | [] => 0
  | d :: r => uptoBulk d + uptoBulkAll r
def uptoBulkEntries {H : Type} : List (Lit × DataW H) → Nat
  | [] => 0
  | x :: r => uptoBulkEntry x + uptoBulkEntries r
def uptoBulkEntry {H : Type} : Lit × DataW H → Nat
  | (.string bytes, d) => bytes.length + uptoBulk d + 1
  | (_, d) => uptoBulk d + 1
 end
def uptoSmall : (H : Type) → List (DataW H) → Bool := fun _ ds => decide (uptoBulkAll ds ≤ 1048576)
def OpenSpec.upto (s : _root_.Go.ChangeSpec) : _root_.Go.OpenSpec := { _root_.Go.OpenSpec.ofChange s with cond := some uptoSmall }

/-- 'bedrocklaw1.RawNumbers', WHERE WHAT IT READS IS OF BULK AT MOST 1048576: true; the input reads as it did. -/
def rawNumbersUptoRow : OpenClaim := { program := "ytkjfhgaiakienaadoor", sum := "9a3e7766fead4c4ff77b8a8ff5613756937312868ce26eff1140a633d9351983", func := "bedrock/bedrocklaw1.RawNumbers", spec := "rawNumbers", unfollowed := true, recurses := true, named := ["bedrock/raw.halves", "internal/strconv.uint64pow10", "math/bits.deBruijn32tab", "math/bits.deBruijn64tab"], apart := false, laid := [("math/bits.deBruijn32tab", laid_math_bits_deBruijn32tab), ("math/bits.deBruijn64tab", laid_math_bits_deBruijn64tab), ("internal/strconv.uint64pow10", laid_internal_strconv_uint64pow10), ("bedrock/raw.halves", laid_bedrock_raw_halves)], narrowed := true }
def RawNumbersUptoSaid : Prop := rawNumbersUptoRow.holds Tryd.pinned (OpenSpec.upto rawNumbersSpec)

/-- 'bedrocklaw1.RawBytes', WHERE WHAT IT READS IS OF BULK AT MOST 1048576: true; the input reads as it did. -/
def rawBytesUptoRow : OpenClaim := { program := "ytkjfhgaiakienaadoor", sum := "9a3e7766fead4c4ff77b8a8ff5613756937312868ce26eff1140a633d9351983", func := "bedrock/bedrocklaw1.RawBytes", spec := "rawBytes", inPlace := ["internal/bytealg.abigen_runtime_cmpstring"], unfollowed := true, recurses := true, named := ["bedrock/raw.halves", "internal/strconv.uint64pow10", "math/bits.deBruijn32tab", "math/bits.deBruijn64tab"], apart := false, laid := [("math/bits.deBruijn32tab", laid_math_bits_deBruijn32tab), ("math/bits.deBruijn64tab", laid_math_bits_deBruijn64tab), ("internal/strconv.uint64pow10", laid_internal_strconv_uint64pow10), ("bedrock/raw.halves", laid_bedrock_raw_halves)], narrowed := true }
def RawBytesUptoSaid : Prop := rawBytesUptoRow.holds Tryd.pinned (OpenSpec.upto rawBytesSpec)

/-- 'bedrocklaw1.RawVars', WHERE WHAT IT READS IS OF BULK AT MOST 1048576: true; the input reads as it did. -/
def rawVarsUptoRow : OpenClaim := { program := "ytkjfhgaiakienaadoor", sum := "9a3e7766fead4c4ff77b8a8ff5613756937312868ce26eff1140a633d9351983", func := "bedrock/bedrocklaw1.RawVars", spec := "rawVars", unfollowed := true, recurses := true, named := ["bedrock/raw.halves", "internal/strconv.uint64pow10", "math/bits.deBruijn32tab", "math/bits.deBruijn64tab"], apart := false, laid := [("math/bits.deBruijn32tab", laid_math_bits_deBruijn32tab), ("math/bits.deBruijn64tab", laid_math_bits_deBruijn64tab), ("internal/strconv.uint64pow10", laid_internal_strconv_uint64pow10), ("bedrock/raw.halves", laid_bedrock_raw_halves)], narrowed := true }
def RawVarsUptoSaid : Prop := rawVarsUptoRow.holds Tryd.pinned (OpenSpec.upto rawVarsSpec)

/-- 'bedrocklaw1.RawQuoted', WHERE WHAT IT READS IS OF BULK AT MOST 1048576: true; the input reads as it did. -/
def rawQuotedUptoRow : OpenClaim := { program := "ytkjfhgaiakienaadoor", sum := "9a3e7766fead4c4ff77b8a8ff5613756937312868ce26eff1140a633d9351983", func := "bedrock/bedrocklaw1.RawQuoted", spec := "rawQuoted", unfollowed := true, recurses := true, named := ["bedrock/raw.halves", "internal/strconv.uint64pow10", "math/bits.deBruijn32tab", "math/bits.deBruijn64tab"], apart := false, laid := [("math/bits.deBruijn32tab", laid_math_bits_deBruijn32tab), ("math/bits.deBruijn64tab", laid_math_bits_deBruijn64tab), ("internal/strconv.uint64pow10", laid_internal_strconv_uint64pow10), ("bedrock/raw.halves", laid_bedrock_raw_halves)], narrowed := true }
def RawQuotedUptoSaid : Prop := rawQuotedUptoRow.holds Tryd.pinned (OpenSpec.upto rawQuotedSpec)

/-- 'bedrocklaw1.RawBack', WHERE WHAT IT READS IS OF BULK AT MOST 1048576: true; the input reads as it did. -/
def rawBackUptoRow : OpenClaim := { program := "ytkjfhgaiakienaadoor", sum := "9a3e7766fead4c4ff77b8a8ff5613756937312868ce26eff1140a633d9351983", func := "bedrock/bedrocklaw1.RawBack", spec := "rawBack", unfollowed := true, recurses := true, named := ["bedrock/raw.halves", "internal/strconv.uint64pow10", "math/bits.deBruijn32tab", "math/bits.deBruijn64tab"], apart := false, laid := [("math/bits.deBruijn32tab", laid_math_bits_deBruijn32tab), ("math/bits.deBruijn64tab", laid_math_bits_deBruijn64tab), ("internal/strconv.uint64pow10", laid_internal_strconv_uint64pow10), ("bedrock/raw.halves", laid_bedrock_raw_halves)], narrowed := true }
def RawBackUptoSaid : Prop := rawBackUptoRow.holds Tryd.pinned (OpenSpec.upto rawBackSpec)

/-- 'bedrocklaw1.RawChanged', WHERE WHAT IT READS IS OF BULK AT MOST 1048576: true; the input reads as it did. -/
def rawChangedUptoRow : OpenClaim := { program := "ytkjfhgaiakienaadoor", sum := "9a3e7766fead4c4ff77b8a8ff5613756937312868ce26eff1140a633d9351983", func := "bedrock/bedrocklaw1.RawChanged", spec := "rawChanged", unfollowed := true, recurses := true, named := ["bedrock/raw.halves", "internal/strconv.uint64pow10", "math/bits.deBruijn32tab", "math/bits.deBruijn64tab"], apart := false, laid := [("math/bits.deBruijn32tab", laid_math_bits_deBruijn32tab), ("math/bits.deBruijn64tab", laid_math_bits_deBruijn64tab), ("internal/strconv.uint64pow10", laid_internal_strconv_uint64pow10), ("bedrock/raw.halves", laid_bedrock_raw_halves)], narrowed := true }
def RawChangedUptoSaid : Prop := rawChangedUptoRow.holds Tryd.pinned (OpenSpec.upto rawChangedSpec)

/-- 'bedrocklaw1.RawOrder', WHERE WHAT IT READS IS OF BULK AT MOST 1048576: true; the input reads as it did. -/
def rawOrderUptoRow : OpenClaim := { program := "ytkjfhgaiakienaadoor", sum := "9a3e7766fead4c4ff77b8a8ff5613756937312868ce26eff1140a633d9351983", func := "bedrock/bedrocklaw1.RawOrder", spec := "rawOrder", inPlace := ["internal/bytealg.abigen_runtime_cmpstring"], unfollowed := true, recurses := true, named := ["bedrock/raw.halves", "internal/strconv.uint64pow10", "math/bits.deBruijn32tab", "math/bits.deBruijn64tab"], apart := false, laid := [("math/bits.deBruijn32tab", laid_math_bits_deBruijn32tab), ("math/bits.deBruijn64tab", laid_math_bits_deBruijn64tab), ("internal/strconv.uint64pow10", laid_internal_strconv_uint64pow10), ("bedrock/raw.halves", laid_bedrock_raw_halves)], narrowed := true }
def RawOrderUptoSaid : Prop := rawOrderUptoRow.holds Tryd.pinned (OpenSpec.upto rawOrderSpec)

/-- 'bedrocklaw1.RawShort', WHERE WHAT IT READS IS OF BULK AT MOST 1048576: true; the input reads as it did. -/
def rawShortUptoRow : OpenClaim := { program := "ytkjfhgaiakienaadoor", sum := "9a3e7766fead4c4ff77b8a8ff5613756937312868ce26eff1140a633d9351983", func := "bedrock/bedrocklaw1.RawShort", spec := "rawShort", unfollowed := true, recurses := true, named := ["bedrock/raw.halves", "internal/strconv.uint64pow10", "math/bits.deBruijn32tab", "math/bits.deBruijn64tab"], apart := false, laid := [("math/bits.deBruijn32tab", laid_math_bits_deBruijn32tab), ("math/bits.deBruijn64tab", laid_math_bits_deBruijn64tab), ("internal/strconv.uint64pow10", laid_internal_strconv_uint64pow10), ("bedrock/raw.halves", laid_bedrock_raw_halves)], narrowed := true }
def RawShortUptoSaid : Prop := rawShortUptoRow.holds Tryd.pinned (OpenSpec.upto rawShortSpec)

end Rows
end Go.Proofs.YtkjfhgaiakienaaDoor
