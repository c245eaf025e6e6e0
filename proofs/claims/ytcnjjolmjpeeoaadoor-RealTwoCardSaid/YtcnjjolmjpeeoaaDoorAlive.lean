/-
  The walk over the laws' first call (alive), and what the laws ask of the tables.
-/
import Derived.Test.YtcnjjolmjpeeoaaDoorRaw3
import Derived.Test.YtcnjjolmjpeeoaaDoorRaw5
import Derived.Test.YtcnjjolmjpeeoaaDoorRaw6
import Derived.Test.YtcnjjolmjpeeoaaDoorGlob
namespace Go.Proofs.YtcnjjolmjpeeoaaDoor
open Go.RowKit

/-- The tables that the laws' first call reads. -/
structure Laid (w : World) : Prop where
  halves : Lib.TabIs Tryd.prog w "bedrock/raw.halves" .u32 halvesL
  pow10 : Lib.TabIs Tryd.prog w "internal/strconv.uint64pow10" .u64 Lib.pow10Tab

theorem crc_9 : crc [49, 50, 51, 52, 53, 54, 55, 56, 57] = 3808858755 := by decide +kernel
theorem itoa_50 : Lib.itoa (-50) = [45, 53, 48] := by decide +kernel
theorem gv_300 : gv [172, 2, 120] 0 0 = .ok 300 2 := by rfl
theorem be_258 : be 258 2 = [1, 2] := by decide +kernel

end Go.Proofs.YtcnjjolmjpeeoaaDoor
