/-
  The walk over the laws' first call (alive), and what the laws ask of the tables.
-/
import Derived.Test.YtalacionlbmcpaaGreatDoorRaw3
import Derived.Test.YtalacionlbmcpaaGreatDoorRaw5
import Derived.Test.YtalacionlbmcpaaGreatDoorRaw6
import Derived.Test.YtalacionlbmcpaaGreatDoorGlob
namespace Go.Proofs.YtalacionlbmcpaaGreatDoor
open Go.RowKit

/-- The tables that the laws' first call reads. -/
structure Laid (w : World) : Prop where
  halves : Lib.TabIs Tryz.prog w "bedrock/raw.halves" .u32 halvesL
  pow10 : Lib.TabIs Tryz.prog w "internal/strconv.uint64pow10" .u64 Lib.pow10Tab

theorem crc_9 : crc [49, 50, 51, 52, 53, 54, 55, 56, 57] = 3808858755 := by decide +kernel
theorem itoa_50 : Lib.itoa (-50) = [45, 53, 48] := by decide +kernel
theorem gv_300 : gv [172, 2, 120] 0 0 = .ok 300 2 := by rfl
theorem be_258 : be 258 2 = [1, 2] := by decide +kernel

end Go.Proofs.YtalacionlbmcpaaGreatDoor
