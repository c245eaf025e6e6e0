/-
  The walk over the laws' first call (alive), and what the laws ask of the tables.
-/
import Derived.Test.YtkjfhgaiakienaaDoorRaw3
import Derived.Test.YtkjfhgaiakienaaDoorRaw5
import Derived.Test.YtkjfhgaiakienaaDoorRaw6
import Derived.Test.YtkjfhgaiakienaaDoorGlob
namespace Go.Proofs.YtkjfhgaiakienaaDoor
open Go.RowKit

theorem glob_halves : Tryd.prog.globalNamed "bedrock/raw.halves" = some 0 := by kernel_rfl

/-- The tables that the laws' first call reads. -/
structure Laid (w : World) : Prop where
  halves : Lib.TabIs Tryd.prog w "bedrock/raw.halves" .u32 halvesL
  pow10 : Lib.TabIs Tryd.prog w "internal/strconv.uint64pow10" .u64 Lib.pow10Tab

theorem Laid.on {w w' : World} (h : Laid w) (hb : Below w.heap.size w w') : Laid w' :=
  ⟨var?_below hb glob_halves (lt_of_cell (h.halves.cell glob_halves 0 (by decide))) h.halves, var?_below hb glob_pow10 (lt_of_cell (h.pow10.cell glob_pow10 0 (by simp [Lib.pow10Tab]))) h.pow10⟩

theorem crc_9 : crc [49, 50, 51, 52, 53, 54, 55, 56, 57] = 3808858755 := by decide +kernel
theorem itoa_50 : Lib.itoa (-50) = [45, 53, 48] := by decide +kernel
theorem gv_300 : gv [172, 2, 120] 0 0 = .ok 300 2 := by rfl
theorem be_258 : be 258 2 = [1, 2] := by decide +kernel

set_option maxRecDepth 100000 in
set_option maxHeartbeats 1000000 in
theorem alive_any (w : World) (hL : Laid w) :
    Calls Tryd.prog 19 #[] w fun e w' => e = .returned (.bool true) ∧ Below w.heap.size w w' := by
  go_enter Tryd.func19, Tryd.ntmps19
  go_wp2_with fail
  refine (put_ok 258 2 w (by decide) (by decide) (by decide)).mono ?_
  rw [be_258]
  rintro e w1 ⟨rfl, hb1⟩
  go_wp2_with fail
  refine (getvar_ok _ 300 2 w1 (by decide) gv_300).mono ?_
  rintro e w2 ⟨rfl, hb2⟩
  have L2 := (hL.on hb1).on hb2
  go_wp2_with fail
  refine (sum_any _ w2 (by decide) L2.halves).mono ?_
  rw [crc_9]
  rintro e w3 ⟨rfl, rfl⟩
  go_wp2_with fail
  refine (digits_any (-50) w2 (by decide) (by decide) L2.pow10).mono ?_
  rw [itoa_50]
  rintro e w4 ⟨rfl, hb4⟩
  go_wp2_with fail
  go_ret
  exact ⟨rfl, (hb1.trans (hb2.mono hb1.size)).trans (hb4.mono (Nat.le_trans hb1.size hb2.size))⟩
end Go.Proofs.YtkjfhgaiakienaaDoor
