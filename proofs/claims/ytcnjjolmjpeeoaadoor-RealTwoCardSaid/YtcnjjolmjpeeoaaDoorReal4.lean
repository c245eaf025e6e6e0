/-
  Walks over package real, part 4: the parts of a number, its text.
-/
import Derived.Test.YtcnjjolmjpeeoaaDoorReal1
import Derived.Test.YtcnjjolmjpeeoaaDoorGlob
import Derived.Lib.TrailingZeros
import Derived.Lib.BitFns
import Derived.Laws.Bits64b
namespace Go.Proofs.YtcnjjolmjpeeoaaDoor
open Go.RowKit

def tz64L : List Int := Lib.deBruijn64tab.map fun (n : Nat) => (n : Int)
theorem glob_tz64 : Tryd.prog.globalNamed "math/bits.deBruijn64tab" = some 1 := by kernel_rfl

/-- The tables that chapter 2's laws read. -/
structure LaidR (w : World) : Prop where
  tz64 : Lib.TabIs Tryd.prog w "math/bits.deBruijn64tab" .u8 tz64L
  pow10 : Lib.TabIs Tryd.prog w "internal/strconv.uint64pow10" .u64 Lib.pow10Tab

theorem LaidR.on {w w' : World} (h : LaidR w) (hb : Below w.heap.size w w') : LaidR w' :=
  ⟨var?_below hb glob_tz64 (lt_of_cell (h.tz64.cell glob_tz64 0 (by decide))) h.tz64, var?_below hb glob_pow10 (lt_of_cell (h.pow10.cell glob_pow10 0 (by simp [Lib.pow10Tab]))) h.pow10⟩

theorem tz64_at (i : Nat) (hi : i < 64) : tz64L.getD i 0 = (Lib.deBruijn64tab.getD i 0 : Int) := by
  have : ∀ i, i < 64 → tz64L.getD i 0 = (Lib.deBruijn64tab.getD i 0 : Int) := by decide +kernel
  exact this i hi

theorem tz64_idx (x a : Nat) (hx : x < 18446744073709551616) (hx0 : x ≠ 0) (hlow : x &&& (18446744073709551616 - x) = a) :
    IntKind.u64.wrap (bits BinOp.and IntKind.u64 (x : Int) (IntKind.u64.wrap (-(x : Int))) * 285870213051353865) / 288230376151711744 = ((a * 285870213051353865 % 18446744073709551616 / 288230376151711744 : Nat) : Int) := by
  have e1 : IntKind.u64.wrap (-(x : Int)) = ((18446744073709551616 - x : Nat) : Int) := by rw [IntKind.wrap_u64]; omega
  rw [e1, bits_and_u64_nat x _ hx (by omega), hlow, IntKind.wrap_u64]
  omega

set_option maxRecDepth 100000 in
set_option maxHeartbeats 1000000 in
theorem tz64_core (x k idx : Nat) (w : World) (hx0 : ((x : Int) == 0) = false)
    (key : IntKind.u64.wrap (bits BinOp.and IntKind.u64 (x : Int) (IntKind.u64.wrap (-(x : Int))) * 285870213051353865) / 288230376151711744 = (idx : Int))
    (hi : idx < 64) (hk : k < 64) (hcell : w.cell? ⟨1, idx, none⟩ = some (.int .u8 k)) :
    Calls Tryd.prog 80 #[.int .u64 x] w fun e w' => e = .returned (.int .i64 k) ∧ w = w' := by
  go_enter Tryd.func80, Tryd.ntmps80
  go_wp2_with (simp only [key])
  go_ret
  exact ⟨rfl, rfl⟩

theorem tz64_any (x : Nat) (hx : x < 18446744073709551616) (hx0 : x ≠ 0) (w : World) (hT : Lib.TabIs Tryd.prog w "math/bits.deBruijn64tab" .u8 tz64L) :
    Calls Tryd.prog 80 #[.int .u64 (x : Int)] w fun e w' => e = .returned (.int .i64 (Lib.ctz 64 x : Int)) ∧ w = w' := by
  obtain ⟨hlow, hk⟩ := Lib.lowest_bit 64 x hx0 hx
  obtain ⟨hi, htab⟩ := Lib.deBruijn64_at _ hk
  have hcell := hT.cell glob_tz64 _ (show _ < 64 from hi)
  rw [tz64_at _ hi, htab] at hcell
  exact tz64_core x _ _ w (by simp; omega) (tz64_idx x _ hx hx0 hlow) hi hk hcell

/-- All twos out of m. -/
def tzN (m : Nat) : Nat := Lib.ctz 64 m
def oddN (m : Nat) : Nat := m / 2 ^ tzN m

set_option maxRecDepth 100000 in
set_option maxHeartbeats 1000000 in
theorem odd_any (m : Nat) (p : Int) (hm : m < 18446744073709551616) (h0 : m ≠ 0) (hp0 : -100000000000000000 ≤ p) (hp1 : p ≤ 100000000000000000) (w : World) (hT : Lib.TabIs Tryd.prog w "math/bits.deBruijn64tab" .u8 tz64L) :
    Calls Tryd.prog 67 #[.int .u64 (m : Int), .int .i64 p] w fun e w' => e = .returned (.tuple #[.int .u64 (oddN m : Int), .int .i64 (p + (tzN m : Int))]) ∧ w = w' := by
  have C := Lib.hid (tz64_any m hm h0 w hT)
  have hk : Lib.ctz 64 m < 64 := (Lib.lowest_bit 64 m h0 hm).2
  unfold oddN tzN
  generalize Lib.ctz 64 m = k at *
  clear hT
  go_enter Tryd.func67, Tryd.ntmps67
  go_wp2_with fail
  refine C.out.mono ?_
  rintro e w' ⟨rfl, rfl⟩
  go_wp2_with fail
  go_ret2
  exact ⟨rfl, rfl⟩
end Go.Proofs.YtcnjjolmjpeeoaaDoor
