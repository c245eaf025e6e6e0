/-
  The book of lists: the names that mark texts.
-/
import Derived.Test.YtmagkkkecihgmaaGreatBkA
import Derived.Test.YtmagkkkecihgmaaGreatLib
namespace Go.Proofs.YtmagkkkecihgmaaGreat
open Go.RowKit

def bname (i k : Nat) : ByteArray := ⟨#[109, UInt8.ofNat (65 + i % 26), UInt8.ofNat (65 + i / 26 % 26), UInt8.ofNat (48 + k % 10), UInt8.ofNat (48 + k / 10 % 10), UInt8.ofNat (48 + k / 100 % 10)]⟩

set_option maxRecDepth 100000 in
set_option maxHeartbeats 1000000 in
theorem bname_any (i k : Nat) (w : World) (hi : i ≤ 1000) (hk : k ≤ 1000000) :
    Calls Tryz.prog 140 #[.int .i64 (i : Int), .int .i64 (k : Int)] w fun e w' => e = .returned (.string (bname i k)) ∧ Below w.heap.size w w' := by
  have hi' : (i : Int) ≤ 1000 := by omega
  have hk' : (k : Int) ≤ 1000000 := by omega
  obtain ⟨z1, hz1, g1⟩ : ∃ z : Nat, 65 + (i : Int) % 26 = (z : Int) ∧ z < 256 ∧ UInt8.ofNat (65 + i % 26) = UInt8.ofNat z := ⟨65 + i % 26, by omega, by omega, rfl⟩
  obtain ⟨z2, hz2, g2⟩ : ∃ z : Nat, 65 + (i : Int) / 26 % 26 = (z : Int) ∧ z < 256 ∧ UInt8.ofNat (65 + i / 26 % 26) = UInt8.ofNat z := ⟨65 + i / 26 % 26, by omega, by omega, rfl⟩
  obtain ⟨z3, hz3, g3⟩ : ∃ z : Nat, 48 + (k : Int) % 10 = (z : Int) ∧ z < 256 ∧ UInt8.ofNat (48 + k % 10) = UInt8.ofNat z := ⟨48 + k % 10, by omega, by omega, rfl⟩
  obtain ⟨z4, hz4, g4⟩ : ∃ z : Nat, 48 + (k : Int) / 10 % 10 = (z : Int) ∧ z < 256 ∧ UInt8.ofNat (48 + k / 10 % 10) = UInt8.ofNat z := ⟨48 + k / 10 % 10, by omega, by omega, rfl⟩
  obtain ⟨z5, hz5, g5⟩ : ∃ z : Nat, 48 + (k : Int) / 100 % 10 = (z : Int) ∧ z < 256 ∧ UInt8.ofNat (48 + k / 100 % 10) = UInt8.ofNat z := ⟨48 + k / 100 % 10, by omega, by omega, rfl⟩
  unfold bname
  rw [g1.2, g2.2, g3.2, g4.2, g5.2]
  replace g1 := g1.1
  replace g2 := g2.1
  replace g3 := g3.1
  replace g4 := g4.1
  replace g5 := g5.1
  have hu : ∀ z : Nat, z < 256 → (z : Int) = ((UInt8.ofNat z).toNat : Int) := fun z hz => by rw [UInt8.toNat_ofNat']; omega
  have hcv : (convert 189 9 (.slice (some ⟨w.heap.size, 0, none⟩) 6 6)).run Tryz.prog (w.alloc (.cells #[.int .u8 109, .int .u8 (z1 : Int), .int .u8 (z2 : Int), .int .u8 (z3 : Int), .int .u8 (z4 : Int), .int .u8 (z5 : Int)] 5)) = .ok (.string ⟨#[109, UInt8.ofNat z1, UInt8.ofNat z2, UInt8.ofNat z3, UInt8.ofNat z4, UInt8.ofNat z5]⟩) (w.alloc (.cells #[.int .u8 109, .int .u8 (z1 : Int), .int .u8 (z2 : Int), .int .u8 (z3 : Int), .int .u8 (z4 : Int), .int .u8 (z5 : Int)] 5)) := by
    refine run_convert_bytes_back _ 189 9 5 ⟨w.heap.size, 0, none⟩ 6 [109, UInt8.ofNat z1, UInt8.ofNat z2, UInt8.ofNat z3, UInt8.ofNat z4, UInt8.ofNat z5] Tryz.underlying189 Tryz.underlying5 Tryz.underlying9 fun j hj => ?_
    refine cells_new w 5 [.int .u8 109, .int .u8 (z1 : Int), .int .u8 (z2 : Int), .int .u8 (z3 : Int), .int .u8 (z4 : Int), .int .u8 (z5 : Int)] j _ ?_
    rw [hu z1 g1, hu z2 g2, hu z3 g3, hu z4 g4, hu z5 g5]
    match j, hj with
    | 0, _ => rfl
    | 1, _ => rfl
    | 2, _ => rfl
    | 3, _ => rfl
    | 4, _ => rfl
    | 5, _ => rfl
  clear hu
  have hb : Below w.heap.size w (w.alloc (.cells #[.int .u8 109, .int .u8 (z1 : Int), .int .u8 (z2 : Int), .int .u8 (z3 : Int), .int .u8 (z4 : Int), .int .u8 (z5 : Int)] 5)) := (Below.refl _ _).alloc (Nat.le_refl _) _
  go_enter Tryz.func140, Tryz.ntmps140
  go_wp2_with fail
  go_ret
  exact ⟨rfl, hb⟩
end Go.Proofs.YtmagkkkecihgmaaGreat
