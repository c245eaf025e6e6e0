/-
  Chapter 3's first call, and what its laws ask of the tables.
-/
import Derived.Test.YtalacionlbmcpaaGreatDoorVec3
import Derived.Test.YtalacionlbmcpaaGreatDoorVec4
namespace Go.Proofs.YtalacionlbmcpaaGreatDoor
open Go.RowKit

/-- The table that chapter 3's texts are made by. -/
structure LaidV (w : World) : Prop where
  pow10 : Lib.TabIs Tryz.prog w "internal/strconv.uint64pow10" .u64 Lib.pow10Tab

theorem LaidV.on {w w' : World} (h : LaidV w) (hb : Below w.heap.size w w') : LaidV w' :=
  ⟨var?_below hb glob_pow10 (lt_of_cell (h.pow10.cell glob_pow10 0 (by simp [Lib.pow10Tab]))) h.pow10⟩
theorem LaidV.drewN {w : World} (h : LaidV w) (q : Nat) : LaidV (w.drewN q) := h.on (below_drewN (Below.refl _ _) q)

/-- A literal's numbers. -/
theorem ints_blk {w : World} {g : Nat} {t : TypeId} (zs : List Int) (h : Blk w g t (zs.map (Value.int .i64)).toArray) (hm : zs.length ≤ 9223372036854775807) (hwf : ∀ z ∈ zs, (Lit.int .i64 z).wf = true) : IntsIn w (some ⟨g, 0, none⟩) zs.length zs :=
  ⟨rfl, hm, fun _ => ⟨g, 0, rfl, h.lt, fun j hj => by rw [Nat.zero_add, h.cell j]; simp [List.getD, hj]⟩, hwf⟩

theorem vecB_1 : vecB [1] = [1, 0, 0, 0, 0, 0, 1] := by decide +kernel
theorem textL_70 : textL [7, 0] = [91, 55, 44, 48, 93] := by decide +kernel

set_option maxRecDepth 100000 in
set_option maxHeartbeats 2000000 in
theorem aliveV_any (w : World) (hL : LaidV w) :
    Calls Tryz.prog 5 #[] w fun e w' => e = .returned (.bool true) ∧ Below w.heap.size w w' := by
  have HL := Lib.hid hL
  clear hL
  go_enter Tryz.func5, Tryz.ntmps5
  go_wp2_with fail
  have hb1 : Below w.heap.size w (w.alloc (.cells #[.int .i64 1] 3)) := below_alloc (Below.refl _ _) (Nat.le_refl _) _
  have I1 : IntsIn (w.alloc (.cells #[.int .i64 1] 3)) (some ⟨w.heap.size, 0, none⟩) 1 [1] := ints_blk [1] (Blk.new w 3 #[.int .i64 1]) (by decide) (by decide)
  generalize (w.alloc (.cells #[.int .i64 1] 3)) = x1 at *
  refine (vput_ok _ 1 1 [1] x1 I1 (by decide)).mono ?_
  rw [vecB_1]
  rintro e w1 ⟨rfl, hb2⟩
  have h1 : Below w.heap.size w w1 := hb1.trans (hb2.mono hb1.size)
  clear hb1 hb2 I1
  go_wp2_with fail
  have hb1 : Below w1.heap.size w1 ((w1.alloc (.cells #[.int .i64 1, .int .i64 2] 3)).alloc (.cells #[.int .i64 1, .int .i64 3] 3)) := below_alloc (below_alloc (Below.refl _ _) (Nat.le_refl _) _) (Nat.le_refl _) _
  have I1 : IntsIn ((w1.alloc (.cells #[.int .i64 1, .int .i64 2] 3)).alloc (.cells #[.int .i64 1, .int .i64 3] 3)) (some ⟨w1.heap.size, 0, none⟩) 2 [1, 2] := ints_blk [1, 2] ((Blk.new w1 3 #[.int .i64 1, .int .i64 2]).alloc (.cells #[.int .i64 1, .int .i64 3] 3)) (by decide) (by decide)
  have I2 : IntsIn ((w1.alloc (.cells #[.int .i64 1, .int .i64 2] 3)).alloc (.cells #[.int .i64 1, .int .i64 3] 3)) (some ⟨w1.heap.size + 1, 0, none⟩) 2 [1, 3] := ints_blk [1, 3] (Blk.new' (by simp) 3 #[.int .i64 1, .int .i64 3]) (by decide) (by decide)
  generalize ((w1.alloc (.cells #[.int .i64 1, .int .i64 2] 3)).alloc (.cells #[.int .i64 1, .int .i64 3] 3)) = x2 at *
  refine (leq_any _ 2 2 [1, 2] _ 2 2 [1, 3] x2 I1 I2).mono ?_
  rw [show leqL [1, 2] [1, 3] = true from by decide]
  rintro e w2 ⟨rfl, q, hw2⟩
  have h2 : Below w.heap.size w w2 := by
    rw [hw2]
    exact below_drewN (h1.trans (hb1.mono h1.size)) q
  clear hb1 I1 I2 hw2 h1
  go_wp2_with fail
  have hb1 : Below w2.heap.size w2 (w2.alloc (.cells #[.int .i64 7, .int .i64 0] 3)) := below_alloc (Below.refl _ _) (Nat.le_refl _) _
  have I1 : IntsIn (w2.alloc (.cells #[.int .i64 7, .int .i64 0] 3)) (some ⟨w2.heap.size, 0, none⟩) 2 [7, 0] := ints_blk [7, 0] (Blk.new w2 3 #[.int .i64 7, .int .i64 0]) (by decide) (by decide)
  generalize (w2.alloc (.cells #[.int .i64 7, .int .i64 0] 3)) = x3 at *
  have L3 := Lib.hid (HL.out.on (h2.trans (hb1.mono h2.size)))
  refine (vtext_any _ 2 2 [7, 0] x3 I1 (by decide) L3.out.pow10).mono ?_
  rw [textL_70]
  rintro e w3 ⟨rfl, hb2⟩
  have h3 : Below w.heap.size w w3 := (h2.trans (hb1.mono h2.size)).trans (hb2.mono (Nat.le_trans h2.size hb1.size))
  clear hb1 I1 hb2 h2
  go_wp2_with fail
  have hb1 : Below w3.heap.size w3 ((w3.alloc (.cells #[.int .i64 1, .int .i64 5] 3)).alloc (.cells #[.int .i64 3, .int .i64 2] 3)) := below_alloc (below_alloc (Below.refl _ _) (Nat.le_refl _) _) (Nat.le_refl _) _
  have I1 : IntsIn ((w3.alloc (.cells #[.int .i64 1, .int .i64 5] 3)).alloc (.cells #[.int .i64 3, .int .i64 2] 3)) (some ⟨w3.heap.size, 0, none⟩) 2 [1, 5] := ints_blk [1, 5] ((Blk.new w3 3 #[.int .i64 1, .int .i64 5]).alloc (.cells #[.int .i64 3, .int .i64 2] 3)) (by decide) (by decide)
  have I2 : IntsIn ((w3.alloc (.cells #[.int .i64 1, .int .i64 5] 3)).alloc (.cells #[.int .i64 3, .int .i64 2] 3)) (some ⟨w3.heap.size + 1, 0, none⟩) 2 [3, 2] := ints_blk [3, 2] (Blk.new' (by simp) 3 #[.int .i64 3, .int .i64 2]) (by decide) (by decide)
  generalize ((w3.alloc (.cells #[.int .i64 1, .int .i64 5] 3)).alloc (.cells #[.int .i64 3, .int .i64 2] 3)) = x4 at *
  refine (join_any _ 2 2 [1, 5] _ 2 2 [3, 2] x4 I1 I2 (by decide)).mono ?_
  rw [show joinL [1, 5] [3, 2] = [3, 5] from by decide]
  rintro e w4 ⟨v, rfl, hN, hb2⟩
  have h4 : Below w.heap.size w w4 := (h3.trans (hb1.mono h3.size)).trans (hb2.mono (Nat.le_trans h3.size hb1.size))
  clear hb1 I1 I2 hb2 h3
  go_wp2_with fail
  have hb1 : Below w4.heap.size w4 (w4.alloc (.cells #[.int .i64 3, .int .i64 5] 3)) := below_alloc (Below.refl _ _) (Nat.le_refl _) _
  have I1 : IntsIn (w4.alloc (.cells #[.int .i64 3, .int .i64 5] 3)) (some ⟨w4.heap.size, 0, none⟩) 2 [3, 5] := ints_blk [3, 5] (Blk.new w4 3 #[.int .i64 3, .int .i64 5]) (by decide) (by decide)
  obtain ⟨A2, cp2, rfl, I2, _⟩ := (hN.alloc (.cells #[.int .i64 3, .int .i64 5] 3)).ints (by decide)
  generalize (w4.alloc (.cells #[.int .i64 3, .int .i64 5] 3)) = x5 at *
  refine (same_any _ _ _ [3, 5] _ 2 2 [3, 5] x5 I2 I1).mono ?_
  rw [show decide (([3, 5] : List Int) = [3, 5]) = true from by decide]
  rintro e w5 ⟨rfl, q, hw5⟩
  have h5 : Below w.heap.size w w5 := by
    rw [hw5]
    exact below_drewN (h4.trans (hb1.mono h4.size)) q
  clear hb1 I1 I2 hw5 h4 hN
  go_wp2_with fail
  go_ret
  exact ⟨rfl, h5⟩
end Go.Proofs.YtalacionlbmcpaaGreatDoor
