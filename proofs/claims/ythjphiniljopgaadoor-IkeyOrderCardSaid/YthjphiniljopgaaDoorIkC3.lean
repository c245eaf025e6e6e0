/-
  The landed package ikey: Put.
-/
import Derived.Test.YthjphiniljopgaaDoorIkC2
import Derived.Test.YthjphiniljopgaaDoorRaw5
import Derived.Test.YthjphiniljopgaaDoorVec4
namespace Go.Proofs.YthjphiniljopgaaDoor
open Go.RowKit

theorem kempty_str : ByteArray.empty = (⟨#[]⟩ : ByteArray) := rfl
theorem kput6_any (x : Int) (w : World) (h0 : 0 ≤ x) (h1 : x < 281474976710656) :
    Calls Tryd.prog 15 #[.int .i64 x, .int .i64 6] w fun e w' => e = .returned (.tuple #[.string ⟨(be x.toNat 6).toArray⟩, .int .i64 0]) ∧ Below w.heap.size w w' := by
  have := put_ok x.toNat 6 w (by decide) (by decide) (by rw [show 2 ^ (8 * 6) = 281474976710656 from by decide]; omega)
  rw [show ((x.toNat : Nat) : Int) = x by omega] at this
  exact this
theorem kput1_any (x : Int) (w : World) (h0 : 0 ≤ x) (h1 : x < 256) :
    Calls Tryd.prog 15 #[.int .i64 x, .int .i64 1] w fun e w' => e = .returned (.tuple #[.string ⟨(be x.toNat 1).toArray⟩, .int .i64 0]) ∧ Below w.heap.size w w' := by
  have := put_ok x.toNat 1 w (by decide) (by decide) (by rw [show 2 ^ (8 * 1) = 256 from by decide]; omega)
  rw [show ((x.toNat : Nat) : Int) = x by omega] at this
  exact this

set_option maxRecDepth 100000 in
set_option maxHeartbeats 8000000 in
theorem kput_any (key : ByteArray) (A : Option Addr) (n c : Nat) (o x kd : Int) (nu : Nat) (it : Int) (tx : ByteArray) (xs : List Int) (w : World) (V : VerIn w key A n xs o x kd nu it tx) :
    Calls Tryd.prog 7 #[verV key A n c o x kd nu it tx] w fun e w' =>
      (okV key.data.toList xs o x = true ∧ e = .returned (.tuple #[.string ⟨(putVL key.data.toList xs o x).toArray⟩, .int .i64 0]) ∨ okV key.data.toList xs o x = false ∧ e = .returned (.tuple #[.string ByteArray.empty, .int .i64 1])) ∧ Below w.heap.size w w' := by
  have VC := fun W h => Lib.hid (kvalid_any key A n c o x kd nu it tx xs W h)
  have TC := fun W h h1 h2 h3 => Lib.hid (ktime_any key A n c o x kd nu it tx xs W h h1 h2 h3)
  simp only [verV] at VC TC
  unfold verV
  have B0 : Blk (w.alloc (.cells #[.string key, .slice A n c, .int .i64 o, .int .i64 x, .int .i64 kd, .float .f64 nu, .int .i64 it, .string tx] 28)) w.heap.size 28 (verC key A n c o x kd nu it tx) := Blk.new w _ _
  have hb0 : Below w.heap.size w (w.alloc (.cells #[.string key, .slice A n c, .int .i64 o, .int .i64 x, .int .i64 kd, .float .f64 nu, .int .i64 it, .string tx] 28)) := (Below.refl _ w).alloc (Nat.le_refl _) _
  have V := Lib.hid V
  obtain ⟨q, hq⟩ : ∃ q, okV key.data.toList xs o x = q := ⟨_, rfl⟩
  rw [hq] at VC ⊢
  cases q
  · clear TC B0
    have hb0 := Lib.hid hb0
    go_enter Tryd.func7, Tryd.ntmps7
    go_wp2_with fail
    refine (VC _ (V.out.below hb0.out)).out.mono ?_
    rintro e w1 ⟨rfl, h1⟩
    have hb1 := hb0.out.trans (h1.mono hb0.out.size)
    go_wp2_with fail
    go_ret2
    refine ⟨?_, hb1⟩
    simp [kempty_str]
  · have hk := okV_of hq
    have t0 := hk.time
    have o0 := hk.o0
    have o1 := hk.o255
    have x0 := hk.x0
    have x1 := hk.x1
    have e1 : IntKind.i64.wrap (281474976710655 - timeN xs o) = 281474976710655 - timeN xs o := IntWalk.i64_in _ (by omega)
    have e2 : wrap64 (281474976710655 - timeN xs o) = 281474976710655 - timeN xs o := IntWalk.wrap64_in _ (by omega)
    have e3 : IntKind.i64.wrap (255 - o) = 255 - o := IntWalk.i64_in _ (by omega)
    have e4 : wrap64 (255 - o) = 255 - o := IntWalk.wrap64_in _ (by omega)
    have e5 : IntKind.i64.wrap (281474976710655 - x) = 281474976710655 - x := IntWalk.i64_in _ (by omega)
    have e6 : wrap64 (281474976710655 - x) = 281474976710655 - x := IntWalk.wrap64_in _ (by omega)
    have P1 := fun W => Lib.hid (kput6_any (281474976710655 - timeN xs o) W (by omega) (by omega))
    have P2 := fun W => Lib.hid (kput1_any (255 - o) W (by omega) (by omega))
    have P3 := fun W => Lib.hid (kput6_any (281474976710655 - x) W (by omega) (by omega))
    have P4 := fun W h => Lib.hid (vput_ok A n c xs W h hk.at_)
    have kl := (isKeyL_of hk.key).2
    have P5 := fun W => Lib.hid (khead_any key W (by rw [str_size]; omega))
    have hfin : putVL key.data.toList xs o x = (((headL key.data.toList ++ be (281474976710655 - timeN xs o).toNat 6) ++ be (255 - o).toNat 1) ++ be (281474976710655 - x).toNat 6) ++ vecB xs := by
      unfold putVL tailL
      rw [show (281474976710655 - timeN xs o).toNat = 281474976710655 - (timeN xs o).toNat by omega, show (255 - o).toNat = 255 - o.toNat by omega, show (281474976710655 - x).toNat = 281474976710655 - x.toNat by omega]
      simp only [List.append_assoc]
    have hl1 := (headL_two key.data.toList).2.2
    have hl5 := vecB_length xs
    have hv8 := (validL_of hk.at_).1
    have hA : (headL key.data.toList).length ≤ 1000 := by omega
    have hB : (vecB xs).length ≤ 1000 := by omega
    have TC := fun W h => TC W h hk.at_ hk.o0 hk.o1
    rw [hfin]
    have lb1 := be_length (281474976710655 - timeN xs o).toNat 6
    have lb2 := be_length (255 - o).toNat 1
    have lb3 := be_length (281474976710655 - x).toNat 6
    clear hfin hl1 hl5 hv8 hk kl t0 x0 x1 hq
    generalize headL key.data.toList = L0 at *
    generalize be (281474976710655 - timeN xs o).toNat 6 = L1 at *
    generalize be (255 - o).toNat 1 = L2 at *
    generalize be (281474976710655 - x).toNat 6 = L3 at *
    generalize vecB xs = L4 at *
    generalize timeN xs o = t at *
    have k1 := kcat L0 L1 (by omega) (by omega)
    have k2 := kcat (L0 ++ L1) L2 (by rw [List.length_append]; omega) (by omega)
    have k3 := kcat (L0 ++ L1 ++ L2) L3 (by rw [List.length_append, List.length_append]; omega) (by omega)
    have k4 := kcat (L0 ++ L1 ++ L2 ++ L3) L4 (by rw [List.length_append, List.length_append, List.length_append]; omega) (by omega)
    obtain ⟨R1, r1⟩ : ∃ R, L0 ++ L1 = R := ⟨_, rfl⟩
    rw [r1] at k1 k2 k3 k4 ⊢
    obtain ⟨R2, r2⟩ : ∃ R, R1 ++ L2 = R := ⟨_, rfl⟩
    rw [r2] at k2 k3 k4 ⊢
    obtain ⟨R3, r3⟩ : ∃ R, R2 ++ L3 = R := ⟨_, rfl⟩
    rw [r3] at k3 k4 ⊢
    obtain ⟨R4, r4⟩ : ∃ R, R3 ++ L4 = R := ⟨_, rfl⟩
    rw [r4] at k4 ⊢
    clear r1 r2 r3 r4
    clear lb1 lb2 lb3 hA hB o0 o1
    have hb0 := Lib.hid hb0
    have B0 := Lib.hid B0
    obtain ⟨d0, d1, d2, d3, d4, d5, d6, d7⟩ := ver_cells B0.out
    go_enter Tryd.func7, Tryd.ntmps7
    go_wp2_with fail
    refine (VC _ (V.out.below hb0.out)).out.mono ?_
    rintro e w1 ⟨rfl, h1⟩
    have HB1 := Lib.hid (hb0.out.trans (h1.mono hb0.out.size))
    have BB1 := Lib.hid (B0.out.below h1 B0.out.lt)
    clear h1 hb0 B0 VC d0 d1 d2 d3 d4 d5 d6 d7
    obtain ⟨d0, d1, d2, d3, d4, d5, d6, d7⟩ := ver_cells BB1.out
    go_wp2_with fail
    refine (TC _ (V.out.below HB1.out)).out.mono ?_
    rintro e w2 ⟨rfl, h2⟩
    have HB2 := Lib.hid (HB1.out.trans (h2.mono HB1.out.size))
    have BB2 := Lib.hid (BB1.out.below h2 BB1.out.lt)
    clear h2 HB1 BB1 TC d0 d1 d2 d3 d4 d5 d6 d7
    go_wp2_with fail
    refine (P1 _).out.mono ?_
    rintro e w3 ⟨rfl, h3⟩
    have HB3 := Lib.hid (HB2.out.trans (h3.mono HB2.out.size))
    have BB3 := Lib.hid (BB2.out.below h3 BB2.out.lt)
    clear h3 HB2 BB2 P1
    obtain ⟨d0, d1, d2, d3, d4, d5, d6, d7⟩ := ver_cells BB3.out
    go_wp2_with fail
    refine (P2 _).out.mono ?_
    rintro e w4 ⟨rfl, h4⟩
    have HB4 := Lib.hid (HB3.out.trans (h4.mono HB3.out.size))
    have BB4 := Lib.hid (BB3.out.below h4 BB3.out.lt)
    clear h4 HB3 BB3 P2 d0 d1 d2 d3 d4 d5 d6 d7
    obtain ⟨d0, d1, d2, d3, d4, d5, d6, d7⟩ := ver_cells BB4.out
    go_wp2_with fail
    refine (P3 _).out.mono ?_
    rintro e w5 ⟨rfl, h5⟩
    have HB5 := Lib.hid (HB4.out.trans (h5.mono HB4.out.size))
    have BB5 := Lib.hid (BB4.out.below h5 BB4.out.lt)
    clear h5 HB4 BB4 P3 d0 d1 d2 d3 d4 d5 d6 d7
    obtain ⟨d0, d1, d2, d3, d4, d5, d6, d7⟩ := ver_cells BB5.out
    go_wp2_with fail
    refine (P4 _ (V.out.below HB5.out).ints).out.mono ?_
    rintro e w6 ⟨rfl, h6⟩
    have HB6 := Lib.hid (HB5.out.trans (h6.mono HB5.out.size))
    have BB6 := Lib.hid (BB5.out.below h6 BB5.out.lt)
    clear h6 HB5 BB5 P4 d0 d1 d2 d3 d4 d5 d6 d7
    obtain ⟨d0, d1, d2, d3, d4, d5, d6, d7⟩ := ver_cells BB6.out
    go_wp2_with fail
    refine (P5 _).out.mono ?_
    rintro e w7 ⟨rfl, h7⟩
    have HB7 := Lib.hid (HB6.out.trans (h7.mono HB6.out.size))
    clear h7 HB6 BB6 P5 d0 d1 d2 d3 d4 d5 d6 d7
    go_wp2_with fail
    go_ret2
    exact ⟨by simp, HB7.out⟩
end Go.Proofs.YthjphiniljopgaaDoor
