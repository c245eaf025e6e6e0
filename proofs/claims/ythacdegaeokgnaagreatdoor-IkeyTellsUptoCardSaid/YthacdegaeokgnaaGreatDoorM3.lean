/-
  Several texts in one: The landed package ikey: the key that its reader takes off.
  The landed package ikey: Put.
  What Get tells of bytes (chapter 5).
  The landed package ikey: the version that its reader takes off.
  The landed package ikey: Get, Key.
  The landed package ikey: Key; chapter 5's first call.
  Walks over the document's own answer to chapter 3: the order of vectors.
  The order of float64 numbers as words, by sign and rung (no program is named).
  The order of float64 numbers as ranks, and the bits that tell it (no program is named).
  Walks over package real, part 1: nan, sign, rank, the order.
  A walk over the document's own answer to chapter 2: isNan.
  Walks over package real, part 2: Put, Get.
  Walks over package real, part 4: the parts of a number, its text.
-/
import Derived.Test.YthacdegaeokgnaaGreatDoorM2
import Derived.Test.YthacdegaeokgnaaGreatDoorM1
import Derived.LoopTactic
import Derived.BigQuiet
import Ieee.Arith
import Derived.Laws.FloatArith
import Derived.Test.YthacdegaeokgnaaGreatDoorRows
import Derived.WalkKit
import Derived.WalkSpells
import Derived.WalkLawsBesides
import Derived.Laws.Externs
import Derived.Lib.Hide
import Derived.Lib.LaidTab
import Derived.Lib.ItoaNum
import Derived.Lib.TrailingZeros
import Derived.Lib.BitFns
import Derived.Laws.Bits64b
namespace Go.Proofs.YthacdegaeokgnaaGreatDoor
open Go.RowKit

theorem isB_by {B b p : Nat} {bs : List Value} {w w' : World} (h : IsB B b bs w) (G : w.grownBy w' (some p)) (hp : p < B) : IsB B b bs w' := by
  have key : ∀ q, Lib.BuilderAt 109 5 B b q bs w → Lib.BuilderAt 109 5 B b q bs w' := by
    rintro q hh
    have hlt := hh.lt
    obtain ⟨h1, v, h2, h3, h4⟩ := hh
    refine ⟨h1, v, (G.block b hlt (fun e => by injection e with e; omega)).trans h2, ⟨h3.1, ?_⟩, h4⟩
    rcases h3.2 with hn | ⟨g, cap, cur, hv, hg, hh, r⟩
    · exact Or.inl hn
    · exact Or.inr ⟨g, cap, cur, hv, hg, (G.block g (Array.getElem?_eq_some_iff.1 hh).1 (fun e => by injection e with e; omega)).trans hh, r⟩
  exact h.elim (fun x => Or.inl (key _ x)) (fun x => Or.inr (key _ x))
theorem NextZero.drop {l : List UInt8} {j : Nat} (h : NextZero l j) : l.drop j = 0 :: l.drop (j + 1) := by
  have hl : (l.take j).length = j := by rw [List.length_take]; have := h.lt; omega
  have e := congrArg (List.drop j) h.rest
  rw [e]
  exact List.drop_left' hl
/-- How many bytes the reader has left. -/
def restN (p : Nat) (w : World) : Nat := match w.cell? ⟨p, 0, none⟩ with | some (.string s) => s.size | _ => 0
theorem restN_of {w : World} {p : Nat} {s : ByteArray} (B : RdAt w p s) : restN p w = s.size := by
  unfold restN
  rw [show w.cell? ⟨p, 0, none⟩ = some (.string s) from B.cell 0]
theorem byte_index (s : ByteArray) (w : World) : Calls Tryz.prog 142 #[.string s, .int .u8 0] w fun e w' => e = .returned (.int .i64 (Lib.indexByte s.data.toList 0)) ∧ w' = w := Tryz.strings_IndexByte s 0 w

/-- What the reader's key tells. -/
def KeyIs (w w' : World) (p : Nat) (s : ByteArray) (e : Ending) : Prop :=
  ((∃ (k : List UInt8) (r : ByteArray), readK s.data.toList = some (k, r.data.toList) ∧ e = .returned (.string ⟨k.toArray⟩) ∧ k.length + r.size ≤ s.size ∧ RdAt w' p r) ∨ (readK s.data.toList = none ∧ e = gaveUp)) ∧ w.grownBy w' (some p)

set_option maxRecDepth 100000 in
set_option maxHeartbeats 8000000 in
theorem krkey_any (p : Nat) (s : ByteArray) (w : World) (B : RdAt w p s) (hs : s.size ≤ 140737488351232) :
    Calls Tryz.prog 103 #[.pointer (some ⟨p, 0, none⟩)] w fun e w' => KeyIs w w' p s e := by
  have hp : p < w.heap.size := B.lt
  have b0 : Hid (IsB w.heap.size w.heap.size (Lib.byteCells []) (w.alloc (.cells #[.pointer none, .slice none 0 0] 109))) :=
    Or.inl ⟨Nat.le_refl _, _, heap_alloc_new w _, World.ownsRow_nil _ _ _ _, by simp [Value.ownBlock]⟩
  have B0 : Hid (RdAt (w.alloc (.cells #[.pointer none, .slice none 0 0] 109)) p s) := B.alloc _
  have g0 : Hid (w.grownBy (w.alloc (.cells #[.pointer none, .slice none 0 0] 109)) (some p)) := only_alloc (kgrow_refl w _) _
  clear B
  go_enter Tryz.func103, Tryz.ntmps103
  go_wp2_with fail
  generalize w.alloc (.cells #[.pointer none, .slice none 0 0] 109) = w0 at *
  go_loopw [4] (fun _ wr => ∃ (r : ByteArray) (acc : List UInt8), Hid (RdAt wr p r) ∧ Hid (IsB w.heap.size w.heap.size (Lib.byteCells acc) wr) ∧ Hid (w.grownBy wr (some p)) ∧
      Hid (readK s.data.toList = (readK r.data.toList).map fun x => (acc ++ x.1, x.2)) ∧ acc.length + r.size ≤ s.size) (fun _ wr => restN p wr)
  case atStart => exact ⟨s, [], B0, b0, g0, by unfold Hid; simp, by simp⟩
  case round =>
    obtain ⟨r, acc, HR, HB, HG, HE, hal⟩ := hrel
    have c0 : wr.cell? ⟨p, 0, none⟩ = some (.string r) := HR.out.cell 0
    have IX := byte_index r wr
    have hge := Lib.indexByte_ge r.data.toList 0
    by_cases hm : Lib.indexByte r.data.toList 0 = -1
    · have hno : Hid (readK s.data.toList = none) := by
        unfold Hid
        rw [HE.out, readK_none (noZero_of hm)]
        rfl
      rw [hm] at IX
      have IX := Lib.hid IX
      clear hm hge HE
      go_wp2_with fail
      refine IX.out.mono ?_
      rintro e w2 ⟨rfl, rfl⟩
      go_wp2_with fail
      exact ⟨rfl, Or.inr ⟨hno.out, rfl⟩, HG.out⟩
    · obtain ⟨j, hj⟩ : ∃ j : Nat, Lib.indexByte r.data.toList 0 = (j : Int) := ⟨(Lib.indexByte r.data.toList 0).toNat, by omega⟩
      rw [hj] at IX
      have NZ := nextZero_of hj
      have hjl : j < r.size := by rw [str_size]; exact NZ.lt
      have hjn : ¬ (j : Int) < 0 := by omega
      have T1 := Lib.hid (ktake_ok p r j wr HR.out (by omega) (by omega))
      have IX := Lib.hid IX
      obtain ⟨r1, h1⟩ : ∃ r1, r.extract j r.size = r1 := ⟨_, rfl⟩
      rw [h1] at T1
      have e1 : r1.data.toList = 0 :: r.data.toList.drop (j + 1) := by rw [← h1, drop_in]; exact NZ.drop
      have z1 : r1.size + j = r.size := by rw [← h1, ByteArray.size_extract]; omega
      obtain ⟨q, hq⟩ : ∃ q, r.extract 0 j = q := ⟨_, rfl⟩
      rw [hq] at T1
      have eq : q.data.toList = r.data.toList.take j := by rw [← hq, str_take]
      have zq : q.size = j := by rw [← hq, ByteArray.size_extract]; omega
      have HE1 : Hid (readK s.data.toList = (readK r1.data.toList).map fun x => ((acc ++ q.data.toList) ++ x.1, x.2)) := by
        unfold Hid
        rw [HE.out, NZ.read, e1, eq, Option.map_map]
        congr 1
        funext x
        simp
      have hm0 := Lib.hid (restN_of HR.out)
      clear hm hge HE hj
      go_wp2_with fail
      refine IX.out.mono ?_
      rintro e w2 ⟨rfl, rfl⟩
      go_wp2_with fail
      refine T1.out.mono ?_
      rintro e w3 ⟨rfl, B3, g3⟩
      have hb3 := isB_by HB.out g3 hp
      have G3 := Lib.hid (kgrow_trans HG.out g3)
      have hw3 : w.heap.size ≤ w3.heap.size := G3.out.size
      have B3 := Lib.hid B3
      clear HR HB HG T1 IX c0 g3 h1 hq NZ
      go_wp2_with fail
      refine (bstr_any w.heap.size w.heap.size _ q w3 hb3 (by rw [Lib.byteCells_length]; omega) hw3).mono ?_
      rintro e w4 ⟨rfl, hb4, hl4⟩
      rw [Lib.strCells_eq, ← Lib.byteCells_append] at hb4
      have B4 := Lib.hid (B3.out.below hl4 hp)
      have G4 := Lib.hid (show w.grownBy w4 (some p) from ⟨hl4.os.trans G3.out.os, hl4.tape.trans G3.out.tape, hl4.output.trans G3.out.output, Nat.le_trans G3.out.size hl4.size, fun i hi hn => (hl4.block i hi).trans (G3.out.block i hi hn)⟩)
      have hb4 := Lib.hid hb4
      have hw4 : w.heap.size ≤ w4.heap.size := G4.out.size
      have hal4 : (acc ++ q.data.toList).length + r1.size ≤ s.size := by rw [List.length_append, ← str_size]; omega
      generalize acc ++ q.data.toList = acc1 at *
      clear B3 G3 hl4 hb3 hw3 eq zq hal
      cases hd : r.data.toList.drop (j + 1) with
      | nil =>
        rw [hd] at e1
        have z2 : r1.size < 2 := by rw [str_size, e1]; simp
        have T2 := Lib.hid (ktake_short p r1 2 w4 B4.out z2)
        have hno : Hid (readK s.data.toList = none) := by
          unfold Hid
          rw [HE1.out, e1]
          rfl
        clear hd e1 z1 z2
        go_wp2_with fail
        refine T2.out.mono ?_
        rintro e w5 ⟨rfl, rfl⟩
        go_wp2_with fail
        exact ⟨rfl, Or.inr ⟨hno.out, rfl⟩, G4.out⟩
      | cons d l =>
        rw [hd] at e1
        have z2 : r1.size = l.length + 2 := by rw [str_size, e1]; simp
        have T2 := Lib.hid (ktake_ok p r1 2 w4 B4.out (by omega) (by omega))
        obtain ⟨r2, h2⟩ : ∃ r2, r1.extract 2 r1.size = r2 := ⟨_, rfl⟩
        rw [h2] at T2
        have e2 : r2.data.toList = l := by rw [← h2, drop_in, e1]; rfl
        have zz : r2.size = l.length := by rw [str_size, e2]
        obtain ⟨y, hy⟩ : ∃ y, r1.extract 0 2 = y := ⟨_, rfl⟩
        rw [hy] at T2
        have ey : y.data.toList = [0, d] := by rw [← hy, str_take, e1]; rfl
        have t1 : (y.toList == [0, 1]) = decide (d = 1) := by
          rw [Lib.toList_data, ey, Bool.eq_iff_iff, beq_iff_eq, decide_eq_true_eq]
          simp
        have t2 : (y.toList == [0, 255]) = decide (d = 255) := by
          rw [Lib.toList_data, ey, Bool.eq_iff_iff, beq_iff_eq, decide_eq_true_eq]
          simp
        clear hd h2 hy ey
        by_cases d1 : d = 1
        · rw [decide_eq_true d1] at t1
          have hyes : Hid (readK s.data.toList = some (acc1, r2.data.toList)) := by
            unfold Hid
            rw [HE1.out, e1, d1, readK_end, e2]
            simp
          have hfin : Hid (acc1.length + r2.size ≤ s.size) := by unfold Hid; omega
          clear t2 d1 e1 e2 HE1
          go_wp2_with fail
          refine T2.out.mono ?_
          rintro e w5 ⟨rfl, B5, g5⟩
          have hb5 := isB_by hb4.out g5 hp
          have G5 := Lib.hid (kgrow_trans G4.out g5)
          have hw5 : w.heap.size ≤ w5.heap.size := G5.out.size
          have B5 := Lib.hid B5
          clear g5 T2
          go_wp2_with fail
          refine (Tryz.Builder_String_any w.heap.size w.heap.size _ w5 hb5 hw5).mono ?_
          rintro e w6 ⟨rfl, hl6⟩
          have B6 := Lib.hid (B5.out.below hl6 hp)
          have G6 := Lib.hid (show w.grownBy w6 (some p) from ⟨hl6.os.trans G5.out.os, hl6.tape.trans G5.out.tape, hl6.output.trans G5.out.output, Nat.le_trans G5.out.size hl6.size, fun i hi hn => (hl6.block i hi).trans (G5.out.block i hi hn)⟩)
          clear hl6 hb5
          go_wp2_with fail
          go_ret
          exact ⟨Or.inl ⟨acc1, r2, hyes.out, rfl, hfin.out, B6.out⟩, G6.out⟩
        · rw [decide_eq_false d1] at t1
          by_cases d2 : d = 255
          · rw [decide_eq_true d2] at t2
            have hnext : Hid (readK s.data.toList = (readK r2.data.toList).map fun x => ((acc1 ++ [0]) ++ x.1, x.2)) := by
              unfold Hid
              rw [HE1.out, e1, d2, readK_nought, e2, Option.map_map]
              congr 1
              funext x
              simp
            have hz : Hid (r2.size < r.size) := by unfold Hid; omega
            clear d1 d2 e1 e2 HE1
            go_wp2_with fail
            refine T2.out.mono ?_
            rintro e w5 ⟨rfl, B5, g5⟩
            have hb5 := isB_by hb4.out g5 hp
            have G5 := Lib.hid (kgrow_trans G4.out g5)
            have hw5 : w.heap.size ≤ w5.heap.size := G5.out.size
            have B5 := Lib.hid B5
            clear g5 T2
            go_wp2_with fail
            refine (bbyte_any w.heap.size w.heap.size _ 0 w5 hb5 (by rw [Lib.byteCells_length]; omega) hw5).mono ?_
            rintro e w6 ⟨rfl, hb6, hl6⟩
            have B6 := Lib.hid (B5.out.below hl6 hp)
            have G6 := Lib.hid (show w.grownBy w6 (some p) from ⟨hl6.os.trans G5.out.os, hl6.tape.trans G5.out.tape, hl6.output.trans G5.out.output, Nat.le_trans G5.out.size hl6.size, fun i hi hn => (hl6.block i hi).trans (G5.out.block i hi hn)⟩)
            have hb6' : Hid (IsB w.heap.size w.heap.size (Lib.byteCells (acc1 ++ [0])) w6) := by
              rw [Lib.byteCells_append]
              exact hb6
            clear hl6 hb5 hb6
            go_wp2_with fail
            go_roundw
            case rel => exact ⟨r2, acc1 ++ [0], B6, hb6', G6, hnext, by rw [List.length_append]; simp; omega⟩
            case measure =>
              rw [restN_of B6.out, hm0.out]
              exact hz.out
          · rw [decide_eq_false d2] at t2
            have hno : Hid (readK s.data.toList = none) := by
              unfold Hid
              rw [HE1.out, e1, readK_other d l d1 d2]
              rfl
            clear d1 d2 e1 e2 HE1
            go_wp2_with fail
            refine T2.out.mono ?_
            rintro e w5 ⟨rfl, B5, g5⟩
            have G5 := Lib.hid (kgrow_trans G4.out g5)
            clear g5 T2
            go_wp2_with fail
            exact ⟨rfl, Or.inr ⟨hno.out, rfl⟩, G5.out⟩
end Go.Proofs.YthacdegaeokgnaaGreatDoor

namespace Go.Proofs.YthacdegaeokgnaaGreatDoor
open Go.RowKit

theorem kempty_str : ByteArray.empty = (⟨#[]⟩ : ByteArray) := rfl
theorem kput6_any (x : Int) (w : World) (h0 : 0 ≤ x) (h1 : x < 281474976710656) :
    Calls Tryz.prog 21 #[.int .i64 x, .int .i64 6] w fun e w' => e = .returned (.tuple #[.string ⟨(be x.toNat 6).toArray⟩, .int .i64 0]) ∧ Below w.heap.size w w' := by
  have := put_ok x.toNat 6 w (by decide) (by decide) (by rw [show 2 ^ (8 * 6) = 281474976710656 from by decide]; omega)
  rw [show ((x.toNat : Nat) : Int) = x by omega] at this
  exact this
theorem kput1_any (x : Int) (w : World) (h0 : 0 ≤ x) (h1 : x < 256) :
    Calls Tryz.prog 21 #[.int .i64 x, .int .i64 1] w fun e w' => e = .returned (.tuple #[.string ⟨(be x.toNat 1).toArray⟩, .int .i64 0]) ∧ Below w.heap.size w w' := by
  have := put_ok x.toNat 1 w (by decide) (by decide) (by rw [show 2 ^ (8 * 1) = 256 from by decide]; omega)
  rw [show ((x.toNat : Nat) : Int) = x by omega] at this
  exact this

set_option maxRecDepth 100000 in
set_option maxHeartbeats 8000000 in
theorem kput_any (key : ByteArray) (A : Option Addr) (n c : Nat) (o x kd : Int) (nu : Nat) (it : Int) (tx : ByteArray) (xs : List Int) (w : World) (V : VerIn w key A n xs o x kd nu it tx) :
    Calls Tryz.prog 6 #[verV key A n c o x kd nu it tx] w fun e w' =>
      (okV key.data.toList xs o x = true ∧ e = .returned (.tuple #[.string ⟨(putVL key.data.toList xs o x).toArray⟩, .int .i64 0]) ∨ okV key.data.toList xs o x = false ∧ e = .returned (.tuple #[.string ByteArray.empty, .int .i64 1])) ∧ Below w.heap.size w w' := by
  have VC := fun W h => Lib.hid (kvalid_any key A n c o x kd nu it tx xs W h)
  have TC := fun W h h1 h2 h3 => Lib.hid (ktime_any key A n c o x kd nu it tx xs W h h1 h2 h3)
  simp only [verV] at VC TC
  unfold verV
  have B0 : Blk (w.alloc (.cells #[.string key, .slice A n c, .int .i64 o, .int .i64 x, .int .i64 kd, .float .f64 nu, .int .i64 it, .string tx] 28)) w.heap.size 28 (verC key A n c o x kd nu it tx) := Blk.new w _ _
  have hb0 : Below w.heap.size w (w.alloc (.cells #[.string key, .slice A n c, .int .i64 o, .int .i64 x, .int .i64 kd, .float .f64 nu, .int .i64 it, .string tx] 28)) := (Below.refl _ w).alloc (Nat.le_refl _) _
  have V := Lib.hid V
  obtain ⟨q, hq⟩ : ∃ q, okV key.data.toList xs o x = q := ⟨_, rfl⟩
  rw [hq] at VC ⊢
  cases q
  · clear TC B0
    have hb0 := Lib.hid hb0
    go_enter Tryz.func6, Tryz.ntmps6
    go_wp2_with fail
    refine (VC _ (V.out.below hb0.out)).out.mono ?_
    rintro e w1 ⟨rfl, h1⟩
    have hb1 := hb0.out.trans (h1.mono hb0.out.size)
    go_wp2_with fail
    go_ret2
    refine ⟨?_, hb1⟩
    simp [kempty_str]
  · have hk := okV_of hq
    have t0 := hk.time
    have o0 := hk.o0
    have o1 := hk.o255
    have x0 := hk.x0
    have x1 := hk.x1
    have e1 : IntKind.i64.wrap (281474976710655 - timeN xs o) = 281474976710655 - timeN xs o := IntWalk.i64_in _ (by omega)
    have e2 : wrap64 (281474976710655 - timeN xs o) = 281474976710655 - timeN xs o := IntWalk.wrap64_in _ (by omega)
    have e3 : IntKind.i64.wrap (255 - o) = 255 - o := IntWalk.i64_in _ (by omega)
    have e4 : wrap64 (255 - o) = 255 - o := IntWalk.wrap64_in _ (by omega)
    have e5 : IntKind.i64.wrap (281474976710655 - x) = 281474976710655 - x := IntWalk.i64_in _ (by omega)
    have e6 : wrap64 (281474976710655 - x) = 281474976710655 - x := IntWalk.wrap64_in _ (by omega)
    have P1 := fun W => Lib.hid (kput6_any (281474976710655 - timeN xs o) W (by omega) (by omega))
    have P2 := fun W => Lib.hid (kput1_any (255 - o) W (by omega) (by omega))
    have P3 := fun W => Lib.hid (kput6_any (281474976710655 - x) W (by omega) (by omega))
    have P4 := fun W h => Lib.hid (vput_ok A n c xs W h hk.at_)
    have kl := (isKeyL_of hk.key).2
    have P5 := fun W => Lib.hid (khead_any key W (by rw [str_size]; omega))
    have hfin : putVL key.data.toList xs o x = (((headL key.data.toList ++ be (281474976710655 - timeN xs o).toNat 6) ++ be (255 - o).toNat 1) ++ be (281474976710655 - x).toNat 6) ++ vecB xs := by
      unfold putVL tailL
      rw [show (281474976710655 - timeN xs o).toNat = 281474976710655 - (timeN xs o).toNat by omega, show (255 - o).toNat = 255 - o.toNat by omega, show (281474976710655 - x).toNat = 281474976710655 - x.toNat by omega]
      simp only [List.append_assoc]
    have hl1 := (headL_two key.data.toList).2.2
    have hl5 := vecB_length xs
    have hv8 := (validL_of hk.at_).1
    have hA : (headL key.data.toList).length ≤ 1000 := by omega
    have hB : (vecB xs).length ≤ 1000 := by omega
    have TC := fun W h => TC W h hk.at_ hk.o0 hk.o1
    rw [hfin]
    have lb1 := be_length (281474976710655 - timeN xs o).toNat 6
    have lb2 := be_length (255 - o).toNat 1
    have lb3 := be_length (281474976710655 - x).toNat 6
    clear hfin hl1 hl5 hv8 hk kl t0 x0 x1 hq
    generalize headL key.data.toList = L0 at *
    generalize be (281474976710655 - timeN xs o).toNat 6 = L1 at *
    generalize be (255 - o).toNat 1 = L2 at *
    generalize be (281474976710655 - x).toNat 6 = L3 at *
    generalize vecB xs = L4 at *
    generalize timeN xs o = t at *
    have k1 := kcat L0 L1 (by omega) (by omega)
    have k2 := kcat (L0 ++ L1) L2 (by rw [List.length_append]; omega) (by omega)
    have k3 := kcat (L0 ++ L1 ++ L2) L3 (by rw [List.length_append, List.length_append]; omega) (by omega)
    have k4 := kcat (L0 ++ L1 ++ L2 ++ L3) L4 (by rw [List.length_append, List.length_append, List.length_append]; omega) (by omega)
    obtain ⟨R1, r1⟩ : ∃ R, L0 ++ L1 = R := ⟨_, rfl⟩
    rw [r1] at k1 k2 k3 k4 ⊢
    obtain ⟨R2, r2⟩ : ∃ R, R1 ++ L2 = R := ⟨_, rfl⟩
    rw [r2] at k2 k3 k4 ⊢
    obtain ⟨R3, r3⟩ : ∃ R, R2 ++ L3 = R := ⟨_, rfl⟩
    rw [r3] at k3 k4 ⊢
    obtain ⟨R4, r4⟩ : ∃ R, R3 ++ L4 = R := ⟨_, rfl⟩
    rw [r4] at k4 ⊢
    clear r1 r2 r3 r4
    clear lb1 lb2 lb3 hA hB o0 o1
    have hb0 := Lib.hid hb0
    have B0 := Lib.hid B0
    obtain ⟨d0, d1, d2, d3, d4, d5, d6, d7⟩ := ver_cells B0.out
    go_enter Tryz.func6, Tryz.ntmps6
    go_wp2_with fail
    refine (VC _ (V.out.below hb0.out)).out.mono ?_
    rintro e w1 ⟨rfl, h1⟩
    have HB1 := Lib.hid (hb0.out.trans (h1.mono hb0.out.size))
    have BB1 := Lib.hid (B0.out.below h1 B0.out.lt)
    clear h1 hb0 B0 VC d0 d1 d2 d3 d4 d5 d6 d7
    obtain ⟨d0, d1, d2, d3, d4, d5, d6, d7⟩ := ver_cells BB1.out
    go_wp2_with fail
    refine (TC _ (V.out.below HB1.out)).out.mono ?_
    rintro e w2 ⟨rfl, h2⟩
    have HB2 := Lib.hid (HB1.out.trans (h2.mono HB1.out.size))
    have BB2 := Lib.hid (BB1.out.below h2 BB1.out.lt)
    clear h2 HB1 BB1 TC d0 d1 d2 d3 d4 d5 d6 d7
    go_wp2_with fail
    refine (P1 _).out.mono ?_
    rintro e w3 ⟨rfl, h3⟩
    have HB3 := Lib.hid (HB2.out.trans (h3.mono HB2.out.size))
    have BB3 := Lib.hid (BB2.out.below h3 BB2.out.lt)
    clear h3 HB2 BB2 P1
    obtain ⟨d0, d1, d2, d3, d4, d5, d6, d7⟩ := ver_cells BB3.out
    go_wp2_with fail
    refine (P2 _).out.mono ?_
    rintro e w4 ⟨rfl, h4⟩
    have HB4 := Lib.hid (HB3.out.trans (h4.mono HB3.out.size))
    have BB4 := Lib.hid (BB3.out.below h4 BB3.out.lt)
    clear h4 HB3 BB3 P2 d0 d1 d2 d3 d4 d5 d6 d7
    obtain ⟨d0, d1, d2, d3, d4, d5, d6, d7⟩ := ver_cells BB4.out
    go_wp2_with fail
    refine (P3 _).out.mono ?_
    rintro e w5 ⟨rfl, h5⟩
    have HB5 := Lib.hid (HB4.out.trans (h5.mono HB4.out.size))
    have BB5 := Lib.hid (BB4.out.below h5 BB4.out.lt)
    clear h5 HB4 BB4 P3 d0 d1 d2 d3 d4 d5 d6 d7
    obtain ⟨d0, d1, d2, d3, d4, d5, d6, d7⟩ := ver_cells BB5.out
    go_wp2_with fail
    refine (P4 _ (V.out.below HB5.out).ints).out.mono ?_
    rintro e w6 ⟨rfl, h6⟩
    have HB6 := Lib.hid (HB5.out.trans (h6.mono HB5.out.size))
    have BB6 := Lib.hid (BB5.out.below h6 BB5.out.lt)
    clear h6 HB5 BB5 P4 d0 d1 d2 d3 d4 d5 d6 d7
    obtain ⟨d0, d1, d2, d3, d4, d5, d6, d7⟩ := ver_cells BB6.out
    go_wp2_with fail
    refine (P5 _).out.mono ?_
    rintro e w7 ⟨rfl, h7⟩
    have HB7 := Lib.hid (HB6.out.trans (h7.mono HB6.out.size))
    clear h7 HB6 BB6 P5 d0 d1 d2 d3 d4 d5 d6 d7
    go_wp2_with fail
    go_ret2
    exact ⟨by simp, HB7.out⟩
end Go.Proofs.YthacdegaeokgnaaGreatDoor

namespace Go.Proofs.YthacdegaeokgnaaGreatDoor
open Go.RowKit

/-- What Get tells of bytes. -/
def GetIs (w w' : World) (l : List UInt8) (e : Ending) : Prop :=
  (∃ key A c o x xs, OkV key.data.toList xs o x ∧ l = putVL key.data.toList xs o x ∧ e = .returned (.tuple #[verV key A xs.length c o x 0 0 0 ByteArray.empty, .int .i64 0]) ∧ Nums w' w.heap.size 3 (.slice A xs.length c) xs) ∨
  ((∀ (key : ByteArray) (xs : List Int) (o x : Int), OkV key.data.toList xs o x → l ≠ putVL key.data.toList xs o x) ∧ e = .returned (.tuple #[verV ByteArray.empty none 0 0 0 0 0 0 0 ByteArray.empty, .int .i64 4]))
end Go.Proofs.YthacdegaeokgnaaGreatDoor

namespace Go.Proofs.YthacdegaeokgnaaGreatDoor
open Go.RowKit

theorem results_one_cell {fn : Func} {p : Tmp} {ty : TypeId} (h : fn.results = #[.cell p ty]) (tmps : Array Value) (P : Program) (w : World) :
    (results fn tmps).run P w = ((asAddr (tmps.getD p undef)).run P w).andThen fun a w₁ => (loadVar ty a).run P w₁ := by
  simp only [results, h]
  simp [Sem.run_bind, Result.andThen]
theorem grow_set8 {a w : World} {p q : Nat} (h : a.grownBy w (some q)) (hp : a.heap.size ≤ p) (v0 v1 v2 v3 v4 v5 v6 v7 : Value) :
    a.grownBy ((((((((w.setCell ⟨p, 0, none⟩ v0).setCell ⟨p, 1, none⟩ v1).setCell ⟨p, 2, none⟩ v2).setCell ⟨p, 3, none⟩ v3).setCell ⟨p, 4, none⟩ v4).setCell ⟨p, 5, none⟩ v5).setCell ⟨p, 6, none⟩ v6).setCell ⟨p, 7, none⟩ v7) (some q) :=
  only_setCell (only_setCell (only_setCell (only_setCell (only_setCell (only_setCell (only_setCell (only_setCell h (Or.inr hp) _) (Or.inr hp) _) (Or.inr hp) _) (Or.inr hp) _) (Or.inr hp) _) (Or.inr hp) _) (Or.inr hp) _) (Or.inr hp) _
/-- What was taken off stands in the result. -/
theorem kv_end {w2 : World} {p : Nat} {t : Array Value} {key : ByteArray} {A : Option Addr} {n c : Nat} {o x kd : Int} {nu : Nat} {it : Int} {tx : ByteArray} {R : Ending → World → Prop} (B : Blk w2 p 28 (verC key A n c o x kd nu it tx))
    (t2 : t[2]?.getD undef = .pointer (some ⟨p, 0, none⟩)) (h : R (.returned (verV key A n c o x kd nu it tx)) w2) :
    bodyPost Tryz.prog Tryz.f29 R .ret { tmps := t, defers := [] } w2 := by
  refine bodyPost_ret (v := verV key A n c o x kd nu it tx) ?_ rfl h
  obtain ⟨c0, c1, c2, c3, c4, c5, c6, c7⟩ := ver_cells B
  rw [results_one_cell rfl]
  simp [go_sem, t2, c0, c1, c2, c3, c4, c5, c6, c7, verV]

theorem kbytes_ext {X Y : ByteArray} (h : X.data.toList = Y.data.toList) : X = Y := ByteArray.ext (Array.toList_inj.1 h)
theorem krkey_some (p : Nat) (s : ByteArray) (k : List UInt8) (r : ByteArray) (w : World) (B : RdAt w p s) (hs : s.size ≤ 140737488351232) (hk : readK s.data.toList = some (k, r.data.toList)) :
    Calls Tryz.prog 103 #[.pointer (some ⟨p, 0, none⟩)] w fun e w' => e = .returned (.string ⟨k.toArray⟩) ∧ RdAt w' p r ∧ w.grownBy w' (some p) := by
  refine (krkey_any p s w B hs).mono ?_
  rintro e w' ⟨h, g⟩
  rcases h with ⟨k', r', h1, h2, h3, h4⟩ | ⟨h1, _⟩
  · rw [hk] at h1
    obtain ⟨rfl, e2⟩ := Prod.mk.inj (Option.some.inj h1)
    have e3 : r = r' := kbytes_ext e2
    subst e3
    exact ⟨h2, h4, g⟩
  · rw [hk] at h1; cases h1
theorem krkey_none (p : Nat) (s : ByteArray) (w : World) (B : RdAt w p s) (hs : s.size ≤ 140737488351232) (hk : readK s.data.toList = none) :
    Calls Tryz.prog 103 #[.pointer (some ⟨p, 0, none⟩)] w fun e w' => e = gaveUp ∧ w.grownBy w' (some p) := by
  refine (krkey_any p s w B hs).mono ?_
  rintro e w' ⟨h, g⟩
  rcases h with ⟨k', r', h1, h2, h3, h4⟩ | ⟨_, h2⟩
  · rw [hk] at h1; cases h1
  · exact ⟨h2, g⟩

/-- What stands between two steps: the reader's rest, the result's cells, the version's cells, what is left as it was. -/
structure Mid (w W : World) (p q : Nat) (r key : ByteArray) (A : Option Addr) (n c : Nat) (o x : Int) : Prop where
  rd : RdAt W p r
  res : Blk W w.heap.size 28 (verC ⟨#[]⟩ none 0 0 0 0 0 0 0 ⟨#[]⟩)
  ver : Blk W q 28 (verC key A n c o x 0 0 0 ⟨#[]⟩)
  gr : w.grownBy W (some p)
  lt : p < w.heap.size
  lq : w.heap.size < q
section
variable {w W W' : World} {p q : Nat} {r r' key : ByteArray} {A : Option Addr} {n c : Nat} {o x : Int}
theorem Mid.step (h : Mid w W p q r key A n c o x) (B : RdAt W' p r') (g : W.grownBy W' (some p)) : Mid w W' p q r' key A n c o x :=
  ⟨B, kblk_by h.res g (by have := h.lt; omega), kblk_by h.ver g (by have := h.lt; have := h.lq; omega), kgrow_trans h.gr g, h.lt, h.lq⟩
theorem Mid.far (h : Mid w W p q r key A n c o x) (j : Nat) (v : Value) : RdAt (W.setCell ⟨q, j, none⟩ v) p r ∧ Blk (W.setCell ⟨q, j, none⟩ v) w.heap.size 28 (verC ⟨#[]⟩ none 0 0 0 0 0 0 0 ⟨#[]⟩) ∧ w.grownBy (W.setCell ⟨q, j, none⟩ v) (some p) :=
  ⟨h.rd.far (by have := h.lt; have := h.lq; dsimp only; omega) _, h.res.far (by have := h.lq; dsimp only; omega) _, only_setCell h.gr (Or.inr (by have := h.lq; dsimp only; omega)) _⟩
theorem Mid.set2 (h : Mid w W p q r key A n c o x) (o' : Int) : Mid w (W.setCell ⟨q, 2, none⟩ (.int .i64 o')) p q r key A n c o' x :=
  ⟨(h.far 2 _).1, (h.far 2 _).2.1, ver_set_2 h.ver o', (h.far 2 _).2.2, h.lt, h.lq⟩
theorem Mid.set3 (h : Mid w W p q r key A n c o x) (x' : Int) : Mid w (W.setCell ⟨q, 3, none⟩ (.int .i64 x')) p q r key A n c o x' :=
  ⟨(h.far 3 _).1, (h.far 3 _).2.1, ver_set_3 h.ver x', (h.far 3 _).2.2, h.lt, h.lq⟩
theorem Mid.set1 (h : Mid w W p q r key A n c o x) (A' : Option Addr) (n' c' : Nat) : Mid w (W.setCell ⟨q, 1, none⟩ (.slice A' n' c')) p q r key A' n' c' o x :=
  ⟨(h.far 1 _).1, (h.far 1 _).2.1, ver_set_1 h.ver A' n' c', (h.far 1 _).2.2, h.lt, h.lq⟩
theorem Mid.below (h : Mid w W p q r key A n c o x) (hb : Below W.heap.size W W') : Mid w W' p q r key A n c o x :=
  ⟨h.rd.below hb h.rd.lt, h.res.below hb h.res.lt, h.ver.below hb h.ver.lt, kgrow_below h.gr hb, h.lt, h.lq⟩
end

set_option maxRecDepth 100000 in
set_option maxHeartbeats 4000000 in
theorem kver_nokey (p : Nat) (s : ByteArray) (w : World) (B : RdAt w p s) (hs : s.size ≤ 140737488351232) (hk : readK s.data.toList = none) :
    Calls Tryz.prog 29 #[.pointer (some ⟨p, 0, none⟩)] w fun e w' => e = gaveUp ∧ w.grownBy w' (some p) := by
  have hp : p < w.heap.size := B.lt
  have B0 : Hid (RdAt (w.alloc (.cells #[.string ⟨#[]⟩, .slice none 0 0, .int .i64 0, .int .i64 0, .int .i64 0, .float .f64 0, .int .i64 0, .string ⟨#[]⟩] 28)) p s) := B.alloc _
  have P0 : Hid (Blk (w.alloc (.cells #[.string ⟨#[]⟩, .slice none 0 0, .int .i64 0, .int .i64 0, .int .i64 0, .float .f64 0, .int .i64 0, .string ⟨#[]⟩] 28)) w.heap.size 28 (verC ⟨#[]⟩ none 0 0 0 0 0 0 0 ⟨#[]⟩)) := Blk.new w _ _
  have G0 : Hid (w.grownBy (w.alloc (.cells #[.string ⟨#[]⟩, .slice none 0 0, .int .i64 0, .int .i64 0, .int .i64 0, .float .f64 0, .int .i64 0, .string ⟨#[]⟩] 28)) (some p)) := only_alloc (kgrow_refl w _) _
  clear B
  have K := Lib.hid (krkey_none p s _ B0.out hs hk)
  clear hk
  go_enter Tryz.func29, Tryz.ntmps29
  go_wp2_with fail
  refine K.out.mono ?_
  rintro e w1 ⟨rfl, g1⟩
  go_wp2_with fail
  exact ⟨rfl, rfl, kgrow_trans G0.out g1⟩

set_option maxRecDepth 100000 in
set_option maxHeartbeats 4000000 in
theorem kver_short0 (p : Nat) (s : ByteArray) (w : World) (B : RdAt w p s) (hs : s.size ≤ 140737488351232) (k : List UInt8) (r : ByteArray) (hk : readK s.data.toList = some (k, r.data.toList)) (hr : r.size < 6) :
    Calls Tryz.prog 29 #[.pointer (some ⟨p, 0, none⟩)] w fun e w' => e = gaveUp ∧ w.grownBy w' (some p) := by
  have hrs : r.size ≤ s.size := by
    have h1 := congrArg List.length (readK_is hk)
    rw [List.length_append, ← str_size, ← str_size] at h1
    omega
  have hp : p < w.heap.size := B.lt
  have B0 : Hid (RdAt (w.alloc (.cells #[.string ⟨#[]⟩, .slice none 0 0, .int .i64 0, .int .i64 0, .int .i64 0, .float .f64 0, .int .i64 0, .string ⟨#[]⟩] 28)) p s) := B.alloc _
  have P0 : Hid (Blk (w.alloc (.cells #[.string ⟨#[]⟩, .slice none 0 0, .int .i64 0, .int .i64 0, .int .i64 0, .float .f64 0, .int .i64 0, .string ⟨#[]⟩] 28)) w.heap.size 28 (verC ⟨#[]⟩ none 0 0 0 0 0 0 0 ⟨#[]⟩)) := Blk.new w _ _
  have G0 : Hid (w.grownBy (w.alloc (.cells #[.string ⟨#[]⟩, .slice none 0 0, .int .i64 0, .int .i64 0, .int .i64 0, .float .f64 0, .int .i64 0, .string ⟨#[]⟩] 28)) (some p)) := only_alloc (kgrow_refl w _) _
  clear B
  have K := Lib.hid (krkey_some p s k r _ B0.out hs hk)
  have N1 := fun W (h : RdAt W p r) => Lib.hid (knum_short p r 6 W h (by omega))
  clear hk
  go_enter Tryz.func29, Tryz.ntmps29
  go_wp2_with fail
  refine K.out.mono ?_
  rintro e w1 ⟨rfl, R1, g1⟩
  have P1 := kblk_by P0.out g1 (by omega)
  have hq1 : w.heap.size < w1.heap.size := P1.lt
  have G1 := kgrow_trans G0.out g1
  have M0 : Hid (Mid w (w1.alloc (.cells #[.string ⟨k.toArray⟩, .slice none 0 0, .int .i64 0, .int .i64 0, .int .i64 0, .float .f64 0, .int .i64 0, .string ⟨#[]⟩] 28)) p w1.heap.size r ⟨k.toArray⟩ none 0 0 0 0) := ⟨R1.alloc _, P1.alloc _, Blk.new w1 _ _, only_alloc G1 _, hp, hq1⟩
  clear K B0 P0 G0 R1 P1 G1 g1
  have hst := run_sto_f64
  go_wp2_with fail
  clear hst
  generalize w1.alloc (.cells #[.string ⟨k.toArray⟩, .slice none 0 0, .int .i64 0, .int .i64 0, .int .i64 0, .float .f64 0, .int .i64 0, .string ⟨#[]⟩] 28) = W0 at *
  generalize w1.heap.size = q at *
  have M := M0
  clear M0
  refine (N1 _ M.out.rd).out.mono ?_
  rintro e w9 ⟨rfl, rfl⟩
  go_wp2_with fail
  exact ⟨rfl, rfl, M.out.gr⟩

set_option maxRecDepth 100000 in
set_option maxHeartbeats 4000000 in
theorem kver_short1 (p : Nat) (s : ByteArray) (w : World) (B : RdAt w p s) (hs : s.size ≤ 140737488351232) (k : List UInt8) (r : ByteArray) (hk : readK s.data.toList = some (k, r.data.toList)) (hr : 6 ≤ r.size) (hr2 : r.size < 7) :
    Calls Tryz.prog 29 #[.pointer (some ⟨p, 0, none⟩)] w fun e w' => e = gaveUp ∧ w.grownBy w' (some p) := by
  have hrs : r.size ≤ s.size := by
    have h1 := congrArg List.length (readK_is hk)
    rw [List.length_append, ← str_size, ← str_size] at h1
    omega
  have hp : p < w.heap.size := B.lt
  have B0 : Hid (RdAt (w.alloc (.cells #[.string ⟨#[]⟩, .slice none 0 0, .int .i64 0, .int .i64 0, .int .i64 0, .float .f64 0, .int .i64 0, .string ⟨#[]⟩] 28)) p s) := B.alloc _
  have P0 : Hid (Blk (w.alloc (.cells #[.string ⟨#[]⟩, .slice none 0 0, .int .i64 0, .int .i64 0, .int .i64 0, .float .f64 0, .int .i64 0, .string ⟨#[]⟩] 28)) w.heap.size 28 (verC ⟨#[]⟩ none 0 0 0 0 0 0 0 ⟨#[]⟩)) := Blk.new w _ _
  have G0 : Hid (w.grownBy (w.alloc (.cells #[.string ⟨#[]⟩, .slice none 0 0, .int .i64 0, .int .i64 0, .int .i64 0, .float .f64 0, .int .i64 0, .string ⟨#[]⟩] 28)) (some p)) := only_alloc (kgrow_refl w _) _
  clear B
  have K := Lib.hid (krkey_some p s k r _ B0.out hs hk)
  have N1 := fun W (h : RdAt W p r) => Lib.hid (knum_ok p r 6 W h (by omega) (by decide) (by decide) (by omega))
  obtain ⟨r1, hr1⟩ : ∃ r1, r.extract 6 r.size = r1 := ⟨_, rfl⟩
  rw [hr1] at N1
  have zr1 : r1.size + 6 = r.size := by rw [← hr1, ByteArray.size_extract]; omega
  have dr1 : r1.data.toList = r.data.toList.drop 6 := by rw [← hr1, drop_in]
  have N2 := fun W (h : RdAt W p r1) => Lib.hid (knum_short p r1 1 W h (by omega))
  obtain ⟨tn, htn⟩ : ∃ m : Nat, getL (r.data.toList.take 6) = m := ⟨_, rfl⟩
  have bt : tn ≤ 281474976710655 := by
    have h1 := getL_below (r.data.toList.take 6)
    rw [List.length_take, ← str_size, Nat.min_eq_left (by omega), htn] at h1
    omega
  rw [htn] at N1
  obtain ⟨TM, hTM⟩ : ∃ z : Int, 281474976710655 - (tn : Int) = z := ⟨_, rfl⟩
  have uTM : IntKind.i64.wrap (281474976710655 - (tn : Int)) = TM := (IntWalk.i64_in _ (by omega)).trans hTM
  have yTM : wrap64 (281474976710655 - (tn : Int)) = TM := (IntWalk.wrap64_in _ (by omega)).trans hTM
  clear hk
  go_enter Tryz.func29, Tryz.ntmps29
  go_wp2_with fail
  refine K.out.mono ?_
  rintro e w1 ⟨rfl, R1, g1⟩
  have P1 := kblk_by P0.out g1 (by omega)
  have hq1 : w.heap.size < w1.heap.size := P1.lt
  have G1 := kgrow_trans G0.out g1
  have M0 : Hid (Mid w (w1.alloc (.cells #[.string ⟨k.toArray⟩, .slice none 0 0, .int .i64 0, .int .i64 0, .int .i64 0, .float .f64 0, .int .i64 0, .string ⟨#[]⟩] 28)) p w1.heap.size r ⟨k.toArray⟩ none 0 0 0 0) := ⟨R1.alloc _, P1.alloc _, Blk.new w1 _ _, only_alloc G1 _, hp, hq1⟩
  clear K B0 P0 G0 R1 P1 G1 g1
  have hst := run_sto_f64
  go_wp2_with fail
  clear hst
  generalize w1.alloc (.cells #[.string ⟨k.toArray⟩, .slice none 0 0, .int .i64 0, .int .i64 0, .int .i64 0, .float .f64 0, .int .i64 0, .string ⟨#[]⟩] 28) = W0 at *
  generalize w1.heap.size = q at *
  have M := M0
  clear M0
  refine (N1 _ M.out.rd).out.mono ?_
  rintro e v1 ⟨rfl, R, g⟩
  have M1 := Lib.hid (M.out.step R g)
  clear R g M N1
  obtain ⟨c0, c1, c2, c3, c4, c5, c6, c7⟩ := ver_cells M1.out.ver
  have z2 := M1.out.ver.frozen 2
  have z3 := M1.out.ver.frozen 3
  have z1 := M1.out.ver.frozen 1
  go_wp2_with fail
  have M := M1
  clear M1 c0 c1 c2 c3 c4 c5 c6 c7 z1 z2 z3
  refine (N2 _ M.out.rd).out.mono ?_
  rintro e w9 ⟨rfl, rfl⟩
  go_wp2_with fail
  exact ⟨rfl, rfl, M.out.gr⟩

set_option maxRecDepth 100000 in
set_option maxHeartbeats 4000000 in
theorem kver_short2 (p : Nat) (s : ByteArray) (w : World) (B : RdAt w p s) (hs : s.size ≤ 140737488351232) (k : List UInt8) (r : ByteArray) (hk : readK s.data.toList = some (k, r.data.toList)) (hr : 7 ≤ r.size) (hr2 : r.size < 13) :
    Calls Tryz.prog 29 #[.pointer (some ⟨p, 0, none⟩)] w fun e w' => e = gaveUp ∧ w.grownBy w' (some p) := by
  have hrs : r.size ≤ s.size := by
    have h1 := congrArg List.length (readK_is hk)
    rw [List.length_append, ← str_size, ← str_size] at h1
    omega
  have hp : p < w.heap.size := B.lt
  have B0 : Hid (RdAt (w.alloc (.cells #[.string ⟨#[]⟩, .slice none 0 0, .int .i64 0, .int .i64 0, .int .i64 0, .float .f64 0, .int .i64 0, .string ⟨#[]⟩] 28)) p s) := B.alloc _
  have P0 : Hid (Blk (w.alloc (.cells #[.string ⟨#[]⟩, .slice none 0 0, .int .i64 0, .int .i64 0, .int .i64 0, .float .f64 0, .int .i64 0, .string ⟨#[]⟩] 28)) w.heap.size 28 (verC ⟨#[]⟩ none 0 0 0 0 0 0 0 ⟨#[]⟩)) := Blk.new w _ _
  have G0 : Hid (w.grownBy (w.alloc (.cells #[.string ⟨#[]⟩, .slice none 0 0, .int .i64 0, .int .i64 0, .int .i64 0, .float .f64 0, .int .i64 0, .string ⟨#[]⟩] 28)) (some p)) := only_alloc (kgrow_refl w _) _
  clear B
  have K := Lib.hid (krkey_some p s k r _ B0.out hs hk)
  have N1 := fun W (h : RdAt W p r) => Lib.hid (knum_ok p r 6 W h (by omega) (by decide) (by decide) (by omega))
  obtain ⟨r1, hr1⟩ : ∃ r1, r.extract 6 r.size = r1 := ⟨_, rfl⟩
  rw [hr1] at N1
  have zr1 : r1.size + 6 = r.size := by rw [← hr1, ByteArray.size_extract]; omega
  have dr1 : r1.data.toList = r.data.toList.drop 6 := by rw [← hr1, drop_in]
  have N2 := fun W (h : RdAt W p r1) => Lib.hid (knum_ok p r1 1 W h (by omega) (by decide) (by decide) (by omega))
  obtain ⟨r2, hr2⟩ : ∃ r2, r1.extract 1 r1.size = r2 := ⟨_, rfl⟩
  rw [hr2] at N2
  have zr2 : r2.size + 1 = r1.size := by rw [← hr2, ByteArray.size_extract]; omega
  have dr2 : r2.data.toList = r1.data.toList.drop 1 := by rw [← hr2, drop_in]
  have N3 := fun W (h : RdAt W p r2) => Lib.hid (knum_short p r2 6 W h (by omega))
  obtain ⟨tn, htn⟩ : ∃ m : Nat, getL (r.data.toList.take 6) = m := ⟨_, rfl⟩
  have bt : tn ≤ 281474976710655 := by
    have h1 := getL_below (r.data.toList.take 6)
    rw [List.length_take, ← str_size, Nat.min_eq_left (by omega), htn] at h1
    omega
  rw [htn] at N1
  obtain ⟨TM, hTM⟩ : ∃ z : Int, 281474976710655 - (tn : Int) = z := ⟨_, rfl⟩
  have uTM : IntKind.i64.wrap (281474976710655 - (tn : Int)) = TM := (IntWalk.i64_in _ (by omega)).trans hTM
  have yTM : wrap64 (281474976710655 - (tn : Int)) = TM := (IntWalk.wrap64_in _ (by omega)).trans hTM
  obtain ⟨on, hon⟩ : ∃ m : Nat, getL (r1.data.toList.take 1) = m := ⟨_, rfl⟩
  have bo : on ≤ 255 := by
    have h1 := getL_below (r1.data.toList.take 1)
    rw [List.length_take, ← str_size, Nat.min_eq_left (by omega), hon] at h1
    omega
  rw [hon] at N2
  obtain ⟨O, hO⟩ : ∃ z : Int, 255 - (on : Int) = z := ⟨_, rfl⟩
  have uO : IntKind.i64.wrap (255 - (on : Int)) = O := (IntWalk.i64_in _ (by omega)).trans hO
  have yO : wrap64 (255 - (on : Int)) = O := (IntWalk.wrap64_in _ (by omega)).trans hO
  clear hk
  go_enter Tryz.func29, Tryz.ntmps29
  go_wp2_with fail
  refine K.out.mono ?_
  rintro e w1 ⟨rfl, R1, g1⟩
  have P1 := kblk_by P0.out g1 (by omega)
  have hq1 : w.heap.size < w1.heap.size := P1.lt
  have G1 := kgrow_trans G0.out g1
  have M0 : Hid (Mid w (w1.alloc (.cells #[.string ⟨k.toArray⟩, .slice none 0 0, .int .i64 0, .int .i64 0, .int .i64 0, .float .f64 0, .int .i64 0, .string ⟨#[]⟩] 28)) p w1.heap.size r ⟨k.toArray⟩ none 0 0 0 0) := ⟨R1.alloc _, P1.alloc _, Blk.new w1 _ _, only_alloc G1 _, hp, hq1⟩
  clear K B0 P0 G0 R1 P1 G1 g1
  have hst := run_sto_f64
  go_wp2_with fail
  clear hst
  generalize w1.alloc (.cells #[.string ⟨k.toArray⟩, .slice none 0 0, .int .i64 0, .int .i64 0, .int .i64 0, .float .f64 0, .int .i64 0, .string ⟨#[]⟩] 28) = W0 at *
  generalize w1.heap.size = q at *
  have M := M0
  clear M0
  refine (N1 _ M.out.rd).out.mono ?_
  rintro e v1 ⟨rfl, R, g⟩
  have M1 := Lib.hid (M.out.step R g)
  clear R g M N1
  obtain ⟨c0, c1, c2, c3, c4, c5, c6, c7⟩ := ver_cells M1.out.ver
  have z2 := M1.out.ver.frozen 2
  have z3 := M1.out.ver.frozen 3
  have z1 := M1.out.ver.frozen 1
  go_wp2_with fail
  have M := M1
  clear M1 c0 c1 c2 c3 c4 c5 c6 c7 z1 z2 z3
  refine (N2 _ M.out.rd).out.mono ?_
  rintro e v2 ⟨rfl, R, g⟩
  have M1 := Lib.hid (M.out.step R g)
  clear R g M N2
  obtain ⟨c0, c1, c2, c3, c4, c5, c6, c7⟩ := ver_cells M1.out.ver
  have z2 := M1.out.ver.frozen 2
  have z3 := M1.out.ver.frozen 3
  have z1 := M1.out.ver.frozen 1
  go_wp2_with fail
  have M := Lib.hid (M1.out.set2 O)
  clear M1 c0 c1 c2 c3 c4 c5 c6 c7 z1 z2 z3
  refine (N3 _ M.out.rd).out.mono ?_
  rintro e w9 ⟨rfl, rfl⟩
  go_wp2_with fail
  exact ⟨rfl, rfl, M.out.gr⟩

set_option maxRecDepth 100000 in
set_option maxHeartbeats 4000000 in
theorem kver_novec (p : Nat) (s : ByteArray) (w : World) (B : RdAt w p s) (hs : s.size ≤ 140737488351232) (k : List UInt8) (r : ByteArray) (hk : readK s.data.toList = some (k, r.data.toList)) (hr : 13 ≤ r.size) (r0 : ByteArray) (h0 : r0.data.toList = r.data.toList.drop 13) (xs : List Int) (n er : Int) (hT : getT r0 = (xs, n, er)) (hE : er ≠ 0) :
    Calls Tryz.prog 29 #[.pointer (some ⟨p, 0, none⟩)] w fun e w' => e = gaveUp ∧ w.grownBy w' (some p) := by
  have hrs : r.size ≤ s.size := by
    have h1 := congrArg List.length (readK_is hk)
    rw [List.length_append, ← str_size, ← str_size] at h1
    omega
  have hp : p < w.heap.size := B.lt
  have B0 : Hid (RdAt (w.alloc (.cells #[.string ⟨#[]⟩, .slice none 0 0, .int .i64 0, .int .i64 0, .int .i64 0, .float .f64 0, .int .i64 0, .string ⟨#[]⟩] 28)) p s) := B.alloc _
  have P0 : Hid (Blk (w.alloc (.cells #[.string ⟨#[]⟩, .slice none 0 0, .int .i64 0, .int .i64 0, .int .i64 0, .float .f64 0, .int .i64 0, .string ⟨#[]⟩] 28)) w.heap.size 28 (verC ⟨#[]⟩ none 0 0 0 0 0 0 0 ⟨#[]⟩)) := Blk.new w _ _
  have G0 : Hid (w.grownBy (w.alloc (.cells #[.string ⟨#[]⟩, .slice none 0 0, .int .i64 0, .int .i64 0, .int .i64 0, .float .f64 0, .int .i64 0, .string ⟨#[]⟩] 28)) (some p)) := only_alloc (kgrow_refl w _) _
  clear B
  have K := Lib.hid (krkey_some p s k r _ B0.out hs hk)
  have N1 := fun W (h : RdAt W p r) => Lib.hid (knum_ok p r 6 W h (by omega) (by decide) (by decide) (by omega))
  obtain ⟨r1, hr1⟩ : ∃ r1, r.extract 6 r.size = r1 := ⟨_, rfl⟩
  rw [hr1] at N1
  have zr1 : r1.size + 6 = r.size := by rw [← hr1, ByteArray.size_extract]; omega
  have dr1 : r1.data.toList = r.data.toList.drop 6 := by rw [← hr1, drop_in]
  have N2 := fun W (h : RdAt W p r1) => Lib.hid (knum_ok p r1 1 W h (by omega) (by decide) (by decide) (by omega))
  obtain ⟨r2, hr2⟩ : ∃ r2, r1.extract 1 r1.size = r2 := ⟨_, rfl⟩
  rw [hr2] at N2
  have zr2 : r2.size + 1 = r1.size := by rw [← hr2, ByteArray.size_extract]; omega
  have dr2 : r2.data.toList = r1.data.toList.drop 1 := by rw [← hr2, drop_in]
  have N3 := fun W (h : RdAt W p r2) => Lib.hid (knum_ok p r2 6 W h (by omega) (by decide) (by decide) (by omega))
  obtain ⟨r3, hr3⟩ : ∃ r3, r2.extract 6 r2.size = r3 := ⟨_, rfl⟩
  rw [hr3] at N3
  have zr3 : r3.size + 6 = r2.size := by rw [← hr3, ByteArray.size_extract]; omega
  have dr3 : r3.data.toList = r2.data.toList.drop 6 := by rw [← hr3, drop_in]
  obtain ⟨tn, htn⟩ : ∃ m : Nat, getL (r.data.toList.take 6) = m := ⟨_, rfl⟩
  have bt : tn ≤ 281474976710655 := by
    have h1 := getL_below (r.data.toList.take 6)
    rw [List.length_take, ← str_size, Nat.min_eq_left (by omega), htn] at h1
    omega
  rw [htn] at N1
  obtain ⟨TM, hTM⟩ : ∃ z : Int, 281474976710655 - (tn : Int) = z := ⟨_, rfl⟩
  have uTM : IntKind.i64.wrap (281474976710655 - (tn : Int)) = TM := (IntWalk.i64_in _ (by omega)).trans hTM
  have yTM : wrap64 (281474976710655 - (tn : Int)) = TM := (IntWalk.wrap64_in _ (by omega)).trans hTM
  obtain ⟨on, hon⟩ : ∃ m : Nat, getL (r1.data.toList.take 1) = m := ⟨_, rfl⟩
  have bo : on ≤ 255 := by
    have h1 := getL_below (r1.data.toList.take 1)
    rw [List.length_take, ← str_size, Nat.min_eq_left (by omega), hon] at h1
    omega
  rw [hon] at N2
  obtain ⟨O, hO⟩ : ∃ z : Int, 255 - (on : Int) = z := ⟨_, rfl⟩
  have uO : IntKind.i64.wrap (255 - (on : Int)) = O := (IntWalk.i64_in _ (by omega)).trans hO
  have yO : wrap64 (255 - (on : Int)) = O := (IntWalk.wrap64_in _ (by omega)).trans hO
  obtain ⟨xn, hxn⟩ : ∃ m : Nat, getL (r2.data.toList.take 6) = m := ⟨_, rfl⟩
  have bx : xn ≤ 281474976710655 := by
    have h1 := getL_below (r2.data.toList.take 6)
    rw [List.length_take, ← str_size, Nat.min_eq_left (by omega), hxn] at h1
    omega
  rw [hxn] at N3
  obtain ⟨X, hX⟩ : ∃ z : Int, 281474976710655 - (xn : Int) = z := ⟨_, rfl⟩
  have uX : IntKind.i64.wrap (281474976710655 - (xn : Int)) = X := (IntWalk.i64_in _ (by omega)).trans hX
  have yX : wrap64 (281474976710655 - (xn : Int)) = X := (IntWalk.wrap64_in _ (by omega)).trans hX
  have e3 : r3 = r0 := kbytes_ext (by rw [dr3, dr2, dr1, h0, List.drop_drop, List.drop_drop])
  have V := fun W (h : RdAt W p r3) => Lib.hid (kvec_bad p r3 xs n er W h (by omega) (by rw [e3]; exact hT) hE)
  clear hk hT hE h0 e3 dr1 dr2 dr3
  go_enter Tryz.func29, Tryz.ntmps29
  go_wp2_with fail
  refine K.out.mono ?_
  rintro e w1 ⟨rfl, R1, g1⟩
  have P1 := kblk_by P0.out g1 (by omega)
  have hq1 : w.heap.size < w1.heap.size := P1.lt
  have G1 := kgrow_trans G0.out g1
  have M0 : Hid (Mid w (w1.alloc (.cells #[.string ⟨k.toArray⟩, .slice none 0 0, .int .i64 0, .int .i64 0, .int .i64 0, .float .f64 0, .int .i64 0, .string ⟨#[]⟩] 28)) p w1.heap.size r ⟨k.toArray⟩ none 0 0 0 0) := ⟨R1.alloc _, P1.alloc _, Blk.new w1 _ _, only_alloc G1 _, hp, hq1⟩
  clear K B0 P0 G0 R1 P1 G1 g1
  have hst := run_sto_f64
  go_wp2_with fail
  clear hst
  generalize w1.alloc (.cells #[.string ⟨k.toArray⟩, .slice none 0 0, .int .i64 0, .int .i64 0, .int .i64 0, .float .f64 0, .int .i64 0, .string ⟨#[]⟩] 28) = W0 at *
  generalize w1.heap.size = q at *
  have M := M0
  clear M0
  refine (N1 _ M.out.rd).out.mono ?_
  rintro e v1 ⟨rfl, R, g⟩
  have M1 := Lib.hid (M.out.step R g)
  clear R g M N1
  obtain ⟨c0, c1, c2, c3, c4, c5, c6, c7⟩ := ver_cells M1.out.ver
  have z2 := M1.out.ver.frozen 2
  have z3 := M1.out.ver.frozen 3
  have z1 := M1.out.ver.frozen 1
  go_wp2_with fail
  have M := M1
  clear M1 c0 c1 c2 c3 c4 c5 c6 c7 z1 z2 z3
  refine (N2 _ M.out.rd).out.mono ?_
  rintro e v2 ⟨rfl, R, g⟩
  have M1 := Lib.hid (M.out.step R g)
  clear R g M N2
  obtain ⟨c0, c1, c2, c3, c4, c5, c6, c7⟩ := ver_cells M1.out.ver
  have z2 := M1.out.ver.frozen 2
  have z3 := M1.out.ver.frozen 3
  have z1 := M1.out.ver.frozen 1
  go_wp2_with fail
  have M := Lib.hid (M1.out.set2 O)
  clear M1 c0 c1 c2 c3 c4 c5 c6 c7 z1 z2 z3
  refine (N3 _ M.out.rd).out.mono ?_
  rintro e v3 ⟨rfl, R, g⟩
  have M1 := Lib.hid (M.out.step R g)
  clear R g M N3
  obtain ⟨c0, c1, c2, c3, c4, c5, c6, c7⟩ := ver_cells M1.out.ver
  have z2 := M1.out.ver.frozen 2
  have z3 := M1.out.ver.frozen 3
  have z1 := M1.out.ver.frozen 1
  go_wp2_with fail
  have M := Lib.hid (M1.out.set3 X)
  clear M1 c0 c1 c2 c3 c4 c5 c6 c7 z1 z2 z3
  refine (V _ M.out.rd).out.mono ?_
  rintro e w9 ⟨rfl, hb⟩
  have g9 := kgrow_below M.out.gr hb
  go_wp2_with fail
  exact ⟨rfl, rfl, g9⟩

set_option maxRecDepth 100000 in
set_option maxHeartbeats 4000000 in
theorem kver_more (p : Nat) (s : ByteArray) (w : World) (B : RdAt w p s) (hs : s.size ≤ 140737488351232) (k : List UInt8) (r : ByteArray) (hk : readK s.data.toList = some (k, r.data.toList)) (hr : 13 ≤ r.size) (r0 : ByteArray) (h0 : r0.data.toList = r.data.toList.drop 13) (xs : List Int) (kk : Nat) (hT : getT r0 = (xs, (kk : Int), 0)) (hkk : kk ≤ r0.size) (hne : kk < r0.size) :
    Calls Tryz.prog 29 #[.pointer (some ⟨p, 0, none⟩)] w fun e w' => e = gaveUp ∧ w.grownBy w' (some p) := by
  have hrs : r.size ≤ s.size := by
    have h1 := congrArg List.length (readK_is hk)
    rw [List.length_append, ← str_size, ← str_size] at h1
    omega
  have hp : p < w.heap.size := B.lt
  have B0 : Hid (RdAt (w.alloc (.cells #[.string ⟨#[]⟩, .slice none 0 0, .int .i64 0, .int .i64 0, .int .i64 0, .float .f64 0, .int .i64 0, .string ⟨#[]⟩] 28)) p s) := B.alloc _
  have P0 : Hid (Blk (w.alloc (.cells #[.string ⟨#[]⟩, .slice none 0 0, .int .i64 0, .int .i64 0, .int .i64 0, .float .f64 0, .int .i64 0, .string ⟨#[]⟩] 28)) w.heap.size 28 (verC ⟨#[]⟩ none 0 0 0 0 0 0 0 ⟨#[]⟩)) := Blk.new w _ _
  have G0 : Hid (w.grownBy (w.alloc (.cells #[.string ⟨#[]⟩, .slice none 0 0, .int .i64 0, .int .i64 0, .int .i64 0, .float .f64 0, .int .i64 0, .string ⟨#[]⟩] 28)) (some p)) := only_alloc (kgrow_refl w _) _
  clear B
  have K := Lib.hid (krkey_some p s k r _ B0.out hs hk)
  have N1 := fun W (h : RdAt W p r) => Lib.hid (knum_ok p r 6 W h (by omega) (by decide) (by decide) (by omega))
  obtain ⟨r1, hr1⟩ : ∃ r1, r.extract 6 r.size = r1 := ⟨_, rfl⟩
  rw [hr1] at N1
  have zr1 : r1.size + 6 = r.size := by rw [← hr1, ByteArray.size_extract]; omega
  have dr1 : r1.data.toList = r.data.toList.drop 6 := by rw [← hr1, drop_in]
  have N2 := fun W (h : RdAt W p r1) => Lib.hid (knum_ok p r1 1 W h (by omega) (by decide) (by decide) (by omega))
  obtain ⟨r2, hr2⟩ : ∃ r2, r1.extract 1 r1.size = r2 := ⟨_, rfl⟩
  rw [hr2] at N2
  have zr2 : r2.size + 1 = r1.size := by rw [← hr2, ByteArray.size_extract]; omega
  have dr2 : r2.data.toList = r1.data.toList.drop 1 := by rw [← hr2, drop_in]
  have N3 := fun W (h : RdAt W p r2) => Lib.hid (knum_ok p r2 6 W h (by omega) (by decide) (by decide) (by omega))
  obtain ⟨r3, hr3⟩ : ∃ r3, r2.extract 6 r2.size = r3 := ⟨_, rfl⟩
  rw [hr3] at N3
  have zr3 : r3.size + 6 = r2.size := by rw [← hr3, ByteArray.size_extract]; omega
  have dr3 : r3.data.toList = r2.data.toList.drop 6 := by rw [← hr3, drop_in]
  obtain ⟨tn, htn⟩ : ∃ m : Nat, getL (r.data.toList.take 6) = m := ⟨_, rfl⟩
  have bt : tn ≤ 281474976710655 := by
    have h1 := getL_below (r.data.toList.take 6)
    rw [List.length_take, ← str_size, Nat.min_eq_left (by omega), htn] at h1
    omega
  rw [htn] at N1
  obtain ⟨TM, hTM⟩ : ∃ z : Int, 281474976710655 - (tn : Int) = z := ⟨_, rfl⟩
  have uTM : IntKind.i64.wrap (281474976710655 - (tn : Int)) = TM := (IntWalk.i64_in _ (by omega)).trans hTM
  have yTM : wrap64 (281474976710655 - (tn : Int)) = TM := (IntWalk.wrap64_in _ (by omega)).trans hTM
  obtain ⟨on, hon⟩ : ∃ m : Nat, getL (r1.data.toList.take 1) = m := ⟨_, rfl⟩
  have bo : on ≤ 255 := by
    have h1 := getL_below (r1.data.toList.take 1)
    rw [List.length_take, ← str_size, Nat.min_eq_left (by omega), hon] at h1
    omega
  rw [hon] at N2
  obtain ⟨O, hO⟩ : ∃ z : Int, 255 - (on : Int) = z := ⟨_, rfl⟩
  have uO : IntKind.i64.wrap (255 - (on : Int)) = O := (IntWalk.i64_in _ (by omega)).trans hO
  have yO : wrap64 (255 - (on : Int)) = O := (IntWalk.wrap64_in _ (by omega)).trans hO
  obtain ⟨xn, hxn⟩ : ∃ m : Nat, getL (r2.data.toList.take 6) = m := ⟨_, rfl⟩
  have bx : xn ≤ 281474976710655 := by
    have h1 := getL_below (r2.data.toList.take 6)
    rw [List.length_take, ← str_size, Nat.min_eq_left (by omega), hxn] at h1
    omega
  rw [hxn] at N3
  obtain ⟨X, hX⟩ : ∃ z : Int, 281474976710655 - (xn : Int) = z := ⟨_, rfl⟩
  have uX : IntKind.i64.wrap (281474976710655 - (xn : Int)) = X := (IntWalk.i64_in _ (by omega)).trans hX
  have yX : wrap64 (281474976710655 - (xn : Int)) = X := (IntWalk.wrap64_in _ (by omega)).trans hX
  have e3 : r3 = r0 := kbytes_ext (by rw [dr3, dr2, dr1, h0, List.drop_drop, List.drop_drop])
  have V := fun W (h : RdAt W p r3) => Lib.hid (kvec_ok p r3 xs kk W h (by omega) (by rw [e3]; exact hT) (by rw [e3]; exact hkk))
  have hxs := getT_ok r0
  rw [hT] at hxs
  obtain ⟨hx1, hx2⟩ := hxs
  have Hx2 := Lib.hid hx2
  obtain ⟨r4, h4⟩ : ∃ r4, r3.extract kk r3.size = r4 := ⟨_, rfl⟩
  rw [h4] at V
  have z4 : r4.size + kk = r0.size := by rw [← h4, e3, ByteArray.size_extract]; omega
  have hks : (⟨k.toArray⟩ : ByteArray).size ≤ 9223372036854775807 := by
    have h1 := congrArg List.length (readK_is hk)
    rw [List.length_append, ← str_size, ← str_size] at h1
    have h2 := (headL_two k).2.1
    rw [size_mk]
    omega
  have w5 : (Lit.int .i64 O).wf = true := by rw [← hO]; exact WalkArith.wf_i64 ⟨by omega, by omega⟩
  have w6 : (Lit.int .i64 X).wf = true := by rw [← hX]; exact WalkArith.wf_i64 ⟨by omega, by omega⟩
  clear hk hT h0 dr1 dr2 dr3
  have n4 : (r4.toList == []) = false := by
    rw [Lib.toList_data, beq_eq_false_iff_ne]
    intro h
    have h1 : r4.data.toList.length = 0 := by rw [h]; rfl
    rw [← str_size] at h1
    omega
  clear z4 hne hkk
  go_enter Tryz.func29, Tryz.ntmps29
  go_wp2_with fail
  refine K.out.mono ?_
  rintro e w1 ⟨rfl, R1, g1⟩
  have P1 := kblk_by P0.out g1 (by omega)
  have hq1 : w.heap.size < w1.heap.size := P1.lt
  have G1 := kgrow_trans G0.out g1
  have M0 : Hid (Mid w (w1.alloc (.cells #[.string ⟨k.toArray⟩, .slice none 0 0, .int .i64 0, .int .i64 0, .int .i64 0, .float .f64 0, .int .i64 0, .string ⟨#[]⟩] 28)) p w1.heap.size r ⟨k.toArray⟩ none 0 0 0 0) := ⟨R1.alloc _, P1.alloc _, Blk.new w1 _ _, only_alloc G1 _, hp, hq1⟩
  clear K B0 P0 G0 R1 P1 G1 g1
  have hst := run_sto_f64
  go_wp2_with fail
  clear hst
  generalize w1.alloc (.cells #[.string ⟨k.toArray⟩, .slice none 0 0, .int .i64 0, .int .i64 0, .int .i64 0, .float .f64 0, .int .i64 0, .string ⟨#[]⟩] 28) = W0 at *
  generalize w1.heap.size = q at *
  have M := M0
  clear M0
  refine (N1 _ M.out.rd).out.mono ?_
  rintro e v1 ⟨rfl, R, g⟩
  have M1 := Lib.hid (M.out.step R g)
  clear R g M N1
  obtain ⟨c0, c1, c2, c3, c4, c5, c6, c7⟩ := ver_cells M1.out.ver
  have z2 := M1.out.ver.frozen 2
  have z3 := M1.out.ver.frozen 3
  have z1 := M1.out.ver.frozen 1
  go_wp2_with fail
  have M := M1
  clear M1 c0 c1 c2 c3 c4 c5 c6 c7 z1 z2 z3
  refine (N2 _ M.out.rd).out.mono ?_
  rintro e v2 ⟨rfl, R, g⟩
  have M1 := Lib.hid (M.out.step R g)
  clear R g M N2
  obtain ⟨c0, c1, c2, c3, c4, c5, c6, c7⟩ := ver_cells M1.out.ver
  have z2 := M1.out.ver.frozen 2
  have z3 := M1.out.ver.frozen 3
  have z1 := M1.out.ver.frozen 1
  go_wp2_with fail
  have M := Lib.hid (M1.out.set2 O)
  clear M1 c0 c1 c2 c3 c4 c5 c6 c7 z1 z2 z3
  refine (N3 _ M.out.rd).out.mono ?_
  rintro e v3 ⟨rfl, R, g⟩
  have M1 := Lib.hid (M.out.step R g)
  clear R g M N3
  obtain ⟨c0, c1, c2, c3, c4, c5, c6, c7⟩ := ver_cells M1.out.ver
  have z2 := M1.out.ver.frozen 2
  have z3 := M1.out.ver.frozen 3
  have z1 := M1.out.ver.frozen 1
  go_wp2_with fail
  have M := Lib.hid (M1.out.set3 X)
  clear M1 c0 c1 c2 c3 c4 c5 c6 c7 z1 z2 z3
  generalize v3.setCell ⟨q, 3, none⟩ (.int .i64 X) = W3 at *
  refine (V _ M.out.rd).out.mono ?_
  rintro e w9 ⟨⟨v, rfl, hN⟩, R9, g9⟩
  have M1 := Lib.hid (M.out.step R9 g9)
  have hlo : w.heap.size + 1 ≤ W3.heap.size := Nat.le_trans M.out.lq (Nat.le_of_lt M.out.ver.lt)
  have hqv : q < W3.heap.size := M.out.ver.lt
  obtain ⟨A, cp, rfl, -, -⟩ := hN.ints Hx2.out
  have HN : Hid (Nums (w9.setCell ⟨q, 1, none⟩ (.slice A xs.length cp)) (w.heap.size + 1) 3 (.slice A xs.length cp) xs) := Nums.low (show Nums _ _ _ _ _ from ownsRow_setCell_below hN (a := ⟨q, 1, none⟩) hqv (.slice A xs.length cp)) hlo
  have M9 := Lib.hid (M1.out.set1 A xs.length cp)
  obtain ⟨c0, c1, c2, c3, c4, c5, c6, c7⟩ := ver_cells M1.out.ver
  have z1 := M1.out.ver.frozen 1
  have d0 : (w9.setCell ⟨q, 1, none⟩ (.slice A xs.length cp)).cell? ⟨p, 0, none⟩ = some (.string r4) := M9.out.rd.cell 0
  clear hN R9 g9 M V hlo hqv M1
  go_wp2_with fail
  exact ⟨rfl, rfl, M9.out.gr⟩

set_option maxRecDepth 100000 in
set_option maxHeartbeats 4000000 in
theorem kver_bad (p : Nat) (s : ByteArray) (w : World) (B : RdAt w p s) (hs : s.size ≤ 140737488351232) (k : List UInt8) (r : ByteArray) (hk : readK s.data.toList = some (k, r.data.toList)) (hr : 13 ≤ r.size) (r0 : ByteArray) (h0 : r0.data.toList = r.data.toList.drop 13) (xs : List Int) (kk : Nat) (hT : getT r0 = (xs, (kk : Int), 0)) (hkk : kk = r0.size) (hq : okV k xs (255 - (getL ((r.data.toList.drop 6).take 1) : Int)) (281474976710655 - (getL ((r.data.toList.drop 7).take 6) : Int)) = false) :
    Calls Tryz.prog 29 #[.pointer (some ⟨p, 0, none⟩)] w fun e w' => e = gaveUp ∧ w.grownBy w' (some p) := by
  have hrs : r.size ≤ s.size := by
    have h1 := congrArg List.length (readK_is hk)
    rw [List.length_append, ← str_size, ← str_size] at h1
    omega
  have hp : p < w.heap.size := B.lt
  have B0 : Hid (RdAt (w.alloc (.cells #[.string ⟨#[]⟩, .slice none 0 0, .int .i64 0, .int .i64 0, .int .i64 0, .float .f64 0, .int .i64 0, .string ⟨#[]⟩] 28)) p s) := B.alloc _
  have P0 : Hid (Blk (w.alloc (.cells #[.string ⟨#[]⟩, .slice none 0 0, .int .i64 0, .int .i64 0, .int .i64 0, .float .f64 0, .int .i64 0, .string ⟨#[]⟩] 28)) w.heap.size 28 (verC ⟨#[]⟩ none 0 0 0 0 0 0 0 ⟨#[]⟩)) := Blk.new w _ _
  have G0 : Hid (w.grownBy (w.alloc (.cells #[.string ⟨#[]⟩, .slice none 0 0, .int .i64 0, .int .i64 0, .int .i64 0, .float .f64 0, .int .i64 0, .string ⟨#[]⟩] 28)) (some p)) := only_alloc (kgrow_refl w _) _
  clear B
  have K := Lib.hid (krkey_some p s k r _ B0.out hs hk)
  have N1 := fun W (h : RdAt W p r) => Lib.hid (knum_ok p r 6 W h (by omega) (by decide) (by decide) (by omega))
  obtain ⟨r1, hr1⟩ : ∃ r1, r.extract 6 r.size = r1 := ⟨_, rfl⟩
  rw [hr1] at N1
  have zr1 : r1.size + 6 = r.size := by rw [← hr1, ByteArray.size_extract]; omega
  have dr1 : r1.data.toList = r.data.toList.drop 6 := by rw [← hr1, drop_in]
  have N2 := fun W (h : RdAt W p r1) => Lib.hid (knum_ok p r1 1 W h (by omega) (by decide) (by decide) (by omega))
  obtain ⟨r2, hr2⟩ : ∃ r2, r1.extract 1 r1.size = r2 := ⟨_, rfl⟩
  rw [hr2] at N2
  have zr2 : r2.size + 1 = r1.size := by rw [← hr2, ByteArray.size_extract]; omega
  have dr2 : r2.data.toList = r1.data.toList.drop 1 := by rw [← hr2, drop_in]
  have N3 := fun W (h : RdAt W p r2) => Lib.hid (knum_ok p r2 6 W h (by omega) (by decide) (by decide) (by omega))
  obtain ⟨r3, hr3⟩ : ∃ r3, r2.extract 6 r2.size = r3 := ⟨_, rfl⟩
  rw [hr3] at N3
  have zr3 : r3.size + 6 = r2.size := by rw [← hr3, ByteArray.size_extract]; omega
  have dr3 : r3.data.toList = r2.data.toList.drop 6 := by rw [← hr3, drop_in]
  obtain ⟨tn, htn⟩ : ∃ m : Nat, getL (r.data.toList.take 6) = m := ⟨_, rfl⟩
  have bt : tn ≤ 281474976710655 := by
    have h1 := getL_below (r.data.toList.take 6)
    rw [List.length_take, ← str_size, Nat.min_eq_left (by omega), htn] at h1
    omega
  rw [htn] at N1
  obtain ⟨TM, hTM⟩ : ∃ z : Int, 281474976710655 - (tn : Int) = z := ⟨_, rfl⟩
  have uTM : IntKind.i64.wrap (281474976710655 - (tn : Int)) = TM := (IntWalk.i64_in _ (by omega)).trans hTM
  have yTM : wrap64 (281474976710655 - (tn : Int)) = TM := (IntWalk.wrap64_in _ (by omega)).trans hTM
  obtain ⟨on, hon⟩ : ∃ m : Nat, getL (r1.data.toList.take 1) = m := ⟨_, rfl⟩
  have bo : on ≤ 255 := by
    have h1 := getL_below (r1.data.toList.take 1)
    rw [List.length_take, ← str_size, Nat.min_eq_left (by omega), hon] at h1
    omega
  rw [hon] at N2
  obtain ⟨O, hO⟩ : ∃ z : Int, 255 - (on : Int) = z := ⟨_, rfl⟩
  have uO : IntKind.i64.wrap (255 - (on : Int)) = O := (IntWalk.i64_in _ (by omega)).trans hO
  have yO : wrap64 (255 - (on : Int)) = O := (IntWalk.wrap64_in _ (by omega)).trans hO
  obtain ⟨xn, hxn⟩ : ∃ m : Nat, getL (r2.data.toList.take 6) = m := ⟨_, rfl⟩
  have bx : xn ≤ 281474976710655 := by
    have h1 := getL_below (r2.data.toList.take 6)
    rw [List.length_take, ← str_size, Nat.min_eq_left (by omega), hxn] at h1
    omega
  rw [hxn] at N3
  obtain ⟨X, hX⟩ : ∃ z : Int, 281474976710655 - (xn : Int) = z := ⟨_, rfl⟩
  have uX : IntKind.i64.wrap (281474976710655 - (xn : Int)) = X := (IntWalk.i64_in _ (by omega)).trans hX
  have yX : wrap64 (281474976710655 - (xn : Int)) = X := (IntWalk.wrap64_in _ (by omega)).trans hX
  have e3 : r3 = r0 := kbytes_ext (by rw [dr3, dr2, dr1, h0, List.drop_drop, List.drop_drop])
  have V := fun W (h : RdAt W p r3) => Lib.hid (kvec_ok p r3 xs kk W h (by omega) (by rw [e3]; exact hT) (by rw [e3]; exact Nat.le_of_eq hkk))
  have hxs := getT_ok r0
  rw [hT] at hxs
  obtain ⟨hx1, hx2⟩ := hxs
  have Hx2 := Lib.hid hx2
  obtain ⟨r4, h4⟩ : ∃ r4, r3.extract kk r3.size = r4 := ⟨_, rfl⟩
  rw [h4] at V
  have z4 : r4.size + kk = r0.size := by rw [← h4, e3, ByteArray.size_extract]; omega
  have hks : (⟨k.toArray⟩ : ByteArray).size ≤ 9223372036854775807 := by
    have h1 := congrArg List.length (readK_is hk)
    rw [List.length_append, ← str_size, ← str_size] at h1
    have h2 := (headL_two k).2.1
    rw [size_mk]
    omega
  have w5 : (Lit.int .i64 O).wf = true := by rw [← hO]; exact WalkArith.wf_i64 ⟨by omega, by omega⟩
  have w6 : (Lit.int .i64 X).wf = true := by rw [← hX]; exact WalkArith.wf_i64 ⟨by omega, by omega⟩
  have n4 : (r4.toList == []) = true := by
    rw [Lib.toList_data, beq_iff_eq]
    refine List.eq_nil_of_length_eq_zero ?_
    rw [← str_size]
    omega
  have hOX : okV k xs (255 - (getL ((r.data.toList.drop 6).take 1) : Int)) (281474976710655 - (getL ((r.data.toList.drop 7).take 6) : Int)) = okV k xs O X := by
    rw [← hO, ← hX, ← hon, ← hxn, dr2, dr1, List.drop_drop]
  have hTO : timeN xs (255 - (getL ((r.data.toList.drop 6).take 1) : Int)) = timeN xs O := by
    rw [← hO, ← hon, dr1]
  have hTM : (281474976710655 - (getL (r.data.toList.take 6) : Int)) = TM := by rw [← hTM, ← htn]
  rw [hOX] at hq
  have VC := fun A cp W h => Lib.hid (kvalid_any ⟨k.toArray⟩ A xs.length cp O X 0 0 0 ⟨#[]⟩ xs W h)
  rw [mk_data, hq] at VC
  simp only [verV] at VC
  clear hOX hTO hTM z4 hkk hk hT h0 dr1 dr2 dr3 hq
  go_enter Tryz.func29, Tryz.ntmps29
  go_wp2_with fail
  refine K.out.mono ?_
  rintro e w1 ⟨rfl, R1, g1⟩
  have P1 := kblk_by P0.out g1 (by omega)
  have hq1 : w.heap.size < w1.heap.size := P1.lt
  have G1 := kgrow_trans G0.out g1
  have M0 : Hid (Mid w (w1.alloc (.cells #[.string ⟨k.toArray⟩, .slice none 0 0, .int .i64 0, .int .i64 0, .int .i64 0, .float .f64 0, .int .i64 0, .string ⟨#[]⟩] 28)) p w1.heap.size r ⟨k.toArray⟩ none 0 0 0 0) := ⟨R1.alloc _, P1.alloc _, Blk.new w1 _ _, only_alloc G1 _, hp, hq1⟩
  clear K B0 P0 G0 R1 P1 G1 g1
  have hst := run_sto_f64
  go_wp2_with fail
  clear hst
  generalize w1.alloc (.cells #[.string ⟨k.toArray⟩, .slice none 0 0, .int .i64 0, .int .i64 0, .int .i64 0, .float .f64 0, .int .i64 0, .string ⟨#[]⟩] 28) = W0 at *
  generalize w1.heap.size = q at *
  have M := M0
  clear M0
  refine (N1 _ M.out.rd).out.mono ?_
  rintro e v1 ⟨rfl, R, g⟩
  have M1 := Lib.hid (M.out.step R g)
  clear R g M N1
  obtain ⟨c0, c1, c2, c3, c4, c5, c6, c7⟩ := ver_cells M1.out.ver
  have z2 := M1.out.ver.frozen 2
  have z3 := M1.out.ver.frozen 3
  have z1 := M1.out.ver.frozen 1
  go_wp2_with fail
  have M := M1
  clear M1 c0 c1 c2 c3 c4 c5 c6 c7 z1 z2 z3
  refine (N2 _ M.out.rd).out.mono ?_
  rintro e v2 ⟨rfl, R, g⟩
  have M1 := Lib.hid (M.out.step R g)
  clear R g M N2
  obtain ⟨c0, c1, c2, c3, c4, c5, c6, c7⟩ := ver_cells M1.out.ver
  have z2 := M1.out.ver.frozen 2
  have z3 := M1.out.ver.frozen 3
  have z1 := M1.out.ver.frozen 1
  go_wp2_with fail
  have M := Lib.hid (M1.out.set2 O)
  clear M1 c0 c1 c2 c3 c4 c5 c6 c7 z1 z2 z3
  refine (N3 _ M.out.rd).out.mono ?_
  rintro e v3 ⟨rfl, R, g⟩
  have M1 := Lib.hid (M.out.step R g)
  clear R g M N3
  obtain ⟨c0, c1, c2, c3, c4, c5, c6, c7⟩ := ver_cells M1.out.ver
  have z2 := M1.out.ver.frozen 2
  have z3 := M1.out.ver.frozen 3
  have z1 := M1.out.ver.frozen 1
  go_wp2_with fail
  have M := Lib.hid (M1.out.set3 X)
  clear M1 c0 c1 c2 c3 c4 c5 c6 c7 z1 z2 z3
  generalize v3.setCell ⟨q, 3, none⟩ (.int .i64 X) = W3 at *
  refine (V _ M.out.rd).out.mono ?_
  rintro e w9 ⟨⟨v, rfl, hN⟩, R9, g9⟩
  have M1 := Lib.hid (M.out.step R9 g9)
  have hlo : w.heap.size + 1 ≤ W3.heap.size := Nat.le_trans M.out.lq (Nat.le_of_lt M.out.ver.lt)
  have hqv : q < W3.heap.size := M.out.ver.lt
  obtain ⟨A, cp, rfl, -, -⟩ := hN.ints Hx2.out
  have HN : Hid (Nums (w9.setCell ⟨q, 1, none⟩ (.slice A xs.length cp)) (w.heap.size + 1) 3 (.slice A xs.length cp) xs) := Nums.low (show Nums _ _ _ _ _ from ownsRow_setCell_below hN (a := ⟨q, 1, none⟩) hqv (.slice A xs.length cp)) hlo
  have M9 := Lib.hid (M1.out.set1 A xs.length cp)
  obtain ⟨c0, c1, c2, c3, c4, c5, c6, c7⟩ := ver_cells M1.out.ver
  have z1 := M1.out.ver.frozen 1
  have d0 : (w9.setCell ⟨q, 1, none⟩ (.slice A xs.length cp)).cell? ⟨p, 0, none⟩ = some (.string r4) := M9.out.rd.cell 0
  clear hN R9 g9 M V hlo hqv M1
  have VI : ∀ W', Below (w9.setCell ⟨q, 1, none⟩ (.slice A xs.length cp)).heap.size (w9.setCell ⟨q, 1, none⟩ (.slice A xs.length cp)) W' → VerIn W' ⟨k.toArray⟩ A xs.length xs O X 0 0 0 ⟨#[]⟩ := by
    intro W' hb
    obtain ⟨A', c', e, hI, _⟩ := HN.out.ints Hx2.out
    cases e
    exact ⟨hI.below hb, hks, w5, w6, by decide, by decide, by decide, by decide⟩
  have VI := Lib.hid VI
  obtain ⟨y0, y1, y2, y3, y4, y5, y6, y7⟩ := ver_cells M9.out.ver
  go_wp2_with fail
  refine (VC _ _ _ (VI.out _ (Below.refl _ _))).out.mono ?_
  rintro e wa ⟨rfl, hba⟩
  have Ma := Lib.hid (M9.out.below hba)
  have Hba := Lib.hid hba
  clear hba VC c0 c1 c2 c3 c4 c5 c6 c7 z1 y0 y1 y2 y3 y4 y5 y6 y7
  obtain ⟨c0, c1, c2, c3, c4, c5, c6, c7⟩ := ver_cells Ma.out.ver
  go_wp2_with fail
  exact ⟨rfl, rfl, Ma.out.gr⟩

set_option maxRecDepth 100000 in
set_option maxHeartbeats 4000000 in
theorem kver_late (p : Nat) (s : ByteArray) (w : World) (B : RdAt w p s) (hs : s.size ≤ 140737488351232) (k : List UInt8) (r : ByteArray) (hk : readK s.data.toList = some (k, r.data.toList)) (hr : 13 ≤ r.size) (r0 : ByteArray) (h0 : r0.data.toList = r.data.toList.drop 13) (xs : List Int) (kk : Nat) (hT : getT r0 = (xs, (kk : Int), 0)) (hkk : kk = r0.size) (hq : okV k xs (255 - (getL ((r.data.toList.drop 6).take 1) : Int)) (281474976710655 - (getL ((r.data.toList.drop 7).take 6) : Int)) = true) (ht : timeN xs (255 - (getL ((r.data.toList.drop 6).take 1) : Int)) ≠ (281474976710655 - (getL (r.data.toList.take 6) : Int))) :
    Calls Tryz.prog 29 #[.pointer (some ⟨p, 0, none⟩)] w fun e w' => e = gaveUp ∧ w.grownBy w' (some p) := by
  have hrs : r.size ≤ s.size := by
    have h1 := congrArg List.length (readK_is hk)
    rw [List.length_append, ← str_size, ← str_size] at h1
    omega
  have hp : p < w.heap.size := B.lt
  have B0 : Hid (RdAt (w.alloc (.cells #[.string ⟨#[]⟩, .slice none 0 0, .int .i64 0, .int .i64 0, .int .i64 0, .float .f64 0, .int .i64 0, .string ⟨#[]⟩] 28)) p s) := B.alloc _
  have P0 : Hid (Blk (w.alloc (.cells #[.string ⟨#[]⟩, .slice none 0 0, .int .i64 0, .int .i64 0, .int .i64 0, .float .f64 0, .int .i64 0, .string ⟨#[]⟩] 28)) w.heap.size 28 (verC ⟨#[]⟩ none 0 0 0 0 0 0 0 ⟨#[]⟩)) := Blk.new w _ _
  have G0 : Hid (w.grownBy (w.alloc (.cells #[.string ⟨#[]⟩, .slice none 0 0, .int .i64 0, .int .i64 0, .int .i64 0, .float .f64 0, .int .i64 0, .string ⟨#[]⟩] 28)) (some p)) := only_alloc (kgrow_refl w _) _
  clear B
  have K := Lib.hid (krkey_some p s k r _ B0.out hs hk)
  have N1 := fun W (h : RdAt W p r) => Lib.hid (knum_ok p r 6 W h (by omega) (by decide) (by decide) (by omega))
  obtain ⟨r1, hr1⟩ : ∃ r1, r.extract 6 r.size = r1 := ⟨_, rfl⟩
  rw [hr1] at N1
  have zr1 : r1.size + 6 = r.size := by rw [← hr1, ByteArray.size_extract]; omega
  have dr1 : r1.data.toList = r.data.toList.drop 6 := by rw [← hr1, drop_in]
  have N2 := fun W (h : RdAt W p r1) => Lib.hid (knum_ok p r1 1 W h (by omega) (by decide) (by decide) (by omega))
  obtain ⟨r2, hr2⟩ : ∃ r2, r1.extract 1 r1.size = r2 := ⟨_, rfl⟩
  rw [hr2] at N2
  have zr2 : r2.size + 1 = r1.size := by rw [← hr2, ByteArray.size_extract]; omega
  have dr2 : r2.data.toList = r1.data.toList.drop 1 := by rw [← hr2, drop_in]
  have N3 := fun W (h : RdAt W p r2) => Lib.hid (knum_ok p r2 6 W h (by omega) (by decide) (by decide) (by omega))
  obtain ⟨r3, hr3⟩ : ∃ r3, r2.extract 6 r2.size = r3 := ⟨_, rfl⟩
  rw [hr3] at N3
  have zr3 : r3.size + 6 = r2.size := by rw [← hr3, ByteArray.size_extract]; omega
  have dr3 : r3.data.toList = r2.data.toList.drop 6 := by rw [← hr3, drop_in]
  obtain ⟨tn, htn⟩ : ∃ m : Nat, getL (r.data.toList.take 6) = m := ⟨_, rfl⟩
  have bt : tn ≤ 281474976710655 := by
    have h1 := getL_below (r.data.toList.take 6)
    rw [List.length_take, ← str_size, Nat.min_eq_left (by omega), htn] at h1
    omega
  rw [htn] at N1
  obtain ⟨TM, hTM⟩ : ∃ z : Int, 281474976710655 - (tn : Int) = z := ⟨_, rfl⟩
  have uTM : IntKind.i64.wrap (281474976710655 - (tn : Int)) = TM := (IntWalk.i64_in _ (by omega)).trans hTM
  have yTM : wrap64 (281474976710655 - (tn : Int)) = TM := (IntWalk.wrap64_in _ (by omega)).trans hTM
  obtain ⟨on, hon⟩ : ∃ m : Nat, getL (r1.data.toList.take 1) = m := ⟨_, rfl⟩
  have bo : on ≤ 255 := by
    have h1 := getL_below (r1.data.toList.take 1)
    rw [List.length_take, ← str_size, Nat.min_eq_left (by omega), hon] at h1
    omega
  rw [hon] at N2
  obtain ⟨O, hO⟩ : ∃ z : Int, 255 - (on : Int) = z := ⟨_, rfl⟩
  have uO : IntKind.i64.wrap (255 - (on : Int)) = O := (IntWalk.i64_in _ (by omega)).trans hO
  have yO : wrap64 (255 - (on : Int)) = O := (IntWalk.wrap64_in _ (by omega)).trans hO
  obtain ⟨xn, hxn⟩ : ∃ m : Nat, getL (r2.data.toList.take 6) = m := ⟨_, rfl⟩
  have bx : xn ≤ 281474976710655 := by
    have h1 := getL_below (r2.data.toList.take 6)
    rw [List.length_take, ← str_size, Nat.min_eq_left (by omega), hxn] at h1
    omega
  rw [hxn] at N3
  obtain ⟨X, hX⟩ : ∃ z : Int, 281474976710655 - (xn : Int) = z := ⟨_, rfl⟩
  have uX : IntKind.i64.wrap (281474976710655 - (xn : Int)) = X := (IntWalk.i64_in _ (by omega)).trans hX
  have yX : wrap64 (281474976710655 - (xn : Int)) = X := (IntWalk.wrap64_in _ (by omega)).trans hX
  have e3 : r3 = r0 := kbytes_ext (by rw [dr3, dr2, dr1, h0, List.drop_drop, List.drop_drop])
  have V := fun W (h : RdAt W p r3) => Lib.hid (kvec_ok p r3 xs kk W h (by omega) (by rw [e3]; exact hT) (by rw [e3]; exact Nat.le_of_eq hkk))
  have hxs := getT_ok r0
  rw [hT] at hxs
  obtain ⟨hx1, hx2⟩ := hxs
  have Hx2 := Lib.hid hx2
  obtain ⟨r4, h4⟩ : ∃ r4, r3.extract kk r3.size = r4 := ⟨_, rfl⟩
  rw [h4] at V
  have z4 : r4.size + kk = r0.size := by rw [← h4, e3, ByteArray.size_extract]; omega
  have hks : (⟨k.toArray⟩ : ByteArray).size ≤ 9223372036854775807 := by
    have h1 := congrArg List.length (readK_is hk)
    rw [List.length_append, ← str_size, ← str_size] at h1
    have h2 := (headL_two k).2.1
    rw [size_mk]
    omega
  have w5 : (Lit.int .i64 O).wf = true := by rw [← hO]; exact WalkArith.wf_i64 ⟨by omega, by omega⟩
  have w6 : (Lit.int .i64 X).wf = true := by rw [← hX]; exact WalkArith.wf_i64 ⟨by omega, by omega⟩
  have n4 : (r4.toList == []) = true := by
    rw [Lib.toList_data, beq_iff_eq]
    refine List.eq_nil_of_length_eq_zero ?_
    rw [← str_size]
    omega
  have hOX : okV k xs (255 - (getL ((r.data.toList.drop 6).take 1) : Int)) (281474976710655 - (getL ((r.data.toList.drop 7).take 6) : Int)) = okV k xs O X := by
    rw [← hO, ← hX, ← hon, ← hxn, dr2, dr1, List.drop_drop]
  have hTO : timeN xs (255 - (getL ((r.data.toList.drop 6).take 1) : Int)) = timeN xs O := by
    rw [← hO, ← hon, dr1]
  have hTM : (281474976710655 - (getL (r.data.toList.take 6) : Int)) = TM := by rw [← hTM, ← htn]
  rw [hOX] at hq
  rw [hTO, hTM] at ht
  have VC := fun A cp W h => Lib.hid (kvalid_any ⟨k.toArray⟩ A xs.length cp O X 0 0 0 ⟨#[]⟩ xs W h)
  rw [mk_data, hq] at VC
  simp only [verV] at VC
  have hk := okV_of hq
  have TC := fun A cp W h => Lib.hid (ktime_any ⟨k.toArray⟩ A xs.length cp O X 0 0 0 ⟨#[]⟩ xs W h hk.at_ hk.o0 hk.o1)
  simp only [verV] at TC
  have n5 : (timeN xs O == TM) = false := by rw [beq_eq_false_iff_ne]; exact ht
  generalize timeN xs O = TO at *
  clear hOX hTO hTM z4 hkk hk hT h0 dr1 dr2 dr3 ht hq
  go_enter Tryz.func29, Tryz.ntmps29
  go_wp2_with fail
  refine K.out.mono ?_
  rintro e w1 ⟨rfl, R1, g1⟩
  have P1 := kblk_by P0.out g1 (by omega)
  have hq1 : w.heap.size < w1.heap.size := P1.lt
  have G1 := kgrow_trans G0.out g1
  have M0 : Hid (Mid w (w1.alloc (.cells #[.string ⟨k.toArray⟩, .slice none 0 0, .int .i64 0, .int .i64 0, .int .i64 0, .float .f64 0, .int .i64 0, .string ⟨#[]⟩] 28)) p w1.heap.size r ⟨k.toArray⟩ none 0 0 0 0) := ⟨R1.alloc _, P1.alloc _, Blk.new w1 _ _, only_alloc G1 _, hp, hq1⟩
  clear K B0 P0 G0 R1 P1 G1 g1
  have hst := run_sto_f64
  go_wp2_with fail
  clear hst
  generalize w1.alloc (.cells #[.string ⟨k.toArray⟩, .slice none 0 0, .int .i64 0, .int .i64 0, .int .i64 0, .float .f64 0, .int .i64 0, .string ⟨#[]⟩] 28) = W0 at *
  generalize w1.heap.size = q at *
  have M := M0
  clear M0
  refine (N1 _ M.out.rd).out.mono ?_
  rintro e v1 ⟨rfl, R, g⟩
  have M1 := Lib.hid (M.out.step R g)
  clear R g M N1
  obtain ⟨c0, c1, c2, c3, c4, c5, c6, c7⟩ := ver_cells M1.out.ver
  have z2 := M1.out.ver.frozen 2
  have z3 := M1.out.ver.frozen 3
  have z1 := M1.out.ver.frozen 1
  go_wp2_with fail
  have M := M1
  clear M1 c0 c1 c2 c3 c4 c5 c6 c7 z1 z2 z3
  refine (N2 _ M.out.rd).out.mono ?_
  rintro e v2 ⟨rfl, R, g⟩
  have M1 := Lib.hid (M.out.step R g)
  clear R g M N2
  obtain ⟨c0, c1, c2, c3, c4, c5, c6, c7⟩ := ver_cells M1.out.ver
  have z2 := M1.out.ver.frozen 2
  have z3 := M1.out.ver.frozen 3
  have z1 := M1.out.ver.frozen 1
  go_wp2_with fail
  have M := Lib.hid (M1.out.set2 O)
  clear M1 c0 c1 c2 c3 c4 c5 c6 c7 z1 z2 z3
  refine (N3 _ M.out.rd).out.mono ?_
  rintro e v3 ⟨rfl, R, g⟩
  have M1 := Lib.hid (M.out.step R g)
  clear R g M N3
  obtain ⟨c0, c1, c2, c3, c4, c5, c6, c7⟩ := ver_cells M1.out.ver
  have z2 := M1.out.ver.frozen 2
  have z3 := M1.out.ver.frozen 3
  have z1 := M1.out.ver.frozen 1
  go_wp2_with fail
  have M := Lib.hid (M1.out.set3 X)
  clear M1 c0 c1 c2 c3 c4 c5 c6 c7 z1 z2 z3
  generalize v3.setCell ⟨q, 3, none⟩ (.int .i64 X) = W3 at *
  refine (V _ M.out.rd).out.mono ?_
  rintro e w9 ⟨⟨v, rfl, hN⟩, R9, g9⟩
  have M1 := Lib.hid (M.out.step R9 g9)
  have hlo : w.heap.size + 1 ≤ W3.heap.size := Nat.le_trans M.out.lq (Nat.le_of_lt M.out.ver.lt)
  have hqv : q < W3.heap.size := M.out.ver.lt
  obtain ⟨A, cp, rfl, -, -⟩ := hN.ints Hx2.out
  have HN : Hid (Nums (w9.setCell ⟨q, 1, none⟩ (.slice A xs.length cp)) (w.heap.size + 1) 3 (.slice A xs.length cp) xs) := Nums.low (show Nums _ _ _ _ _ from ownsRow_setCell_below hN (a := ⟨q, 1, none⟩) hqv (.slice A xs.length cp)) hlo
  have M9 := Lib.hid (M1.out.set1 A xs.length cp)
  obtain ⟨c0, c1, c2, c3, c4, c5, c6, c7⟩ := ver_cells M1.out.ver
  have z1 := M1.out.ver.frozen 1
  have d0 : (w9.setCell ⟨q, 1, none⟩ (.slice A xs.length cp)).cell? ⟨p, 0, none⟩ = some (.string r4) := M9.out.rd.cell 0
  clear hN R9 g9 M V hlo hqv M1
  have VI : ∀ W', Below (w9.setCell ⟨q, 1, none⟩ (.slice A xs.length cp)).heap.size (w9.setCell ⟨q, 1, none⟩ (.slice A xs.length cp)) W' → VerIn W' ⟨k.toArray⟩ A xs.length xs O X 0 0 0 ⟨#[]⟩ := by
    intro W' hb
    obtain ⟨A', c', e, hI, _⟩ := HN.out.ints Hx2.out
    cases e
    exact ⟨hI.below hb, hks, w5, w6, by decide, by decide, by decide, by decide⟩
  have VI := Lib.hid VI
  obtain ⟨y0, y1, y2, y3, y4, y5, y6, y7⟩ := ver_cells M9.out.ver
  go_wp2_with fail
  refine (VC _ _ _ (VI.out _ (Below.refl _ _))).out.mono ?_
  rintro e wa ⟨rfl, hba⟩
  have Ma := Lib.hid (M9.out.below hba)
  have Hba := Lib.hid hba
  clear hba VC c0 c1 c2 c3 c4 c5 c6 c7 z1 y0 y1 y2 y3 y4 y5 y6 y7
  obtain ⟨c0, c1, c2, c3, c4, c5, c6, c7⟩ := ver_cells Ma.out.ver
  go_wp2_with fail
  refine (TC _ _ _ (VI.out _ Hba.out)).out.mono ?_
  rintro e wb ⟨rfl, hbb⟩
  have Mb := Lib.hid (Ma.out.below hbb)
  have HNb := Lib.hid ((HN.out.below Hba.out (Nat.le_refl _)).below hbb (Nat.le_refl _))
  clear hbb TC c0 c1 c2 c3 c4 c5 c6 c7
  obtain ⟨c0, c1, c2, c3, c4, c5, c6, c7⟩ := ver_cells Mb.out.ver
  obtain ⟨e0, e1, e2, e3, e4, e5, e6, e7⟩ := ver_cells Mb.out.res
  have z0 := Mb.out.res.frozen 0
  have z1 := Mb.out.res.frozen 1
  have z2 := Mb.out.res.frozen 2
  have z3 := Mb.out.res.frozen 3
  have z4 := Mb.out.res.frozen 4
  have z5 := Mb.out.res.frozen 5
  have z6 := Mb.out.res.frozen 6
  have z7 := Mb.out.res.frozen 7
  have hst := run_sto_f64
  go_wp2_with fail
  exact ⟨rfl, rfl, Mb.out.gr⟩

set_option maxRecDepth 100000 in
set_option maxHeartbeats 4000000 in
theorem kver_ok (p : Nat) (s : ByteArray) (w : World) (B : RdAt w p s) (hs : s.size ≤ 140737488351232) (k : List UInt8) (r : ByteArray) (hk : readK s.data.toList = some (k, r.data.toList)) (hr : 13 ≤ r.size) (r0 : ByteArray) (h0 : r0.data.toList = r.data.toList.drop 13) (xs : List Int) (kk : Nat) (hT : getT r0 = (xs, (kk : Int), 0)) (hkk : kk = r0.size) (hq : okV k xs (255 - (getL ((r.data.toList.drop 6).take 1) : Int)) (281474976710655 - (getL ((r.data.toList.drop 7).take 6) : Int)) = true) (ht : timeN xs (255 - (getL ((r.data.toList.drop 6).take 1) : Int)) = (281474976710655 - (getL (r.data.toList.take 6) : Int))) :
    Calls Tryz.prog 29 #[.pointer (some ⟨p, 0, none⟩)] w fun e w' => (∃ A c, e = .returned (verV ⟨k.toArray⟩ A xs.length c (255 - (getL ((r.data.toList.drop 6).take 1) : Int)) (281474976710655 - (getL ((r.data.toList.drop 7).take 6) : Int)) 0 0 0 ⟨#[]⟩) ∧ Nums w' w.heap.size 3 (.slice A xs.length c) xs) ∧ w.grownBy w' (some p) := by
  have hrs : r.size ≤ s.size := by
    have h1 := congrArg List.length (readK_is hk)
    rw [List.length_append, ← str_size, ← str_size] at h1
    omega
  have hp : p < w.heap.size := B.lt
  have B0 : Hid (RdAt (w.alloc (.cells #[.string ⟨#[]⟩, .slice none 0 0, .int .i64 0, .int .i64 0, .int .i64 0, .float .f64 0, .int .i64 0, .string ⟨#[]⟩] 28)) p s) := B.alloc _
  have P0 : Hid (Blk (w.alloc (.cells #[.string ⟨#[]⟩, .slice none 0 0, .int .i64 0, .int .i64 0, .int .i64 0, .float .f64 0, .int .i64 0, .string ⟨#[]⟩] 28)) w.heap.size 28 (verC ⟨#[]⟩ none 0 0 0 0 0 0 0 ⟨#[]⟩)) := Blk.new w _ _
  have G0 : Hid (w.grownBy (w.alloc (.cells #[.string ⟨#[]⟩, .slice none 0 0, .int .i64 0, .int .i64 0, .int .i64 0, .float .f64 0, .int .i64 0, .string ⟨#[]⟩] 28)) (some p)) := only_alloc (kgrow_refl w _) _
  clear B
  have K := Lib.hid (krkey_some p s k r _ B0.out hs hk)
  have N1 := fun W (h : RdAt W p r) => Lib.hid (knum_ok p r 6 W h (by omega) (by decide) (by decide) (by omega))
  obtain ⟨r1, hr1⟩ : ∃ r1, r.extract 6 r.size = r1 := ⟨_, rfl⟩
  rw [hr1] at N1
  have zr1 : r1.size + 6 = r.size := by rw [← hr1, ByteArray.size_extract]; omega
  have dr1 : r1.data.toList = r.data.toList.drop 6 := by rw [← hr1, drop_in]
  have N2 := fun W (h : RdAt W p r1) => Lib.hid (knum_ok p r1 1 W h (by omega) (by decide) (by decide) (by omega))
  obtain ⟨r2, hr2⟩ : ∃ r2, r1.extract 1 r1.size = r2 := ⟨_, rfl⟩
  rw [hr2] at N2
  have zr2 : r2.size + 1 = r1.size := by rw [← hr2, ByteArray.size_extract]; omega
  have dr2 : r2.data.toList = r1.data.toList.drop 1 := by rw [← hr2, drop_in]
  have N3 := fun W (h : RdAt W p r2) => Lib.hid (knum_ok p r2 6 W h (by omega) (by decide) (by decide) (by omega))
  obtain ⟨r3, hr3⟩ : ∃ r3, r2.extract 6 r2.size = r3 := ⟨_, rfl⟩
  rw [hr3] at N3
  have zr3 : r3.size + 6 = r2.size := by rw [← hr3, ByteArray.size_extract]; omega
  have dr3 : r3.data.toList = r2.data.toList.drop 6 := by rw [← hr3, drop_in]
  obtain ⟨tn, htn⟩ : ∃ m : Nat, getL (r.data.toList.take 6) = m := ⟨_, rfl⟩
  have bt : tn ≤ 281474976710655 := by
    have h1 := getL_below (r.data.toList.take 6)
    rw [List.length_take, ← str_size, Nat.min_eq_left (by omega), htn] at h1
    omega
  rw [htn] at N1
  obtain ⟨TM, hTM⟩ : ∃ z : Int, 281474976710655 - (tn : Int) = z := ⟨_, rfl⟩
  have uTM : IntKind.i64.wrap (281474976710655 - (tn : Int)) = TM := (IntWalk.i64_in _ (by omega)).trans hTM
  have yTM : wrap64 (281474976710655 - (tn : Int)) = TM := (IntWalk.wrap64_in _ (by omega)).trans hTM
  obtain ⟨on, hon⟩ : ∃ m : Nat, getL (r1.data.toList.take 1) = m := ⟨_, rfl⟩
  have bo : on ≤ 255 := by
    have h1 := getL_below (r1.data.toList.take 1)
    rw [List.length_take, ← str_size, Nat.min_eq_left (by omega), hon] at h1
    omega
  rw [hon] at N2
  obtain ⟨O, hO⟩ : ∃ z : Int, 255 - (on : Int) = z := ⟨_, rfl⟩
  have uO : IntKind.i64.wrap (255 - (on : Int)) = O := (IntWalk.i64_in _ (by omega)).trans hO
  have yO : wrap64 (255 - (on : Int)) = O := (IntWalk.wrap64_in _ (by omega)).trans hO
  obtain ⟨xn, hxn⟩ : ∃ m : Nat, getL (r2.data.toList.take 6) = m := ⟨_, rfl⟩
  have bx : xn ≤ 281474976710655 := by
    have h1 := getL_below (r2.data.toList.take 6)
    rw [List.length_take, ← str_size, Nat.min_eq_left (by omega), hxn] at h1
    omega
  rw [hxn] at N3
  obtain ⟨X, hX⟩ : ∃ z : Int, 281474976710655 - (xn : Int) = z := ⟨_, rfl⟩
  have uX : IntKind.i64.wrap (281474976710655 - (xn : Int)) = X := (IntWalk.i64_in _ (by omega)).trans hX
  have yX : wrap64 (281474976710655 - (xn : Int)) = X := (IntWalk.wrap64_in _ (by omega)).trans hX
  have e3 : r3 = r0 := kbytes_ext (by rw [dr3, dr2, dr1, h0, List.drop_drop, List.drop_drop])
  have V := fun W (h : RdAt W p r3) => Lib.hid (kvec_ok p r3 xs kk W h (by omega) (by rw [e3]; exact hT) (by rw [e3]; exact Nat.le_of_eq hkk))
  have hxs := getT_ok r0
  rw [hT] at hxs
  obtain ⟨hx1, hx2⟩ := hxs
  have Hx2 := Lib.hid hx2
  obtain ⟨r4, h4⟩ : ∃ r4, r3.extract kk r3.size = r4 := ⟨_, rfl⟩
  rw [h4] at V
  have z4 : r4.size + kk = r0.size := by rw [← h4, e3, ByteArray.size_extract]; omega
  have hks : (⟨k.toArray⟩ : ByteArray).size ≤ 9223372036854775807 := by
    have h1 := congrArg List.length (readK_is hk)
    rw [List.length_append, ← str_size, ← str_size] at h1
    have h2 := (headL_two k).2.1
    rw [size_mk]
    omega
  have w5 : (Lit.int .i64 O).wf = true := by rw [← hO]; exact WalkArith.wf_i64 ⟨by omega, by omega⟩
  have w6 : (Lit.int .i64 X).wf = true := by rw [← hX]; exact WalkArith.wf_i64 ⟨by omega, by omega⟩
  have n4 : (r4.toList == []) = true := by
    rw [Lib.toList_data, beq_iff_eq]
    refine List.eq_nil_of_length_eq_zero ?_
    rw [← str_size]
    omega
  have hOX : okV k xs (255 - (getL ((r.data.toList.drop 6).take 1) : Int)) (281474976710655 - (getL ((r.data.toList.drop 7).take 6) : Int)) = okV k xs O X := by
    rw [← hO, ← hX, ← hon, ← hxn, dr2, dr1, List.drop_drop]
  have hTO : timeN xs (255 - (getL ((r.data.toList.drop 6).take 1) : Int)) = timeN xs O := by
    rw [← hO, ← hon, dr1]
  have hTM : (281474976710655 - (getL (r.data.toList.take 6) : Int)) = TM := by rw [← hTM, ← htn]
  rw [hOX] at hq
  rw [hTO, hTM] at ht
  rw [show (255 - (getL ((r.data.toList.drop 6).take 1) : Int)) = O by rw [← hO, ← hon, dr1], show (281474976710655 - (getL ((r.data.toList.drop 7).take 6) : Int)) = X by rw [← hX, ← hxn, dr2, dr1, List.drop_drop]]
  have VC := fun A cp W h => Lib.hid (kvalid_any ⟨k.toArray⟩ A xs.length cp O X 0 0 0 ⟨#[]⟩ xs W h)
  rw [mk_data, hq] at VC
  simp only [verV] at VC
  have hk := okV_of hq
  have TC := fun A cp W h => Lib.hid (ktime_any ⟨k.toArray⟩ A xs.length cp O X 0 0 0 ⟨#[]⟩ xs W h hk.at_ hk.o0 hk.o1)
  simp only [verV] at TC
  rw [ht] at TC
  clear hOX hTO hTM z4 hkk hk hT h0 dr1 dr2 dr3 ht hq
  go_enter Tryz.func29, Tryz.ntmps29
  go_wp2_with fail
  refine K.out.mono ?_
  rintro e w1 ⟨rfl, R1, g1⟩
  have P1 := kblk_by P0.out g1 (by omega)
  have hq1 : w.heap.size < w1.heap.size := P1.lt
  have G1 := kgrow_trans G0.out g1
  have M0 : Hid (Mid w (w1.alloc (.cells #[.string ⟨k.toArray⟩, .slice none 0 0, .int .i64 0, .int .i64 0, .int .i64 0, .float .f64 0, .int .i64 0, .string ⟨#[]⟩] 28)) p w1.heap.size r ⟨k.toArray⟩ none 0 0 0 0) := ⟨R1.alloc _, P1.alloc _, Blk.new w1 _ _, only_alloc G1 _, hp, hq1⟩
  clear K B0 P0 G0 R1 P1 G1 g1
  have hst := run_sto_f64
  go_wp2_with fail
  clear hst
  generalize w1.alloc (.cells #[.string ⟨k.toArray⟩, .slice none 0 0, .int .i64 0, .int .i64 0, .int .i64 0, .float .f64 0, .int .i64 0, .string ⟨#[]⟩] 28) = W0 at *
  generalize w1.heap.size = q at *
  have M := M0
  clear M0
  refine (N1 _ M.out.rd).out.mono ?_
  rintro e v1 ⟨rfl, R, g⟩
  have M1 := Lib.hid (M.out.step R g)
  clear R g M N1
  obtain ⟨c0, c1, c2, c3, c4, c5, c6, c7⟩ := ver_cells M1.out.ver
  have z2 := M1.out.ver.frozen 2
  have z3 := M1.out.ver.frozen 3
  have z1 := M1.out.ver.frozen 1
  go_wp2_with fail
  have M := M1
  clear M1 c0 c1 c2 c3 c4 c5 c6 c7 z1 z2 z3
  refine (N2 _ M.out.rd).out.mono ?_
  rintro e v2 ⟨rfl, R, g⟩
  have M1 := Lib.hid (M.out.step R g)
  clear R g M N2
  obtain ⟨c0, c1, c2, c3, c4, c5, c6, c7⟩ := ver_cells M1.out.ver
  have z2 := M1.out.ver.frozen 2
  have z3 := M1.out.ver.frozen 3
  have z1 := M1.out.ver.frozen 1
  go_wp2_with fail
  have M := Lib.hid (M1.out.set2 O)
  clear M1 c0 c1 c2 c3 c4 c5 c6 c7 z1 z2 z3
  refine (N3 _ M.out.rd).out.mono ?_
  rintro e v3 ⟨rfl, R, g⟩
  have M1 := Lib.hid (M.out.step R g)
  clear R g M N3
  obtain ⟨c0, c1, c2, c3, c4, c5, c6, c7⟩ := ver_cells M1.out.ver
  have z2 := M1.out.ver.frozen 2
  have z3 := M1.out.ver.frozen 3
  have z1 := M1.out.ver.frozen 1
  go_wp2_with fail
  have M := Lib.hid (M1.out.set3 X)
  clear M1 c0 c1 c2 c3 c4 c5 c6 c7 z1 z2 z3
  generalize v3.setCell ⟨q, 3, none⟩ (.int .i64 X) = W3 at *
  refine (V _ M.out.rd).out.mono ?_
  rintro e w9 ⟨⟨v, rfl, hN⟩, R9, g9⟩
  have M1 := Lib.hid (M.out.step R9 g9)
  have hlo : w.heap.size + 1 ≤ W3.heap.size := Nat.le_trans M.out.lq (Nat.le_of_lt M.out.ver.lt)
  have hqv : q < W3.heap.size := M.out.ver.lt
  obtain ⟨A, cp, rfl, -, -⟩ := hN.ints Hx2.out
  have HN : Hid (Nums (w9.setCell ⟨q, 1, none⟩ (.slice A xs.length cp)) (w.heap.size + 1) 3 (.slice A xs.length cp) xs) := Nums.low (show Nums _ _ _ _ _ from ownsRow_setCell_below hN (a := ⟨q, 1, none⟩) hqv (.slice A xs.length cp)) hlo
  have M9 := Lib.hid (M1.out.set1 A xs.length cp)
  obtain ⟨c0, c1, c2, c3, c4, c5, c6, c7⟩ := ver_cells M1.out.ver
  have z1 := M1.out.ver.frozen 1
  have d0 : (w9.setCell ⟨q, 1, none⟩ (.slice A xs.length cp)).cell? ⟨p, 0, none⟩ = some (.string r4) := M9.out.rd.cell 0
  clear hN R9 g9 M V hlo hqv M1
  have VI : ∀ W', Below (w9.setCell ⟨q, 1, none⟩ (.slice A xs.length cp)).heap.size (w9.setCell ⟨q, 1, none⟩ (.slice A xs.length cp)) W' → VerIn W' ⟨k.toArray⟩ A xs.length xs O X 0 0 0 ⟨#[]⟩ := by
    intro W' hb
    obtain ⟨A', c', e, hI, _⟩ := HN.out.ints Hx2.out
    cases e
    exact ⟨hI.below hb, hks, w5, w6, by decide, by decide, by decide, by decide⟩
  have VI := Lib.hid VI
  obtain ⟨y0, y1, y2, y3, y4, y5, y6, y7⟩ := ver_cells M9.out.ver
  go_wp2_with fail
  refine (VC _ _ _ (VI.out _ (Below.refl _ _))).out.mono ?_
  rintro e wa ⟨rfl, hba⟩
  have Ma := Lib.hid (M9.out.below hba)
  have Hba := Lib.hid hba
  clear hba VC c0 c1 c2 c3 c4 c5 c6 c7 z1 y0 y1 y2 y3 y4 y5 y6 y7
  obtain ⟨c0, c1, c2, c3, c4, c5, c6, c7⟩ := ver_cells Ma.out.ver
  go_wp2_with fail
  refine (TC _ _ _ (VI.out _ Hba.out)).out.mono ?_
  rintro e wb ⟨rfl, hbb⟩
  have Mb := Lib.hid (Ma.out.below hbb)
  have HNb := Lib.hid ((HN.out.below Hba.out (Nat.le_refl _)).below hbb (Nat.le_refl _))
  clear hbb TC c0 c1 c2 c3 c4 c5 c6 c7
  obtain ⟨c0, c1, c2, c3, c4, c5, c6, c7⟩ := ver_cells Mb.out.ver
  obtain ⟨e0, e1, e2, e3, e4, e5, e6, e7⟩ := ver_cells Mb.out.res
  have z0 := Mb.out.res.frozen 0
  have z1 := Mb.out.res.frozen 1
  have z2 := Mb.out.res.frozen 2
  have z3 := Mb.out.res.frozen 3
  have z4 := Mb.out.res.frozen 4
  have z5 := Mb.out.res.frozen 5
  have z6 := Mb.out.res.frozen 6
  have z7 := Mb.out.res.frozen 7
  have hst := run_sto_f64
  go_wp2_with fail
  exact kv_end (ver_set8 Mb.out.res ⟨k.toArray⟩ A xs.length cp O X 0 0 0 ⟨#[]⟩) rfl ⟨⟨A, cp, rfl, Nums.low (nums_set8 HNb.out (Nat.lt_succ_self _) _ _ _ _ _ _ _ _) (Nat.le_succ _)⟩, grow_set8 Mb.out.gr (Nat.le_refl _) _ _ _ _ _ _ _ _⟩
/-- What the reader's version tells. -/
def VersIs (w w' : World) (s : ByteArray) (e : Ending) : Prop :=
  (∃ key A c o x xs, OkV key.data.toList xs o x ∧ s.data.toList = putVL key.data.toList xs o x ∧ e = .returned (verV key A xs.length c o x 0 0 0 ⟨#[]⟩) ∧ Nums w' w.heap.size 3 (.slice A xs.length c) xs) ∨
  ((∀ (key : List UInt8) (xs : List Int) (o x : Int), OkV key xs o x → s.data.toList ≠ putVL key xs o x) ∧ e = gaveUp)

theorem krversion_any (p : Nat) (s : ByteArray) (w : World) (B : RdAt w p s) (hs : s.size ≤ 140737488351232) :
    Calls Tryz.prog 29 #[.pointer (some ⟨p, 0, none⟩)] w fun e w' => VersIs w w' s e ∧ w.grownBy w' (some p) := by
  have up : ∀ {e : Ending} {w' : World}, (∀ (key : List UInt8) (xs : List Int) (o x : Int), OkV key xs o x → s.data.toList ≠ putVL key xs o x) → (e = gaveUp ∧ w.grownBy w' (some p)) → VersIs w w' s e ∧ w.grownBy w' (some p) :=
    fun h1 h2 => ⟨Or.inr ⟨h1, h2.1⟩, h2.2⟩
  cases hk : readK s.data.toList with
  | none =>
    refine (kver_nokey p s w B hs hk).mono fun e w' h => up ?_ h
    intro key xs o x h e
    obtain ⟨r, hr, _⟩ := parts_of_put h e
    rw [hk] at hr; cases hr
  | some kr =>
    obtain ⟨k, rl⟩ := kr
    obtain ⟨r, hr⟩ : ∃ r : ByteArray, r.data.toList = rl := ⟨⟨rl.toArray⟩, by simp⟩
    rw [← hr] at hk
    have hz : r.data.toList.length = r.size := (str_size r).symm
    have no : ∀ {key : List UInt8} {xs : List Int} {o x : Int}, OkV key xs o x → s.data.toList = putVL key xs o x → key = k ∧ Parts r.data.toList xs o x := by
      intro key xs o x h e
      obtain ⟨r', hr', P⟩ := parts_of_put h e
      rw [hk] at hr'
      obtain ⟨rfl, rfl⟩ := Prod.mk.inj (Option.some.inj hr')
      exact ⟨rfl, P⟩
    have short : r.size < 14 → ∀ (key : List UInt8) (xs : List Int) (o x : Int), OkV key xs o x → s.data.toList ≠ putVL key xs o x := by
      intro hlt key xs o x h e
      have := (no h e).2.len
      omega
    by_cases h6 : r.size < 6
    · exact (kver_short0 p s w B hs k r hk h6).mono fun e w' h => up (short (by omega)) h
    · by_cases h7 : r.size < 7
      · exact (kver_short1 p s w B hs k r hk (by omega) h7).mono fun e w' h => up (short (by omega)) h
      · by_cases h13 : r.size < 13
        · exact (kver_short2 p s w B hs k r hk (by omega) h13).mono fun e w' h => up (short (by omega)) h
        · obtain ⟨r0, h0⟩ : ∃ r0 : ByteArray, r0.data.toList = r.data.toList.drop 13 := ⟨⟨(r.data.toList.drop 13).toArray⟩, by simp⟩
          obtain ⟨⟨xs, n, er⟩, hT⟩ : ∃ T, getT r0 = T := ⟨_, rfl⟩
          have vec : ∀ {key : List UInt8} {xs' : List Int} {o x : Int}, OkV key xs' o x → s.data.toList = putVL key xs' o x → xs = xs' ∧ n = (r0.size : Int) ∧ er = 0 := by
            intro key xs' o x h e
            have P := (no h e).2
            have h1 := getT_vecB h.at_ r0 (h0.trans P.vec)
            rw [hT] at h1
            obtain ⟨e1, e2⟩ := Prod.mk.inj h1
            obtain ⟨e2, e3⟩ := Prod.mk.inj e2
            refine ⟨e1, ?_, e3⟩
            rw [e2, str_size, h0, P.vec, vecB_length]
            push_cast
            rfl
          by_cases hE : er = 0
          · obtain ⟨kk, hn, hkk⟩ := getT_room hT hE
            subst hE hn
            by_cases hlt : kk < r0.size
            · refine (kver_more p s w B hs k r hk (by omega) r0 h0 xs kk hT hkk hlt).mono fun e w' h => up ?_ h
              intro key xs' o x h e
              have := (vec h e).2.1
              omega
            · have hkk : kk = r0.size := by omega
              cases hq : okV k xs (255 - (getL ((r.data.toList.drop 6).take 1) : Int)) (281474976710655 - (getL ((r.data.toList.drop 7).take 6) : Int)) with
              | false =>
                refine (kver_bad p s w B hs k r hk (by omega) r0 h0 xs kk hT hkk hq).mono fun e w' h => up ?_ h
                intro key xs' o x h e
                obtain ⟨rfl, P⟩ := no h e
                obtain ⟨rfl, _, _⟩ := vec h e
                rw [P.org, P.num, h.ok] at hq
                cases hq
              | true =>
                by_cases ht : timeN xs (255 - (getL ((r.data.toList.drop 6).take 1) : Int)) = (281474976710655 - (getL (r.data.toList.take 6) : Int))
                · refine (kver_ok p s w B hs k r hk (by omega) r0 h0 xs kk hT hkk hq ht).mono ?_
                  rintro e w' ⟨⟨A, c, he, hN⟩, g⟩
                  refine ⟨Or.inl ⟨⟨k.toArray⟩, A, c, _, _, xs, ?_, ?_, he, hN⟩, g⟩
                  · rw [mk_data]; exact okV_of hq
                  · rw [mk_data]
                    exact put_of_parts hk (by omega) (by rw [← h0]; exact vecB_of r0 xs (by rw [hT, hkk])) (okV_of hq) ht
                · refine (kver_late p s w B hs k r hk (by omega) r0 h0 xs kk hT hkk hq ht).mono fun e w' h => up ?_ h
                  intro key xs' o x h e
                  obtain ⟨rfl, P⟩ := no h e
                  obtain ⟨rfl, _, _⟩ := vec h e
                  exact ht (by rw [P.org, P.time])
          · refine (kver_novec p s w B hs k r hk (by omega) r0 h0 xs n er hT hE).mono fun e w' h => up ?_ h
            intro key xs' o x h e
            exact hE (vec h e).2.2
end Go.Proofs.YthacdegaeokgnaaGreatDoor

namespace Go.Proofs.YthacdegaeokgnaaGreatDoor
open Go.RowKit

/-- A world in which the version in block a is none any more, and the error in block b is er. -/
def freshW (w : World) (a b : Nat) (er : Int) : World :=
  ((((((((w.setCell ⟨a, 0, none⟩ (.string ⟨#[]⟩)).setCell ⟨a, 1, none⟩ (.slice none 0 0)).setCell ⟨a, 2, none⟩ (.int .i64 0)).setCell ⟨a, 3, none⟩ (.int .i64 0)).setCell ⟨a, 4, none⟩ (.int .i64 0)).setCell ⟨a, 5, none⟩ (.float .f64 0)).setCell ⟨a, 6, none⟩ (.int .i64 0)).setCell ⟨a, 7, none⟩ (.string ⟨#[]⟩)).setCell ⟨b, 0, none⟩ (.int .i64 er)

set_option maxHeartbeats 2000000 in
theorem kget_catch (a b : Nat) (er y : Int) (older : List PanicEntry) (w : World) (key : ByteArray) (A : Option Addr) (n c : Nat) (o x kd : Int) (nu : Nat) (it : Int) (tx : ByteArray) (Ba : Blk w a 28 (verC key A n c o x kd nu it tx)) (Bb : Blk w b 48 #[.int .i64 y]) (hab : a ≠ b) :
    CallsD Tryz.prog 27 #[.pointer (some ⟨a, 0, none⟩), .pointer (some ⟨b, 0, none⟩)] (.panicking ({ v := .iface 48 (.int .i64 er), recovered := false } :: older)) w fun e u' w' =>
      e = .returned (.tuple #[]) ∧ u' = .panicking ({ v := .iface 48 (.int .i64 er), recovered := true } :: older) ∧ w' = freshW w a b er := by
  obtain ⟨c0, c1, c2, c3, c4, c5, c6, c7⟩ := ver_cells Ba
  have z0 := Ba.frozen 0
  have z1 := Ba.frozen 1
  have z2 := Ba.frozen 2
  have z3 := Ba.frozen 3
  have z4 := Ba.frozen 4
  have z5 := Ba.frozen 5
  have z6 := Ba.frozen 6
  have z7 := Ba.frozen 7
  have d0 : w.cell? ⟨b, 0, none⟩ = some (.int .i64 y) := Bb.cell 0
  have y0 := Bb.frozen 0
  have hst := run_sto_f64
  refine callsD_of_wpS Tryz.func27 rfl fun c₀ cs hu => ?_
  apply wpS_seq
  apply wpS_region
  simp [wpOpsS, go_sem, recoverD, hu, Tryz.ntmps27, Exit.thenS]
  refine wpS_of_wp ?_
  simp [Array.replicate]
  go_wp2_with fail
  refine (told_errno _ _).mono ?_
  rintro e w' ⟨rfl, rfl⟩
  go_wp2
  simp [bodyPostS, results, Tryz.results27, freshW]

set_option maxHeartbeats 400000 in
theorem kget_idle (a b : Value) (w : World) :
    CallsD Tryz.prog 27 #[a, b] .returning w fun e u' w' => e = .returned (.tuple #[]) ∧ u' = .returning ∧ w' = w := by
  refine callsD_of_wpS Tryz.func27 rfl fun c₀ cs hu => ?_
  apply wpS_seq
  apply wpS_region
  simp [wpOpsS, go_sem, recoverD, hu, Tryz.ntmps27, Exit.thenS]
  refine wpS_of_wp ?_
  simp [Array.replicate]
  go_wp2
  cases c₀
  simp_all [bodyPostS, results, Tryz.results27]

theorem fresh_blk {w : World} {a b : Nat} (er y : Int) {key : ByteArray} {A : Option Addr} {n c : Nat} {o x kd : Int} {nu : Nat} {it : Int} {tx : ByteArray} (Ba : Blk w a 28 (verC key A n c o x kd nu it tx)) (Bb : Blk w b 48 #[.int .i64 y]) (hab : a ≠ b) :
    Blk (freshW w a b er) a 28 (verC ⟨#[]⟩ none 0 0 0 0 0 0 0 ⟨#[]⟩) ∧ Blk (freshW w a b er) b 48 #[.int .i64 er] := by
  constructor
  · exact (ver_set8 Ba ⟨#[]⟩ none 0 0 0 0 0 0 0 ⟨#[]⟩).far (p := ⟨b, 0, none⟩) hab _
  · have hb : b ≠ a := fun h => hab h.symm
    have h := ((((((((Bb.far (p := ⟨a, 0, none⟩) hb (.string ⟨#[]⟩)).far (p := ⟨a, 1, none⟩) hb (.slice none 0 0)).far (p := ⟨a, 2, none⟩) hb (.int .i64 0)).far (p := ⟨a, 3, none⟩) hb (.int .i64 0)).far (p := ⟨a, 4, none⟩) hb (.int .i64 0)).far (p := ⟨a, 5, none⟩) hb (.float .f64 0)).far (p := ⟨a, 6, none⟩) hb (.int .i64 0)).far (p := ⟨a, 7, none⟩) hb (.string ⟨#[]⟩)).set_ 0 (.int .i64 er)
    exact h
theorem fresh_below {w0 w : World} {a b B : Nat} (er : Int) (h : Below B w0 w) (ha : B ≤ a) (hb : B ≤ b) : Below B w0 (freshW w a b er) :=
  below_setCell (below_set8 h ha _ _ _ _ _ _ _ _) hb _

/-- What gave up is recovered: the results are set anew. -/
theorem kend_err (w2 : World) (p : Nat) (t : Array Value) (er y : Int) {key : ByteArray} {A : Option Addr} {n c : Nat} {o x kd : Int} {nu : Nat} {it : Int} {tx : ByteArray} {R : Ending → World → Prop} (Ba : Blk w2 p 28 (verC key A n c o x kd nu it tx)) (Bb : Blk w2 (p + 1) 48 #[.int .i64 y])
    (t2 : t[2]?.getD undef = .pointer (some ⟨p, 0, none⟩)) (t3 : t[3]?.getD undef = .pointer (some ⟨p + 1, 0, none⟩)) (h : R (.returned (.tuple #[verV ⟨#[]⟩ none 0 0 0 0 0 0 0 ⟨#[]⟩, .int .i64 er])) (freshW w2 p (p + 1) er)) :
    bodyPostD Tryz.prog Tryz.f8 R (Exit.panic [{ v := .iface 48 (.int .i64 er), recovered := false }])
      { tmps := t, defers := [{ target := Target.fn (Fn.func 27) #[.pointer (some ⟨p, 0, none⟩), .pointer (some ⟨p + 1, 0, none⟩)], args := #[] }] } w2 := by
  obtain ⟨E0, E1⟩ := fresh_blk er y Ba Bb (by omega)
  refine leaves_cons (f := 27) (args := #[.pointer (some ⟨p, 0, none⟩), .pointer (some ⟨p + 1, 0, none⟩)]) (by simp) (by simp [go_sem]) ?_
  refine (kget_catch p (p + 1) er y [] _ _ _ _ _ _ _ _ _ _ _ Ba Bb (by omega)).mono ?_
  rintro e u' w'' ⟨rfl, rfl, rfl⟩
  generalize freshW w2 p (p + 1) er = w3 at *
  obtain ⟨c0, c1, c2, c3, c4, c5, c6, c7⟩ := ver_cells E0
  have e1 : w3.cell? ⟨p + 1, 0, none⟩ = some (.int .i64 er) := E1.cell 0
  simp [Leaves, settle, results, Tryz.results8, go_sem, c0, c1, c2, c3, c4, c5, c6, c7, e1, t2, t3]
  exact h
/-- What is got stands in the results. -/
theorem kend_ok (w w2 : World) (p : Nat) (t : Array Value) {key : ByteArray} {A : Option Addr} {n c : Nat} {o x kd : Int} {nu : Nat} {it : Int} {tx : ByteArray} {R : Ending → World → Prop} (Ba : Blk w2 p 28 (verC key A n c o x kd nu it tx)) (Bb : Blk w2 (p + 1) 48 #[.int .i64 0])
    (t2 : t[2]?.getD undef = .pointer (some ⟨p, 0, none⟩)) (t3 : t[3]?.getD undef = .pointer (some ⟨p + 1, 0, none⟩)) (h : R (.returned (.tuple #[verV key A n c o x kd nu it tx, .int .i64 0])) w2) :
    bodyPostD Tryz.prog Tryz.f8 R Exit.ret
      { tmps := t, defers := [{ target := Target.fn (Fn.func 27) #[.pointer (some ⟨p, 0, none⟩), .pointer (some ⟨p + 1, 0, none⟩)], args := #[] }] } w2 := by
  obtain ⟨c0, c1, c2, c3, c4, c5, c6, c7⟩ := ver_cells Ba
  have e1 : w2.cell? ⟨p + 1, 0, none⟩ = some (.int .i64 0) := Bb.cell 0
  refine leaves_cons (f := 27) (args := #[.pointer (some ⟨p, 0, none⟩), .pointer (some ⟨p + 1, 0, none⟩)]) (by simp) (by simp [go_sem]) ?_
  refine (kget_idle _ _ _).mono ?_
  rintro e u' w'' ⟨rfl, rfl, rfl⟩
  simp [Leaves, settle, results, Tryz.results8, go_sem, c0, c1, c2, c3, c4, c5, c6, c7, e1, t2, t3]
  exact h

set_option maxRecDepth 100000 in
set_option maxHeartbeats 4000000 in
theorem kget_any (s : ByteArray) (w : World) (hs : s.size ≤ 140737488351232) :
    Calls Tryz.prog 8 #[.string s] w fun e w' => GetIs w w' s.data.toList e ∧ Below w.heap.size w w' := by
  have hmf : ∀ (fn : Fn) (first cap : Array Value) (w : World), (Instr.makeFunc fn first cap).run Tryz.prog w = .ok (.func fn first cap) w := fun _ _ _ _ => rfl
  have P0 : Hid (Blk (((w.alloc (.cells #[.string ⟨#[]⟩, .slice none 0 0, .int .i64 0, .int .i64 0, .int .i64 0, .float .f64 0, .int .i64 0, .string ⟨#[]⟩] 28)).alloc (.cells #[.int .i64 0] 48)).alloc (.cells #[.string s] 66)) w.heap.size 28 (verC ⟨#[]⟩ none 0 0 0 0 0 0 0 ⟨#[]⟩)) := ((Blk.new _ _ _).alloc _).alloc _
  have E0 : Hid (Blk (((w.alloc (.cells #[.string ⟨#[]⟩, .slice none 0 0, .int .i64 0, .int .i64 0, .int .i64 0, .float .f64 0, .int .i64 0, .string ⟨#[]⟩] 28)).alloc (.cells #[.int .i64 0] 48)).alloc (.cells #[.string s] 66)) (w.heap.size + 1) 48 #[.int .i64 0]) := (Blk.new' (by simp) _ _).alloc _
  have R0 : Hid (RdAt (((w.alloc (.cells #[.string ⟨#[]⟩, .slice none 0 0, .int .i64 0, .int .i64 0, .int .i64 0, .float .f64 0, .int .i64 0, .string ⟨#[]⟩] 28)).alloc (.cells #[.int .i64 0] 48)).alloc (.cells #[.string s] 66)) (w.heap.size + 2) s) := Blk.new' (by simp) _ _
  have hb0 : Hid (Below w.heap.size w (((w.alloc (.cells #[.string ⟨#[]⟩, .slice none 0 0, .int .i64 0, .int .i64 0, .int .i64 0, .float .f64 0, .int .i64 0, .string ⟨#[]⟩] 28)).alloc (.cells #[.int .i64 0] 48)).alloc (.cells #[.string s] 66))) := below_alloc (below_alloc (below_alloc (Below.refl _ _) (Nat.le_refl _) _) (Nat.le_refl _) _) (Nat.le_refl _) _
  go_enter_defers Tryz.func8, Tryz.ntmps8
  go_wp2_with fail
  generalize (((w.alloc (.cells #[.string ⟨#[]⟩, .slice none 0 0, .int .i64 0, .int .i64 0, .int .i64 0, .float .f64 0, .int .i64 0, .string ⟨#[]⟩] 28)).alloc (.cells #[.int .i64 0] 48)).alloc (.cells #[.string s] 66)) = w0 at *
  refine (krversion_any (w.heap.size + 2) s w0 R0.out hs).mono ?_
  rintro e w1 ⟨h, g⟩
  have P1 := Lib.hid (kblk_by P0.out g (by omega))
  have E1 := Lib.hid (kblk_by E0.out g (by omega))
  have hb1 := Lib.hid (kbelow_by hb0.out g (Nat.le_refl _) (by omega))
  have hlt : w.heap.size + 2 < w0.heap.size := R0.out.lt
  clear P0 E0 hb0 R0 g
  rcases h with ⟨key, A, c, o, x, xs, h1, h2, rfl, hN⟩ | ⟨h1, rfl⟩
  · unfold verV
    have HN := Lib.hid hN
    have H1 := Lib.hid h1
    have H2 := Lib.hid h2
    obtain ⟨c0, c1, c2, c3, c4, c5, c6, c7⟩ := ver_cells P1.out
    have z0 := P1.out.frozen 0
    have z1 := P1.out.frozen 1
    have z2 := P1.out.frozen 2
    have z3 := P1.out.frozen 3
    have z4 := P1.out.frozen 4
    have z5 := P1.out.frozen 5
    have z6 := P1.out.frozen 6
    have z7 := P1.out.frozen 7
    have d0 : w1.cell? ⟨w.heap.size + 1, 0, none⟩ = some (.int .i64 0) := E1.out.cell 0
    have y0 := E1.out.frozen 0
    have hst := run_sto_f64
    clear hN h1 h2
    go_wp2_with fail
    have hn : w.heap.size + 1 ≠ w.heap.size := by omega
    exact kend_ok w _ w.heap.size _ ((ver_set8 P1.out key A xs.length c o x 0 0 0 ⟨#[]⟩).far (p := ⟨w.heap.size + 1, 0, none⟩) (by dsimp only; omega) _)
      (((((((((E1.out.far (p := ⟨w.heap.size, 0, none⟩) hn _).far (p := ⟨w.heap.size, 1, none⟩) hn _).far (p := ⟨w.heap.size, 2, none⟩) hn _).far (p := ⟨w.heap.size, 3, none⟩) hn _).far (p := ⟨w.heap.size, 4, none⟩) hn _).far (p := ⟨w.heap.size, 5, none⟩) hn _).far (p := ⟨w.heap.size, 6, none⟩) hn _).far (p := ⟨w.heap.size, 7, none⟩) hn _).set_ 0 (.int .i64 0)) rfl rfl
      ⟨Or.inl ⟨key, A, c, o, x, xs, H1.out, H2.out, rfl, Nums.low (ownsRow_setCell_below (nums_set8 HN.out (show w.heap.size < w0.heap.size by omega) _ _ _ _ _ _ _ _) (a := ⟨w.heap.size + 1, 0, none⟩) (by dsimp only; omega) _) (by omega)⟩,
        below_setCell (below_set8 hb1.out (Nat.le_refl _) _ _ _ _ _ _ _ _) (by dsimp only; omega) _⟩
  · have H1 := Lib.hid h1
    clear h1
    unfold gaveUp
    go_wp2_with fail
    exact kend_err w1 w.heap.size _ 4 0 P1.out E1.out rfl rfl ⟨Or.inr ⟨fun key xs o x => H1.out key.data.toList xs o x, rfl⟩, fresh_below 4 hb1.out (Nat.le_refl _) (by omega)⟩
end Go.Proofs.YthacdegaeokgnaaGreatDoor

namespace Go.Proofs.YthacdegaeokgnaaGreatDoor
open Go.RowKit

set_option maxRecDepth 100000 in
set_option maxHeartbeats 2000000 in
theorem kkey_any (s : ByteArray) (w : World) (hs : s.size ≤ 140737488351232) :
    Calls Tryz.prog 10 #[.string s] w fun e w' => ((∃ key : ByteArray, ∃ xs o x, OkV key.data.toList xs o x ∧ s.data.toList = putVL key.data.toList xs o x ∧ e = .returned (.tuple #[.string key, .int .i64 0])) ∨
      ((∀ (key : ByteArray) (xs : List Int) (o x : Int), OkV key.data.toList xs o x → s.data.toList ≠ putVL key.data.toList xs o x) ∧ e = .returned (.tuple #[.string ByteArray.empty, .int .i64 4]))) ∧ Below w.heap.size w w' := by
  have C := Lib.hid (kget_any s w hs)
  have hst := run_sto_f64
  go_enter Tryz.func10, Tryz.ntmps10
  go_wp2_with fail
  refine C.out.mono ?_
  rintro e w1 ⟨h, hb⟩
  have hb := Lib.hid hb
  rcases h with ⟨key, A, c, o, x, xs, h1, h2, rfl, hN⟩ | ⟨h1, rfl⟩
  · have H1 := Lib.hid h1
    have H2 := Lib.hid h2
    have B := Lib.hid (Blk.new w1 28 (verC key A xs.length c o x 0 0 0 ByteArray.empty))
    have hbB := Lib.hid (hb.out.alloc (o := .cells (verC key A xs.length c o x 0 0 0 ByteArray.empty) 28) hb.out.size)
    unfold verC at B hbB
    unfold verV
    clear hN h1 h2
    have d0 := B.out.cell 0
    simp at d0
    go_wp2_with fail
    go_ret2
    exact ⟨Or.inl ⟨key, xs, o, x, H1.out, H2.out, rfl⟩, hbB.out⟩
  · have H1 := Lib.hid h1
    have B := Lib.hid (Blk.new w1 28 (verC ByteArray.empty none 0 0 0 0 0 0 0 ByteArray.empty))
    have hbB := Lib.hid (hb.out.alloc (o := .cells (verC ByteArray.empty none 0 0 0 0 0 0 0 ByteArray.empty) 28) hb.out.size)
    unfold verC at B hbB
    unfold verV
    clear h1
    have d0 := B.out.cell 0
    simp at d0
    go_wp2_with fail
    go_ret2
    exact ⟨Or.inr ⟨H1.out, rfl⟩, hbB.out⟩

theorem kints_blk {w : World} {g : Nat} {t : TypeId} (zs : List Int) (h : Blk w g t (zs.map (Value.int .i64)).toArray) (hm : zs.length ≤ 9223372036854775807) (hwf : ∀ z ∈ zs, (Lit.int .i64 z).wf = true) : IntsIn w (some ⟨g, 0, none⟩) zs.length zs :=
  ⟨rfl, hm, fun _ => ⟨g, 0, rfl, h.lt, fun j hj => by rw [Nat.zero_add, h.cell j]; simp [List.getD, hj]⟩, hwf⟩
/-- The first call's bytes. -/
def firstB : List UInt8 := [114, 0, 1, 255, 255, 255, 255, 255, 250, 255, 255, 255, 255, 255, 255, 248, 1, 0, 0, 0, 0, 0, 5]
theorem first_put : putVL [114] [5] 0 7 = firstB := by decide +kernel
theorem first_head : headL [114, 0] = [114, 0, 255, 0, 1] := by decide
theorem first_ok : OkV [114] [5] 0 7 := okV_of (by decide +kernel)
theorem first_toList (l : List UInt8) : (⟨l.toArray⟩ : ByteArray).toList = l := by rw [Lib.toList_data]

theorem kfirst_put (w : World) (V : VerIn w ⟨#[114]⟩ (some ⟨w.heap.size - 1, 0, none⟩) 1 [5] 0 7 0 0 0 ⟨#[]⟩) :
    Calls Tryz.prog 6 #[verV ⟨#[114]⟩ (some ⟨w.heap.size - 1, 0, none⟩) 1 1 0 7 0 0 0 ⟨#[]⟩] w fun e w' => e = .returned (.tuple #[.string ⟨firstB.toArray⟩, .int .i64 0]) ∧ Below w.heap.size w w' := by
  refine (kput_any _ _ 1 1 0 7 0 0 0 _ [5] w V).mono ?_
  rintro e w' ⟨h, hb⟩
  refine ⟨?_, hb⟩
  have h1 : (⟨#[114]⟩ : ByteArray).data.toList = [114] := rfl
  rw [h1, first_put, first_ok.ok] at h
  rcases h with ⟨_, h⟩ | ⟨h, _⟩
  · exact h
  · cases h
theorem kfirst_get (w : World) :
    Calls Tryz.prog 8 #[.string ⟨firstB.toArray⟩] w fun e w' => (∃ A c, e = .returned (.tuple #[verV ⟨#[114]⟩ A 1 c 0 7 0 0 0 ByteArray.empty, .int .i64 0])) ∧ Below w.heap.size w w' := by
  refine (kget_any _ w (by rw [size_mk]; decide)).mono ?_
  rintro e w' ⟨h, hb⟩
  refine ⟨?_, hb⟩
  rw [mk_data, ← first_put] at h
  rcases h with ⟨key, A, c, o, x, xs, h1, h2, rfl, _⟩ | ⟨h1, _⟩
  · obtain ⟨k1, k2, k3, k4⟩ := putVL_inj first_ok h1 h2
    have k1 : (⟨#[114]⟩ : ByteArray) = key := kbytes_ext k1
    subst k1 k2 k3 k4
    exact ⟨A, c, rfl⟩
  · exact absurd rfl (h1 ⟨#[114]⟩ [5] 0 7 first_ok)
theorem kfirst_head (w : World) :
    Calls Tryz.prog 16 #[.string ⟨#[114, 0]⟩] w fun e w' => e = .returned (.string ⟨([114, 0, 255, 0, 1] : List UInt8).toArray⟩) ∧ Below w.heap.size w w' := by
  have h := khead_any ⟨#[114, 0]⟩ w (by decide)
  rw [show (⟨#[114, 0]⟩ : ByteArray).data.toList = [114, 0] from rfl, first_head] at h
  exact h
theorem kfirst_iskey (w : World) :
    Calls Tryz.prog 14 #[.string ⟨#[113]⟩] w fun e w' => e = .returned (.bool false) ∧ w' = w := by
  have h := kiskey_any ⟨#[113]⟩ w (by decide)
  rw [show isKeyL (⟨#[113]⟩ : ByteArray).data.toList = false from by decide] at h
  exact h

set_option maxRecDepth 100000 in
set_option maxHeartbeats 4000000 in
theorem kalive_any (w : World) : Calls Tryz.prog 4 #[] w fun e w' => e = .returned (.bool true) ∧ Below w.heap.size w w' := by
  have B0 : Blk (w.alloc (.cells #[.int .i64 5] 3)) w.heap.size 3 #[.int .i64 5] := Blk.new w _ _
  have V0 : VerIn (w.alloc (.cells #[.int .i64 5] 3)) ⟨#[114]⟩ (some ⟨w.heap.size, 0, none⟩) 1 [5] 0 7 0 0 0 ⟨#[]⟩ :=
    ⟨kints_blk [5] B0 (by decide) (by decide), by decide, by decide, by decide, by decide, by decide, by decide, by decide⟩
  have C1 := kfirst_put (w.alloc (.cells #[.int .i64 5] 3)) (by simpa using V0)
  rw [show (w.alloc (.cells #[.int .i64 5] 3)).heap.size - 1 = w.heap.size by simp] at C1
  have hb0 : Hid (Below w.heap.size w (w.alloc (.cells #[.int .i64 5] 3))) := (Below.refl _ w).alloc (Nat.le_refl _) _
  have C2 := fun W => Lib.hid (kfirst_get W)
  have C3 := fun W => Lib.hid (kfirst_head W)
  have C4 := fun W => Lib.hid (kfirst_iskey W)
  simp only [verV] at C1 C2
  have q1 : ((⟨firstB.toArray⟩ : ByteArray).toList == [114, 0, 1, 255, 255, 255, 255, 255, 250, 255, 255, 255, 255, 255, 255, 248, 1, 0, 0, 0, 0, 0, 5]) = true := by rw [first_toList]; decide
  have q2 : ((⟨([114, 0, 255, 0, 1] : List UInt8).toArray⟩ : ByteArray).toList == [114, 0, 255, 0, 1]) = true := by rw [first_toList]; decide
  generalize (⟨firstB.toArray⟩ : ByteArray) = S at *
  generalize (⟨([114, 0, 255, 0, 1] : List UInt8).toArray⟩ : ByteArray) = H at *
  have C1 := Lib.hid C1
  have hst := run_sto_f64
  clear B0 V0
  go_enter Tryz.func4, Tryz.ntmps4
  go_wp2_with fail
  refine C1.out.mono ?_
  rintro e w1 ⟨rfl, hb1⟩
  have HB1 := Lib.hid (hb0.out.trans (hb1.mono hb0.out.size))
  clear C1 hb0 hb1
  go_wp2_with fail
  refine (C2 _).out.mono ?_
  rintro e w2 ⟨⟨A, c, rfl⟩, hb2⟩
  have HB2 := Lib.hid (HB1.out.trans (hb2.mono HB1.out.size))
  clear hb2 HB1 C2
  have B := Lib.hid (Blk.new w2 28 (verC ⟨#[114]⟩ A 1 c 0 7 0 0 0 ByteArray.empty))
  have HB3 := Lib.hid (HB2.out.alloc (o := .cells (verC ⟨#[114]⟩ A 1 c 0 7 0 0 0 ByteArray.empty) 28) HB2.out.size)
  unfold verC at B HB3
  go_wp2_with fail
  refine (C3 _).out.mono ?_
  rintro e w3 ⟨rfl, hb3⟩
  have HB4 := Lib.hid (HB3.out.trans (hb3.mono HB3.out.size))
  clear hb3 HB3 C3 B
  go_wp2_with fail
  refine (C4 _).out.mono ?_
  rintro e w4 ⟨rfl, rfl⟩
  go_wp2_with fail
  go_ret
  exact ⟨by simp, HB4.out⟩
end Go.Proofs.YthacdegaeokgnaaGreatDoor

namespace Go.Proofs.YthacdegaeokgnaaGreatDoor
open Go.RowKit

set_option maxRecDepth 100000 in
set_option maxHeartbeats 1000000 in
theorem rleq_any (A1 : Option Addr) (n1 c1 : Nat) (xs : List Int) (A2 : Option Addr) (n2 c2 : Nat) (ys : List Int) (w : World) (I1 : IntsIn w A1 n1 xs) (I2 : IntsIn w A2 n2 ys) :
    Calls Tryz.prog 106 #[.slice A1 n1 c1, .slice A2 n2 c2] w fun e w' => e = .returned (.bool (leqL xs ys)) ∧ ∃ q, w' = w.drewN q := by
  have J1 := Lib.hid I1
  have J2 := Lib.hid I2
  have l1 := I1.len
  have l2 := I2.len
  have m1 := I1.max
  have m2 := I2.max
  clear I1 I2
  by_cases hne : n1 = n2
  · subst hne
    go_enter Tryz.func106, Tryz.ntmps106
    go_wp2_with fail
    go_loopw [5] (fun i wr => ∃ k q : Nat, k ≤ n1 ∧ i = .int .i64 (k : Int) ∧ Hid (wr = w.drewN q) ∧ Hid (∀ j, j < k → xs.getD j 0 ≤ ys.getD j 0)) (fun i _ => n1 - (intOf i).toNat)
    case atStart => exact ⟨0, 0, by omega, rfl, rfl, fun j hj => absurd hj (by omega)⟩
    case round =>
      obtain ⟨k, q, hk, rfl, Hw, Hle⟩ := hrel
      by_cases hl : k < n1
      · have K1 := J1.out.drewN q
        have K2 := J2.out.drewN q
        rw [← Hw.out] at K1 K2
        obtain ⟨b1, o1, rfl, _, hc1⟩ := K1.some (by omega)
        obtain ⟨b2, o2, rfl, _, hc2⟩ := K2.some (by omega)
        have d1 := hc1 k hl
        have d2 := hc2 k hl
        obtain ⟨x, hx⟩ : ∃ x, xs.getD k 0 = x := ⟨_, rfl⟩
        obtain ⟨y, hy⟩ : ∃ y, ys.getD k 0 = y := ⟨_, rfl⟩
        rw [hx] at d1
        rw [hy] at d2
        have Hx := Lib.hid hx
        have Hy := Lib.hid hy
        have hl1 : (k : Int) < (n1 : Int) := by omega
        clear hc1 hc2 hx hy K1 K2
        by_cases hg : y < x
        · go_wp2_with fail
          go_quiet (fail)
          go_wp2_with fail
          have : leqL xs ys = false := by
            unfold leqL
            refine decide_eq_false fun h => ?_
            have := h.2 k (by omega)
            rw [Hx.out, Hy.out] at this
            omega
          rw [this]
          go_ret
          exact ⟨rfl, drewN_more Hw.out _⟩
        · go_wp2_with fail
          go_quiet (fail)
          go_wp2_with fail
          go_roundw
          case rel =>
            refine ⟨k + 1, _, by omega, by go_num, (by rw [Hw.out, World.drewN_drewN]; rfl), fun j hj => ?_⟩
            by_cases hjk : j = k
            · subst hjk; rw [Hx.out, Hy.out]; omega
            · exact Hle.out j (by omega)
          case measure => simp [intOf]; omega
      · obtain rfl : k = n1 := by omega
        go_wp2_with fail
        have : leqL xs ys = true := by
          unfold leqL
          exact decide_eq_true ⟨by omega, fun j hj => Hle.out j (by omega)⟩
        rw [this]
        go_ret
        exact ⟨rfl, _, Hw.out⟩
  · go_enter Tryz.func106, Tryz.ntmps106
    go_wp2_with fail
    have : leqL xs ys = false := by
      unfold leqL
      exact decide_eq_false fun h => hne (by omega)
    rw [this]
    go_ret
    exact ⟨rfl, 0, rfl⟩

theorem leqL_both (xs ys : List Int) : (leqL xs ys && leqL ys xs) = decide (xs = ys) := by
  by_cases h : xs = ys
  · subst h
    have : leqL xs xs = true := by unfold leqL; exact decide_eq_true ⟨rfl, fun _ _ => Int.le_refl _⟩
    rw [this]; simp
  · rw [decide_eq_false h]
    rw [Bool.and_eq_false_iff]
    by_cases h1 : leqL xs ys = true
    · right
      refine Bool.eq_false_iff.2 fun h2 => h ?_
      unfold leqL at h1 h2
      have a := of_decide_eq_true h1
      have b := of_decide_eq_true h2
      exact list_ext_getD a.1 fun j hj => Int.le_antisymm (a.2 j hj) (b.2 j (by omega))
    · left
      exact Bool.eq_false_iff.2 h1

set_option maxRecDepth 100000 in
set_option maxHeartbeats 1000000 in
theorem rsame_any (A1 : Option Addr) (n1 c1 : Nat) (xs : List Int) (A2 : Option Addr) (n2 c2 : Nat) (ys : List Int) (w : World) (I1 : IntsIn w A1 n1 xs) (I2 : IntsIn w A2 n2 ys) :
    Calls Tryz.prog 32 #[.slice A1 n1 c1, .slice A2 n2 c2] w fun e w' => e = .returned (.bool (decide (xs = ys))) ∧ ∃ q, w' = w.drewN q := by
  rw [← leqL_both]
  have R1 : Hid (∀ q, Calls Tryz.prog 106 #[.slice A1 n1 c1, .slice A2 n2 c2] (w.drewN q) fun e w' => e = .returned (.bool (leqL xs ys)) ∧ ∃ q, w' = w.drewN q) :=
    fun q => (rleq_any A1 n1 c1 xs A2 n2 c2 ys _ (I1.drewN q) (I2.drewN q)).mono fun _ _ h => ⟨h.1, by obtain ⟨r, hr⟩ := h.2; exact ⟨q + r, by rw [hr, World.drewN_drewN]⟩⟩
  have R2 : Hid (∀ q, Calls Tryz.prog 106 #[.slice A2 n2 c2, .slice A1 n1 c1] (w.drewN q) fun e w' => e = .returned (.bool (leqL ys xs)) ∧ ∃ q, w' = w.drewN q) :=
    fun q => (rleq_any A2 n2 c2 ys A1 n1 c1 xs _ (I2.drewN q) (I1.drewN q)).mono fun _ _ h => ⟨h.1, by obtain ⟨r, hr⟩ := h.2; exact ⟨q + r, by rw [hr, World.drewN_drewN]⟩⟩
  clear I1 I2
  obtain ⟨x, hx⟩ : ∃ x, leqL xs ys = x := ⟨_, rfl⟩
  obtain ⟨y, hy⟩ : ∃ y, leqL ys xs = y := ⟨_, rfl⟩
  rw [hx] at R1 ⊢
  rw [hy] at R2 ⊢
  clear hx hy
  cases x with
  | false =>
    go_enter Tryz.func32, Tryz.ntmps32
    go_wp2_with fail
    refine (R1.out 0).mono ?_
    rintro e w1 ⟨rfl, q, hq⟩
    have Hq := Lib.hid hq
    clear hq
    go_wp2_with fail
    go_ret
    exact ⟨rfl, q, Hq.out⟩
  | true =>
    go_enter Tryz.func32, Tryz.ntmps32
    go_wp2_with fail
    refine (R1.out 0).mono ?_
    rintro e w1 ⟨rfl, q, rfl⟩
    go_wp2_with fail
    refine (R2.out q).mono ?_
    rintro e w1 ⟨rfl, q, hq⟩
    have Hq := Lib.hid hq
    clear hq
    cases y with
    | false =>
      go_wp2_with fail
      go_ret
      exact ⟨rfl, q, Hq.out⟩
    | true =>
      go_wp2_with fail
      go_ret
      exact ⟨rfl, q, Hq.out⟩
end Go.Proofs.YthacdegaeokgnaaGreatDoor

namespace Go.Proofs.YthacdegaeokgnaaGreatDoor
open Ieee

/-- A word's lower 63 bits. -/
def rung (x : Nat) : Nat := x % 9223372036854775808
def isNeg (x : Nat) : Bool := x / 9223372036854775808 % 2 == 1
/-- A magnitude in units of the least one. -/
def magOf (r : Nat) : Nat := if r < 4503599627370496 then r else (4503599627370496 + r % 4503599627370496) * 2 ^ (r / 4503599627370496 - 1)
/-- A word's place in the order of numbers, nan aside. -/
def nkey (x : Nat) : Int := if isNeg x then -(rung x : Int) else (rung x : Int)
def infR : Nat := 9218868437227405312

theorem magOf_step (r : Nat) : magOf r < magOf (r + 1) := by
  unfold magOf
  by_cases h1 : r + 1 < 4503599627370496
  · rw [if_pos (by omega), if_pos h1]; omega
  · rw [if_neg h1]
    by_cases h2 : r < 4503599627370496
    · rw [if_pos h2, show (r + 1) / 4503599627370496 - 1 = 0 from by omega]
      omega
    · rw [if_neg h2]
      by_cases h3 : (r + 1) % 4503599627370496 = 0
      · have e1 : (r + 1) / 4503599627370496 = r / 4503599627370496 + 1 := by omega
        have e2 : r % 4503599627370496 = 4503599627370495 := by omega
        rw [h3, e1, e2, show r / 4503599627370496 + 1 - 1 = (r / 4503599627370496 - 1) + 1 from by omega, Nat.pow_succ]
        have := Nat.two_pow_pos (r / 4503599627370496 - 1)
        omega
      · have e1 : (r + 1) / 4503599627370496 = r / 4503599627370496 := by omega
        have e2 : (r + 1) % 4503599627370496 = r % 4503599627370496 + 1 := by omega
        rw [e1, e2]
        exact Nat.mul_lt_mul_of_pos_right (by omega) (Nat.two_pow_pos _)
theorem magOf_mono {a b : Nat} (h : a < b) : magOf a < magOf b := by
  induction b with
  | zero => omega
  | succ b ih =>
    rcases Nat.lt_or_ge a b with h1 | h1
    · exact Nat.lt_trans (ih h1) (magOf_step b)
    · obtain rfl : a = b := by omega
      exact magOf_step a
theorem magOf_lt (a b : Nat) : magOf a < magOf b ↔ a < b := by
  constructor
  · intro h
    rcases Nat.lt_trichotomy a b with h1 | h1 | h1
    · exact h1
    · subst h1; omega
    · have := magOf_mono h1; omega
  · exact magOf_mono
theorem magOf_eq (a b : Nat) : magOf a = magOf b ↔ a = b := by
  constructor
  · intro h
    rcases Nat.lt_trichotomy a b with h1 | h1 | h1
    · have := magOf_mono h1; omega
    · exact h1
    · have := magOf_mono h1; omega
  · rintro rfl; rfl

theorem f64_sign : Ieee.double.signWeight = 9223372036854775808 := by decide
theorem f64_binade : Ieee.double.binade = 4503599627370496 := by decide
theorem f64_inf : Ieee.double.infRung = infR := by decide
theorem f64_least : Ieee.double.leastPlace = -1074 := by decide

theorem read_fin (x : Nat) (h : rung x < infR) : ∃ m k : Nat, Ieee.double.read x = .number (isNeg x) m (-1074 + (k : Int)) ∧ m * 2 ^ k = magOf (rung x) := by
  unfold Format.read
  rw [f64_sign, f64_binade, f64_inf, f64_least]
  show ∃ m k : Nat, (if rung x < 4503599627370496 then _ else _) = _ ∧ _
  by_cases h1 : rung x < 4503599627370496
  · rw [if_pos h1]
    refine ⟨rung x, 0, rfl, ?_⟩
    unfold magOf
    rw [if_pos h1]
    omega
  · rw [if_neg h1]
    show ∃ m k : Nat, (if rung x < infR then _ else _) = _ ∧ _
    rw [if_pos h]
    refine ⟨4503599627370496 + rung x % 4503599627370496, rung x / 4503599627370496 - 1, rfl, ?_⟩
    unfold magOf
    rw [if_neg h1]
theorem read_inf (x : Nat) (h : rung x = infR) : Ieee.double.read x = .infinity (isNeg x) := by
  unfold Format.read
  rw [f64_sign, f64_binade, f64_inf, f64_least]
  show (if rung x < 4503599627370496 then _ else if rung x < infR then _ else if rung x = infR then _ else _) = _
  rw [if_neg (by rw [h]; decide), if_neg (by omega), if_pos h]
  rfl
theorem read_nan (x : Nat) (h : infR < rung x) : ∃ f, Ieee.double.read x = .nan (isNeg x) f := by
  unfold Format.read
  rw [f64_sign, f64_binade, f64_inf, f64_least]
  refine ⟨rung x - infR, ?_⟩
  show (if rung x < 4503599627370496 then _ else if rung x < infR then _ else if rung x = infR then _ else _) = _
  have : (4503599627370496 : Nat) < infR := by decide
  rw [if_neg (by omega), if_neg (by omega), if_neg (by omega)]
  rfl

theorem cmp_of {a b a' b' : Int} (h1 : a < b ↔ a' < b') (h2 : a = b ↔ a' = b') : compare a b = compare a' b' := by
  show compareOfLessAndEq a b = compareOfLessAndEq a' b'
  unfold compareOfLessAndEq
  simp only [h1, h2]

theorem scale_mag (m k l : Nat) : (m <<< (k - min k l)) * 2 ^ min k l = m * 2 ^ k := by
  rw [Nat.shiftLeft_eq, Nat.mul_assoc, ← Nat.pow_add]
  congr 2
  omega

theorem signed_cmp (s t : Bool) (a b A B c : Nat) (hc : 0 < c) (ha : a * c = A) (hb : b * c = B) (x y : Nat) (h1 : A < B ↔ x < y) (h1' : B < A ↔ y < x) (hx : A = 0 ↔ x = 0) (hy : B = 0 ↔ y = 0) :
    compare (if s then -((a : Nat) : Int) else ((a : Nat) : Int)) (if t then -((b : Nat) : Int) else ((b : Nat) : Int)) = compare (if s then -(x : Int) else (x : Int)) (if t then -(y : Int) else (y : Int)) := by
  have g1 : a < b ↔ A < B := by rw [← ha, ← hb]; exact (Nat.mul_lt_mul_right hc).symm
  have g2 : b < a ↔ B < A := by rw [← ha, ← hb]; exact (Nat.mul_lt_mul_right hc).symm
  have g3 : a = 0 ↔ A = 0 := by
    rw [← ha]
    constructor
    · rintro rfl; simp
    · intro h; rcases Nat.mul_eq_zero.1 h with h | h <;> omega
  have g4 : b = 0 ↔ B = 0 := by
    rw [← hb]
    constructor
    · rintro rfl; simp
    · intro h; rcases Nat.mul_eq_zero.1 h with h | h <;> omega
  clear ha hb
  cases s <;> cases t <;> apply cmp_of <;> simp only [if_true, Bool.false_eq_true, if_false] <;> omega

theorem magOf_zero (a : Nat) : magOf a = 0 ↔ a = 0 := by
  have := magOf_eq a 0
  rw [show magOf 0 = 0 from by decide] at this
  exact this

theorem order_key (x y : Nat) (hx : rung x ≤ infR) (hy : rung y ≤ infR) : Ieee.double.order x y = some (compare (nkey x) (nkey y)) := by
  unfold Format.order
  rcases Nat.lt_or_ge (rung x) infR with h1 | h1
  · obtain ⟨m, k, e1, f1⟩ := read_fin x h1
    rcases Nat.lt_or_ge (rung y) infR with h2 | h2
    · obtain ⟨n, l, e2, f2⟩ := read_fin y h2
      rw [e1, e2]
      show some (compare (signed _ m _) (signed _ n _)) = _
      have p1 : ((-1074 + (k : Int)) - min (-1074 + (k : Int)) (-1074 + (l : Int))).toNat = k - min k l := by omega
      have p2 : ((-1074 + (l : Int)) - min (-1074 + (k : Int)) (-1074 + (l : Int))).toNat = l - min k l := by omega
      rw [p1, p2]
      unfold signed nkey
      congr 1
      refine signed_cmp (isNeg x) (isNeg y) _ _ (magOf (rung x)) (magOf (rung y)) (2 ^ min k l) (Nat.two_pow_pos _) ?_ ?_ (rung x) (rung y) (magOf_lt _ _) (magOf_lt _ _) (magOf_zero _) (magOf_zero _)
      · rw [scale_mag, f1]
      · have h3 := scale_mag n l k
        rw [Nat.min_comm l k] at h3
        rw [h3, f2]
    · have h2' : rung y = infR := by omega
      rw [e1, read_inf y h2']
      show some (if isNeg y then Ordering.gt else Ordering.lt) = _
      congr 1
      unfold nkey
      rw [h2']
      generalize infR = r at *
      have hlt : rung x < r := h1
      cases isNeg y <;> cases isNeg x <;> simp only [if_true, Bool.false_eq_true, if_false] <;> symm <;> first
        | (apply Int.compare_eq_lt.2; omega)
        | (apply Int.compare_eq_gt.2; omega)
  · have h1' : rung x = infR := by omega
    rcases Nat.lt_or_ge (rung y) infR with h2 | h2
    · obtain ⟨n, l, e2, f2⟩ := read_fin y h2
      rw [read_inf x h1', e2]
      show some (if isNeg x then Ordering.lt else Ordering.gt) = _
      congr 1
      unfold nkey
      rw [h1']
      generalize infR = r at *
      have hlt : rung y < r := h2
      cases isNeg x <;> cases isNeg y <;> simp only [if_true, Bool.false_eq_true, if_false] <;> symm <;> first
        | (apply Int.compare_eq_lt.2; omega)
        | (apply Int.compare_eq_gt.2; omega)
    · have h2' : rung y = infR := by omega
      rw [read_inf x h1', read_inf y h2']
      show some (compare (isNeg y).toNat (isNeg x).toNat) = _
      unfold nkey
      rw [h1', h2']
      cases isNeg x <;> cases isNeg y <;> rfl
end Go.Proofs.YthacdegaeokgnaaGreatDoor

namespace Go.Proofs.YthacdegaeokgnaaGreatDoor
open Go.RowKit Ieee

def isN (x : Nat) : Bool := decide (infR < rung x)
def rankN (x : Nat) : Nat := if isN x then 0 else if isNeg x then 18446744073709551615 - x else x + 9223372036854775808
def cmpN (a b : Nat) : Int := if rankN a < rankN b then -1 else if rankN b < rankN a then 1 else 0

theorem order_nan (x y : Nat) (h : isN x = true ∨ isN y = true) : Ieee.double.order x y = none := by
  unfold Format.order
  rcases h with h | h
  · obtain ⟨f, e⟩ := read_nan x (by simpa [isN] using h)
    rw [e]; rfl
  · obtain ⟨f, e⟩ := read_nan y (by simpa [isN] using h)
    rw [e]
    cases Ieee.double.read x <;> rfl

theorem order_num (x y : Nat) (hx : isN x = false) (hy : isN y = false) : Ieee.double.order x y = some (compare (nkey x) (nkey y)) :=
  order_key x y (by simpa [isN] using hx) (by simpa [isN] using hy)

theorem lss_eq (x y : Nat) : (FloatKind.f64.format.order x y == some .lt) = (!isN x && !isN y && decide (nkey x < nkey y)) := by
  show (Ieee.double.order x y == some .lt) = _
  cases hx : isN x
  · cases hy : isN y
    · rw [order_num x y hx hy]
      rcases Int.lt_trichotomy (nkey x) (nkey y) with h | h | h
      · rw [Int.compare_eq_lt.2 h, decide_eq_true h]; rfl
      · rw [Int.compare_eq_eq.2 h, decide_eq_false (by omega)]; rfl
      · rw [Int.compare_eq_gt.2 h, decide_eq_false (by omega)]; rfl
    · rw [order_nan x y (Or.inr hy)]; rfl
  · rw [order_nan x y (Or.inl hx)]; rfl
theorem gtr_eq (x y : Nat) : (FloatKind.f64.format.order x y == some .gt) = (!isN x && !isN y && decide (nkey y < nkey x)) := by
  show (Ieee.double.order x y == some .gt) = _
  cases hx : isN x
  · cases hy : isN y
    · rw [order_num x y hx hy]
      rcases Int.lt_trichotomy (nkey x) (nkey y) with h | h | h
      · rw [Int.compare_eq_lt.2 h, decide_eq_false (by omega)]; rfl
      · rw [Int.compare_eq_eq.2 h, decide_eq_false (by omega)]; rfl
      · rw [Int.compare_eq_gt.2 h, decide_eq_true h]; rfl
    · rw [order_nan x y (Or.inr hy)]; rfl
  · rw [order_nan x y (Or.inl hx)]; rfl
theorem eql_eq (x y : Nat) : (FloatKind.f64.format.order x y == some .eq) = (!isN x && !isN y && decide (nkey x = nkey y)) := by
  show (Ieee.double.order x y == some .eq) = _
  cases hx : isN x
  · cases hy : isN y
    · rw [order_num x y hx hy]
      rcases Int.lt_trichotomy (nkey x) (nkey y) with h | h | h
      · rw [Int.compare_eq_lt.2 h, decide_eq_false (by omega)]; rfl
      · rw [Int.compare_eq_eq.2 h, decide_eq_true h]; rfl
      · rw [Int.compare_eq_gt.2 h, decide_eq_false (by omega)]; rfl
    · rw [order_nan x y (Or.inr hy)]; rfl
  · rw [order_nan x y (Or.inl hx)]; rfl
theorem neq_self (x : Nat) : (FloatKind.f64.format.order x x != some .eq) = isN x := by
  show (!(FloatKind.f64.format.order x x == some .eq)) = _
  rw [eql_eq, decide_eq_true rfl]
  cases isN x <;> rfl
theorem eql_self (x : Nat) : (FloatKind.f64.format.order x x == some .eq) = !isN x := by
  rw [eql_eq, decide_eq_true rfl]
  cases isN x <;> rfl

/-! ### Words below 2^64 -/
theorem word_neg (x : Nat) (hx : x < 18446744073709551616) : isNeg x = decide (9223372036854775808 ≤ x) := by
  unfold isNeg
  rcases Nat.lt_or_ge x 9223372036854775808 with h | h
  · rw [decide_eq_false (by omega), show x / 9223372036854775808 % 2 = 0 from by omega]; rfl
  · rw [decide_eq_true h, show x / 9223372036854775808 % 2 = 1 from by omega]; rfl
/-- A word's parts. -/
theorem word_parts (x : Nat) (hx : x < 18446744073709551616) : (isNeg x = true ∧ x = 9223372036854775808 + rung x ∧ rung x < 9223372036854775808) ∨ (isNeg x = false ∧ x = rung x ∧ rung x < 9223372036854775808) := by
  rw [word_neg x hx]
  unfold rung
  rcases Nat.lt_or_ge x 9223372036854775808 with h | h
  · exact Or.inr ⟨decide_eq_false (by omega), by omega, by omega⟩
  · exact Or.inl ⟨decide_eq_true h, by omega, by omega⟩
theorem rung_lt (x : Nat) : rung x < 9223372036854775808 := Nat.mod_lt _ (by decide)

theorem rankN_lt (x : Nat) (hx : x < 18446744073709551616) : rankN x < 18446744073709551616 := by
  unfold rankN
  rcases word_parts x hx with ⟨h1, h2, h3⟩ | ⟨h1, h2, h3⟩ <;> rw [h1] <;> cases isN x <;> simp <;> omega

/-- Of numbers that are no nan the rank tells what the order and the signs tell. -/
theorem rank_cases (x y : Nat) (hx : x < 18446744073709551616) (hy : y < 18446744073709551616) (nx : isN x = false) (ny : isN y = false) :
    (nkey x < nkey y → rankN x < rankN y) ∧ (nkey y < nkey x → rankN y < rankN x) ∧ (nkey x = nkey y → isNeg x = isNeg y → rankN x = rankN y) ∧ (nkey x = nkey y → isNeg x = true → isNeg y = false → rankN x < rankN y) := by
  unfold rankN nkey
  rw [nx, ny]
  rcases word_parts x hx with ⟨h1, h2, h3⟩ | ⟨h1, h2, h3⟩ <;> rcases word_parts y hy with ⟨k1, k2, k3⟩ | ⟨k1, k2, k3⟩ <;> rw [h1, k1] <;> simp <;> omega

theorem rank_nan (x : Nat) (h : isN x = true) : rankN x = 0 := by unfold rankN; rw [h]; rfl
theorem rank_pos (x : Nat) (hx : x < 18446744073709551616) (h : isN x = false) : 0 < rankN x := by
  have hi : rung x ≤ infR := by simpa [isN] using h
  have hc : infR = 9218868437227405312 := rfl
  unfold rankN
  rw [h]
  rcases word_parts x hx with ⟨h1, h2, h3⟩ | ⟨h1, h2, h3⟩ <;> rw [h1] <;> simp <;> omega
theorem rank_inj (x y : Nat) (hx : x < 18446744073709551616) (hy : y < 18446744073709551616) (nx : isN x = false) (h : rankN x = rankN y) : x = y := by
  have ny : isN y = false := by
    cases e : isN y
    · rfl
    · have := rank_pos x hx nx
      rw [rank_nan y e] at h
      omega
  unfold rankN at h
  rw [nx, ny] at h
  rcases word_parts x hx with ⟨h1, h2, h3⟩ | ⟨h1, h2, h3⟩ <;> rcases word_parts y hy with ⟨k1, k2, k3⟩ | ⟨k1, k2, k3⟩ <;> rw [h1, k1] at h <;> simp at h <;> omega

theorem cmpN_self (a : Nat) : cmpN a a = 0 := by unfold cmpN; rw [if_neg (by omega), if_neg (by omega)]
theorem cmpN_lt {a b : Nat} (h : rankN a < rankN b) : cmpN a b = -1 := by unfold cmpN; rw [if_pos h]
theorem cmpN_gt {a b : Nat} (h : rankN b < rankN a) : cmpN a b = 1 := by unfold cmpN; rw [if_neg (by omega), if_pos h]
theorem cmpN_eq {a b : Nat} (h : rankN a = rankN b) : cmpN a b = 0 := by unfold cmpN; rw [if_neg (by omega), if_neg (by omega)]
theorem cmpN_zero (a b : Nat) : cmpN a b = 0 ↔ rankN a = rankN b := by unfold cmpN; split <;> (try split) <;> omega
theorem cmpN_swap (a b : Nat) : cmpN b a = -cmpN a b := by unfold cmpN; split <;> split <;> (try split) <;> omega

/-! ### Bits of words -/
theorem ofInt_u64 (a : Nat) (ha : a < 18446744073709551616) : (BitVec.ofInt 64 (a : Int)).toNat = a := by
  rw [BitVec.ofInt_natCast, BitVec.toNat_ofNat]; exact Nat.mod_eq_of_lt (by omega)
theorem wrap_u64_nat (a : Nat) (ha : a < 18446744073709551616) : IntKind.u64.wrap ((a : Nat) : Int) = (a : Int) := by
  rw [IntKind.wrap_u64]; omega
theorem u64_and_nat (a b : Nat) (ha : a < 18446744073709551616) (hb : b < 18446744073709551616) : bits .and .u64 (a : Int) (b : Int) = ((a &&& b : Nat) : Int) := by
  have hx : a &&& b < 2 ^ 64 := Nat.and_lt_two_pow _ (by omega)
  show IntKind.u64.wrap ((BitVec.ofInt 64 (a : Int) &&& BitVec.ofInt 64 (b : Int)).toNat : Int) = _
  rw [BitVec.toNat_and, ofInt_u64 a ha, ofInt_u64 b hb, wrap_u64_nat _ (by omega)]
theorem u64_or_nat (a b : Nat) (ha : a < 18446744073709551616) (hb : b < 18446744073709551616) : bits .or .u64 (a : Int) (b : Int) = ((a ||| b : Nat) : Int) := by
  have hx : a ||| b < 2 ^ 64 := Nat.or_lt_two_pow (by omega) (by omega)
  show IntKind.u64.wrap ((BitVec.ofInt 64 (a : Int) ||| BitVec.ofInt 64 (b : Int)).toNat : Int) = _
  rw [BitVec.toNat_or, ofInt_u64 a ha, ofInt_u64 b hb, wrap_u64_nat _ (by omega)]
theorem u64_xor_nat (a b : Nat) (ha : a < 18446744073709551616) (hb : b < 18446744073709551616) : bits .xor .u64 (a : Int) (b : Int) = ((a ^^^ b : Nat) : Int) := by
  have hx : a ^^^ b < 2 ^ 64 := Nat.xor_lt_two_pow (by omega) (by omega)
  show IntKind.u64.wrap ((BitVec.ofInt 64 (a : Int) ^^^ BitVec.ofInt 64 (b : Int)).toNat : Int) = _
  rw [BitVec.toNat_xor, ofInt_u64 a ha, ofInt_u64 b hb, wrap_u64_nat _ (by omega)]
theorem u64_not_nat (a : Nat) (ha : a < 18446744073709551616) : bits .xor .u64 IntKind.u64.max (a : Int) = ((18446744073709551615 - a : Nat) : Int) := by
  have hm : IntKind.u64.max = ((18446744073709551615 : Nat) : Int) := by decide
  have e : (18446744073709551615 ^^^ a : Nat) = 18446744073709551615 - a := by
    have h1 : (BitVec.allOnes 64 ^^^ BitVec.ofNat 64 a) = ~~~ BitVec.ofNat 64 a := BitVec.allOnes_xor
    have h2 := congrArg BitVec.toNat h1
    rw [BitVec.toNat_xor, BitVec.toNat_not, BitVec.toNat_ofNat, Nat.mod_eq_of_lt (show a < 2 ^ 64 from by omega), BitVec.toNat_allOnes] at h2
    have h3 : (2 : Nat) ^ 64 - 1 = 18446744073709551615 := by decide
    rw [h3] at h2
    exact h2
  rw [hm, u64_xor_nat _ _ (by decide) ha, e]

theorem and_sign (x : Nat) (hx : x < 18446744073709551616) : x &&& 9223372036854775808 = if isNeg x then 9223372036854775808 else 0 := by
  have h1 : x &&& 9223372036854775808 = x / 2 ^ 63 % 2 * 2 ^ 63 := by
    apply Nat.eq_of_testBit_eq
    intro i
    rw [Nat.testBit_and, show (9223372036854775808 : Nat) = 2 ^ 63 from rfl, Nat.testBit_two_pow, Nat.testBit_mul_two_pow]
    by_cases hi : 63 = i
    · subst hi
      simp [Nat.testBit, Nat.shiftRight_eq_div_pow]
    · rw [decide_eq_false hi, Bool.and_false]
      symm
      by_cases h3 : 63 ≤ i
      · rw [decide_eq_true h3, Bool.true_and]
        apply Nat.testBit_lt_two_pow
        have : 2 ^ 1 ≤ 2 ^ (i - 63) := Nat.pow_le_pow_right (by decide) (by omega)
        have := Nat.mod_lt (x / 2 ^ 63) (show 2 > 0 by decide)
        omega
      · rw [decide_eq_false h3, Bool.false_and]
  rw [h1]
  rcases word_parts x hx with ⟨h1, h2, h3⟩ | ⟨h1, h2, h3⟩ <;> rw [h1] <;> simp <;> omega
theorem or_sign (x : Nat) (hx : x < 9223372036854775808) : x ||| 9223372036854775808 = x + 9223372036854775808 := by
  have := Nat.two_pow_add_eq_or_of_lt (i := 63) (b := x) hx 1
  rw [show 2 ^ 63 * 1 = 9223372036854775808 from by decide] at this
  rw [Nat.or_comm]
  omega
theorem xor_sign (x : Nat) (hx : x < 9223372036854775808) : x ^^^ 9223372036854775808 = x + 9223372036854775808 := by
  rw [← or_sign x hx]
  apply Nat.eq_of_testBit_eq
  intro i
  rw [Nat.testBit_xor, Nat.testBit_or, show (9223372036854775808 : Nat) = 2 ^ 63 from rfl, Nat.testBit_two_pow]
  by_cases hi : 63 = i
  · subst hi
    rw [Nat.testBit_lt_two_pow hx]
    rfl
  · rw [decide_eq_false hi, Bool.xor_false, Bool.or_false]

theorem and_sign_int (x : Nat) (hx : x < 18446744073709551616) : (bits .and .u64 (x : Int) 9223372036854775808 != 0) = isNeg x := by
  have := u64_and_nat x 9223372036854775808 hx (by decide)
  rw [and_sign x hx] at this
  rw [show ((9223372036854775808 : Int)) = ((9223372036854775808 : Nat) : Int) from rfl, this]
  cases isNeg x <;> rfl
theorem or_sign_int (x : Nat) (hx : x < 9223372036854775808) : bits .or .u64 (x : Int) 9223372036854775808 = ((x + 9223372036854775808 : Nat) : Int) := by
  have := u64_or_nat x 9223372036854775808 (by omega) (by decide)
  rw [or_sign x hx] at this
  exact this

/-- '-f': the sign is turned. -/
theorem neg_word (x : Nat) (hx : x < 18446744073709551616) : Op.negFloat .f64 x = if isNeg x then x - 9223372036854775808 else x + 9223372036854775808 := by
  show x ^^^ 9223372036854775808 = _
  rcases word_parts x hx with ⟨h1, h2, h3⟩ | ⟨h1, h2, h3⟩
  · rw [h1, if_pos rfl]
    have e : x = rung x ^^^ 9223372036854775808 := by rw [xor_sign _ h3]; omega
    have e2 : x ^^^ 9223372036854775808 = rung x := by
      conv => lhs; rw [e]
      rw [Nat.xor_assoc, Nat.xor_self, Nat.xor_zero]
    rw [e2]; omega
  · rw [h1, if_neg (by decide)]
    exact xor_sign x (by omega)

/-- The number that stands at a rank. -/
def unrankN (r : Nat) : Nat := if isNeg r then r - 9223372036854775808 else 18446744073709551615 - r
theorem unrankN_lt (r : Nat) (h : r < 18446744073709551616) : unrankN r < 18446744073709551616 := by unfold unrankN; split <;> omega
theorem unrank_rank (x : Nat) (hx : x < 18446744073709551616) (h : isN x = false) : unrankN (rankN x) = x := by
  unfold unrankN rankN
  rw [h]
  rcases word_parts x hx with ⟨h1, h2, h3⟩ | ⟨h1, h2, h3⟩ <;> rw [h1] <;> simp only [Bool.false_eq_true, if_false, if_true]
  · rw [word_neg _ (by omega), decide_eq_false (by omega)]
    simp only [Bool.false_eq_true, if_false]
    omega
  · rw [word_neg _ (by omega), decide_eq_true (by omega)]
    simp only [if_true]
    omega
theorem andNot_rung (x : Nat) (hx : x < 18446744073709551616) : bits .andNot .u64 (x : Int) 9223372036854775808 = (rung x : Int) := by
  show IntKind.u64.wrap ((BitVec.ofInt 64 (x : Int) &&& ~~~ BitVec.ofInt 64 ((9223372036854775808 : Nat) : Int)).toNat : Int) = _
  have hm := Nat.and_two_pow_sub_one_eq_mod x 63
  rw [BitVec.toNat_and, BitVec.toNat_not, ofInt_u64 x hx, ofInt_u64 _ (by decide), show (2 ^ 64 - 1 - 9223372036854775808 : Nat) = 2 ^ 63 - 1 from by decide, hm]
  have hd : (2 : Nat) ^ 63 = 9223372036854775808 := by decide
  rw [hd, wrap_u64_nat _ (by omega)]
  rfl
theorem and_sign_eq (x : Nat) (hx : x < 18446744073709551616) : bits .and .u64 (x : Int) 9223372036854775808 = ((if isNeg x then 9223372036854775808 else 0 : Nat) : Int) := by
  have := u64_and_nat x 9223372036854775808 hx (by decide)
  rw [and_sign x hx] at this
  exact this
theorem andNot_sign (x : Nat) (hx : x < 18446744073709551616) (h : isNeg x = true) : bits .andNot .u64 (x : Int) 9223372036854775808 = ((x - 9223372036854775808 : Nat) : Int) := by
  show IntKind.u64.wrap ((BitVec.ofInt 64 (x : Int) &&& ~~~ BitVec.ofInt 64 ((9223372036854775808 : Nat) : Int)).toNat : Int) = _
  have hm := Nat.and_two_pow_sub_one_eq_mod x 63
  rw [BitVec.toNat_and, BitVec.toNat_not, ofInt_u64 x hx, ofInt_u64 _ (by decide), show (2 ^ 64 - 1 - 9223372036854775808 : Nat) = 2 ^ 63 - 1 from by decide, hm]
  have hd : (2 : Nat) ^ 63 = 9223372036854775808 := by decide
  rw [hd, wrap_u64_nat _ (by omega)]
  rcases word_parts x hx with ⟨h1, h2, h3⟩ | ⟨h1, h2, h3⟩
  · have e : x % 9223372036854775808 = x - 9223372036854775808 := by omega
    rw [e]
  · rw [h] at h1; cases h1
end Go.Proofs.YthacdegaeokgnaaGreatDoor

namespace Go.Proofs.YthacdegaeokgnaaGreatDoor
open Go.RowKit

theorem run_float64bits (x : Nat) (w : World) : (callFunc 169 #[.float .f64 x]).run Tryz.prog w = .ok (.value (.int .u64 (x : Int))) w := by
  rw [run_callFunc_extern (e := Extern.MathFloatBits.float64bits) Tryz.func169 (by kernel_rfl) (by kernel_rfl) (by kernel_rfl) (by kernel_rfl)]
  rfl
theorem run_neg_float (x : Nat) (w : World) : (Op.unary .neg (.float .f64 x)).run Tryz.prog w = .ok (.float .f64 (Op.negFloat .f64 x)) w := rfl

theorem xor_max_int (x : Nat) (hx : x < 18446744073709551616) : bits .xor .u64 18446744073709551615 (x : Int) = ((18446744073709551615 - x : Nat) : Int) := u64_not_nat x hx

def sgnC (s t : Bool) : Int := if s == t then 0 else if s then -1 else 1

def maxN (x y : Nat) : Nat := if cmpN x y < 0 then y else x
def minN (x y : Nat) : Nat := if cmpN x y > 0 then y else x

end Go.Proofs.YthacdegaeokgnaaGreatDoor

namespace Go.Proofs.YthacdegaeokgnaaGreatDoor
open Go.RowKit

set_option maxHeartbeats 400000 in
theorem qisnan_any (x : Nat) (w : World) : Calls Tryz.prog 168 #[.float .f64 x] w fun e w' => e = .returned (.bool (isN x)) ∧ w = w' := by
  rw [← neq_self x]
  go_enter Tryz.func168, Tryz.ntmps168
  go_wp2_with fail
  go_ret
  exact ⟨rfl, rfl⟩

end Go.Proofs.YthacdegaeokgnaaGreatDoor

namespace Go.Proofs.YthacdegaeokgnaaGreatDoor
open Go.RowKit

theorem be_step7 (v k : Nat) (h : k < 8) : (((be v 8).take k ++ List.replicate (8 - k) (0 : UInt8)).map b8).set k (.int .u8 ((v : Int) / 2 ^ (8 * (7 - k)) % 256)) =
    ((be v 8).take (k + 1) ++ List.replicate (8 - (k + 1)) (0 : UInt8)).map b8 := be_step v 8 k h

theorem ret_float {a b : Nat} (h : a = b) : Ending.returned (.float .f64 a) = .returned (.float .f64 b) := by rw [h]

def getF (r : Nat) : Nat × Int := if rankN (unrankN r) = r then (unrankN r, 0) else (0, 4)

end Go.Proofs.YthacdegaeokgnaaGreatDoor

namespace Go.Proofs.YthacdegaeokgnaaGreatDoor
open Go.RowKit

def tz64L : List Int := Lib.deBruijn64tab.map fun (n : Nat) => (n : Int)
/-- The tables that chapter 2's laws read. -/
structure LaidR (w : World) : Prop where
  tz64 : Lib.TabIs Tryz.prog w "math/bits.deBruijn64tab" .u8 tz64L
  pow10 : Lib.TabIs Tryz.prog w "internal/strconv.uint64pow10" .u64 Lib.pow10Tab

theorem tz64_at (i : Nat) (hi : i < 64) : tz64L.getD i 0 = (Lib.deBruijn64tab.getD i 0 : Int) := by
  have : ∀ i, i < 64 → tz64L.getD i 0 = (Lib.deBruijn64tab.getD i 0 : Int) := by decide +kernel
  exact this i hi

theorem tz64_idx (x a : Nat) (hx : x < 18446744073709551616) (hx0 : x ≠ 0) (hlow : x &&& (18446744073709551616 - x) = a) :
    IntKind.u64.wrap (bits BinOp.and IntKind.u64 (x : Int) (IntKind.u64.wrap (-(x : Int))) * 285870213051353865) / 288230376151711744 = ((a * 285870213051353865 % 18446744073709551616 / 288230376151711744 : Nat) : Int) := by
  have e1 : IntKind.u64.wrap (-(x : Int)) = ((18446744073709551616 - x : Nat) : Int) := by rw [IntKind.wrap_u64]; omega
  rw [e1, bits_and_u64_nat x _ hx (by omega), hlow, IntKind.wrap_u64]
  omega

/-- All twos out of m. -/
def tzN (m : Nat) : Nat := Lib.ctz 64 m
def oddN (m : Nat) : Nat := m / 2 ^ tzN m

end Go.Proofs.YthacdegaeokgnaaGreatDoor
