/-
  The landed package ikey: the key that its reader takes off.
-/
import Derived.Test.YthjphiniljopgaaDoorIkC4
import Derived.Test.YthjphiniljopgaaDoorIkC2
import Derived.Test.YthjphiniljopgaaDoorIkP6
namespace Go.Proofs.YthjphiniljopgaaDoor
open Go.RowKit

theorem isB_by {B b p : Nat} {bs : List Value} {w w' : World} (h : IsB B b bs w) (G : w.grownBy w' (some p)) (hp : p < B) : IsB B b bs w' := by
  have key : ∀ q, Lib.BuilderAt 59 5 B b q bs w → Lib.BuilderAt 59 5 B b q bs w' := by
    rintro q hh
    have hlt := hh.lt
    obtain ⟨h1, v, h2, h3, h4⟩ := hh
    refine ⟨h1, v, (G.block b hlt (fun e => by injection e with e; omega)).trans h2, ⟨h3.1, ?_⟩, h4⟩
    rcases h3.2 with hn | ⟨g, cap, cur, hv, hg, hh, r⟩
    · exact Or.inl hn
    · exact Or.inr ⟨g, cap, cur, hv, hg, (G.block g (Array.getElem?_eq_some_iff.1 hh).1 (fun e => by injection e with e; omega)).trans hh, r⟩
  exact h.elim (fun x => Or.inl (key _ x)) (fun x => Or.inr (key _ x))
theorem NextZero.drop {l : List UInt8} {j : Nat} (h : NextZero l j) : l.drop j = 0 :: l.drop (j + 1) := by
  have hl : (l.take j).length = j := by rw [List.length_take]; have := h.lt; omega
  have e := congrArg (List.drop j) h.rest
  rw [e]
  exact List.drop_left' hl
/-- How many bytes the reader has left. -/
def restN (p : Nat) (w : World) : Nat := match w.cell? ⟨p, 0, none⟩ with | some (.string s) => s.size | _ => 0
theorem restN_of {w : World} {p : Nat} {s : ByteArray} (B : RdAt w p s) : restN p w = s.size := by
  unfold restN
  rw [show w.cell? ⟨p, 0, none⟩ = some (.string s) from B.cell 0]
theorem byte_index (s : ByteArray) (w : World) : Calls Tryd.prog 39 #[.string s, .int .u8 0] w fun e w' => e = .returned (.int .i64 (Lib.indexByte s.data.toList 0)) ∧ w' = w := Tryd.strings_IndexByte s 0 w

/-- What the reader's key tells. -/
def KeyIs (w w' : World) (p : Nat) (s : ByteArray) (e : Ending) : Prop :=
  ((∃ (k : List UInt8) (r : ByteArray), readK s.data.toList = some (k, r.data.toList) ∧ e = .returned (.string ⟨k.toArray⟩) ∧ k.length + r.size ≤ s.size ∧ RdAt w' p r) ∨ (readK s.data.toList = none ∧ e = gaveUp)) ∧ w.grownBy w' (some p)

set_option maxRecDepth 100000 in
set_option maxHeartbeats 8000000 in
theorem krkey_any (p : Nat) (s : ByteArray) (w : World) (B : RdAt w p s) (hs : s.size ≤ 140737488351232) :
    Calls Tryd.prog 32 #[.pointer (some ⟨p, 0, none⟩)] w fun e w' => KeyIs w w' p s e := by
  have hp : p < w.heap.size := B.lt
  have b0 : Hid (IsB w.heap.size w.heap.size (Lib.byteCells []) (w.alloc (.cells #[.pointer none, .slice none 0 0] 59))) :=
    Or.inl ⟨Nat.le_refl _, _, heap_alloc_new w _, World.ownsRow_nil _ _ _ _, by simp [Value.ownBlock]⟩
  have B0 : Hid (RdAt (w.alloc (.cells #[.pointer none, .slice none 0 0] 59)) p s) := B.alloc _
  have g0 : Hid (w.grownBy (w.alloc (.cells #[.pointer none, .slice none 0 0] 59)) (some p)) := only_alloc (kgrow_refl w _) _
  clear B
  go_enter Tryd.func32, Tryd.ntmps32
  go_wp2_with fail
  generalize w.alloc (.cells #[.pointer none, .slice none 0 0] 59) = w0 at *
  go_loopw [4] (fun _ wr => ∃ (r : ByteArray) (acc : List UInt8), Hid (RdAt wr p r) ∧ Hid (IsB w.heap.size w.heap.size (Lib.byteCells acc) wr) ∧ Hid (w.grownBy wr (some p)) ∧
      Hid (readK s.data.toList = (readK r.data.toList).map fun x => (acc ++ x.1, x.2)) ∧ acc.length + r.size ≤ s.size) (fun _ wr => restN p wr)
  case atStart => exact ⟨s, [], B0, b0, g0, by unfold Hid; simp, by simp⟩
  case round =>
    obtain ⟨r, acc, HR, HB, HG, HE, hal⟩ := hrel
    have c0 : wr.cell? ⟨p, 0, none⟩ = some (.string r) := HR.out.cell 0
    have IX := byte_index r wr
    have hge := Lib.indexByte_ge r.data.toList 0
    by_cases hm : Lib.indexByte r.data.toList 0 = -1
    · have hno : Hid (readK s.data.toList = none) := by
        unfold Hid
        rw [HE.out, readK_none (noZero_of hm)]
        rfl
      rw [hm] at IX
      have IX := Lib.hid IX
      clear hm hge HE
      go_wp2_with fail
      refine IX.out.mono ?_
      rintro e w2 ⟨rfl, rfl⟩
      go_wp2_with fail
      exact ⟨rfl, Or.inr ⟨hno.out, rfl⟩, HG.out⟩
    · obtain ⟨j, hj⟩ : ∃ j : Nat, Lib.indexByte r.data.toList 0 = (j : Int) := ⟨(Lib.indexByte r.data.toList 0).toNat, by omega⟩
      rw [hj] at IX
      have NZ := nextZero_of hj
      have hjl : j < r.size := by rw [str_size]; exact NZ.lt
      have hjn : ¬ (j : Int) < 0 := by omega
      have T1 := Lib.hid (ktake_ok p r j wr HR.out (by omega) (by omega))
      have IX := Lib.hid IX
      obtain ⟨r1, h1⟩ : ∃ r1, r.extract j r.size = r1 := ⟨_, rfl⟩
      rw [h1] at T1
      have e1 : r1.data.toList = 0 :: r.data.toList.drop (j + 1) := by rw [← h1, drop_in]; exact NZ.drop
      have z1 : r1.size + j = r.size := by rw [← h1, ByteArray.size_extract]; omega
      obtain ⟨q, hq⟩ : ∃ q, r.extract 0 j = q := ⟨_, rfl⟩
      rw [hq] at T1
      have eq : q.data.toList = r.data.toList.take j := by rw [← hq, str_take]
      have zq : q.size = j := by rw [← hq, ByteArray.size_extract]; omega
      have HE1 : Hid (readK s.data.toList = (readK r1.data.toList).map fun x => ((acc ++ q.data.toList) ++ x.1, x.2)) := by
        unfold Hid
        rw [HE.out, NZ.read, e1, eq, Option.map_map]
        congr 1
        funext x
        simp
      have hm0 := Lib.hid (restN_of HR.out)
      clear hm hge HE hj
      go_wp2_with fail
      refine IX.out.mono ?_
      rintro e w2 ⟨rfl, rfl⟩
      go_wp2_with fail
      refine T1.out.mono ?_
      rintro e w3 ⟨rfl, B3, g3⟩
      have hb3 := isB_by HB.out g3 hp
      have G3 := Lib.hid (kgrow_trans HG.out g3)
      have hw3 : w.heap.size ≤ w3.heap.size := G3.out.size
      have B3 := Lib.hid B3
      clear HR HB HG T1 IX c0 g3 h1 hq NZ
      go_wp2_with fail
      refine (bstr_any w.heap.size w.heap.size _ q w3 hb3 (by rw [Lib.byteCells_length]; omega) hw3).mono ?_
      rintro e w4 ⟨rfl, hb4, hl4⟩
      rw [Lib.strCells_eq, ← Lib.byteCells_append] at hb4
      have B4 := Lib.hid (B3.out.below hl4 hp)
      have G4 := Lib.hid (show w.grownBy w4 (some p) from ⟨hl4.os.trans G3.out.os, hl4.tape.trans G3.out.tape, hl4.output.trans G3.out.output, Nat.le_trans G3.out.size hl4.size, fun i hi hn => (hl4.block i hi).trans (G3.out.block i hi hn)⟩)
      have hb4 := Lib.hid hb4
      have hw4 : w.heap.size ≤ w4.heap.size := G4.out.size
      have hal4 : (acc ++ q.data.toList).length + r1.size ≤ s.size := by rw [List.length_append, ← str_size]; omega
      generalize acc ++ q.data.toList = acc1 at *
      clear B3 G3 hl4 hb3 hw3 eq zq hal
      cases hd : r.data.toList.drop (j + 1) with
      | nil =>
        rw [hd] at e1
        have z2 : r1.size < 2 := by rw [str_size, e1]; simp
        have T2 := Lib.hid (ktake_short p r1 2 w4 B4.out z2)
        have hno : Hid (readK s.data.toList = none) := by
          unfold Hid
          rw [HE1.out, e1]
          rfl
        clear hd e1 z1 z2
        go_wp2_with fail
        refine T2.out.mono ?_
        rintro e w5 ⟨rfl, rfl⟩
        go_wp2_with fail
        exact ⟨rfl, Or.inr ⟨hno.out, rfl⟩, G4.out⟩
      | cons d l =>
        rw [hd] at e1
        have z2 : r1.size = l.length + 2 := by rw [str_size, e1]; simp
        have T2 := Lib.hid (ktake_ok p r1 2 w4 B4.out (by omega) (by omega))
        obtain ⟨r2, h2⟩ : ∃ r2, r1.extract 2 r1.size = r2 := ⟨_, rfl⟩
        rw [h2] at T2
        have e2 : r2.data.toList = l := by rw [← h2, drop_in, e1]; rfl
        have zz : r2.size = l.length := by rw [str_size, e2]
        obtain ⟨y, hy⟩ : ∃ y, r1.extract 0 2 = y := ⟨_, rfl⟩
        rw [hy] at T2
        have ey : y.data.toList = [0, d] := by rw [← hy, str_take, e1]; rfl
        have t1 : (y.toList == [0, 1]) = decide (d = 1) := by
          rw [Lib.toList_data, ey, Bool.eq_iff_iff, beq_iff_eq, decide_eq_true_eq]
          simp
        have t2 : (y.toList == [0, 255]) = decide (d = 255) := by
          rw [Lib.toList_data, ey, Bool.eq_iff_iff, beq_iff_eq, decide_eq_true_eq]
          simp
        clear hd h2 hy ey
        by_cases d1 : d = 1
        · rw [decide_eq_true d1] at t1
          have hyes : Hid (readK s.data.toList = some (acc1, r2.data.toList)) := by
            unfold Hid
            rw [HE1.out, e1, d1, readK_end, e2]
            simp
          have hfin : Hid (acc1.length + r2.size ≤ s.size) := by unfold Hid; omega
          clear t2 d1 e1 e2 HE1
          go_wp2_with fail
          refine T2.out.mono ?_
          rintro e w5 ⟨rfl, B5, g5⟩
          have hb5 := isB_by hb4.out g5 hp
          have G5 := Lib.hid (kgrow_trans G4.out g5)
          have hw5 : w.heap.size ≤ w5.heap.size := G5.out.size
          have B5 := Lib.hid B5
          clear g5 T2
          go_wp2_with fail
          refine (Tryd.Builder_String_any w.heap.size w.heap.size _ w5 hb5 hw5).mono ?_
          rintro e w6 ⟨rfl, hl6⟩
          have B6 := Lib.hid (B5.out.below hl6 hp)
          have G6 := Lib.hid (show w.grownBy w6 (some p) from ⟨hl6.os.trans G5.out.os, hl6.tape.trans G5.out.tape, hl6.output.trans G5.out.output, Nat.le_trans G5.out.size hl6.size, fun i hi hn => (hl6.block i hi).trans (G5.out.block i hi hn)⟩)
          clear hl6 hb5
          go_wp2_with fail
          go_ret
          exact ⟨Or.inl ⟨acc1, r2, hyes.out, rfl, hfin.out, B6.out⟩, G6.out⟩
        · rw [decide_eq_false d1] at t1
          by_cases d2 : d = 255
          · rw [decide_eq_true d2] at t2
            have hnext : Hid (readK s.data.toList = (readK r2.data.toList).map fun x => ((acc1 ++ [0]) ++ x.1, x.2)) := by
              unfold Hid
              rw [HE1.out, e1, d2, readK_nought, e2, Option.map_map]
              congr 1
              funext x
              simp
            have hz : Hid (r2.size < r.size) := by unfold Hid; omega
            clear d1 d2 e1 e2 HE1
            go_wp2_with fail
            refine T2.out.mono ?_
            rintro e w5 ⟨rfl, B5, g5⟩
            have hb5 := isB_by hb4.out g5 hp
            have G5 := Lib.hid (kgrow_trans G4.out g5)
            have hw5 : w.heap.size ≤ w5.heap.size := G5.out.size
            have B5 := Lib.hid B5
            clear g5 T2
            go_wp2_with fail
            refine (bbyte_any w.heap.size w.heap.size _ 0 w5 hb5 (by rw [Lib.byteCells_length]; omega) hw5).mono ?_
            rintro e w6 ⟨rfl, hb6, hl6⟩
            have B6 := Lib.hid (B5.out.below hl6 hp)
            have G6 := Lib.hid (show w.grownBy w6 (some p) from ⟨hl6.os.trans G5.out.os, hl6.tape.trans G5.out.tape, hl6.output.trans G5.out.output, Nat.le_trans G5.out.size hl6.size, fun i hi hn => (hl6.block i hi).trans (G5.out.block i hi hn)⟩)
            have hb6' : Hid (IsB w.heap.size w.heap.size (Lib.byteCells (acc1 ++ [0])) w6) := by
              rw [Lib.byteCells_append]
              exact hb6
            clear hl6 hb5 hb6
            go_wp2_with fail
            go_roundw
            case rel => exact ⟨r2, acc1 ++ [0], B6, hb6', G6, hnext, by rw [List.length_append]; simp; omega⟩
            case measure =>
              rw [restN_of B6.out, hm0.out]
              exact hz.out
          · rw [decide_eq_false d2] at t2
            have hno : Hid (readK s.data.toList = none) := by
              unfold Hid
              rw [HE1.out, e1, readK_other d l d1 d2]
              rfl
            clear d1 d2 e1 e2 HE1
            go_wp2_with fail
            refine T2.out.mono ?_
            rintro e w5 ⟨rfl, B5, g5⟩
            have G5 := Lib.hid (kgrow_trans G4.out g5)
            clear g5 T2
            go_wp2_with fail
            exact ⟨rfl, Or.inr ⟨hno.out, rfl⟩, G5.out⟩
end Go.Proofs.YthjphiniljopgaaDoor
