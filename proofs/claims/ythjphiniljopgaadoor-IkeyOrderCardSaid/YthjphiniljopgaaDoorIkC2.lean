/-
  The landed package ikey: strings.ReplaceAll of a zero byte, Head.
-/
import Derived.Test.YthjphiniljopgaaDoorIkP5
import Derived.Test.YthjphiniljopgaaDoorIkC1
import Derived.Test.YthjphiniljopgaaDoorBuild
import Derived.Test.YthjphiniljopgaaDoorVec4
import Derived.Deep.LoopGhost
namespace Go.Proofs.YthjphiniljopgaaDoor
open Go.RowKit

/-- The byte 0 alone. -/
abbrev zeroB : ByteArray := ⟨#[0]⟩
/-- What stands for it. -/
abbrev noughtB : ByteArray := ⟨#[0, 255]⟩

set_option maxRecDepth 100000 in
set_option maxHeartbeats 4000000 in
theorem krepl_none (s : ByteArray) (w : World) (hc : s.data.toList.count 0 = 0) :
    Calls Tryd.prog 37 #[.string s, .string zeroB, .string noughtB, .int .i64 (-1)] w fun e w' => e = .returned (.string s) ∧ w' = w := by
  have C := Lib.hid (Tryd.strings_Count_one s 0 w)
  have hz : Lib.countByte s.data.toList 0 = 0 := hc
  rw [hz] at C
  have hne : (zeroB.toList == noughtB.toList) = false := by rw [str_eq]; decide
  clear hc hz
  go_enter Tryd.func37, Tryd.ntmps37
  go_wp2_with fail
  refine C.out.mono ?_
  rintro e w' ⟨rfl, rfl⟩
  go_wp2_with fail
  go_ret
  exact ⟨rfl, rfl⟩

theorem take_in (s : ByteArray) (a j : Nat) : ((s.extract a (a + j)).data.toList) = (s.data.toList.drop a).take j := by
  rw [Lib.extract_data, Nat.add_sub_cancel_left]
theorem drop_in (s : ByteArray) (a : Nat) : ((s.extract a s.size).data.toList) = s.data.toList.drop a := by
  rw [Lib.extract_data, List.take_of_length_le]
  rw [List.length_drop, str_size]
  exact Nat.le_refl _

set_option maxRecDepth 100000 in
set_option maxHeartbeats 8000000 in
theorem krepl_some (s : ByteArray) (w : World) (hs : s.size ≤ 1000000000) (hc : 0 < s.data.toList.count 0) :
    Calls Tryd.prog 37 #[.string s, .string zeroB, .string noughtB, .int .i64 (-1)] w fun e w' => e = .returned (.string ⟨(esc5 s.data.toList).toArray⟩) ∧ Below w.heap.size w w' := by
  have hlen : s.data.toList.length = s.size := (str_size s).symm
  obtain ⟨K, hK⟩ : ∃ K : Nat, s.data.toList.count 0 = K := ⟨_, rfl⟩
  have C := Lib.hid (Tryd.strings_Count_one s 0 w)
  have hz : Lib.countByte s.data.toList 0 = K := hK
  rw [hz] at C
  have hKs : K ≤ s.size := by rw [← hK, ← hlen]; exact List.count_le_length
  have hne : (zeroB.toList == noughtB.toList) = false := by rw [str_eq]; decide
  have hk0 : ((K : Int) == 0) = false := by rw [beq_eq_false_iff_ne]; omega
  have HK := Lib.hid hK
  have Hlen := Lib.hid hlen
  clear hc hz hK hlen
  go_enter Tryd.func37, Tryd.ntmps37
  go_wp2_with fail
  refine C.out.mono ?_
  rintro e w' ⟨rfl, rfl⟩
  clear C
  have G := Tryd.Builder_Grow_fresh w'.heap.size w'.heap.size (s.size + K) (w'.alloc (.cells #[.pointer none, .slice none 0 0] 59)) (Nat.le_refl _) (heap_alloc_new w' _) (by simp) (by omega)
  rw [show ((s.size + K : Nat) : Int) = (s.size : Int) + (K : Int) from by push_cast; rfl] at G
  have G := Lib.hid G
  go_wp2_with fail
  refine G.out.mono ?_
  rintro e w1 ⟨rfl, hb0, hb1⟩
  have B1 : Hid (IsB w'.heap.size w'.heap.size (Lib.byteCells []) w1) := Or.inr hb0
  have HB1 : Hid (Below w'.heap.size w' w1) := ((Below.refl _ w').alloc (Nat.le_refl _) _).trans hb1
  clear hb0 hb1 G
  go_wp2_with fail
  go_loopw [11, 53] (fun s11 s53 wr => ∃ (i start : Nat) (acc : List UInt8), s53 = .int .i64 (i : Int) ∧ s11 = .int .i64 (start : Int) ∧ i ≤ K ∧ start ≤ s.size ∧ acc.length ≤ start + i ∧ Hid (IsB w'.heap.size w'.heap.size (Lib.byteCells acc) wr) ∧ Hid (Below w'.heap.size w' wr) ∧
      Hid (esc5 s.data.toList = acc ++ esc5 (s.data.toList.drop start)) ∧ Hid ((s.data.toList.drop start).count 0 + i = K)) (fun _ i _ => K - (intOf i).toNat)
  case atStart => exact ⟨0, 0, [], rfl, rfl, by omega, by omega, by simp, B1, HB1, rfl, HK.out⟩
  case round =>
    obtain ⟨i, start, acc, rfl, rfl, hi, hst, hal, HB, HW, HE, HC⟩ := hrel
    have hBw : w'.heap.size ≤ wr.heap.size := HW.out.size
    have c1 : (0 : Int) ≤ (start : Int) := by omega
    have c2 : (start : Int) ≤ (s.size : Int) := by omega
    by_cases hlt : i < K
    · have hl1 : (i : Int) < (K : Int) := by omega
      obtain ⟨j, hj⟩ := zero_next (l := s.data.toList.drop start) (by have := HC.out; omega)
      have NZ := Lib.hid (nextZero_of hj)
      have hjl : start + j < s.size := by
        have h1 := NZ.out.lt
        have h2 := Hlen.out
        rw [List.length_drop] at h1
        omega
      have IX := Tryd.strings_Index_one (s.extract start s.size) 0 wr
      rw [drop_in, hj] at IX
      have IX := Lib.hid IX
      have c3 : (start : Int) ≤ (start : Int) + (j : Int) := by omega
      have c4 : (start : Int) + (j : Int) ≤ (s.size : Int) := by omega
      have Hj := Lib.hid hj
      clear hj
      go_wp2_with fail
      refine IX.out.mono ?_
      rintro e w2 ⟨rfl, rfl⟩
      clear IX
      go_wp2_with fail
      have htl : ((s.data.toList.drop start).take j).length = j := by rw [List.length_take, List.length_drop, Hlen.out]; omega
      refine (bstr_any w'.heap.size w'.heap.size _ (s.extract start (start + j)) w2 HB.out (by rw [Lib.byteCells_length, ByteArray.size_extract]; omega) hBw).mono ?_
      rintro e w3 ⟨rfl, h3, hb3⟩
      rw [Lib.strCells_eq, take_in, ← Lib.byteCells_append] at h3
      have H3 := Lib.hid h3
      have HW3 := Lib.hid (HW.out.trans hb3)
      have hBw3 : w'.heap.size ≤ w3.heap.size := HW3.out.size
      clear h3 hb3 HB HW hBw
      go_wp2_with fail
      refine (bstr_any w'.heap.size w'.heap.size _ noughtB w3 H3.out (by rw [Lib.byteCells_length, List.length_append, htl, show noughtB.size = 2 from rfl]; omega) hBw3).mono ?_
      rintro e w4 ⟨rfl, h4, hb4⟩
      rw [Lib.strCells_eq, ← Lib.byteCells_append] at h4
      have H4 := Lib.hid h4
      have HW4 := Lib.hid (HW3.out.trans hb4)
      clear h4 hb4 H3 HW3 hBw3
      go_wp2_with fail
      go_roundw
      case rel =>
        refine ⟨i + 1, start + j + 1, (acc ++ (s.data.toList.drop start).take j) ++ [0, 255], by go_num, by go_num, by omega, by omega, ?_, H4.out, HW4.out, ?_, ?_⟩
        · rw [List.length_append, List.length_append, htl]
          simp
          omega
        · unfold Hid
          rw [HE.out, NZ.out.esc, List.drop_drop, List.append_assoc, List.append_assoc, List.append_assoc, Nat.add_assoc]
        · have h1 := HC.out
          rw [NZ.out.count, List.drop_drop, ← Nat.add_assoc] at h1
          unfold Hid
          omega
      case measure => simp [intOf]; omega
    · have hl1 : ¬ (i : Int) < (K : Int) := by omega
      have h0 : (s.data.toList.drop start).count 0 = 0 := by have := HC.out; omega
      have he : Hid (esc5 s.data.toList = acc ++ s.data.toList.drop start) := by
        unfold Hid
        rw [HE.out, esc5_clean _ (clean_count h0)]
      clear h0 HC HE
      go_wp2_with fail
      refine (bstr_any w'.heap.size w'.heap.size _ (s.extract start s.size) wr HB.out (by rw [Lib.byteCells_length, ByteArray.size_extract]; omega) hBw).mono ?_
      rintro e w3 ⟨rfl, h3, hb3⟩
      rw [Lib.strCells_eq, drop_in, ← Lib.byteCells_append, ← he.out] at h3
      have H3 := Lib.hid h3
      have HW3 := Lib.hid (HW.out.trans hb3)
      have hBw3 : w'.heap.size ≤ w3.heap.size := HW3.out.size
      clear h3 hb3 HB HW hBw
      go_wp2_with fail
      refine (Tryd.Builder_String_any w'.heap.size w'.heap.size _ w3 H3.out hBw3).mono ?_
      rintro e w4 ⟨rfl, hb4⟩
      have HW4 := Lib.hid (HW3.out.trans hb4)
      clear hb4
      go_wp2_with fail
      go_ret
      exact ⟨rfl, HW4.out⟩

theorem kcat (a b : List UInt8) (ha : a.length ≤ 1000000) (hb : b.length ≤ 1000000) (w : World) : (Op.stringOp .add ⟨a.toArray⟩ ⟨b.toArray⟩).run Tryd.prog w = .ok (.string ⟨(a ++ b).toArray⟩) w := by
  rw [run_string_add_sum _ _ _ (by rw [size_mk, size_mk]; omega), ByteArray.mk_append_mk]

/-- Each byte 0 as the two bytes 0 and 255. -/
theorem krepl_any (s : ByteArray) (w : World) (hs : s.size ≤ 1000000000) :
    Calls Tryd.prog 37 #[.string s, .string zeroB, .string noughtB, .int .i64 (-1)] w fun e w' => e = .returned (.string ⟨(esc5 s.data.toList).toArray⟩) ∧ Below w.heap.size w w' := by
  by_cases hc : s.data.toList.count 0 = 0
  · refine (krepl_none s w hc).mono ?_
    rintro e w' ⟨rfl, rfl⟩
    refine ⟨?_, Below.refl _ _⟩
    rw [esc5_clean _ (clean_count hc)]
  · exact krepl_some s w hs (by omega)

set_option maxRecDepth 100000 in
set_option maxHeartbeats 2000000 in
theorem kreplall_any (s : ByteArray) (w : World) (hs : s.size ≤ 1000000000) :
    Calls Tryd.prog 26 #[.string s, .string zeroB, .string noughtB] w fun e w' => e = .returned (.string ⟨(esc5 s.data.toList).toArray⟩) ∧ Below w.heap.size w w' := by
  have C := Lib.hid (krepl_any s w hs)
  go_enter Tryd.func26, Tryd.ntmps26
  go_wp2_with fail
  refine C.out.mono ?_
  rintro e w' ⟨rfl, hb⟩
  go_wp2_with fail
  go_ret
  exact ⟨rfl, hb⟩

set_option maxRecDepth 100000 in
set_option maxHeartbeats 2000000 in
theorem khead_any (s : ByteArray) (w : World) (hs : s.size ≤ 100000) :
    Calls Tryd.prog 13 #[.string s] w fun e w' => e = .returned (.string ⟨(headL s.data.toList).toArray⟩) ∧ Below w.heap.size w w' := by
  have C := Lib.hid (kreplall_any s w (by omega))
  have hl := esc5_length s.data.toList
  rw [← str_size] at hl
  rw [headL_esc5]
  generalize esc5 s.data.toList = l at *
  have hsz : (⟨l.toArray⟩ : ByteArray).size ≤ 200000 := by rw [size_mk]; omega
  have hcat := kcat l [0, 1] (by rw [size_mk] at hsz; omega) (by decide)
  go_enter Tryd.func13, Tryd.ntmps13
  go_wp2_with fail
  refine C.out.mono ?_
  rintro e w' ⟨rfl, hb⟩
  go_wp2_with fail
  go_ret
  exact ⟨rfl, hb⟩
end Go.Proofs.YthjphiniljopgaaDoor
