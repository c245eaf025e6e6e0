/-
  The book of lists, where vectors alone were kept: each is as it was, and none shares memory with another. (Written by wip/gen/gen_apart.py.)
-/
import Derived.Test.YtalacionlbmcpaaGreatDoorBookNil
import Derived.Test.YtalacionlbmcpaaGreatDoorBook8
namespace Go.Proofs.YtalacionlbmcpaaGreatDoor
open Go.RowKit

set_option maxRecDepth 100000 in
set_option maxHeartbeats 16000000 in
theorem apart_any (B bk m : Nat) (v1 v2 : Value) (L C : List Value) (a : Nat → Value) (Z : List (List Int)) (w : World) (hV : VBook w B bk v1 v2 L C) (hLm : L.length = m) (hm : m ≤ 250) (hA : ∀ i, i < m → L[i]? = some (a i)) (hR : Rws w B m a (fun i => Z.getD i []))
    (hSL : Seen w L Z) (hSC : Seen w C Z) (hn : ∀ i, i < m → (Z.getD i []).length ≤ 100000) (hB : B ≤ w.heap.size) :
    Calls Tryz.prog 29 #[.pointer (some ⟨bk, 0, none⟩)] w fun e w' => e = .returned (.bool true) ∧ Below B w w' := by
  have V0 := Lib.hid hV
  have HR := Lib.hid hR
  have HA := Lib.hid hA
  have Hn := Lib.hid hn
  have HSL := Lib.hid hSL
  have HSC := Lib.hid hSC
  obtain ⟨a1, p1, e1⟩ := own_slice hV.r1
  rw [hLm] at e1
  have E1 := Lib.hid e1
  have HLm := Lib.hid hLm
  have hm2 : L.length ≤ 1000 := by omega
  clear hV hR hA hn hSL hSC e1 hLm
  go_enter Tryz.func29, Tryz.ntmps29
  go_wp2_with fail
  refine (stillTexts_nil bk _ (V0.out.blk.cell 0)).mono ?_
  rintro e w2 ⟨rfl, rfl⟩
  go_wp2_with fail
  refine (stillInts_nil bk _ (V0.out.blk.cell 2)).mono ?_
  rintro e w2 ⟨rfl, rfl⟩
  go_wp2_with fail
  refine (stillVecs_any B bk v1 v2 L C Z w V0.out HSL.out HSC.out hm2).mono ?_
  rintro e W1 ⟨rfl, q, hq⟩
  have V1 : Hid (VBook W1 B bk v1 v2 L C) := by rw [hq]; exact V0.out.drewN q
  have R1 : Hid (Rws W1 B m a (fun i => Z.getD i [])) := by rw [hq]; exact ⟨HR.out.each, HR.out.apart⟩
  have B1 : Hid (Below B w W1) := by rw [hq]; exact below_drewN (Below.refl B w) q
  clear hq
  go_wp2_with fail
  refine (stillKeys_nil bk _ (V1.out.blk.cell 6)).mono ?_
  rintro e w2 ⟨rfl, rfl⟩
  go_wp2_with fail
  refine (stillPairs_nil bk _ (V1.out.blk.cell 8)).mono ?_
  rintro e w2 ⟨rfl, rfl⟩
  go_wp2_with fail
  refine (stillVersions_nil bk _ (V1.out.blk.cell 10)).mono ?_
  rintro e w2 ⟨rfl, rfl⟩
  go_wp2_with fail
  refine (stillWrites_nil bk _ (V1.out.blk.cell 12)).mono ?_
  rintro e w2 ⟨rfl, rfl⟩
  go_wp2_with fail
  refine (stillTxns_nil bk _ (V1.out.blk.cell 14)).mono ?_
  rintro e w2 ⟨rfl, rfl⟩
  go_wp2_with fail
  refine (stillFiles_nil bk _ (V1.out.blk.cell 16)).mono ?_
  rintro e w2 ⟨rfl, rfl⟩
  go_wp2_with fail
  refine (stillNotes_nil bk _ (V1.out.blk.cell 18)).mono ?_
  rintro e w2 ⟨rfl, rfl⟩
  go_wp2_with fail
  refine (stillLeases_nil bk _ (V1.out.blk.cell 20)).mono ?_
  rintro e w2 ⟨rfl, rfl⟩
  go_wp2_with fail
  refine (stillLetters_nil bk _ (V1.out.blk.cell 22)).mono ?_
  rintro e w2 ⟨rfl, rfl⟩
  go_wp2_with fail
  refine (stillSteps_nil bk _ (V1.out.blk.cell 24)).mono ?_
  rintro e w2 ⟨rfl, rfl⟩
  go_wp2_with fail
  refine (stillReals_nil bk _ (V1.out.blk.cell 26)).mono ?_
  rintro e w2 ⟨rfl, rfl⟩
  go_wp2_with fail
  refine (stillLists_nil bk _ (V1.out.blk.cell 28)).mono ?_
  rintro e w2 ⟨rfl, rfl⟩
  go_wp2_with fail
  refine (putVersions_nil bk _ (V1.out.blk.cell 10)).mono ?_
  rintro e w2 ⟨rfl, rfl⟩
  go_wp2_with fail
  refine (putTxns_nil bk _ (V1.out.blk.cell 14)).mono ?_
  rintro e w2 ⟨rfl, rfl⟩
  go_wp2_with fail
  refine (putLeases_nil bk _ (V1.out.blk.cell 20)).mono ?_
  rintro e w2 ⟨rfl, rfl⟩
  go_wp2_with fail
  refine (putSteps_nil bk _ (V1.out.blk.cell 24)).mono ?_
  rintro e w2 ⟨rfl, rfl⟩
  go_wp2_with fail
  refine (putLists_nil bk _ (V1.out.blk.cell 28)).mono ?_
  rintro e w2 ⟨rfl, rfl⟩
  go_wp2_with fail
  refine (putTexts_nil bk _ (V1.out.blk.cell 0)).mono ?_
  rintro e w2 ⟨rfl, rfl⟩
  go_wp2_with fail
  refine (putInts_nil bk _ (V1.out.blk.cell 2)).mono ?_
  rintro e w2 ⟨rfl, rfl⟩
  go_wp2_with fail
  refine (putVecs_any B bk m v1 v2 L C a (fun i => Z.getD i []) W1 V1.out HLm.out HA.out R1.out Hn.out hm (Nat.le_trans hB B1.out.size)).mono ?_
  rintro e W2 ⟨rfl, hV2, hR2, hB2⟩
  have V2 := Lib.hid hV2
  have R2 := Lib.hid hR2
  have B2 := Lib.hid (B1.out.trans hB2)
  clear hV2 hR2 hB2
  go_wp2_with fail
  refine (putKeys_nil bk _ (V2.out.blk.cell 6)).mono ?_
  rintro e w2 ⟨rfl, rfl⟩
  go_wp2_with fail
  refine (putPairs_nil bk _ (V2.out.blk.cell 8)).mono ?_
  rintro e w2 ⟨rfl, rfl⟩
  go_wp2_with fail
  refine (putWrites_nil bk _ (V2.out.blk.cell 12)).mono ?_
  rintro e w2 ⟨rfl, rfl⟩
  go_wp2_with fail
  refine (putFiles_nil bk _ (V2.out.blk.cell 16)).mono ?_
  rintro e w2 ⟨rfl, rfl⟩
  go_wp2_with fail
  refine (putNotes_nil bk _ (V2.out.blk.cell 18)).mono ?_
  rintro e w2 ⟨rfl, rfl⟩
  go_wp2_with fail
  refine (putLetters_nil bk _ (V2.out.blk.cell 22)).mono ?_
  rintro e w2 ⟨rfl, rfl⟩
  go_wp2_with fail
  refine (putReals_nil bk _ (V2.out.blk.cell 26)).mono ?_
  rintro e w2 ⟨rfl, rfl⟩
  go_wp2_with fail
  refine (growTexts_nil bk _ (V2.out.blk.cell 0)).mono ?_
  rintro e w2 ⟨rfl, rfl⟩
  go_wp2_with fail
  refine (growInts_nil bk _ (V2.out.blk.cell 2)).mono ?_
  rintro e w2 ⟨rfl, rfl⟩
  go_wp2_with fail
  refine (growVecs_any B bk m v1 v2 L C a (fun i => (Z.getD i []).length) W2 V2.out HLm.out HA.out R2.out Hn.out hm (Nat.le_trans hB B2.out.size)).mono ?_
  rintro e W3 ⟨v, b, rfl, hO3, hV3, hF3, hB3⟩
  obtain ⟨ao, co, rfl⟩ := own_slice hO3
  have V3 := Lib.hid hV3
  have O3 := Lib.hid hO3
  have F3 := Lib.hid hF3
  have B3 := Lib.hid (B2.out.trans hB3)
  clear hV3 hO3 hF3 hB3
  go_wp2_with fail
  refine (growKeys_nil bk _ (V3.out.blk.cell 6)).mono ?_
  rintro e w2 ⟨rfl, rfl⟩
  go_wp2_with fail
  refine (growPairs_nil bk _ (V3.out.blk.cell 8)).mono ?_
  rintro e w2 ⟨rfl, rfl⟩
  go_wp2_with fail
  refine (growVersions_nil bk _ (V3.out.blk.cell 10)).mono ?_
  rintro e w2 ⟨rfl, rfl⟩
  go_wp2_with fail
  refine (growWrites_nil bk _ (V3.out.blk.cell 12)).mono ?_
  rintro e w2 ⟨rfl, rfl⟩
  go_wp2_with fail
  refine (growTxns_nil bk _ (V3.out.blk.cell 14)).mono ?_
  rintro e w2 ⟨rfl, rfl⟩
  go_wp2_with fail
  refine (growFiles_nil bk _ (V3.out.blk.cell 16)).mono ?_
  rintro e w2 ⟨rfl, rfl⟩
  go_wp2_with fail
  refine (growNotes_nil bk _ (V3.out.blk.cell 18)).mono ?_
  rintro e w2 ⟨rfl, rfl⟩
  go_wp2_with fail
  refine (growLeases_nil bk _ (V3.out.blk.cell 20)).mono ?_
  rintro e w2 ⟨rfl, rfl⟩
  go_wp2_with fail
  refine (growLetters_nil bk _ (V3.out.blk.cell 22)).mono ?_
  rintro e w2 ⟨rfl, rfl⟩
  go_wp2_with fail
  refine (growSteps_nil bk _ (V3.out.blk.cell 24)).mono ?_
  rintro e w2 ⟨rfl, rfl⟩
  go_wp2_with fail
  refine (growReals_nil bk _ (V3.out.blk.cell 26)).mono ?_
  rintro e w2 ⟨rfl, rfl⟩
  go_wp2_with fail
  refine (growLists_nil bk _ (V3.out.blk.cell 28)).mono ?_
  rintro e w2 ⟨rfl, rfl⟩
  have c0 : W3.cell? ⟨bk, 0, none⟩ = some (.slice none 0 0) := V3.out.blk.cell 0
  have c2 : W3.cell? ⟨bk, 2, none⟩ = some (.slice none 0 0) := V3.out.blk.cell 2
  go_wp2_with fail
  refine (markedTexts_nil W3).mono ?_
  rintro e w2 ⟨rfl, rfl⟩
  go_wp2_with fail
  refine (markedTexts_nil W3).mono ?_
  rintro e w2 ⟨rfl, rfl⟩
  go_wp2_with fail
  refine (markedInts_nil W3).mono ?_
  rintro e w2 ⟨rfl, rfl⟩
  go_wp2_with fail
  refine (markedInts_nil W3).mono ?_
  rintro e w2 ⟨rfl, rfl⟩
  go_wp2_with fail
  refine (markedVecs_any B W2.heap.size m co ao _ b (fun i => (Z.getD i []).length + 72) W3 O3.out (fun i hi => by rw [List.getElem?_map, List.getElem?_range hi]; rfl) (fun i hi => by have := F3.out.rb i hi; rwa [if_pos hi] at this) (fun i hi => by have := Hn.out i hi; omega) hm).mono ?_
  rintro e W4 ⟨rfl, hB4⟩
  have V4 := Lib.hid (V3.out.below hB4 (Nat.le_refl _))
  have B4 := Lib.hid (B3.out.trans (hB4.mono (Nat.le_trans hB B3.out.size)))
  have R4 : Hid (∀ i, i < m → Nums W4 B 3 (a i) (markV i 0 (Z.getD i []).length)) := fun i hi => (F3.out.ra i hi).below hB4 (Nat.le_refl _)
  have c4 : W4.cell? ⟨bk, 4, none⟩ = some (.slice a1 m p1) := by have := V4.out.blk.cell 4; rw [E1.out] at this; exact this
  clear hB4 c0 c2
  go_wp2_with fail
  refine (markedVecs_any B B m p1 a1 L a (fun i => (Z.getD i []).length) W4 (by have := V4.out.r1; rw [E1.out, HLm.out] at this; exact this) HA.out R4.out (fun i hi => by have := Hn.out i hi; omega) hm).mono ?_
  rintro e W5 ⟨rfl, hB5⟩
  have V5 := Lib.hid (V4.out.below hB5 (Nat.le_refl _))
  have B5 := Lib.hid (B4.out.trans (hB5.mono (Nat.le_trans hB B4.out.size)))
  clear hB5 c4
  have c6 : W5.cell? ⟨bk, 6, none⟩ = some (.slice none 0 0) := V5.out.blk.cell 6
  have c8 : W5.cell? ⟨bk, 8, none⟩ = some (.slice none 0 0) := V5.out.blk.cell 8
  have c10 : W5.cell? ⟨bk, 10, none⟩ = some (.slice none 0 0) := V5.out.blk.cell 10
  have c12 : W5.cell? ⟨bk, 12, none⟩ = some (.slice none 0 0) := V5.out.blk.cell 12
  have c14 : W5.cell? ⟨bk, 14, none⟩ = some (.slice none 0 0) := V5.out.blk.cell 14
  have c16 : W5.cell? ⟨bk, 16, none⟩ = some (.slice none 0 0) := V5.out.blk.cell 16
  have c18 : W5.cell? ⟨bk, 18, none⟩ = some (.slice none 0 0) := V5.out.blk.cell 18
  have c20 : W5.cell? ⟨bk, 20, none⟩ = some (.slice none 0 0) := V5.out.blk.cell 20
  have c22 : W5.cell? ⟨bk, 22, none⟩ = some (.slice none 0 0) := V5.out.blk.cell 22
  have c24 : W5.cell? ⟨bk, 24, none⟩ = some (.slice none 0 0) := V5.out.blk.cell 24
  have c26 : W5.cell? ⟨bk, 26, none⟩ = some (.slice none 0 0) := V5.out.blk.cell 26
  have c28 : W5.cell? ⟨bk, 28, none⟩ = some (.slice none 0 0) := V5.out.blk.cell 28
  go_wp2_with fail
  refine (markedKeys_nil W5).mono ?_
  rintro e w2 ⟨rfl, rfl⟩
  go_wp2_with fail
  refine (markedKeys_nil W5).mono ?_
  rintro e w2 ⟨rfl, rfl⟩
  go_wp2_with fail
  refine (markedPairs_nil W5).mono ?_
  rintro e w2 ⟨rfl, rfl⟩
  go_wp2_with fail
  refine (markedPairs_nil W5).mono ?_
  rintro e w2 ⟨rfl, rfl⟩
  go_wp2_with fail
  refine (markedVersions_nil W5).mono ?_
  rintro e w2 ⟨rfl, rfl⟩
  go_wp2_with fail
  refine (markedVersions_nil W5).mono ?_
  rintro e w2 ⟨rfl, rfl⟩
  go_wp2_with fail
  refine (markedWrites_nil W5).mono ?_
  rintro e w2 ⟨rfl, rfl⟩
  go_wp2_with fail
  refine (markedWrites_nil W5).mono ?_
  rintro e w2 ⟨rfl, rfl⟩
  go_wp2_with fail
  refine (markedTxns_nil W5).mono ?_
  rintro e w2 ⟨rfl, rfl⟩
  go_wp2_with fail
  refine (markedTxns_nil W5).mono ?_
  rintro e w2 ⟨rfl, rfl⟩
  go_wp2_with fail
  refine (markedFiles_nil W5).mono ?_
  rintro e w2 ⟨rfl, rfl⟩
  go_wp2_with fail
  refine (markedFiles_nil W5).mono ?_
  rintro e w2 ⟨rfl, rfl⟩
  go_wp2_with fail
  refine (markedNotes_nil W5).mono ?_
  rintro e w2 ⟨rfl, rfl⟩
  go_wp2_with fail
  refine (markedNotes_nil W5).mono ?_
  rintro e w2 ⟨rfl, rfl⟩
  go_wp2_with fail
  refine (markedLeases_nil W5).mono ?_
  rintro e w2 ⟨rfl, rfl⟩
  go_wp2_with fail
  refine (markedLeases_nil W5).mono ?_
  rintro e w2 ⟨rfl, rfl⟩
  go_wp2_with fail
  refine (markedLetters_nil W5).mono ?_
  rintro e w2 ⟨rfl, rfl⟩
  go_wp2_with fail
  refine (markedLetters_nil W5).mono ?_
  rintro e w2 ⟨rfl, rfl⟩
  go_wp2_with fail
  refine (markedSteps_nil W5).mono ?_
  rintro e w2 ⟨rfl, rfl⟩
  go_wp2_with fail
  refine (markedSteps_nil W5).mono ?_
  rintro e w2 ⟨rfl, rfl⟩
  go_wp2_with fail
  refine (markedReals_nil W5).mono ?_
  rintro e w2 ⟨rfl, rfl⟩
  go_wp2_with fail
  refine (markedReals_nil W5).mono ?_
  rintro e w2 ⟨rfl, rfl⟩
  go_wp2_with fail
  refine (markedLists_nil W5).mono ?_
  rintro e w2 ⟨rfl, rfl⟩
  go_wp2_with fail
  refine (markedLists_nil W5).mono ?_
  rintro e w2 ⟨rfl, rfl⟩
  go_wp2_with fail
  go_ret
  exact ⟨rfl, B5.out⟩
end Go.Proofs.YtalacionlbmcpaaGreatDoor
