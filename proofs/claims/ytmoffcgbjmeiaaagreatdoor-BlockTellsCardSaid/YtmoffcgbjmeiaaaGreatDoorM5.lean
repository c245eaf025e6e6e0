/-
  Several texts in one: The book of lists, where Keys alone were kept: each is as it was, and none shares memory with another. (Written by wip/gen/gen_bkapart.py.)
  The last step of a law's row: the call leaves all that was there as it was.
  'There is an input that fits' for a row with a condition and listed variables, at a world whose shape is shown as one likes. No program is named.
-/
import Derived.Test.YtmoffcgbjmeiaaaGreatDoorM4
import Derived.Below
import Derived.ChangeSame
import Derived.ProofKit
import Derived.Test.YtmoffcgbjmeiaaaGreatDoorRows
import Derived.Deep.DeepHandedRow
import Derived.Test.YtmoffcgbjmeiaaaGreatDoorM1
import Derived.Test.YtmoffcgbjmeiaaaGreatDoorM2
import Derived.Test.YtmoffcgbjmeiaaaGreatDoorM3
namespace Go.Proofs.YtmoffcgbjmeiaaaGreatDoor
open Go.RowKit

set_option maxRecDepth 100000 in
set_option maxHeartbeats 16000000 in
theorem apartKeys (B bk : Nat) (bcs : Array Value) (ZKeys : List (List (ByteArray × ByteArray))) (SKeys : Nat) (w : World) (hb : Blk w bk 41 bcs) (hKeys : KStKeys w B bcs ZKeys SKeys) (hnil : ∀ j, j < 30 → j ≠ 6 → j ≠ 7 → bcs[j]? = some (.slice none 0 0)) (hB : B ≤ w.heap.size) :
    Calls Tryz.prog 16 #[.pointer (some ⟨bk, 0, none⟩)] w fun e w' => e = .returned (.bool true) ∧ Below B w w' := by
  have HB := Lib.hid hb
  have HN := Lib.hid hnil
  obtain ⟨v1Keys, v2Keys, aKeys, cKeys, f1Keys, f2Keys, x1, x2, _, x3, x4, x5, _, hmKeys⟩ := hKeys
  obtain ⟨vaKeys, vcKeys, rfl⟩ := srow_slice x1
  have hzKeys : Hid (∀ i, i < ZKeys.length → (ZKeys.getD i []).length ≤ 1000000 ∧ ∀ x ∈ ZKeys.getD i [], okKeys x) := fun i hi => ⟨Nat.le_trans (x5 i hi).1 (by decide), (x5 i hi).2⟩
  have hlKeys : Hid (∀ i, i < ZKeys.length → (ZKeys.getD i []).length ≤ 100000) := fun i hi => (x5 i hi).1
  have PKeys : Hid (PSt elKeys 53 22 w B (.slice vaKeys ZKeys.length vcKeys) aKeys ZKeys.length (fun i => ZKeys.getD i [])) := ⟨x1, x3⟩
  have r2Keys := Lib.hid x2
  have rcKeys := Lib.hid x4
  clear x1 x2 x3 x4 x5
  obtain ⟨mKeys, hmmKeys⟩ : ∃ m, m = ZKeys.length := ⟨_, rfl⟩
  rw [← hmmKeys] at hmKeys hzKeys hlKeys PKeys r2Keys rcKeys f1Keys
  clear hmmKeys
  clear hb hnil
  go_enter Tryz.func16, Tryz.ntmps16
  go_wp2_with fail
  refine (stillTexts_nil bk _ (by rw [HB.out.cell 0]; exact HN.out 0 (by decide) (by decide) (by decide))).mono ?_
  rintro e w2 ⟨rfl, rfl⟩
  go_wp2_with fail
  refine (stillInts_nil bk _ (by rw [HB.out.cell 2]; exact HN.out 2 (by decide) (by decide) (by decide))).mono ?_
  rintro e w2 ⟨rfl, rfl⟩
  go_wp2_with fail
  refine (stillVecs_nil bk _ (by rw [HB.out.cell 4]; exact HN.out 4 (by decide) (by decide) (by decide))).mono ?_
  rintro e w2 ⟨rfl, rfl⟩
  go_wp2_with fail
  refine (stillKeys_any B bk mKeys (.slice vaKeys mKeys vcKeys) v2Keys aKeys cKeys _ w (by rw [HB.out.cell 6]; exact f1Keys) (by rw [HB.out.cell 7]; exact f2Keys) PKeys.out.r1 r2Keys.out PKeys.out.ra.each rcKeys.out hzKeys.out hmKeys).mono ?_
  rintro e W1 ⟨rfl, q1, hq1⟩
  have T1 : Tn B (fun _ => false) w W1 := by rw [hq1]; exact (Tn.refl _ _ _).drewN _
  replace HB := Lib.hid (T1.blk HB.out rfl)
  have L1 := Lib.hid (T1.below (hB))
  replace PKeys := Lib.hid (PKeys.out.tn T1 (fun _ _ => rfl) (fun _ _ => rfl))
  replace r2Keys := Lib.hid (T1.own r2Keys.out (fun _ _ => rfl))
  replace rcKeys := Lib.hid (fun i hi => (rcKeys.out i hi).tn T1 (fun _ _ => rfl))
  clear hq1 T1
  go_wp2_with fail
  refine (stillPairs_nil bk _ (by rw [HB.out.cell 8]; exact HN.out 8 (by decide) (by decide) (by decide))).mono ?_
  rintro e w2 ⟨rfl, rfl⟩
  go_wp2_with fail
  refine (stillVersions_nil bk _ (by rw [HB.out.cell 10]; exact HN.out 10 (by decide) (by decide) (by decide))).mono ?_
  rintro e w2 ⟨rfl, rfl⟩
  go_wp2_with fail
  refine (stillWrites_nil bk _ (by rw [HB.out.cell 12]; exact HN.out 12 (by decide) (by decide) (by decide))).mono ?_
  rintro e w2 ⟨rfl, rfl⟩
  go_wp2_with fail
  refine (stillTxns_nil bk _ (by rw [HB.out.cell 14]; exact HN.out 14 (by decide) (by decide) (by decide))).mono ?_
  rintro e w2 ⟨rfl, rfl⟩
  go_wp2_with fail
  refine (stillFiles_nil bk _ (by rw [HB.out.cell 16]; exact HN.out 16 (by decide) (by decide) (by decide))).mono ?_
  rintro e w2 ⟨rfl, rfl⟩
  go_wp2_with fail
  refine (stillNotes_nil bk _ (by rw [HB.out.cell 18]; exact HN.out 18 (by decide) (by decide) (by decide))).mono ?_
  rintro e w2 ⟨rfl, rfl⟩
  go_wp2_with fail
  refine (stillLeases_nil bk _ (by rw [HB.out.cell 20]; exact HN.out 20 (by decide) (by decide) (by decide))).mono ?_
  rintro e w2 ⟨rfl, rfl⟩
  go_wp2_with fail
  refine (stillLetters_nil bk _ (by rw [HB.out.cell 22]; exact HN.out 22 (by decide) (by decide) (by decide))).mono ?_
  rintro e w2 ⟨rfl, rfl⟩
  go_wp2_with fail
  refine (stillSteps_nil bk _ (by rw [HB.out.cell 24]; exact HN.out 24 (by decide) (by decide) (by decide))).mono ?_
  rintro e w2 ⟨rfl, rfl⟩
  go_wp2_with fail
  refine (stillReals_nil bk _ (by rw [HB.out.cell 26]; exact HN.out 26 (by decide) (by decide) (by decide))).mono ?_
  rintro e w2 ⟨rfl, rfl⟩
  go_wp2_with fail
  refine (stillLists_nil bk _ (by rw [HB.out.cell 28]; exact HN.out 28 (by decide) (by decide) (by decide))).mono ?_
  rintro e w2 ⟨rfl, rfl⟩
  go_wp2_with fail
  refine (putVersions_nil bk _ (by rw [HB.out.cell 10]; exact HN.out 10 (by decide) (by decide) (by decide))).mono ?_
  rintro e w2 ⟨rfl, rfl⟩
  go_wp2_with fail
  refine (putTxns_nil bk _ (by rw [HB.out.cell 14]; exact HN.out 14 (by decide) (by decide) (by decide))).mono ?_
  rintro e w2 ⟨rfl, rfl⟩
  go_wp2_with fail
  refine (putLeases_nil bk _ (by rw [HB.out.cell 20]; exact HN.out 20 (by decide) (by decide) (by decide))).mono ?_
  rintro e w2 ⟨rfl, rfl⟩
  go_wp2_with fail
  refine (putSteps_nil bk _ (by rw [HB.out.cell 24]; exact HN.out 24 (by decide) (by decide) (by decide))).mono ?_
  rintro e w2 ⟨rfl, rfl⟩
  go_wp2_with fail
  refine (putLists_nil bk _ (by rw [HB.out.cell 28]; exact HN.out 28 (by decide) (by decide) (by decide))).mono ?_
  rintro e w2 ⟨rfl, rfl⟩
  go_wp2_with fail
  refine (putTexts_nil bk _ (by rw [HB.out.cell 0]; exact HN.out 0 (by decide) (by decide) (by decide))).mono ?_
  rintro e w2 ⟨rfl, rfl⟩
  go_wp2_with fail
  refine (putInts_nil bk _ (by rw [HB.out.cell 2]; exact HN.out 2 (by decide) (by decide) (by decide))).mono ?_
  rintro e w2 ⟨rfl, rfl⟩
  go_wp2_with fail
  refine (putVecs_nil bk _ (by rw [HB.out.cell 4]; exact HN.out 4 (by decide) (by decide) (by decide))).mono ?_
  rintro e w2 ⟨rfl, rfl⟩
  go_wp2_with fail
  refine (putKeys_any B bk mKeys bcs (.slice vaKeys mKeys vcKeys) aKeys _ W1 HB.out f1Keys PKeys.out.r1 PKeys.out.ra (fun i hi => (hlKeys.out i hi)) hmKeys (Nat.le_trans hB L1.out.size)).mono ?_
  rintro e W2 ⟨rfl, hR2, T2⟩
  replace HB := Lib.hid (T2.blk HB.out (cellsT_ne (by decide) _ _))
  have L2 := Lib.hid (L1.out.trans (T2.below (Nat.le_trans hB L1.out.size)))
  replace PKeys : Hid (PSt elKeys 53 22 W2 B (.slice vaKeys mKeys vcKeys) aKeys mKeys (fun i => elKeys.marks i 0 (ZKeys.getD i []).length)) := ⟨T2.own PKeys.out.r1 (fun cs fr => cellsT_ne (by decide) _ _), hR2⟩
  clear hR2 T2
  go_wp2_with fail
  refine (putPairs_nil bk _ (by rw [HB.out.cell 8]; exact HN.out 8 (by decide) (by decide) (by decide))).mono ?_
  rintro e w2 ⟨rfl, rfl⟩
  go_wp2_with fail
  refine (putWrites_nil bk _ (by rw [HB.out.cell 12]; exact HN.out 12 (by decide) (by decide) (by decide))).mono ?_
  rintro e w2 ⟨rfl, rfl⟩
  go_wp2_with fail
  refine (putFiles_nil bk _ (by rw [HB.out.cell 16]; exact HN.out 16 (by decide) (by decide) (by decide))).mono ?_
  rintro e w2 ⟨rfl, rfl⟩
  go_wp2_with fail
  refine (putNotes_nil bk _ (by rw [HB.out.cell 18]; exact HN.out 18 (by decide) (by decide) (by decide))).mono ?_
  rintro e w2 ⟨rfl, rfl⟩
  go_wp2_with fail
  refine (putLetters_nil bk _ (by rw [HB.out.cell 22]; exact HN.out 22 (by decide) (by decide) (by decide))).mono ?_
  rintro e w2 ⟨rfl, rfl⟩
  go_wp2_with fail
  refine (putReals_nil bk _ (by rw [HB.out.cell 26]; exact HN.out 26 (by decide) (by decide) (by decide))).mono ?_
  rintro e w2 ⟨rfl, rfl⟩
  go_wp2_with fail
  refine (growTexts_nil bk _ (by rw [HB.out.cell 0]; exact HN.out 0 (by decide) (by decide) (by decide))).mono ?_
  rintro e w2 ⟨rfl, rfl⟩
  go_wp2_with fail
  refine (growInts_nil bk _ (by rw [HB.out.cell 2]; exact HN.out 2 (by decide) (by decide) (by decide))).mono ?_
  rintro e w2 ⟨rfl, rfl⟩
  go_wp2_with fail
  refine (growVecs_nil bk _ (by rw [HB.out.cell 4]; exact HN.out 4 (by decide) (by decide) (by decide))).mono ?_
  rintro e w2 ⟨rfl, rfl⟩
  go_wp2_with fail
  refine (growKeys_any B bk mKeys bcs (.slice vaKeys mKeys vcKeys) aKeys (fun i => (ZKeys.getD i []).length) W2 HB.out f1Keys PKeys.out.r1 PKeys.out.ra (fun i hi => (hlKeys.out i hi)) hmKeys (Nat.le_trans hB L2.out.size)).mono ?_
  rintro e W3 ⟨gKeys, bKeys, rfl, hO3, hF3, T3⟩
  replace HB := Lib.hid (T3.blk HB.out (cellsT_ne (by decide) _ _))
  have L3 := Lib.hid (L2.out.trans (T3.below (Nat.le_trans hB L2.out.size)))
  obtain ⟨gaKeys, gcKeys, rfl⟩ := srow_slice hO3
  have r1Keys := Lib.hid (T3.own PKeys.out.r1 (fun cs fr => cellsT_ne (by decide) _ _))
  have fmKeys := Lib.hid hF3
  have ogKeys := Lib.hid hO3
  clear PKeys
  clear hO3 hF3 T3
  go_wp2_with fail
  refine (growPairs_nil bk _ (by rw [HB.out.cell 8]; exact HN.out 8 (by decide) (by decide) (by decide))).mono ?_
  rintro e w2 ⟨rfl, rfl⟩
  go_wp2_with fail
  refine (growVersions_nil bk _ (by rw [HB.out.cell 10]; exact HN.out 10 (by decide) (by decide) (by decide))).mono ?_
  rintro e w2 ⟨rfl, rfl⟩
  go_wp2_with fail
  refine (growWrites_nil bk _ (by rw [HB.out.cell 12]; exact HN.out 12 (by decide) (by decide) (by decide))).mono ?_
  rintro e w2 ⟨rfl, rfl⟩
  go_wp2_with fail
  refine (growTxns_nil bk _ (by rw [HB.out.cell 14]; exact HN.out 14 (by decide) (by decide) (by decide))).mono ?_
  rintro e w2 ⟨rfl, rfl⟩
  go_wp2_with fail
  refine (growFiles_nil bk _ (by rw [HB.out.cell 16]; exact HN.out 16 (by decide) (by decide) (by decide))).mono ?_
  rintro e w2 ⟨rfl, rfl⟩
  go_wp2_with fail
  refine (growNotes_nil bk _ (by rw [HB.out.cell 18]; exact HN.out 18 (by decide) (by decide) (by decide))).mono ?_
  rintro e w2 ⟨rfl, rfl⟩
  go_wp2_with fail
  refine (growLeases_nil bk _ (by rw [HB.out.cell 20]; exact HN.out 20 (by decide) (by decide) (by decide))).mono ?_
  rintro e w2 ⟨rfl, rfl⟩
  go_wp2_with fail
  refine (growLetters_nil bk _ (by rw [HB.out.cell 22]; exact HN.out 22 (by decide) (by decide) (by decide))).mono ?_
  rintro e w2 ⟨rfl, rfl⟩
  go_wp2_with fail
  refine (growSteps_nil bk _ (by rw [HB.out.cell 24]; exact HN.out 24 (by decide) (by decide) (by decide))).mono ?_
  rintro e w2 ⟨rfl, rfl⟩
  go_wp2_with fail
  refine (growReals_nil bk _ (by rw [HB.out.cell 26]; exact HN.out 26 (by decide) (by decide) (by decide))).mono ?_
  rintro e w2 ⟨rfl, rfl⟩
  go_wp2_with fail
  refine (growLists_nil bk _ (by rw [HB.out.cell 28]; exact HN.out 28 (by decide) (by decide) (by decide))).mono ?_
  rintro e w2 ⟨rfl, rfl⟩
  have cTexts : W3.cell? ⟨bk, 0, none⟩ = some (.slice none 0 0) := by rw [HB.out.cell 0]; exact HN.out 0 (by decide) (by decide) (by decide)
  have cInts : W3.cell? ⟨bk, 2, none⟩ = some (.slice none 0 0) := by rw [HB.out.cell 2]; exact HN.out 2 (by decide) (by decide) (by decide)
  have cVecs : W3.cell? ⟨bk, 4, none⟩ = some (.slice none 0 0) := by rw [HB.out.cell 4]; exact HN.out 4 (by decide) (by decide) (by decide)
  have cKeys : W3.cell? ⟨bk, 6, none⟩ = some (.slice vaKeys mKeys vcKeys) := by rw [HB.out.cell 6]; exact f1Keys
  have cPairs : W3.cell? ⟨bk, 8, none⟩ = some (.slice none 0 0) := by rw [HB.out.cell 8]; exact HN.out 8 (by decide) (by decide) (by decide)
  have cVersions : W3.cell? ⟨bk, 10, none⟩ = some (.slice none 0 0) := by rw [HB.out.cell 10]; exact HN.out 10 (by decide) (by decide) (by decide)
  have cWrites : W3.cell? ⟨bk, 12, none⟩ = some (.slice none 0 0) := by rw [HB.out.cell 12]; exact HN.out 12 (by decide) (by decide) (by decide)
  have cTxns : W3.cell? ⟨bk, 14, none⟩ = some (.slice none 0 0) := by rw [HB.out.cell 14]; exact HN.out 14 (by decide) (by decide) (by decide)
  have cFiles : W3.cell? ⟨bk, 16, none⟩ = some (.slice none 0 0) := by rw [HB.out.cell 16]; exact HN.out 16 (by decide) (by decide) (by decide)
  have cNotes : W3.cell? ⟨bk, 18, none⟩ = some (.slice none 0 0) := by rw [HB.out.cell 18]; exact HN.out 18 (by decide) (by decide) (by decide)
  have cLeases : W3.cell? ⟨bk, 20, none⟩ = some (.slice none 0 0) := by rw [HB.out.cell 20]; exact HN.out 20 (by decide) (by decide) (by decide)
  have cLetters : W3.cell? ⟨bk, 22, none⟩ = some (.slice none 0 0) := by rw [HB.out.cell 22]; exact HN.out 22 (by decide) (by decide) (by decide)
  have cSteps : W3.cell? ⟨bk, 24, none⟩ = some (.slice none 0 0) := by rw [HB.out.cell 24]; exact HN.out 24 (by decide) (by decide) (by decide)
  have cReals : W3.cell? ⟨bk, 26, none⟩ = some (.slice none 0 0) := by rw [HB.out.cell 26]; exact HN.out 26 (by decide) (by decide) (by decide)
  have cLists : W3.cell? ⟨bk, 28, none⟩ = some (.slice none 0 0) := by rw [HB.out.cell 28]; exact HN.out 28 (by decide) (by decide) (by decide)
  go_wp2_with fail
  refine (markedTexts_nil W3).mono ?_
  rintro e w2 ⟨rfl, rfl⟩
  go_wp2_with fail
  refine (markedTexts_nil W3).mono ?_
  rintro e w2 ⟨rfl, rfl⟩
  go_wp2_with fail
  refine (markedInts_nil W3).mono ?_
  rintro e w2 ⟨rfl, rfl⟩
  go_wp2_with fail
  refine (markedInts_nil W3).mono ?_
  rintro e w2 ⟨rfl, rfl⟩
  go_wp2_with fail
  refine (markedVecs_nil W3).mono ?_
  rintro e w2 ⟨rfl, rfl⟩
  go_wp2_with fail
  refine (markedVecs_nil W3).mono ?_
  rintro e w2 ⟨rfl, rfl⟩
  go_wp2_with fail
  refine (markedKeys_any B _ mKeys _ bKeys (fun i => (ZKeys.getD i []).length + 72) W3 ogKeys.out (fun i hi => fmKeys.out.rb i hi) (fun i hi => by have := hlKeys.out i hi; omega) hmKeys).mono ?_
  rintro e W4 ⟨rfl, hg4⟩
  have T4 : Tn B (fun _ => false) W3 W4 := Tn.of_grown hg4
  replace HB := Lib.hid (T4.blk HB.out rfl)
  have L4 := Lib.hid (L3.out.trans (T4.below (Nat.le_trans hB L3.out.size)))
  replace r1Keys := Lib.hid (T4.own r1Keys.out (fun _ _ => rfl))
  replace fmKeys := Lib.hid (fmKeys.out.tn T4 (fun _ _ => rfl))
  replace ogKeys := Lib.hid (T4.own ogKeys.out (fun _ _ => rfl))
  clear hg4 T4 cKeys cPairs cVersions cWrites cTxns cFiles cNotes cLeases cLetters cSteps cReals cLists
  have cKeys : W4.cell? ⟨bk, 6, none⟩ = some (.slice vaKeys mKeys vcKeys) := by rw [HB.out.cell 6]; exact f1Keys
  have cPairs : W4.cell? ⟨bk, 8, none⟩ = some (.slice none 0 0) := by rw [HB.out.cell 8]; exact HN.out 8 (by decide) (by decide) (by decide)
  have cVersions : W4.cell? ⟨bk, 10, none⟩ = some (.slice none 0 0) := by rw [HB.out.cell 10]; exact HN.out 10 (by decide) (by decide) (by decide)
  have cWrites : W4.cell? ⟨bk, 12, none⟩ = some (.slice none 0 0) := by rw [HB.out.cell 12]; exact HN.out 12 (by decide) (by decide) (by decide)
  have cTxns : W4.cell? ⟨bk, 14, none⟩ = some (.slice none 0 0) := by rw [HB.out.cell 14]; exact HN.out 14 (by decide) (by decide) (by decide)
  have cFiles : W4.cell? ⟨bk, 16, none⟩ = some (.slice none 0 0) := by rw [HB.out.cell 16]; exact HN.out 16 (by decide) (by decide) (by decide)
  have cNotes : W4.cell? ⟨bk, 18, none⟩ = some (.slice none 0 0) := by rw [HB.out.cell 18]; exact HN.out 18 (by decide) (by decide) (by decide)
  have cLeases : W4.cell? ⟨bk, 20, none⟩ = some (.slice none 0 0) := by rw [HB.out.cell 20]; exact HN.out 20 (by decide) (by decide) (by decide)
  have cLetters : W4.cell? ⟨bk, 22, none⟩ = some (.slice none 0 0) := by rw [HB.out.cell 22]; exact HN.out 22 (by decide) (by decide) (by decide)
  have cSteps : W4.cell? ⟨bk, 24, none⟩ = some (.slice none 0 0) := by rw [HB.out.cell 24]; exact HN.out 24 (by decide) (by decide) (by decide)
  have cReals : W4.cell? ⟨bk, 26, none⟩ = some (.slice none 0 0) := by rw [HB.out.cell 26]; exact HN.out 26 (by decide) (by decide) (by decide)
  have cLists : W4.cell? ⟨bk, 28, none⟩ = some (.slice none 0 0) := by rw [HB.out.cell 28]; exact HN.out 28 (by decide) (by decide) (by decide)
  go_wp2_with fail
  refine (markedKeys_any B B mKeys _ aKeys (fun i => (ZKeys.getD i []).length) W4 r1Keys.out (fun i hi => fmKeys.out.ra i hi) (fun i hi => by have := hlKeys.out i hi; omega) hmKeys).mono ?_
  rintro e W5 ⟨rfl, hg5⟩
  have T5 : Tn B (fun _ => false) W4 W5 := Tn.of_grown hg5
  replace HB := Lib.hid (T5.blk HB.out rfl)
  have L5 := Lib.hid (L4.out.trans (T5.below (Nat.le_trans hB L4.out.size)))
  replace r1Keys := Lib.hid (T5.own r1Keys.out (fun _ _ => rfl))
  replace fmKeys := Lib.hid (fmKeys.out.tn T5 (fun _ _ => rfl))
  replace ogKeys := Lib.hid (T5.own ogKeys.out (fun _ _ => rfl))
  clear hg5 T5 cKeys cPairs cVersions cWrites cTxns cFiles cNotes cLeases cLetters cSteps cReals cLists
  have cKeys : W5.cell? ⟨bk, 6, none⟩ = some (.slice vaKeys mKeys vcKeys) := by rw [HB.out.cell 6]; exact f1Keys
  have cPairs : W5.cell? ⟨bk, 8, none⟩ = some (.slice none 0 0) := by rw [HB.out.cell 8]; exact HN.out 8 (by decide) (by decide) (by decide)
  have cVersions : W5.cell? ⟨bk, 10, none⟩ = some (.slice none 0 0) := by rw [HB.out.cell 10]; exact HN.out 10 (by decide) (by decide) (by decide)
  have cWrites : W5.cell? ⟨bk, 12, none⟩ = some (.slice none 0 0) := by rw [HB.out.cell 12]; exact HN.out 12 (by decide) (by decide) (by decide)
  have cTxns : W5.cell? ⟨bk, 14, none⟩ = some (.slice none 0 0) := by rw [HB.out.cell 14]; exact HN.out 14 (by decide) (by decide) (by decide)
  have cFiles : W5.cell? ⟨bk, 16, none⟩ = some (.slice none 0 0) := by rw [HB.out.cell 16]; exact HN.out 16 (by decide) (by decide) (by decide)
  have cNotes : W5.cell? ⟨bk, 18, none⟩ = some (.slice none 0 0) := by rw [HB.out.cell 18]; exact HN.out 18 (by decide) (by decide) (by decide)
  have cLeases : W5.cell? ⟨bk, 20, none⟩ = some (.slice none 0 0) := by rw [HB.out.cell 20]; exact HN.out 20 (by decide) (by decide) (by decide)
  have cLetters : W5.cell? ⟨bk, 22, none⟩ = some (.slice none 0 0) := by rw [HB.out.cell 22]; exact HN.out 22 (by decide) (by decide) (by decide)
  have cSteps : W5.cell? ⟨bk, 24, none⟩ = some (.slice none 0 0) := by rw [HB.out.cell 24]; exact HN.out 24 (by decide) (by decide) (by decide)
  have cReals : W5.cell? ⟨bk, 26, none⟩ = some (.slice none 0 0) := by rw [HB.out.cell 26]; exact HN.out 26 (by decide) (by decide) (by decide)
  have cLists : W5.cell? ⟨bk, 28, none⟩ = some (.slice none 0 0) := by rw [HB.out.cell 28]; exact HN.out 28 (by decide) (by decide) (by decide)
  go_wp2_with fail
  refine (markedPairs_nil W5).mono ?_
  rintro e w2 ⟨rfl, rfl⟩
  go_wp2_with fail
  refine (markedPairs_nil W5).mono ?_
  rintro e w2 ⟨rfl, rfl⟩
  go_wp2_with fail
  refine (markedVersions_nil W5).mono ?_
  rintro e w2 ⟨rfl, rfl⟩
  go_wp2_with fail
  refine (markedVersions_nil W5).mono ?_
  rintro e w2 ⟨rfl, rfl⟩
  go_wp2_with fail
  refine (markedWrites_nil W5).mono ?_
  rintro e w2 ⟨rfl, rfl⟩
  go_wp2_with fail
  refine (markedWrites_nil W5).mono ?_
  rintro e w2 ⟨rfl, rfl⟩
  go_wp2_with fail
  refine (markedTxns_nil W5).mono ?_
  rintro e w2 ⟨rfl, rfl⟩
  go_wp2_with fail
  refine (markedTxns_nil W5).mono ?_
  rintro e w2 ⟨rfl, rfl⟩
  go_wp2_with fail
  refine (markedFiles_nil W5).mono ?_
  rintro e w2 ⟨rfl, rfl⟩
  go_wp2_with fail
  refine (markedFiles_nil W5).mono ?_
  rintro e w2 ⟨rfl, rfl⟩
  go_wp2_with fail
  refine (markedNotes_nil W5).mono ?_
  rintro e w2 ⟨rfl, rfl⟩
  go_wp2_with fail
  refine (markedNotes_nil W5).mono ?_
  rintro e w2 ⟨rfl, rfl⟩
  go_wp2_with fail
  refine (markedLeases_nil W5).mono ?_
  rintro e w2 ⟨rfl, rfl⟩
  go_wp2_with fail
  refine (markedLeases_nil W5).mono ?_
  rintro e w2 ⟨rfl, rfl⟩
  go_wp2_with fail
  refine (markedLetters_nil W5).mono ?_
  rintro e w2 ⟨rfl, rfl⟩
  go_wp2_with fail
  refine (markedLetters_nil W5).mono ?_
  rintro e w2 ⟨rfl, rfl⟩
  go_wp2_with fail
  refine (markedSteps_nil W5).mono ?_
  rintro e w2 ⟨rfl, rfl⟩
  go_wp2_with fail
  refine (markedSteps_nil W5).mono ?_
  rintro e w2 ⟨rfl, rfl⟩
  go_wp2_with fail
  refine (markedReals_nil W5).mono ?_
  rintro e w2 ⟨rfl, rfl⟩
  go_wp2_with fail
  refine (markedReals_nil W5).mono ?_
  rintro e w2 ⟨rfl, rfl⟩
  go_wp2_with fail
  refine (markedLists_nil W5).mono ?_
  rintro e w2 ⟨rfl, rfl⟩
  go_wp2_with fail
  refine (markedLists_nil W5).mono ?_
  rintro e w2 ⟨rfl, rfl⟩
  go_wp2_with fail
  go_ret
  exact ⟨rfl, L5.out⟩
end Go.Proofs.YtmoffcgbjmeiaaaGreatDoor

namespace Go.Proofs.YtmoffcgbjmeiaaaGreatDoor
open Go.RowKit Go.WideShapes Go.ChangeShapes
section
variable {H : Type} {enc : TypeId × Value → H} {P : Program}
theorem post_of_below {f : Func} {s : ChangeSpec} {apart fresh handsOn again : Bool} {W W' : World} {args : Array Value} {v : Value} {ds gs : List (DataW H)} {before pa pv : List MemPlace}
    (hW : DataW.Whole enc P f.params.toList s.vars apart W args.toList ds gs before)
    (hres : ∀ (b : Nat) (sp : Nat → Bool) (hd : Bool), DataW.TrodAll enc P W' b sp hd f.resultTypes.toList (v.resultList f.resultTypes.size) (s.fn H (ds ++ gs)).results [])
    (hargs : ∀ sp : Nat → Bool, (∀ p ∈ before, sp p.block = true) → DataW.TrodAll enc P W' 0 sp true f.params.toList args.toList (s.fn H (ds ++ gs)).args pa)
    (hvars : ∀ sp : Nat → Bool, (∀ p ∈ before, sp p.block = true) → DataW.TrodVars enc P W' sp s.vars (s.fn H (ds ++ gs)).vars pv)
    (hps : before = pa ++ pv) (hb : Below W.heap.size W W')
    (hok : ∀ (j : Nat) (t : TypeId) (r : Value), f.resultTypes[j]? = some t → (v.resultList f.resultTypes.size)[j]? = some r → Value.okWide P W' .any 0 t r) :
    s.post enc P f apart fresh handsOn again W args v W' := by
  have hlt : ∀ p ∈ before, p.block < W.heap.size := fun p hp => hW.lt p hp
  have hold : ∀ p ∈ before, (fun b => decide (b < W.heap.size)) p.block = true := fun p hp => by simpa using hlt p hp
  refine ⟨ds, gs, before, [], pa, pv, hW, hres _ _ _, hargs _ hold, hvars _ hold, World.keptBut_mono (fun p hp => ⟨hp, ?_⟩) (hb.frame (· ∈ before)), fun _ => ?_⟩
  · rw [hps, List.mem_append] at hp
    exact Or.inr hp
  · obtain ⟨_, _, _, _, _, hz, hn⟩ := hW
    refine ⟨hok, _, _, ([] ++ pa) ++ pv, ⟨[] ++ pa, pv, trodAll_append (hargs _ (fun _ _ => rfl)) (hres _ _ _), hvars _ (fun _ _ => rfl), rfl, ?_, ?_⟩, ?_⟩
    · intro b off hp
      have hin : MemPlace.cell b off ∈ before := by rw [hps]; simpa using hp
      rw [hb.frozen (hlt _ hin)]
      exact hz b off hin
    · intro ha
      have := hn ha
      rw [hps] at this
      simpa using this
    · intro p hp _
      rw [hps]
      simpa using hp
end
end Go.Proofs.YtmoffcgbjmeiaaaGreatDoor

namespace Go.Proofs.YtmoffcgbjmeiaaaGreatDoor
section
variable {H : Type} {enc : TypeId × Value → H}
theorem witness_row_shaped {C : Checked} {os : Os} {f : FuncId} {fn : Func} {s : OpenSpec} {conds : List PathCond} {apart : Bool} {laid : List (String × DataW Unit)} (modest : Bool) (w0 : World) (args : Array Value) (hos : w0.os = os)
    (hsh : (w0.forCall (fun _ _ => 0) ⟨#[], args, []⟩).Shaped C.prog)
    (hok : Input.okWideB C.prog (w0.forCall (fun _ _ => 0) ⟨#[], args, []⟩) f ⟨#[], args, []⟩ = true)
    (hrow : s.preRow enc C.prog fn conds apart laid (w0.forCall (fun _ _ => 0) ⟨#[], args, []⟩).memory args) :
    ∃ (w : World) (tape : Tape) (i : Input), w.os = os ∧ (w.forCall tape i).Shaped C.prog ∧ i.vars = [] ∧ Input.okWide C.prog (w.forCall tape i) .any w.heap.size f i ∧
      s.preRow enc C.prog fn conds apart laid (w.forCall tape i).memory i.args ∧ ({ modest := modest } : Assume).holds C.prog (lone (Frame.enter C.prog f i.args .normal) [] (w.forCall tape i)) :=
  ⟨w0, fun _ _ => 0, ⟨#[], args, []⟩, hos, hsh, (Input.okWide_of_okWideB (base := 0) hok).1, (Input.okWide_of_okWideB hok).2, hrow, by
    simp only [Assume.holds]
    exact ⟨by simp, by simp, fun _ => Modest.zero, by simp, by simp⟩⟩
end
end Go.Proofs.YtmoffcgbjmeiaaaGreatDoor
