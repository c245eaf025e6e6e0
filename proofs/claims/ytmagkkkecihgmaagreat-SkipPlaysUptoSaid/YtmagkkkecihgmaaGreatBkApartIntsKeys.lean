/-
  The book of lists, where Ints, Keys alone were kept: each is as it was, and none shares memory with another. (Written by wip/gen/gen_bkapart.py.)
-/
import Derived.Test.YtmagkkkecihgmaaGreatBookNil
import Derived.Test.YtmagkkkecihgmaaGreatBkInts4
import Derived.Test.YtmagkkkecihgmaaGreatBkKeys4
namespace Go.Proofs.YtmagkkkecihgmaaGreat
open Go.RowKit

set_option maxRecDepth 100000 in
set_option maxHeartbeats 16000000 in
theorem apartIntsKeys (B bk : Nat) (bcs : Array Value) (ZInts : List (List (Int))) (SInts : Nat) (ZKeys : List (List (ByteArray × ByteArray))) (SKeys : Nat) (w : World) (hb : Blk w bk 53 bcs) (hInts : KStInts w B bcs ZInts SInts) (hKeys : KStKeys w B bcs ZKeys SKeys) (hnil : ∀ j, j < 30 → j ≠ 2 → j ≠ 3 → j ≠ 6 → j ≠ 7 → bcs[j]? = some (.slice none 0 0)) (hB : B ≤ w.heap.size) :
    Calls Tryz.prog 27 #[.pointer (some ⟨bk, 0, none⟩)] w fun e w' => e = .returned (.bool true) ∧ Below B w w' := by
  have HB := Lib.hid hb
  have HN := Lib.hid hnil
  obtain ⟨v1Ints, v2Ints, aInts, cInts, f1Ints, f2Ints, x1, x2, _, x3, x4, x5, _, hmInts⟩ := hInts
  obtain ⟨vaInts, vcInts, rfl⟩ := srow_slice x1
  have hzInts : Hid (∀ i, i < ZInts.length → (ZInts.getD i []).length ≤ 1000000 ∧ ∀ x ∈ ZInts.getD i [], okInts x) := fun i hi => ⟨Nat.le_trans (x5 i hi).1 (by decide), (x5 i hi).2⟩
  have hlInts : Hid (∀ i, i < ZInts.length → (ZInts.getD i []).length ≤ 100000) := fun i hi => (x5 i hi).1
  have PInts : Hid (PSt elInts 3 68 w B (.slice vaInts ZInts.length vcInts) aInts ZInts.length (fun i => ZInts.getD i [])) := ⟨x1, x3⟩
  have r2Ints := Lib.hid x2
  have rcInts := Lib.hid x4
  clear x1 x2 x3 x4 x5
  obtain ⟨mInts, hmmInts⟩ : ∃ m, m = ZInts.length := ⟨_, rfl⟩
  rw [← hmmInts] at hmInts hzInts hlInts PInts r2Ints rcInts f1Ints
  clear hmmInts
  obtain ⟨v1Keys, v2Keys, aKeys, cKeys, f1Keys, f2Keys, x1, x2, _, x3, x4, x5, _, hmKeys⟩ := hKeys
  obtain ⟨vaKeys, vcKeys, rfl⟩ := srow_slice x1
  have hzKeys : Hid (∀ i, i < ZKeys.length → (ZKeys.getD i []).length ≤ 1000000 ∧ ∀ x ∈ ZKeys.getD i [], okKeys x) := fun i hi => ⟨Nat.le_trans (x5 i hi).1 (by decide), (x5 i hi).2⟩
  have hlKeys : Hid (∀ i, i < ZKeys.length → (ZKeys.getD i []).length ≤ 100000) := fun i hi => (x5 i hi).1
  have PKeys : Hid (PSt elKeys 78 60 w B (.slice vaKeys ZKeys.length vcKeys) aKeys ZKeys.length (fun i => ZKeys.getD i [])) := ⟨x1, x3⟩
  have r2Keys := Lib.hid x2
  have rcKeys := Lib.hid x4
  clear x1 x2 x3 x4 x5
  obtain ⟨mKeys, hmmKeys⟩ : ∃ m, m = ZKeys.length := ⟨_, rfl⟩
  rw [← hmmKeys] at hmKeys hzKeys hlKeys PKeys r2Keys rcKeys f1Keys
  clear hmmKeys
  clear hb hnil
  go_enter Tryz.func27, Tryz.ntmps27
  go_wp2_with fail
  refine (stillTexts_nil bk _ (by rw [HB.out.cell 0]; exact HN.out 0 (by decide) (by decide) (by decide) (by decide) (by decide))).mono ?_
  rintro e w2 ⟨rfl, rfl⟩
  go_wp2_with fail
  refine (stillInts_any B bk mInts (.slice vaInts mInts vcInts) v2Ints aInts cInts _ w (by rw [HB.out.cell 2]; exact f1Ints) (by rw [HB.out.cell 3]; exact f2Ints) PInts.out.r1 r2Ints.out PInts.out.ra.each rcInts.out hzInts.out hmInts).mono ?_
  rintro e W1 ⟨rfl, q1, hq1⟩
  have T1 : Tn B (fun _ => false) w W1 := by rw [hq1]; exact (Tn.refl _ _ _).drewN _
  replace HB := Lib.hid (T1.blk HB.out rfl)
  have L1 := Lib.hid (T1.below (hB))
  replace PInts := Lib.hid (PInts.out.tn T1 (fun _ _ => rfl) (fun _ _ => rfl))
  replace PKeys := Lib.hid (PKeys.out.tn T1 (fun _ _ => rfl) (fun _ _ => rfl))
  replace r2Ints := Lib.hid (T1.own r2Ints.out (fun _ _ => rfl))
  replace r2Keys := Lib.hid (T1.own r2Keys.out (fun _ _ => rfl))
  replace rcInts := Lib.hid (fun i hi => (rcInts.out i hi).tn T1 (fun _ _ => rfl))
  replace rcKeys := Lib.hid (fun i hi => (rcKeys.out i hi).tn T1 (fun _ _ => rfl))
  clear hq1 T1
  go_wp2_with fail
  refine (stillVecs_nil bk _ (by rw [HB.out.cell 4]; exact HN.out 4 (by decide) (by decide) (by decide) (by decide) (by decide))).mono ?_
  rintro e w2 ⟨rfl, rfl⟩
  go_wp2_with fail
  refine (stillKeys_any B bk mKeys (.slice vaKeys mKeys vcKeys) v2Keys aKeys cKeys _ W1 (by rw [HB.out.cell 6]; exact f1Keys) (by rw [HB.out.cell 7]; exact f2Keys) PKeys.out.r1 r2Keys.out PKeys.out.ra.each rcKeys.out hzKeys.out hmKeys).mono ?_
  rintro e W2 ⟨rfl, q2, hq2⟩
  have T2 : Tn B (fun _ => false) W1 W2 := by rw [hq2]; exact (Tn.refl _ _ _).drewN _
  replace HB := Lib.hid (T2.blk HB.out rfl)
  have L2 := Lib.hid (L1.out.trans (T2.below (Nat.le_trans hB L1.out.size)))
  replace PInts := Lib.hid (PInts.out.tn T2 (fun _ _ => rfl) (fun _ _ => rfl))
  replace PKeys := Lib.hid (PKeys.out.tn T2 (fun _ _ => rfl) (fun _ _ => rfl))
  replace r2Ints := Lib.hid (T2.own r2Ints.out (fun _ _ => rfl))
  replace r2Keys := Lib.hid (T2.own r2Keys.out (fun _ _ => rfl))
  replace rcInts := Lib.hid (fun i hi => (rcInts.out i hi).tn T2 (fun _ _ => rfl))
  replace rcKeys := Lib.hid (fun i hi => (rcKeys.out i hi).tn T2 (fun _ _ => rfl))
  clear hq2 T2
  go_wp2_with fail
  refine (stillPairs_nil bk _ (by rw [HB.out.cell 8]; exact HN.out 8 (by decide) (by decide) (by decide) (by decide) (by decide))).mono ?_
  rintro e w2 ⟨rfl, rfl⟩
  go_wp2_with fail
  refine (stillVersions_nil bk _ (by rw [HB.out.cell 10]; exact HN.out 10 (by decide) (by decide) (by decide) (by decide) (by decide))).mono ?_
  rintro e w2 ⟨rfl, rfl⟩
  go_wp2_with fail
  refine (stillWrites_nil bk _ (by rw [HB.out.cell 12]; exact HN.out 12 (by decide) (by decide) (by decide) (by decide) (by decide))).mono ?_
  rintro e w2 ⟨rfl, rfl⟩
  go_wp2_with fail
  refine (stillTxns_nil bk _ (by rw [HB.out.cell 14]; exact HN.out 14 (by decide) (by decide) (by decide) (by decide) (by decide))).mono ?_
  rintro e w2 ⟨rfl, rfl⟩
  go_wp2_with fail
  refine (stillFiles_nil bk _ (by rw [HB.out.cell 16]; exact HN.out 16 (by decide) (by decide) (by decide) (by decide) (by decide))).mono ?_
  rintro e w2 ⟨rfl, rfl⟩
  go_wp2_with fail
  refine (stillNotes_nil bk _ (by rw [HB.out.cell 18]; exact HN.out 18 (by decide) (by decide) (by decide) (by decide) (by decide))).mono ?_
  rintro e w2 ⟨rfl, rfl⟩
  go_wp2_with fail
  refine (stillLeases_nil bk _ (by rw [HB.out.cell 20]; exact HN.out 20 (by decide) (by decide) (by decide) (by decide) (by decide))).mono ?_
  rintro e w2 ⟨rfl, rfl⟩
  go_wp2_with fail
  refine (stillLetters_nil bk _ (by rw [HB.out.cell 22]; exact HN.out 22 (by decide) (by decide) (by decide) (by decide) (by decide))).mono ?_
  rintro e w2 ⟨rfl, rfl⟩
  go_wp2_with fail
  refine (stillSteps_nil bk _ (by rw [HB.out.cell 24]; exact HN.out 24 (by decide) (by decide) (by decide) (by decide) (by decide))).mono ?_
  rintro e w2 ⟨rfl, rfl⟩
  go_wp2_with fail
  refine (stillReals_nil bk _ (by rw [HB.out.cell 26]; exact HN.out 26 (by decide) (by decide) (by decide) (by decide) (by decide))).mono ?_
  rintro e w2 ⟨rfl, rfl⟩
  go_wp2_with fail
  refine (stillLists_nil bk _ (by rw [HB.out.cell 28]; exact HN.out 28 (by decide) (by decide) (by decide) (by decide) (by decide))).mono ?_
  rintro e w2 ⟨rfl, rfl⟩
  go_wp2_with fail
  refine (putVersions_nil bk _ (by rw [HB.out.cell 10]; exact HN.out 10 (by decide) (by decide) (by decide) (by decide) (by decide))).mono ?_
  rintro e w2 ⟨rfl, rfl⟩
  go_wp2_with fail
  refine (putTxns_nil bk _ (by rw [HB.out.cell 14]; exact HN.out 14 (by decide) (by decide) (by decide) (by decide) (by decide))).mono ?_
  rintro e w2 ⟨rfl, rfl⟩
  go_wp2_with fail
  refine (putLeases_nil bk _ (by rw [HB.out.cell 20]; exact HN.out 20 (by decide) (by decide) (by decide) (by decide) (by decide))).mono ?_
  rintro e w2 ⟨rfl, rfl⟩
  go_wp2_with fail
  refine (putSteps_nil bk _ (by rw [HB.out.cell 24]; exact HN.out 24 (by decide) (by decide) (by decide) (by decide) (by decide))).mono ?_
  rintro e w2 ⟨rfl, rfl⟩
  go_wp2_with fail
  refine (putLists_nil bk _ (by rw [HB.out.cell 28]; exact HN.out 28 (by decide) (by decide) (by decide) (by decide) (by decide))).mono ?_
  rintro e w2 ⟨rfl, rfl⟩
  go_wp2_with fail
  refine (putTexts_nil bk _ (by rw [HB.out.cell 0]; exact HN.out 0 (by decide) (by decide) (by decide) (by decide) (by decide))).mono ?_
  rintro e w2 ⟨rfl, rfl⟩
  go_wp2_with fail
  refine (putInts_any B bk mInts bcs (.slice vaInts mInts vcInts) aInts _ W2 HB.out f1Ints PInts.out.r1 PInts.out.ra (fun i hi => (hlInts.out i hi)) hmInts (Nat.le_trans hB L2.out.size)).mono ?_
  rintro e W3 ⟨rfl, hR3, T3⟩
  replace HB := Lib.hid (T3.blk HB.out (cellsT_ne (by decide) _ _))
  have L3 := Lib.hid (L2.out.trans (T3.below (Nat.le_trans hB L2.out.size)))
  replace PInts : Hid (PSt elInts 3 68 W3 B (.slice vaInts mInts vcInts) aInts mInts (fun i => elInts.marks i 0 (ZInts.getD i []).length)) := ⟨T3.own PInts.out.r1 (fun cs fr => cellsT_ne (by decide) _ _), hR3⟩
  replace PKeys := Lib.hid (PKeys.out.tn T3 (fun cs fr => cellsT_ne (by decide) _ _) (fun cs fr => cellsT_ne (by decide) _ _))
  clear hR3 T3
  go_wp2_with fail
  refine (putVecs_nil bk _ (by rw [HB.out.cell 4]; exact HN.out 4 (by decide) (by decide) (by decide) (by decide) (by decide))).mono ?_
  rintro e w2 ⟨rfl, rfl⟩
  go_wp2_with fail
  refine (putKeys_any B bk mKeys bcs (.slice vaKeys mKeys vcKeys) aKeys _ W3 HB.out f1Keys PKeys.out.r1 PKeys.out.ra (fun i hi => (hlKeys.out i hi)) hmKeys (Nat.le_trans hB L3.out.size)).mono ?_
  rintro e W4 ⟨rfl, hR4, T4⟩
  replace HB := Lib.hid (T4.blk HB.out (cellsT_ne (by decide) _ _))
  have L4 := Lib.hid (L3.out.trans (T4.below (Nat.le_trans hB L3.out.size)))
  replace PKeys : Hid (PSt elKeys 78 60 W4 B (.slice vaKeys mKeys vcKeys) aKeys mKeys (fun i => elKeys.marks i 0 (ZKeys.getD i []).length)) := ⟨T4.own PKeys.out.r1 (fun cs fr => cellsT_ne (by decide) _ _), hR4⟩
  replace PInts := Lib.hid (PInts.out.tn T4 (fun cs fr => cellsT_ne (by decide) _ _) (fun cs fr => cellsT_ne (by decide) _ _))
  clear hR4 T4
  go_wp2_with fail
  refine (putPairs_nil bk _ (by rw [HB.out.cell 8]; exact HN.out 8 (by decide) (by decide) (by decide) (by decide) (by decide))).mono ?_
  rintro e w2 ⟨rfl, rfl⟩
  go_wp2_with fail
  refine (putWrites_nil bk _ (by rw [HB.out.cell 12]; exact HN.out 12 (by decide) (by decide) (by decide) (by decide) (by decide))).mono ?_
  rintro e w2 ⟨rfl, rfl⟩
  go_wp2_with fail
  refine (putFiles_nil bk _ (by rw [HB.out.cell 16]; exact HN.out 16 (by decide) (by decide) (by decide) (by decide) (by decide))).mono ?_
  rintro e w2 ⟨rfl, rfl⟩
  go_wp2_with fail
  refine (putNotes_nil bk _ (by rw [HB.out.cell 18]; exact HN.out 18 (by decide) (by decide) (by decide) (by decide) (by decide))).mono ?_
  rintro e w2 ⟨rfl, rfl⟩
  go_wp2_with fail
  refine (putLetters_nil bk _ (by rw [HB.out.cell 22]; exact HN.out 22 (by decide) (by decide) (by decide) (by decide) (by decide))).mono ?_
  rintro e w2 ⟨rfl, rfl⟩
  go_wp2_with fail
  refine (putReals_nil bk _ (by rw [HB.out.cell 26]; exact HN.out 26 (by decide) (by decide) (by decide) (by decide) (by decide))).mono ?_
  rintro e w2 ⟨rfl, rfl⟩
  go_wp2_with fail
  refine (growTexts_nil bk _ (by rw [HB.out.cell 0]; exact HN.out 0 (by decide) (by decide) (by decide) (by decide) (by decide))).mono ?_
  rintro e w2 ⟨rfl, rfl⟩
  go_wp2_with fail
  refine (growInts_any B bk mInts bcs (.slice vaInts mInts vcInts) aInts (fun i => (ZInts.getD i []).length) W4 HB.out f1Ints PInts.out.r1 PInts.out.ra (fun i hi => (hlInts.out i hi)) hmInts (Nat.le_trans hB L4.out.size)).mono ?_
  rintro e W5 ⟨gInts, bInts, rfl, hO5, hF5, T5⟩
  replace HB := Lib.hid (T5.blk HB.out (cellsT_ne (by decide) _ _))
  have L5 := Lib.hid (L4.out.trans (T5.below (Nat.le_trans hB L4.out.size)))
  obtain ⟨gaInts, gcInts, rfl⟩ := srow_slice hO5
  have r1Ints := Lib.hid (T5.own PInts.out.r1 (fun cs fr => cellsT_ne (by decide) _ _))
  have fmInts := Lib.hid hF5
  have ogInts := Lib.hid hO5
  clear PInts
  replace PKeys := Lib.hid (PKeys.out.tn T5 (fun cs fr => cellsT_ne (by decide) _ _) (fun cs fr => cellsT_ne (by decide) _ _))
  clear hO5 hF5 T5
  go_wp2_with fail
  refine (growVecs_nil bk _ (by rw [HB.out.cell 4]; exact HN.out 4 (by decide) (by decide) (by decide) (by decide) (by decide))).mono ?_
  rintro e w2 ⟨rfl, rfl⟩
  go_wp2_with fail
  refine (growKeys_any B bk mKeys bcs (.slice vaKeys mKeys vcKeys) aKeys (fun i => (ZKeys.getD i []).length) W5 HB.out f1Keys PKeys.out.r1 PKeys.out.ra (fun i hi => (hlKeys.out i hi)) hmKeys (Nat.le_trans hB L5.out.size)).mono ?_
  rintro e W6 ⟨gKeys, bKeys, rfl, hO6, hF6, T6⟩
  replace HB := Lib.hid (T6.blk HB.out (cellsT_ne (by decide) _ _))
  have L6 := Lib.hid (L5.out.trans (T6.below (Nat.le_trans hB L5.out.size)))
  obtain ⟨gaKeys, gcKeys, rfl⟩ := srow_slice hO6
  have r1Keys := Lib.hid (T6.own PKeys.out.r1 (fun cs fr => cellsT_ne (by decide) _ _))
  have fmKeys := Lib.hid hF6
  have ogKeys := Lib.hid hO6
  clear PKeys
  replace r1Ints := Lib.hid (T6.own r1Ints.out (fun cs fr => cellsT_ne (by decide) _ _))
  replace fmInts := Lib.hid (fmInts.out.tn T6 (fun cs fr => cellsT_ne (by decide) _ _))
  replace ogInts := Lib.hid (T6.own ogInts.out (fun cs fr => cellsT_ne (by decide) _ _))
  clear hO6 hF6 T6
  go_wp2_with fail
  refine (growPairs_nil bk _ (by rw [HB.out.cell 8]; exact HN.out 8 (by decide) (by decide) (by decide) (by decide) (by decide))).mono ?_
  rintro e w2 ⟨rfl, rfl⟩
  go_wp2_with fail
  refine (growVersions_nil bk _ (by rw [HB.out.cell 10]; exact HN.out 10 (by decide) (by decide) (by decide) (by decide) (by decide))).mono ?_
  rintro e w2 ⟨rfl, rfl⟩
  go_wp2_with fail
  refine (growWrites_nil bk _ (by rw [HB.out.cell 12]; exact HN.out 12 (by decide) (by decide) (by decide) (by decide) (by decide))).mono ?_
  rintro e w2 ⟨rfl, rfl⟩
  go_wp2_with fail
  refine (growTxns_nil bk _ (by rw [HB.out.cell 14]; exact HN.out 14 (by decide) (by decide) (by decide) (by decide) (by decide))).mono ?_
  rintro e w2 ⟨rfl, rfl⟩
  go_wp2_with fail
  refine (growFiles_nil bk _ (by rw [HB.out.cell 16]; exact HN.out 16 (by decide) (by decide) (by decide) (by decide) (by decide))).mono ?_
  rintro e w2 ⟨rfl, rfl⟩
  go_wp2_with fail
  refine (growNotes_nil bk _ (by rw [HB.out.cell 18]; exact HN.out 18 (by decide) (by decide) (by decide) (by decide) (by decide))).mono ?_
  rintro e w2 ⟨rfl, rfl⟩
  go_wp2_with fail
  refine (growLeases_nil bk _ (by rw [HB.out.cell 20]; exact HN.out 20 (by decide) (by decide) (by decide) (by decide) (by decide))).mono ?_
  rintro e w2 ⟨rfl, rfl⟩
  go_wp2_with fail
  refine (growLetters_nil bk _ (by rw [HB.out.cell 22]; exact HN.out 22 (by decide) (by decide) (by decide) (by decide) (by decide))).mono ?_
  rintro e w2 ⟨rfl, rfl⟩
  go_wp2_with fail
  refine (growSteps_nil bk _ (by rw [HB.out.cell 24]; exact HN.out 24 (by decide) (by decide) (by decide) (by decide) (by decide))).mono ?_
  rintro e w2 ⟨rfl, rfl⟩
  go_wp2_with fail
  refine (growReals_nil bk _ (by rw [HB.out.cell 26]; exact HN.out 26 (by decide) (by decide) (by decide) (by decide) (by decide))).mono ?_
  rintro e w2 ⟨rfl, rfl⟩
  go_wp2_with fail
  refine (growLists_nil bk _ (by rw [HB.out.cell 28]; exact HN.out 28 (by decide) (by decide) (by decide) (by decide) (by decide))).mono ?_
  rintro e w2 ⟨rfl, rfl⟩
  have cTexts : W6.cell? ⟨bk, 0, none⟩ = some (.slice none 0 0) := by rw [HB.out.cell 0]; exact HN.out 0 (by decide) (by decide) (by decide) (by decide) (by decide)
  have cInts : W6.cell? ⟨bk, 2, none⟩ = some (.slice vaInts mInts vcInts) := by rw [HB.out.cell 2]; exact f1Ints
  have cVecs : W6.cell? ⟨bk, 4, none⟩ = some (.slice none 0 0) := by rw [HB.out.cell 4]; exact HN.out 4 (by decide) (by decide) (by decide) (by decide) (by decide)
  have cKeys : W6.cell? ⟨bk, 6, none⟩ = some (.slice vaKeys mKeys vcKeys) := by rw [HB.out.cell 6]; exact f1Keys
  have cPairs : W6.cell? ⟨bk, 8, none⟩ = some (.slice none 0 0) := by rw [HB.out.cell 8]; exact HN.out 8 (by decide) (by decide) (by decide) (by decide) (by decide)
  have cVersions : W6.cell? ⟨bk, 10, none⟩ = some (.slice none 0 0) := by rw [HB.out.cell 10]; exact HN.out 10 (by decide) (by decide) (by decide) (by decide) (by decide)
  have cWrites : W6.cell? ⟨bk, 12, none⟩ = some (.slice none 0 0) := by rw [HB.out.cell 12]; exact HN.out 12 (by decide) (by decide) (by decide) (by decide) (by decide)
  have cTxns : W6.cell? ⟨bk, 14, none⟩ = some (.slice none 0 0) := by rw [HB.out.cell 14]; exact HN.out 14 (by decide) (by decide) (by decide) (by decide) (by decide)
  have cFiles : W6.cell? ⟨bk, 16, none⟩ = some (.slice none 0 0) := by rw [HB.out.cell 16]; exact HN.out 16 (by decide) (by decide) (by decide) (by decide) (by decide)
  have cNotes : W6.cell? ⟨bk, 18, none⟩ = some (.slice none 0 0) := by rw [HB.out.cell 18]; exact HN.out 18 (by decide) (by decide) (by decide) (by decide) (by decide)
  have cLeases : W6.cell? ⟨bk, 20, none⟩ = some (.slice none 0 0) := by rw [HB.out.cell 20]; exact HN.out 20 (by decide) (by decide) (by decide) (by decide) (by decide)
  have cLetters : W6.cell? ⟨bk, 22, none⟩ = some (.slice none 0 0) := by rw [HB.out.cell 22]; exact HN.out 22 (by decide) (by decide) (by decide) (by decide) (by decide)
  have cSteps : W6.cell? ⟨bk, 24, none⟩ = some (.slice none 0 0) := by rw [HB.out.cell 24]; exact HN.out 24 (by decide) (by decide) (by decide) (by decide) (by decide)
  have cReals : W6.cell? ⟨bk, 26, none⟩ = some (.slice none 0 0) := by rw [HB.out.cell 26]; exact HN.out 26 (by decide) (by decide) (by decide) (by decide) (by decide)
  have cLists : W6.cell? ⟨bk, 28, none⟩ = some (.slice none 0 0) := by rw [HB.out.cell 28]; exact HN.out 28 (by decide) (by decide) (by decide) (by decide) (by decide)
  go_wp2_with fail
  refine (markedTexts_nil W6).mono ?_
  rintro e w2 ⟨rfl, rfl⟩
  go_wp2_with fail
  refine (markedTexts_nil W6).mono ?_
  rintro e w2 ⟨rfl, rfl⟩
  go_wp2_with fail
  refine (markedInts_any B _ mInts _ bInts (fun i => (ZInts.getD i []).length + 72) W6 ogInts.out (fun i hi => fmInts.out.rb i hi) (fun i hi => by have := hlInts.out i hi; omega) hmInts).mono ?_
  rintro e W7 ⟨rfl, hg7⟩
  have T7 : Tn B (fun _ => false) W6 W7 := Tn.of_grown hg7
  replace HB := Lib.hid (T7.blk HB.out rfl)
  have L7 := Lib.hid (L6.out.trans (T7.below (Nat.le_trans hB L6.out.size)))
  replace r1Ints := Lib.hid (T7.own r1Ints.out (fun _ _ => rfl))
  replace r1Keys := Lib.hid (T7.own r1Keys.out (fun _ _ => rfl))
  replace fmInts := Lib.hid (fmInts.out.tn T7 (fun _ _ => rfl))
  replace fmKeys := Lib.hid (fmKeys.out.tn T7 (fun _ _ => rfl))
  replace ogInts := Lib.hid (T7.own ogInts.out (fun _ _ => rfl))
  replace ogKeys := Lib.hid (T7.own ogKeys.out (fun _ _ => rfl))
  clear hg7 T7 cInts cVecs cKeys cPairs cVersions cWrites cTxns cFiles cNotes cLeases cLetters cSteps cReals cLists
  have cInts : W7.cell? ⟨bk, 2, none⟩ = some (.slice vaInts mInts vcInts) := by rw [HB.out.cell 2]; exact f1Ints
  have cVecs : W7.cell? ⟨bk, 4, none⟩ = some (.slice none 0 0) := by rw [HB.out.cell 4]; exact HN.out 4 (by decide) (by decide) (by decide) (by decide) (by decide)
  have cKeys : W7.cell? ⟨bk, 6, none⟩ = some (.slice vaKeys mKeys vcKeys) := by rw [HB.out.cell 6]; exact f1Keys
  have cPairs : W7.cell? ⟨bk, 8, none⟩ = some (.slice none 0 0) := by rw [HB.out.cell 8]; exact HN.out 8 (by decide) (by decide) (by decide) (by decide) (by decide)
  have cVersions : W7.cell? ⟨bk, 10, none⟩ = some (.slice none 0 0) := by rw [HB.out.cell 10]; exact HN.out 10 (by decide) (by decide) (by decide) (by decide) (by decide)
  have cWrites : W7.cell? ⟨bk, 12, none⟩ = some (.slice none 0 0) := by rw [HB.out.cell 12]; exact HN.out 12 (by decide) (by decide) (by decide) (by decide) (by decide)
  have cTxns : W7.cell? ⟨bk, 14, none⟩ = some (.slice none 0 0) := by rw [HB.out.cell 14]; exact HN.out 14 (by decide) (by decide) (by decide) (by decide) (by decide)
  have cFiles : W7.cell? ⟨bk, 16, none⟩ = some (.slice none 0 0) := by rw [HB.out.cell 16]; exact HN.out 16 (by decide) (by decide) (by decide) (by decide) (by decide)
  have cNotes : W7.cell? ⟨bk, 18, none⟩ = some (.slice none 0 0) := by rw [HB.out.cell 18]; exact HN.out 18 (by decide) (by decide) (by decide) (by decide) (by decide)
  have cLeases : W7.cell? ⟨bk, 20, none⟩ = some (.slice none 0 0) := by rw [HB.out.cell 20]; exact HN.out 20 (by decide) (by decide) (by decide) (by decide) (by decide)
  have cLetters : W7.cell? ⟨bk, 22, none⟩ = some (.slice none 0 0) := by rw [HB.out.cell 22]; exact HN.out 22 (by decide) (by decide) (by decide) (by decide) (by decide)
  have cSteps : W7.cell? ⟨bk, 24, none⟩ = some (.slice none 0 0) := by rw [HB.out.cell 24]; exact HN.out 24 (by decide) (by decide) (by decide) (by decide) (by decide)
  have cReals : W7.cell? ⟨bk, 26, none⟩ = some (.slice none 0 0) := by rw [HB.out.cell 26]; exact HN.out 26 (by decide) (by decide) (by decide) (by decide) (by decide)
  have cLists : W7.cell? ⟨bk, 28, none⟩ = some (.slice none 0 0) := by rw [HB.out.cell 28]; exact HN.out 28 (by decide) (by decide) (by decide) (by decide) (by decide)
  go_wp2_with fail
  refine (markedInts_any B B mInts _ aInts (fun i => (ZInts.getD i []).length) W7 r1Ints.out (fun i hi => fmInts.out.ra i hi) (fun i hi => by have := hlInts.out i hi; omega) hmInts).mono ?_
  rintro e W8 ⟨rfl, hg8⟩
  have T8 : Tn B (fun _ => false) W7 W8 := Tn.of_grown hg8
  replace HB := Lib.hid (T8.blk HB.out rfl)
  have L8 := Lib.hid (L7.out.trans (T8.below (Nat.le_trans hB L7.out.size)))
  replace r1Ints := Lib.hid (T8.own r1Ints.out (fun _ _ => rfl))
  replace r1Keys := Lib.hid (T8.own r1Keys.out (fun _ _ => rfl))
  replace fmInts := Lib.hid (fmInts.out.tn T8 (fun _ _ => rfl))
  replace fmKeys := Lib.hid (fmKeys.out.tn T8 (fun _ _ => rfl))
  replace ogInts := Lib.hid (T8.own ogInts.out (fun _ _ => rfl))
  replace ogKeys := Lib.hid (T8.own ogKeys.out (fun _ _ => rfl))
  clear hg8 T8 cInts cVecs cKeys cPairs cVersions cWrites cTxns cFiles cNotes cLeases cLetters cSteps cReals cLists
  have cInts : W8.cell? ⟨bk, 2, none⟩ = some (.slice vaInts mInts vcInts) := by rw [HB.out.cell 2]; exact f1Ints
  have cVecs : W8.cell? ⟨bk, 4, none⟩ = some (.slice none 0 0) := by rw [HB.out.cell 4]; exact HN.out 4 (by decide) (by decide) (by decide) (by decide) (by decide)
  have cKeys : W8.cell? ⟨bk, 6, none⟩ = some (.slice vaKeys mKeys vcKeys) := by rw [HB.out.cell 6]; exact f1Keys
  have cPairs : W8.cell? ⟨bk, 8, none⟩ = some (.slice none 0 0) := by rw [HB.out.cell 8]; exact HN.out 8 (by decide) (by decide) (by decide) (by decide) (by decide)
  have cVersions : W8.cell? ⟨bk, 10, none⟩ = some (.slice none 0 0) := by rw [HB.out.cell 10]; exact HN.out 10 (by decide) (by decide) (by decide) (by decide) (by decide)
  have cWrites : W8.cell? ⟨bk, 12, none⟩ = some (.slice none 0 0) := by rw [HB.out.cell 12]; exact HN.out 12 (by decide) (by decide) (by decide) (by decide) (by decide)
  have cTxns : W8.cell? ⟨bk, 14, none⟩ = some (.slice none 0 0) := by rw [HB.out.cell 14]; exact HN.out 14 (by decide) (by decide) (by decide) (by decide) (by decide)
  have cFiles : W8.cell? ⟨bk, 16, none⟩ = some (.slice none 0 0) := by rw [HB.out.cell 16]; exact HN.out 16 (by decide) (by decide) (by decide) (by decide) (by decide)
  have cNotes : W8.cell? ⟨bk, 18, none⟩ = some (.slice none 0 0) := by rw [HB.out.cell 18]; exact HN.out 18 (by decide) (by decide) (by decide) (by decide) (by decide)
  have cLeases : W8.cell? ⟨bk, 20, none⟩ = some (.slice none 0 0) := by rw [HB.out.cell 20]; exact HN.out 20 (by decide) (by decide) (by decide) (by decide) (by decide)
  have cLetters : W8.cell? ⟨bk, 22, none⟩ = some (.slice none 0 0) := by rw [HB.out.cell 22]; exact HN.out 22 (by decide) (by decide) (by decide) (by decide) (by decide)
  have cSteps : W8.cell? ⟨bk, 24, none⟩ = some (.slice none 0 0) := by rw [HB.out.cell 24]; exact HN.out 24 (by decide) (by decide) (by decide) (by decide) (by decide)
  have cReals : W8.cell? ⟨bk, 26, none⟩ = some (.slice none 0 0) := by rw [HB.out.cell 26]; exact HN.out 26 (by decide) (by decide) (by decide) (by decide) (by decide)
  have cLists : W8.cell? ⟨bk, 28, none⟩ = some (.slice none 0 0) := by rw [HB.out.cell 28]; exact HN.out 28 (by decide) (by decide) (by decide) (by decide) (by decide)
  go_wp2_with fail
  refine (markedVecs_nil W8).mono ?_
  rintro e w2 ⟨rfl, rfl⟩
  go_wp2_with fail
  refine (markedVecs_nil W8).mono ?_
  rintro e w2 ⟨rfl, rfl⟩
  go_wp2_with fail
  refine (markedKeys_any B _ mKeys _ bKeys (fun i => (ZKeys.getD i []).length + 72) W8 ogKeys.out (fun i hi => fmKeys.out.rb i hi) (fun i hi => by have := hlKeys.out i hi; omega) hmKeys).mono ?_
  rintro e W9 ⟨rfl, hg9⟩
  have T9 : Tn B (fun _ => false) W8 W9 := Tn.of_grown hg9
  replace HB := Lib.hid (T9.blk HB.out rfl)
  have L9 := Lib.hid (L8.out.trans (T9.below (Nat.le_trans hB L8.out.size)))
  replace r1Ints := Lib.hid (T9.own r1Ints.out (fun _ _ => rfl))
  replace r1Keys := Lib.hid (T9.own r1Keys.out (fun _ _ => rfl))
  replace fmInts := Lib.hid (fmInts.out.tn T9 (fun _ _ => rfl))
  replace fmKeys := Lib.hid (fmKeys.out.tn T9 (fun _ _ => rfl))
  replace ogInts := Lib.hid (T9.own ogInts.out (fun _ _ => rfl))
  replace ogKeys := Lib.hid (T9.own ogKeys.out (fun _ _ => rfl))
  clear hg9 T9 cKeys cPairs cVersions cWrites cTxns cFiles cNotes cLeases cLetters cSteps cReals cLists
  have cKeys : W9.cell? ⟨bk, 6, none⟩ = some (.slice vaKeys mKeys vcKeys) := by rw [HB.out.cell 6]; exact f1Keys
  have cPairs : W9.cell? ⟨bk, 8, none⟩ = some (.slice none 0 0) := by rw [HB.out.cell 8]; exact HN.out 8 (by decide) (by decide) (by decide) (by decide) (by decide)
  have cVersions : W9.cell? ⟨bk, 10, none⟩ = some (.slice none 0 0) := by rw [HB.out.cell 10]; exact HN.out 10 (by decide) (by decide) (by decide) (by decide) (by decide)
  have cWrites : W9.cell? ⟨bk, 12, none⟩ = some (.slice none 0 0) := by rw [HB.out.cell 12]; exact HN.out 12 (by decide) (by decide) (by decide) (by decide) (by decide)
  have cTxns : W9.cell? ⟨bk, 14, none⟩ = some (.slice none 0 0) := by rw [HB.out.cell 14]; exact HN.out 14 (by decide) (by decide) (by decide) (by decide) (by decide)
  have cFiles : W9.cell? ⟨bk, 16, none⟩ = some (.slice none 0 0) := by rw [HB.out.cell 16]; exact HN.out 16 (by decide) (by decide) (by decide) (by decide) (by decide)
  have cNotes : W9.cell? ⟨bk, 18, none⟩ = some (.slice none 0 0) := by rw [HB.out.cell 18]; exact HN.out 18 (by decide) (by decide) (by decide) (by decide) (by decide)
  have cLeases : W9.cell? ⟨bk, 20, none⟩ = some (.slice none 0 0) := by rw [HB.out.cell 20]; exact HN.out 20 (by decide) (by decide) (by decide) (by decide) (by decide)
  have cLetters : W9.cell? ⟨bk, 22, none⟩ = some (.slice none 0 0) := by rw [HB.out.cell 22]; exact HN.out 22 (by decide) (by decide) (by decide) (by decide) (by decide)
  have cSteps : W9.cell? ⟨bk, 24, none⟩ = some (.slice none 0 0) := by rw [HB.out.cell 24]; exact HN.out 24 (by decide) (by decide) (by decide) (by decide) (by decide)
  have cReals : W9.cell? ⟨bk, 26, none⟩ = some (.slice none 0 0) := by rw [HB.out.cell 26]; exact HN.out 26 (by decide) (by decide) (by decide) (by decide) (by decide)
  have cLists : W9.cell? ⟨bk, 28, none⟩ = some (.slice none 0 0) := by rw [HB.out.cell 28]; exact HN.out 28 (by decide) (by decide) (by decide) (by decide) (by decide)
  go_wp2_with fail
  refine (markedKeys_any B B mKeys _ aKeys (fun i => (ZKeys.getD i []).length) W9 r1Keys.out (fun i hi => fmKeys.out.ra i hi) (fun i hi => by have := hlKeys.out i hi; omega) hmKeys).mono ?_
  rintro e W10 ⟨rfl, hg10⟩
  have T10 : Tn B (fun _ => false) W9 W10 := Tn.of_grown hg10
  replace HB := Lib.hid (T10.blk HB.out rfl)
  have L10 := Lib.hid (L9.out.trans (T10.below (Nat.le_trans hB L9.out.size)))
  replace r1Ints := Lib.hid (T10.own r1Ints.out (fun _ _ => rfl))
  replace r1Keys := Lib.hid (T10.own r1Keys.out (fun _ _ => rfl))
  replace fmInts := Lib.hid (fmInts.out.tn T10 (fun _ _ => rfl))
  replace fmKeys := Lib.hid (fmKeys.out.tn T10 (fun _ _ => rfl))
  replace ogInts := Lib.hid (T10.own ogInts.out (fun _ _ => rfl))
  replace ogKeys := Lib.hid (T10.own ogKeys.out (fun _ _ => rfl))
  clear hg10 T10 cKeys cPairs cVersions cWrites cTxns cFiles cNotes cLeases cLetters cSteps cReals cLists
  have cKeys : W10.cell? ⟨bk, 6, none⟩ = some (.slice vaKeys mKeys vcKeys) := by rw [HB.out.cell 6]; exact f1Keys
  have cPairs : W10.cell? ⟨bk, 8, none⟩ = some (.slice none 0 0) := by rw [HB.out.cell 8]; exact HN.out 8 (by decide) (by decide) (by decide) (by decide) (by decide)
  have cVersions : W10.cell? ⟨bk, 10, none⟩ = some (.slice none 0 0) := by rw [HB.out.cell 10]; exact HN.out 10 (by decide) (by decide) (by decide) (by decide) (by decide)
  have cWrites : W10.cell? ⟨bk, 12, none⟩ = some (.slice none 0 0) := by rw [HB.out.cell 12]; exact HN.out 12 (by decide) (by decide) (by decide) (by decide) (by decide)
  have cTxns : W10.cell? ⟨bk, 14, none⟩ = some (.slice none 0 0) := by rw [HB.out.cell 14]; exact HN.out 14 (by decide) (by decide) (by decide) (by decide) (by decide)
  have cFiles : W10.cell? ⟨bk, 16, none⟩ = some (.slice none 0 0) := by rw [HB.out.cell 16]; exact HN.out 16 (by decide) (by decide) (by decide) (by decide) (by decide)
  have cNotes : W10.cell? ⟨bk, 18, none⟩ = some (.slice none 0 0) := by rw [HB.out.cell 18]; exact HN.out 18 (by decide) (by decide) (by decide) (by decide) (by decide)
  have cLeases : W10.cell? ⟨bk, 20, none⟩ = some (.slice none 0 0) := by rw [HB.out.cell 20]; exact HN.out 20 (by decide) (by decide) (by decide) (by decide) (by decide)
  have cLetters : W10.cell? ⟨bk, 22, none⟩ = some (.slice none 0 0) := by rw [HB.out.cell 22]; exact HN.out 22 (by decide) (by decide) (by decide) (by decide) (by decide)
  have cSteps : W10.cell? ⟨bk, 24, none⟩ = some (.slice none 0 0) := by rw [HB.out.cell 24]; exact HN.out 24 (by decide) (by decide) (by decide) (by decide) (by decide)
  have cReals : W10.cell? ⟨bk, 26, none⟩ = some (.slice none 0 0) := by rw [HB.out.cell 26]; exact HN.out 26 (by decide) (by decide) (by decide) (by decide) (by decide)
  have cLists : W10.cell? ⟨bk, 28, none⟩ = some (.slice none 0 0) := by rw [HB.out.cell 28]; exact HN.out 28 (by decide) (by decide) (by decide) (by decide) (by decide)
  go_wp2_with fail
  refine (markedPairs_nil W10).mono ?_
  rintro e w2 ⟨rfl, rfl⟩
  go_wp2_with fail
  refine (markedPairs_nil W10).mono ?_
  rintro e w2 ⟨rfl, rfl⟩
  go_wp2_with fail
  refine (markedVersions_nil W10).mono ?_
  rintro e w2 ⟨rfl, rfl⟩
  go_wp2_with fail
  refine (markedVersions_nil W10).mono ?_
  rintro e w2 ⟨rfl, rfl⟩
  go_wp2_with fail
  refine (markedWrites_nil W10).mono ?_
  rintro e w2 ⟨rfl, rfl⟩
  go_wp2_with fail
  refine (markedWrites_nil W10).mono ?_
  rintro e w2 ⟨rfl, rfl⟩
  go_wp2_with fail
  refine (markedTxns_nil W10).mono ?_
  rintro e w2 ⟨rfl, rfl⟩
  go_wp2_with fail
  refine (markedTxns_nil W10).mono ?_
  rintro e w2 ⟨rfl, rfl⟩
  go_wp2_with fail
  refine (markedFiles_nil W10).mono ?_
  rintro e w2 ⟨rfl, rfl⟩
  go_wp2_with fail
  refine (markedFiles_nil W10).mono ?_
  rintro e w2 ⟨rfl, rfl⟩
  go_wp2_with fail
  refine (markedNotes_nil W10).mono ?_
  rintro e w2 ⟨rfl, rfl⟩
  go_wp2_with fail
  refine (markedNotes_nil W10).mono ?_
  rintro e w2 ⟨rfl, rfl⟩
  go_wp2_with fail
  refine (markedLeases_nil W10).mono ?_
  rintro e w2 ⟨rfl, rfl⟩
  go_wp2_with fail
  refine (markedLeases_nil W10).mono ?_
  rintro e w2 ⟨rfl, rfl⟩
  go_wp2_with fail
  refine (markedLetters_nil W10).mono ?_
  rintro e w2 ⟨rfl, rfl⟩
  go_wp2_with fail
  refine (markedLetters_nil W10).mono ?_
  rintro e w2 ⟨rfl, rfl⟩
  go_wp2_with fail
  refine (markedSteps_nil W10).mono ?_
  rintro e w2 ⟨rfl, rfl⟩
  go_wp2_with fail
  refine (markedSteps_nil W10).mono ?_
  rintro e w2 ⟨rfl, rfl⟩
  go_wp2_with fail
  refine (markedReals_nil W10).mono ?_
  rintro e w2 ⟨rfl, rfl⟩
  go_wp2_with fail
  refine (markedReals_nil W10).mono ?_
  rintro e w2 ⟨rfl, rfl⟩
  go_wp2_with fail
  refine (markedLists_nil W10).mono ?_
  rintro e w2 ⟨rfl, rfl⟩
  go_wp2_with fail
  refine (markedLists_nil W10).mono ?_
  rintro e w2 ⟨rfl, rfl⟩
  go_wp2_with fail
  go_ret
  exact ⟨rfl, L10.out⟩
end Go.Proofs.YtmagkkkecihgmaaGreat
