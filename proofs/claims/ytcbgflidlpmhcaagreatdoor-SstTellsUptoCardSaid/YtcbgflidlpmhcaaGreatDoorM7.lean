/-
  Several texts in one: The book of lists, Keys: are they as they were? Marks are put into them. (Written by wip/gen/gen_bk.py.)
  The book of lists, Keys: all are grown; do all bear their marks? (Written by wip/gen/gen_bk.py.)
  The book of lists, Keys: one more is kept. (Written by wip/gen/gen_bk.py.)
  The book of lists: of a kind of which nothing was kept. (Written by wip/gen/gen_booknil.py.)
  The book of lists, where Keys alone were kept: each is as it was, and none shares memory with another. (Written by wip/gen/gen_bkapart.py.)
  As XQuiet, what is left of the region behind a structure: else each step would unfold it whole, where many operations that a guard passes over follow each other. No program is named.
  Walks over the document's own answer to chapter 1: Get, PutVar, Put.
  The document's own answer to chapter 11, part 2: Build.
  The document's own answers to chapter 13, part 2: Write, From.
  The last step of a law's row: the call leaves all that was there as it was.
  'There is an input that fits' for a row with a condition and listed variables, at a world whose shape is shown as one likes. No program is named.
-/
import Derived.Test.YtcbgflidlpmhcaaGreatDoorM4
import Derived.BigQuiet
import Derived.Deep.RegionHeld3
import Derived.Deep.RegionLaw
import Derived.Test.YtcbgflidlpmhcaaGreatDoorRows
import Derived.Test.YtcbgflidlpmhcaaGreatDoorM1
import Derived.WalkKit
import Derived.WalkSpells
import Derived.WalkLawsBesides
import Derived.Test.YtcbgflidlpmhcaaGreatDoorM3
import Derived.Test.YtcbgflidlpmhcaaGreatDoorM2
import Derived.Test.YtcbgflidlpmhcaaGreatDoorM5
import Derived.Deep.CutRange
import Derived.Deep.CutBlock
import Derived.Below
import Derived.ChangeSame
import Derived.ProofKit
import Derived.Deep.DeepHandedRow
import Derived.Test.YtcbgflidlpmhcaaGreatDoorM6
namespace Go.Proofs.YtcbgflidlpmhcaaGreatDoor
open Go.RowKit

set_option maxRecDepth 100000 in
set_option maxHeartbeats 1000000 in
theorem stillKeys_any (B bk m : Nat) (v1 v2 : Value) (a c : Nat → Value) (F : Nat → List (ByteArray × ByteArray)) (w : World) (hc1 : w.cell? ⟨bk, 6, none⟩ = some v1) (hc2 : w.cell? ⟨bk, 7, none⟩ = some v2) (r1 : w.ownsRow B 22 1 v1 m ((List.range m).map a)) (r2 : w.ownsRow B 22 1 v2 m ((List.range m).map c))
    (ra : ∀ i, i < m → Own elKeys w B 37 (a i) (F i)) (rc : ∀ i, i < m → Own elKeys w B 37 (c i) (F i)) (hF : ∀ i, i < m → (F i).length ≤ 1000000 ∧ ∀ x ∈ F i, okKeys x) (hm : m ≤ 250) :
    Calls Tryz.prog 52 #[.pointer (some ⟨bk, 0, none⟩)] w fun e w' => e = .returned (.bool true) ∧ ∃ q, w' = w.drewN q := by
  obtain ⟨A1, p1, e1⟩ := srow_slice r1
  obtain ⟨A2, p2, e2⟩ := srow_slice r2
  have s1 := fun k (hk : k < m) => srow_at r1 hk
  have s2 := fun k (hk : k < m) => srow_at r2 hk
  rw [e1] at hc1 s1
  rw [e2] at hc2 s2
  have S1 := Lib.hid s1
  have S2 := Lib.hid s2
  have RA := Lib.hid ra
  have RC := Lib.hid rc
  have HF := Lib.hid hF
  have hm' : (m : Int) ≤ 250 := by omega
  clear r1 r2 ra rc hF s1 s2
  go_enter Tryz.func52, Tryz.ntmps52
  go_wp2_with fail
  go_loopw [3] (fun i wr => ∃ k q : Nat, k ≤ m ∧ i = .int .i64 (k : Int) ∧ Hid (wr = w.drewN q)) (fun i _ => m - (intOf i).toNat)
  case atStart => exact ⟨0, 0, by omega, rfl, rfl⟩
  case round =>
    obtain ⟨k, q, hk, rfl, Hw⟩ := hrel
    have d1 : wr.cell? ⟨bk, 6, none⟩ = some (.slice A1 m p1) := by rw [Hw.out]; exact hc1
    have d2 : wr.cell? ⟨bk, 7, none⟩ = some (.slice A2 m p2) := by rw [Hw.out]; exact hc2
    by_cases hl : k < m
    · obtain ⟨g1, q1, f1, _, _, t1⟩ := S1.out k hl
      obtain ⟨g2, q2, f2, _, _, t2⟩ := S2.out k hl
      injection f1 with f1 f1b f1c
      injection f2 with f2 f2b f2c
      clear f1b f1c f2b f2c
      subst f1 f2
      have ia := RA.out k hl
      have ic := RC.out k hl
      obtain ⟨B1, b1, x1⟩ := ia.slice
      obtain ⟨B2, b2, x2⟩ := ic.slice
      rw [x1] at ia t1
      rw [x2] at ic t2
      have hf := HF.out k hl
      have K : Hid (∀ q, Calls Tryz.prog 22 #[.slice B1 (F k).length b1, .slice B2 (F k).length b2] (wr.drewN q) fun e w' => e = .returned (.bool true) ∧ ∃ m, w' = (wr.drewN q).drewN m) := fun q' => by
        rw [Hw.out]
        exact sameKeys_any B1 B2 _ _ b1 b2 B B (F k) _ ia ic hf.1 hf.2
      have u1 : wr.cell? ⟨g1, k, none⟩ = some (.slice B1 (F k).length b1) := by rw [Hw.out]; exact t1
      have u2 : wr.cell? ⟨g2, k, none⟩ = some (.slice B2 (F k).length b2) := by rw [Hw.out]; exact t2
      have hl1 : (k : Int) < (m : Int) := by omega
      clear ia ic x1 x2 t1 t2 hf
      generalize (F k).length = n1 at *
      go_wp2_with fail
      go_quiet (first | (go_at_call 22; refine Calls.quiet_of (K.out _)))
      go_wp2_with fail
      go_roundw
      case rel => exact ⟨k + 1, _, by omega, by go_num, (by rw [Hw.out, World.drewN_drewN]; rfl)⟩
      case measure => simp [intOf]; omega
    · obtain rfl : k = m := by omega
      go_wp2_with fail
      go_ret
      exact ⟨rfl, q, Hw.out⟩

set_option maxRecDepth 100000 in
set_option maxHeartbeats 4000000 in
theorem putKeys_any (B bk m : Nat) (bcs : Array Value) (v1 : Value) (a : Nat → Value) (F : Nat → List (ByteArray × ByteArray)) (w : World) (hb : Blk w bk 60 bcs) (hf : bcs[6]? = some v1) (r1 : w.ownsRow B 22 1 v1 m ((List.range m).map a)) (hR : Rwk elKeys w B 37 m a F) (hF : ∀ i, i < m → (F i).length ≤ 100000) (hm : m ≤ 250) (_hB : B ≤ w.heap.size) :
    Calls Tryz.prog 72 #[.pointer (some ⟨bk, 0, none⟩)] w fun e w' => e = .returned (.tuple #[]) ∧ Rwk elKeys w' B 37 m a (fun i => elKeys.marks i 0 (F i).length) ∧ Tn B (cellsT 37) w w' := by
  obtain ⟨A1, p1, e1⟩ := srow_slice r1
  have bkc : ∀ W, Tn B (cellsT 37) w W → W.cell? ⟨bk, 6, none⟩ = some (.slice A1 m p1) := fun W hW => by
    have := (hW.blk hb (cellsT_ne (by decide) _ _)).cell 6
    rw [this, hf, e1]
  have s1 : ∀ W, Tn B (cellsT 37) w W → ∀ k, k < m → ∃ g, A1 = some ⟨g, 0, none⟩ ∧ W.cell? ⟨g, k, none⟩ = some (a k) := fun W hW k hk => by
    obtain ⟨g, c, h1, _, _, h2⟩ := srow_at (hW.own r1 (fun cs fr => cellsT_ne (by decide) _ _)) hk
    rw [e1] at h1
    injection h1 with h1 _ _
    exact ⟨g, h1, h2⟩
  have BK := Lib.hid bkc
  have S1 := Lib.hid s1
  have HR := Lib.hid hR
  have HF := Lib.hid hF
  have hm' : (m : Int) ≤ 250 := by omega
  clear hb hf r1 hR hF e1 bkc s1
  go_enter Tryz.func72, Tryz.ntmps72
  go_wp2_with fail
  go_loopw [2] (fun i wr => ∃ k : Nat, ∃ G : Nat → List (ByteArray × ByteArray), k ≤ m ∧ i = .int .i64 (k : Int) ∧ Hid (Rwk elKeys wr B 37 m a G ∧ (∀ i, i < m → (G i).length = (F i).length) ∧ ∀ i, i < k → G i = elKeys.marks i 0 (F i).length) ∧ Hid (Tn B (cellsT 37) w wr)) (fun i _ => m - (intOf i).toNat)
  case atStart => exact ⟨0, F, by omega, rfl, ⟨HR.out, fun _ _ => rfl, fun i hi => absurd hi (by omega)⟩, Tn.refl _ _ _⟩
  case round =>
    obtain ⟨k, G, hk, rfl, HR1, HT1⟩ := hrel
    have d4 := BK.out _ HT1.out
    by_cases hl : k < m
    · obtain ⟨g1, rfl, s2⟩ := S1.out _ HT1.out k hl
      obtain ⟨nk, hnk⟩ : ∃ n, (F k).length = n := ⟨_, rfl⟩
      have hnk2 := HF.out k hl
      rw [hnk] at hnk2
      have hrow := HR1.out.1.each k hl
      have hGk := HR1.out.2.1 k hl
      rw [hnk] at hGk
      obtain ⟨ak, ck, ek⟩ := hrow.slice
      rw [hGk] at ek
      rw [ek] at s2
      have Hnk := Lib.hid hnk
      have Ek := Lib.hid ek
      have HGk := Lib.hid hGk
      have hl1 : (k : Int) < (m : Int) := by omega
      have hnk3 : (nk : Int) ≤ 100000 := by omega
      have M := Lib.hid (markKeys_any k 0 nk wr (by omega) (by omega))
      have HG : Hid (∀ g, (Value.slice ak nk ck).ownBlock = some g → g < wr.heap.size) := fun g hg => (hrow.lt (by rw [Ek.out]; exact hg)).2
      clear hnk hrow hGk ek
      go_wp2_with fail
      refine M.out.mono ?_
      rintro e w1 ⟨v, rfl, hN, hb⟩
      obtain ⟨av, cv, ev⟩ := hN.slice
      rw [El.marks_length] at ev
      subst ev
      obtain ⟨S, hS⟩ : ∃ S, wr.heap.size = S := ⟨_, rfl⟩
      rw [hS] at hN HG
      have HN := Lib.hid hN
      have HR2 := Lib.hid (HR1.out.1.below (below_g hb))
      have HT2 := Lib.hid (HT1.out.trans (Tn.of_grown hb))
      clear hN hb M hS d4 s2
      go_wp2_with fail
      go_loopw [4] (fun i wr' => ∃ j : Nat, ∃ G' : Nat → List (ByteArray × ByteArray), j ≤ nk ∧ i = .int .i64 (j : Int) ∧ Hid (Rwk elKeys wr' B 37 m a G' ∧ (∀ i, i < m → (G' i).length = (F i).length) ∧ (∀ i, i < k → G' i = elKeys.marks i 0 (F i).length) ∧ ∀ t, t < j → (G' k)[t]? = (elKeys.marks k 0 nk)[t]?) ∧ Hid (Own elKeys wr' S 37 (.slice av nk cv) (elKeys.marks k 0 nk)) ∧ Hid (Tn B (cellsT 37) w wr')) (fun i _ => nk - (intOf i).toNat)
      case atStart => exact ⟨0, G, by omega, rfl, ⟨HR2.out, HR1.out.2.1, HR1.out.2.2, fun t ht => absurd ht (by omega)⟩, HN, HT2⟩
      case round =>
        obtain ⟨j, G', hj, rfl, HR3, HN3, HT3⟩ := hrel
        by_cases hlj : j < nk
        · have d5 := BK.out _ HT3.out
          obtain ⟨g1', q1, s3⟩ := S1.out _ HT3.out k hl
          simp only [Option.some.injEq, Addr.mk.injEq, and_true] at q1
          subst q1
          rw [Ek.out] at s3
          have hGl : (G' k).length = nk := by rw [HR3.out.2.1 k hl, Hnk.out]
          obtain ⟨gk, ck', curk, ek', _, hhk⟩ := (HR3.out.1.each k hl).some_ (by omega)
          rw [Ek.out] at ek'
          injection ek' with ek1 ek2 ek3
          clear ek2 ek3
          subst ek1
          have hrow := HR3.out.1.each k hl
          rw [Ek.out] at hrow
          obtain ⟨gv, cv', curv, ev', _, _⟩ := HN3.out.some_ (by rw [El.marks_length]; omega)
          injection ev' with ev1 ev2 ev3
          clear ev2 ev3
          subst ev1
          obtain ⟨x, hx⟩ : ∃ x, x = elKeys.mark k j := ⟨_, rfl⟩
          have hxm : (elKeys.marks k 0 nk)[j]? = some x := by rw [hx]; exact El.marks_at _ _ _ _ hlj
          obtain ⟨y, hy⟩ : ∃ y, (G' k)[j]? = some y := ⟨_, List.getElem?_eq_getElem (by omega)⟩
          have y0 : wr.cell? ⟨gv, j * 2, none⟩ = some (.string x.1) := by
            have h9 := Own.cells (j := 0) HN3.out hxm (by decide) rfl
            rwa [show j * elKeys.sz + 0 = j * 2 from by show j * 2 + 0 = _; omega] at h9
          have y1 : wr.cell? ⟨gv, j * 2 + 1, none⟩ = some (.string x.2) := by
            have h9 := Own.cells (j := 1) HN3.out hxm (by decide) rfl
            rwa [show j * elKeys.sz + 1 = j * 2 + 1 from by show j * 2 + 1 = _; omega] at h9
          have z0 : wr.cell? ⟨gk, j * 2, none⟩ = some (.string y.1) := by
            have h9 := Own.cells (j := 0) hrow hy (by decide) rfl
            rwa [show j * elKeys.sz + 0 = j * 2 from by show j * 2 + 0 = _; omega] at h9
          have z1 : wr.cell? ⟨gk, j * 2 + 1, none⟩ = some (.string y.2) := by
            have h9 := Own.cells (j := 1) hrow hy (by decide) rfl
            rwa [show j * elKeys.sz + 1 = j * 2 + 1 from by show j * 2 + 1 = _; omega] at h9
          have hfz := fun i => (show Own elKeys wr B 37 _ _ from hrow).frozen_ i
          have fz0 := hfz (j * 2)
          have fz1 := hfz (j * 2 + 1)
          have PK := Lib.hid (put_k (j := j) (x := x) HR3.out.1 hl Ek.out (by omega))
          have hgS : (Value.slice (some ⟨gv, 0, none⟩) nk cv).ownBlock ≠ some gk := by
            intro h
            have h1 := (HN3.out.lt h).1
            have h2 := HG.out gk rfl
            omega
          have PN := Lib.hid (PK.out.2.2 _ _ _ HN3.out hgS)
          have hlj1 : (j : Int) < (nk : Int) := by omega
          have Hxm := Lib.hid hxm
          have HGl := Lib.hid hGl
          clear hrow hx hxm hy hgS hfz hhk hGl
          obtain ⟨xa, xb⟩ := x
          have PK1 := PK.out.1
          clear PK1
          go_wp2_with fail
          go_region
          go_wp2_with fail
          go_roundw
          case rel =>
            refine ⟨j + 1, upk G' k ((G' k).set j (xa, xb)), by omega, by go_num, ⟨⟨PK.out.1.each, PK.out.1.apart⟩, fun i hi => ?_, fun i hi => ?_, fun t ht => ?_⟩, PN, (HT3.out.drew.trans PK.out.2.1.fromDrew)⟩
            · by_cases hik : i = k
              · subst hik; rw [upk_at, List.length_set]; exact HR3.out.2.1 i hi
              · rw [upk_ne _ _ hik]; exact HR3.out.2.1 i hi
            · rw [upk_ne _ _ (by omega)]
              exact HR3.out.2.2.1 i hi
            · rw [upk_at]
              by_cases htj : t = j
              · subst htj
                rw [Hxm.out, List.getElem?_set_self (by rw [HGl.out]; exact hlj)]
              · rw [List.getElem?_set_ne (fun h => htj h.symm)]
                exact HR3.out.2.2.2 t (by omega)
          case measure => simp [intOf]; omega
        · obtain rfl : j = nk := by omega
          go_wp2_with fail
          go_roundw
          case rel =>
            refine ⟨k + 1, G', by omega, by go_num, ⟨HR3.out.1, HR3.out.2.1, fun i hi => ?_⟩, HT3⟩
            by_cases hik : i = k
            · subst hik
              rw [Hnk.out]
              refine List.ext_getElem? fun t => ?_
              by_cases ht : t < j
              · exact HR3.out.2.2.2 t ht
              · rw [List.getElem?_eq_none (by rw [HR3.out.2.1 i hl, Hnk.out]; omega), List.getElem?_eq_none (by rw [El.marks_length]; omega)]
            · exact HR3.out.2.2.1 i (by omega)
          case measure => simp [intOf]; omega
    · obtain rfl : k = m := by omega
      go_wp2_with fail
      go_end0
      exact ⟨rfl, ⟨fun i hi => by rw [← HR1.out.2.2 i hi]; exact HR1.out.1.each i hi, HR1.out.1.apart⟩, HT1.out⟩
end Go.Proofs.YtcbgflidlpmhcaaGreatDoor

namespace Go.Proofs.YtcbgflidlpmhcaaGreatDoor
open Go.RowKit

theorem sinfoKeys : (Tryz.prog.info? 22).map (fun i => (i.zero, i.size, i.bytes)) = some (some (.slice none 0 0), 1, 24) := by kernel_rfl
theorem sunderKeys : Tryz.prog.underlying 47 = some (.slice 22) := by kernel_rfl
set_option maxRecDepth 100000 in
set_option maxHeartbeats 4000000 in
theorem growKeys_any (B bk m : Nat) (bcs : Array Value) (v1 : Value) (a : Nat → Value) (n : Nat → Nat) (w : World) (hb : Blk w bk 60 bcs) (hf : bcs[6]? = some v1) (r1 : w.ownsRow B 22 1 v1 m ((List.range m).map a)) (hR : Rwk elKeys w B 37 m a (fun i => elKeys.marks i 0 (n i))) (hn : ∀ i, i < m → n i ≤ 100000) (hm : m ≤ 250) (hB : B ≤ w.heap.size) :
    Calls Tryz.prog 82 #[.pointer (some ⟨bk, 0, none⟩)] w fun e w' => ∃ v b, e = .returned v ∧ w'.ownsRow w.heap.size 22 1 v m ((List.range m).map b) ∧ Famk elKeys w' B 37 m a b (fun i => elKeys.marks i 0 (n i)) (fun i => elKeys.marks i 0 (n i + 72)) ∧ Tn B (cellsT 37) w w' := by
  obtain ⟨A1, p1, e1⟩ := srow_slice r1
  have bkc : ∀ W, Tn B (cellsT 37) w W → W.cell? ⟨bk, 6, none⟩ = some (.slice A1 m p1) := fun W hW => by
    have := (hW.blk hb (cellsT_ne (by decide) _ _)).cell 6
    rw [this, hf, e1]
  have s1 : ∀ W, Tn B (cellsT 37) w W → ∀ k, k < m → ∃ g, A1 = some ⟨g, 0, none⟩ ∧ W.cell? ⟨g, k, none⟩ = some (a k) := fun W hW k hk => by
    obtain ⟨g, c, h1, _, _, h2⟩ := srow_at (hW.own r1 (fun cs fr => cellsT_ne (by decide) _ _)) hk
    rw [e1] at h1
    injection h1 with h1 _ _
    exact ⟨g, h1, h2⟩
  have BK := Lib.hid bkc
  have S1 := Lib.hid s1
  have HR := Lib.hid hR
  have HN := Lib.hid hn
  have hm' : (m : Int) ≤ 250 := by omega
  obtain ⟨S, hS⟩ : ∃ S, w.heap.size = S := ⟨_, rfl⟩
  have HS := Lib.hid hS
  have HB := Lib.hid hB
  rw [hS]
  clear hb hf r1 hR hn e1 bkc s1 hS hB
  go_enter Tryz.func82, Tryz.ntmps82
  go_wp2_with fail
  go_loopw [3, 4] (fun o i wr => ∃ k : Nat, ∃ b : Nat → Value, ∃ H : Nat → List (ByteArray × ByteArray), k ≤ m ∧ i = .int .i64 (k : Int) ∧ Hid (wr.ownsRow S 22 1 o k ((List.range k).map b)) ∧ Hid (Famk elKeys wr B 37 m a b (fun i => elKeys.marks i 0 (n i)) H ∧ (∀ i, i < k → H i = elKeys.marks i 0 (n i + 72)) ∧ ∀ i, k ≤ i → b i = a i ∧ H i = elKeys.marks i 0 (n i)) ∧ Hid (Tn B (cellsT 37) w wr)) (fun _ i _ => m - (intOf i).toNat)
  case atStart => exact ⟨0, a, _, by omega, rfl, World.ownsRow_nil _ _ _ _, ⟨Famk.start HR.out, fun i hi => absurd hi (by omega), fun i _ => ⟨rfl, rfl⟩⟩, Tn.refl _ _ _⟩
  case round =>
    obtain ⟨k, b, H, hk, rfl, HO1, HF1, HT1⟩ := hrel
    have d4 := BK.out _ HT1.out
    obtain ⟨ao, co, eo⟩ := srow_slice HO1.out
    subst eo
    by_cases hl : k < m
    · obtain ⟨g1, rfl, s2⟩ := S1.out _ HT1.out k hl
      obtain ⟨nk, hnk⟩ : ∃ x, n k = x := ⟨_, rfl⟩
      have hnk2 := HN.out k hl
      rw [hnk] at hnk2
      obtain ⟨ak, ck, ek⟩ := (HF1.out.1.ra k hl).slice
      rw [El.marks_length, hnk] at ek
      rw [ek] at s2
      have Hnk := Lib.hid hnk
      have Ek := Lib.hid ek
      have hl1 : (k : Int) < (m : Int) := by omega
      have hnk3 : (nk : Int) ≤ 100000 := by omega
      have HF2 : Hid (Famk elKeys wr B 37 m a (upk b k (.slice ak nk ck)) (fun i => elKeys.marks i 0 (n i)) (upk H k (elKeys.marks k 0 (nk + 0)))) := by
        unfold Hid
        rw [upk_self b k _ (by rw [(HF1.out.2.2 k (Nat.le_refl _)).1, ek]), upk_self H k _ (by rw [(HF1.out.2.2 k (Nat.le_refl _)).2, hnk]; rfl)]
        exact HF1.out.1
      clear hnk ek
      go_wp2_with fail
      go_loopw [5, 6] (fun l t wr' => ∃ j : Nat, j ≤ 12 ∧ t = .int .i64 (j : Int) ∧ Hid (wr'.ownsRow S 22 1 (.slice ao k co) k ((List.range k).map b)) ∧ Hid (Famk elKeys wr' B 37 m a (upk b k l) (fun i => elKeys.marks i 0 (n i)) (upk H k (elKeys.marks k 0 (nk + j)))) ∧ Hid (Tn B (cellsT 37) w wr')) (fun _ t _ => 12 - (intOf t).toNat)
      case atStart => exact ⟨0, by omega, rfl, HO1, HF2, HT1⟩
      case round =>
        obtain ⟨j, hj, rfl, HO2, HF3, HT2⟩ := hrel
        have hrow := HF3.out.rb k hl
        rw [upk_at, upk_at] at hrow
        obtain ⟨N, hN⟩ : ∃ N, nk + j = N := ⟨_, rfl⟩
        rw [hN] at hrow HF3
        obtain ⟨al, cl, el⟩ := hrow.slice
        rw [El.marks_length] at el
        subst el
        have hN1 : N ≤ 100012 := by omega
        have HN4 := Lib.hid hN
        have Hrow := Lib.hid hrow
        clear hrow hN d4 s2
        by_cases hlj : j < 12
        · have hlj1 : (j : Int) < 12 := by omega
          have M := Lib.hid (markKeys_any k N 1 wr (by omega) (by omega))
          go_wp2_with fail
          refine M.out.mono ?_
          rintro e w1 ⟨v, rfl, hN5, hb5⟩
          obtain ⟨av, cv, ev⟩ := hN5.slice
          rw [El.marks_length] at ev
          subst ev
          obtain ⟨hz9, hA, hM⟩ := own_reads hN5
          have hrow1 := Hrow.out.below (below_g hb5)
          have hB1 : B ≤ w1.heap.size := Nat.le_trans HB.out (Nat.le_trans HT2.out.size hb5.size)
          obtain ⟨l', w2, hr, hown, hgr, hold, hblk⟩ := app_own (P := Tryz.prog) elKeys 22 37 (.agg #[.string ⟨#[]⟩, .string ⟨#[]⟩]) 32 underKeys infoKeys rfl w1 B (.slice al N cl) (elKeys.marks k 0 N) (elKeys.marks k N 1) hrow1 av cv hA hM (by rw [El.marks_length, El.marks_length]; unfold maxLen; omega) (by rw [El.marks_length, El.marks_length]; omega) hB1 1 (El.marks_length _ _ _ _).symm
          have HF5 := Lib.hid ((HF3.out.below (below_g hb5)).marked2 hl hown hgr hold hblk)
          have HT5 := Lib.hid ((HT2.out.trans (Tn.of_grown hb5)).grow hrow1 hgr)
          have HO5 : Hid (w2.ownsRow S 22 1 (.slice ao k co) k ((List.range k).map b)) := ((Tn.refl B (cellsT 37) w1).grow hrow1 hgr).own ((Tn.of_grown (B := B) (T := cellsT 37) hb5).own HO2.out (fun cs fr => cellsT_ne (by decide) _ _)) (fun cs fr => cellsT_ne (by decide) _ _)
          have HR5 := fun ty => Lib.hid (hr ty)
          clear hz9 hN5 hb5 hA hM hrow1 hB1 hr hown hgr hold hblk M hN1 hnk2 hnk3
          go_wp2_with (at_builtin; refine wpList_append_k _ w2 rfl (.tmp 27) (.tmp 31) 22 rfl _ _ l' rfl rfl (fun ty => (HR5 ty).out) ?_)
          go_roundw
          case rel => exact ⟨j + 1, by omega, by go_num, HO5, by rw [← Nat.add_assoc, HN4.out]; exact HF5, HT5⟩
          case measure => simp [intOf]; omega
        · obtain rfl : j = 12 := by omega
          have M := Lib.hid (markKeys_any k N 60 wr (by omega) (by omega))
          go_wp2_with fail
          refine M.out.mono ?_
          rintro e w1 ⟨v, rfl, hN5, hb5⟩
          obtain ⟨av, cv, ev⟩ := hN5.slice
          rw [El.marks_length] at ev
          subst ev
          obtain ⟨hz9, hA, hM⟩ := own_reads hN5
          have hrow1 := Hrow.out.below (below_g hb5)
          have hB1 : B ≤ w1.heap.size := Nat.le_trans HB.out (Nat.le_trans HT2.out.size hb5.size)
          obtain ⟨l', w2, hr, hown, hgr, hold, hblk⟩ := app_own (P := Tryz.prog) elKeys 22 37 (.agg #[.string ⟨#[]⟩, .string ⟨#[]⟩]) 32 underKeys infoKeys rfl w1 B (.slice al N cl) (elKeys.marks k 0 N) (elKeys.marks k N 60) hrow1 av cv hA hM (by rw [El.marks_length, El.marks_length]; unfold maxLen; omega) (by rw [El.marks_length, El.marks_length]; omega) hB1 60 (El.marks_length _ _ _ _).symm
          obtain ⟨al', cl', el'⟩ := hown.slice
          rw [List.length_append, El.marks_length, El.marks_length] at el'
          subst el'
          have hF5 := (HF3.out.below (below_g hb5)).marked2 hl hown hgr hold hblk
          have hT5 := (HT2.out.trans (Tn.of_grown hb5)).grow hrow1 hgr
          have hO5 : w2.ownsRow S 22 1 (.slice ao k co) k ((List.range k).map b) := ((Tn.refl B (cellsT 37) w1).grow hrow1 hgr).own ((Tn.of_grown (B := B) (T := cellsT 37) hb5).own HO2.out (fun cs fr => cellsT_ne (by decide) _ _)) (fun cs fr => cellsT_ne (by decide) _ _)
          have HR5 := fun ty => Lib.hid (hr ty)
          have hO6 := World.ownsRow.alloc hO5 (.cells #[.slice al' (N + 60) cl'] 22)
          obtain ⟨o', w3, hr3, hown3, hgr3, hold3, hblk3⟩ := app_srow (P := Tryz.prog) 47 22 sunderKeys sinfoKeys (w2.alloc (.cells #[.slice al' (N + 60) cl'] 22)) S (.slice ao k co) k _ hO6 (.slice al' (N + 60) cl') rfl w2.heap.size 1 ((Blk.new w2 22 #[.slice al' (N + 60) cl']).cell 0) (by omega) (Nat.le_trans (HS.out ▸ hT5.size) (by simp))
          have HR6 := fun ty => Lib.hid (hr3 ty)
          rw [range_upk] at hown3
          have HO7 := Lib.hid hown3
          have hT6 := (hT5.alloc (.cells #[.slice al' (N + 60) cl'] 22))
          have HT7 := Lib.hid (hT6.growNew hO6 (Nat.le_of_eq HS.out) hgr3)
          have HF7 : Hid (Famk elKeys w3 B 37 m a (upk b k (.slice al' (N + 60) cl')) (fun i => elKeys.marks i 0 (n i)) (upk H k (elKeys.marks k 0 (N + 60)))) := by
            have h1 := hF5.below (below_g (World.grownBy_alloc w2 (.cells #[.slice al' (N + 60) cl'] 22) none))
            have h2 : Tn S (cellsT 22) (w2.alloc (.cells #[.slice al' (N + 60) cl'] 22)) w3 := (Tn.refl S (cellsT 22) _).grow hO6 hgr3
            exact h1.tn h2 (fun cs fr => cellsT_ne (by decide) _ _)
          clear hz9 hN5 hb5 hA hM hrow1 hB1 hr hown hgr hold hblk M hF5 hT5 hO5 hO6 hr3 hown3 hgr3 hold3 hblk3 hT6 hN1 hnk2 hnk3
          go_wp2_with (at_builtin; first | refine wpList_append_k _ w2 rfl (.tmp 34) (.tmp 38) 22 rfl _ _ (.slice al' (N + 60) cl') rfl rfl (fun ty => (HR5 ty).out) ?_ | refine wpList_append_k _ w3 rfl (.tmp 33) (.tmp 40) 47 rfl _ _ o' rfl rfl (fun ty => (HR6 ty).out) ?_)
          go_roundw
          case rel =>
            refine ⟨k + 1, upk b k (.slice al' (N + 60) cl'), _, by omega, by go_num, HO7, ⟨HF7.out, fun i hi => ?_, fun i hi => ?_⟩, HT7⟩
            · by_cases hik : i = k
              · subst hik
                rw [upk_at, Hnk.out, ← HN4.out]
              · rw [upk_ne _ _ hik]
                exact HF1.out.2.1 i (by omega)
            · rw [upk_ne _ _ (show i ≠ k by omega), upk_ne _ _ (show i ≠ k by omega)]
              exact HF1.out.2.2 i (by omega)
          case measure => simp [intOf]; omega
    · obtain rfl : k = m := by omega
      go_wp2_with fail
      go_ret
      refine ⟨_, b, rfl, HO1.out, ⟨HF1.out.1.ra, fun i hi => ?_, HF1.out.1.oaa, HF1.out.1.oab, HF1.out.1.obb, fun i hi => ?_⟩, HT1.out⟩
      · rw [← HF1.out.2.1 i hi]
        exact HF1.out.1.rb i hi
      · rw [← HF1.out.2.1 i hi]
        exact HF1.out.1.tie i hi

set_option maxRecDepth 100000 in
set_option maxHeartbeats 2000000 in
theorem markedKeys_any (B B2 m : Nat) (v : Value) (a : Nat → Value) (n : Nat → Nat) (w : World) (hown : w.ownsRow B2 22 1 v m ((List.range m).map a)) (hR : ∀ i, i < m → Own elKeys w B 37 (a i) (elKeys.marks i 0 (n i))) (hn : ∀ i, i < m → n i ≤ 200000) (hm : m ≤ 250) :
    Calls Tryz.prog 97 #[v] w fun e w' => e = .returned (.bool true) ∧ w.grownBy w' none := by
  obtain ⟨A1, p1, e1⟩ := srow_slice hown
  subst e1
  have s1 : ∀ W, w.grownBy W none → ∀ k, k < m → ∃ g, A1 = some ⟨g, 0, none⟩ ∧ W.cell? ⟨g, k, none⟩ = some (a k) := fun W hW k hk => by
    obtain ⟨g, c, h1, _, _, h2⟩ := srow_at hown hk
    injection h1 with h1 _ _
    exact ⟨g, h1, hW.cell h2 (by simp)⟩
  have S1 := Lib.hid s1
  have HR := Lib.hid hR
  have HN := Lib.hid hn
  have hm' : (m : Int) ≤ 250 := by omega
  clear hown hR hn s1
  go_enter Tryz.func97, Tryz.ntmps97
  go_wp2_with fail
  go_loopw [3] (fun i wr => ∃ k : Nat, k ≤ m ∧ i = .int .i64 (k : Int) ∧ Hid (w.grownBy wr none)) (fun i _ => m - (intOf i).toNat)
  case atStart => exact ⟨0, by omega, rfl, grefl _ _⟩
  case round =>
    obtain ⟨k, hk, rfl, HG⟩ := hrel
    by_cases hl : k < m
    · obtain ⟨g1, rfl, s2⟩ := S1.out _ HG.out k hl
      obtain ⟨nk, hnk⟩ : ∃ x, n k = x := ⟨_, rfl⟩
      have hnk2 := HN.out k hl
      have hrow := HR.out k hl
      rw [hnk] at hnk2 hrow
      obtain ⟨ak, ck, ek⟩ := hrow.slice
      rw [El.marks_length] at ek
      rw [ek] at s2 hrow
      have M : ∀ W, wr.grownBy W none → Hid (Calls Tryz.prog 155 #[.int .i64 (k : Int), .int .i64 0, .int .i64 (nk : Int)] W fun e W1 => ∃ av cv, e = .returned (.slice av nk cv) ∧ W1.cell? ⟨g1, k, none⟩ = some (.slice ak nk ck) ∧ Hid (wr.grownBy W1 none) ∧ Hid (∀ W2, W1.grownBy W2 none → Calls Tryz.prog 22 #[.slice ak nk ck, .slice av nk cv] W2 fun e W3 => e = .returned (.bool true) ∧ W2.grownBy W3 none)) := by
        intro W hW
        refine (markKeys_any k 0 nk W (by omega) (by omega)).mono ?_
        rintro e W1 ⟨v, rfl, hN5, hb5⟩
        obtain ⟨av, cv, ev⟩ := hN5.slice
        rw [El.marks_length] at ev
        subst ev
        have hg1 := gnone hW hb5
        refine ⟨av, cv, rfl, hg1.cell s2 (by simp), hg1, fun W2 h2 => ?_⟩
        refine (sameKeys_any ak av nk nk ck cv B W.heap.size (elKeys.marks k 0 nk) W2 ((hrow.below (below_g HG.out)).below (below_g (gnone hg1 h2))) (hN5.below (below_g h2)) (by rw [El.marks_length]; omega) (okmKeys k 0 nk)).mono ?_
        rintro e W3 ⟨rfl, q, rfl⟩
        exact ⟨rfl, only_drewN (grefl _ _) q⟩
      have hl1 : (k : Int) < (m : Int) := by omega
      have hnk3 : (nk : Int) ≤ 200000 := by omega
      have G0 : wr.grownBy wr.drew none := ⟨rfl, rfl, rfl, Nat.le_refl _, fun _ _ _ => rfl⟩
      have HG0 := Lib.hid G0
      have c0 : wr.drew.cell? ⟨g1, k, none⟩ = some (.slice ak nk ck) := s2
      clear hnk hrow ek G0
      go_wp2_with fail
      go_region_held3 (fun W => W.cell? ⟨g1, k, none⟩ = some (.slice ak nk ck))
        (first | exact c0 | exact c1 | exact H2.out.cell c1 (by simp))
        (first
          | (go_at_call 155; refine (M _ HG0.out).out.mono ?_; rintro e W1 ⟨av, cv, rfl, c1, HG1, HS1⟩)
          | (go_at_call 22; refine (HS1.out _ (grefl _ _)).mono ?_; rintro e W3 ⟨rfl, h2⟩; have H2 := Lib.hid h2; clear h2))
      have HG9 := Lib.hid (gnone HG.out (gnone HG1.out H2.out))
      go_wp2_with fail
      go_roundw
      case rel => exact ⟨k + 1, by omega, by go_num, HG9⟩
      case measure => simp [intOf]; omega
    · obtain rfl : k = m := by omega
      go_wp2_with fail
      go_ret
      exact ⟨rfl, HG.out⟩
end Go.Proofs.YtcbgflidlpmhcaaGreatDoor

namespace Go.Proofs.YtcbgflidlpmhcaaGreatDoor
open Go.RowKit

abbrev KStKeys := @KSt (ByteArray × ByteArray) elKeys okKeys 37 22 6
set_option maxRecDepth 100000 in
set_option maxHeartbeats 4000000 in
theorem keepKeys_any (B bk S lo : Nat) (bcs : Array Value) (Z : List (List (ByteArray × ByteArray))) (A : Option Addr) (n c : Nat) (L : List (ByteArray × ByteArray)) (w : World) (hb : Blk w bk 60 bcs) (h : KStKeys w B bcs Z S) (hx : Own elKeys w lo 37 (.slice A n c) L) (hSl : S ≤ lo) (hBl : B ≤ lo) (hBk : B ≤ bk) (hB : B ≤ w.heap.size) (hS0 : S ≤ w.heap.size) (hL : L.length ≤ 100000 ∧ ∀ y ∈ L, okKeys y) :
    Calls Tryz.prog 21 #[.pointer (some ⟨bk, 0, none⟩), .slice A n c] w fun e w' => e = .returned (.tuple #[]) ∧ ∃ bcs' Z', Blk w' bk 60 bcs' ∧ KStKeys w' B bcs' Z' w.heap.size ∧ (∀ j, j ≠ 6 → j ≠ 7 → bcs'[j]? = bcs[j]?) ∧ Tn B (twoT 22 60) w w' ∧ (Z' = Z ++ [L] ∨ Z' = Z) := by
  have h0 := h
  obtain ⟨v1, v2, a, c', f1, f2, r1, r2, o, ra, rc, hz, hs, hm2⟩ := h
  obtain ⟨A1, p1, rfl⟩ := srow_slice r1
  obtain ⟨A2, p2, rfl⟩ := srow_slice r2
  have d1 : w.cell? ⟨bk, 6, none⟩ = some (.slice A1 Z.length p1) := by rw [hb.cell 6, f1]
  by_cases hm : Z.length < 250
  · obtain ⟨A3, d3, w1, hr1, hb1, hb2, q1, q2, qo, hT⟩ := keep_row (P := Tryz.prog) (f := 6) sunderKeys sinfoKeys (show 22 ≠ 60 by decide) (u := .slice A n c) hb hB hBk r1 r2 o (by omega) rfl
    have hsz : 7 < bcs.size := (Array.getElem?_eq_some_iff.1 f2).1
    have g1 : w1.cell? ⟨bk, 6, none⟩ = some (.slice A1 Z.length p1) := by rw [hb1.cell 6, f1]
    have g1f := hb1.frozen 6
    have eT : ∀ cs fr, twoT 22 60 (.cells cs 37 fr) = false := fun cs fr => twoT_ne (by decide) (by decide) _ _
    have hx2 := hx.tn hT eT
    have ra2 := ra.tn hT eT
    have rc2 := fun i hi => (rc i hi).tn hT eT
    have hB2 := Nat.le_trans hB hT.size
    have HR1 := fun ty => Lib.hid (hr1 ty)
    obtain ⟨w2, hw2⟩ : ∃ w2, w1.setCell ⟨bk, 6, none⟩ (.slice A3 (Z.length + 1) d3) = w2 := ⟨_, rfl⟩
    rw [hw2] at hb2 q1 q2 hT hx2 ra2 rc2 hB2
    have d2 : w2.cell? ⟨bk, 7, none⟩ = some (.slice A2 Z.length p2) := by
      rw [hb2.cell 7, Array.getElem?_setIfInBounds_ne (by decide), f2]
    have CP : Hid (Calls Tryz.prog 47 #[.slice A n c] w2.drew fun e w' => ∃ a3 c3, e = .returned (.slice a3 n c3) ∧ Own elKeys w' w2.heap.size 37 (.slice a3 n c3) L ∧ w2.drew.grownBy w' none) :=
      copyKeys_any A n c lo L w2.drew (hx2.below ⟨rfl, rfl, rfl, Nat.le_refl _, fun _ _ => rfl⟩) (by omega)
    have KP : ∀ w3 a3 c3, Own elKeys w3 w2.heap.size 37 (.slice a3 n c3) L → w2.drew.grownBy w3 none → Hid (∃ A5 d5 w5, (∀ ty, (Builtin.append_ #[47, 47] ty #[.slice A2 Z.length p2, .slice (some ⟨w3.heap.size, 0, none⟩) 1 1]).run Tryz.prog (w3.alloc (.cells #[.slice a3 n c3] 22)) = .ok (.slice A5 (Z.length + 1) d5) w5) ∧
        w5.cell? ⟨bk, 7, none⟩ = some (.slice A2 Z.length p2) ∧ w5.frozen? ⟨bk, 7, none⟩ = false ∧ Hid (∃ bcs' Z', Blk (w5.setCell ⟨bk, 7, none⟩ (.slice A5 (Z.length + 1) d5)) bk 60 bcs' ∧ KStKeys (w5.setCell ⟨bk, 7, none⟩ (.slice A5 (Z.length + 1) d5)) B bcs' Z' w.heap.size ∧ (∀ j, j ≠ 6 → j ≠ 7 → bcs'[j]? = bcs[j]?) ∧ Tn B (twoT 22 60) w (w5.setCell ⟨bk, 7, none⟩ (.slice A5 (Z.length + 1) d5)) ∧ (Z' = Z ++ [L] ∨ Z' = Z))) := by
      intro w3 a3 c3 hO hg
      have hg2 : w2.grownBy w3 none := ⟨hg.os, hg.tape, hg.output, hg.size, hg.block⟩
      have T3 : Tn B (twoT 22 60) w2 w3 := Tn.of_grown hg2
      have b3 : Blk w3 bk 60 (bcs.setIfInBounds 6 (.slice A3 (Z.length + 1) d3)) := hb2.grown hg2 (by simp)
      have g3 := below_g hg2
      have q13 := (Tn.of_below (B := 0) (T := fun _ => false) g3).own q1 (fun _ _ => rfl)
      have q23 := (Tn.of_below (B := 0) (T := fun _ => false) g3).own q2 (fun _ _ => rfl)
      obtain ⟨A5, d5, w5, hr5, hb5, hb6, s1, s2, so, hT5⟩ := keep_row (P := Tryz.prog) (f := 7) sunderKeys sinfoKeys (show 22 ≠ 60 by decide) (u := .slice a3 n c3) b3 (Nat.le_trans hB2 hg2.size) hBk q23 q13 qo.symm (by omega) rfl
      have T6 := (hT.trans T3).trans hT5
      refine ⟨A5, d5, w5, hr5, ?_, hb5.frozen _, (bcs.setIfInBounds 6 (.slice A3 (Z.length + 1) d3)).setIfInBounds 7 (.slice A5 (Z.length + 1) d5), Z ++ [L], hb6, ?_, fun j h1 h2 => ?_, T6, Or.inl rfl⟩
      · rw [hb5.cell 7, Array.getElem?_setIfInBounds_ne (by decide), f2]
      · refine KSt.add (S := S) (lo := lo) (v1 := .slice A3 (Z.length + 1) d3) (v2 := .slice A5 (Z.length + 1) d5) (x := .slice A n c) (cp := .slice a3 n c3) (a := a) (c := c') ?_ ?_ s2 s1 so.symm (ra.tn T6 eT) (fun i hi => (rc i hi).tn T6 eT) hz hs hm (hx.tn T6 eT) ((hO.tn hT5 eT).low hB2) hSl hBl hL (fun g hg' => (hx.lt hg').2) hS0
        · rw [Array.getElem?_setIfInBounds_ne (by decide), Array.getElem?_setIfInBounds_self_of_lt (by omega)]
        · rw [Array.getElem?_setIfInBounds_self_of_lt (by simp; omega)]
      · rw [Array.getElem?_setIfInBounds_ne (fun h => h2 h.symm), Array.getElem?_setIfInBounds_ne (fun h => h1 h.symm)]
    have m1 : (Z.length : Int) < 250 := by omega
    have D2 : w2.drew.cell? ⟨bk, 7, none⟩ = some (.slice A2 Z.length p2) := d2
    have HW2 := Lib.hid hw2
    clear h0 r1 r2 o ra rc hz hs hb1 hb2 q1 q2 qo hT hx hx2 ra2 rc2 hr1 f1 f2 hb hm2 hw2
    generalize Z.length = m at *
    go_enter Tryz.func21, Tryz.ntmps21
    go_wp2_with (at_builtin; refine wpList_append_k _ w1 rfl (.tmp 14) (.tmp 16) 47 rfl _ _ (.slice A3 (m + 1) d3) rfl rfl (fun ty => (HR1 ty).out) ?_)
    rw [HW2.out]
    go_region_law (first
      | (go_simp; go_at_call 47; refine CP.out.mono ?_; rintro e w3 ⟨a3, c3, rfl, hO3, hg3⟩; obtain ⟨A5, d5, w5, hr5, c5, z5, KF⟩ := (KP w3 a3 c3 hO3 hg3).out; have c3' : w3.cell? ⟨bk, 7, none⟩ = some (.slice A2 m p2) := hg3.cell D2 (by simp); have c4' : (w3.alloc (.cells #[.slice a3 n c3] 22)).cell? ⟨bk, 7, none⟩ = some (.slice A2 m p2) := (World.grownBy_alloc w3 _ none).cell c3' (by simp))
      | (refine step_append_k rfl (.tmp 24) (.tmp 27) 47 rfl _ _ (.slice A5 (m + 1) d5) (by simp [Act.eval]) (by simp [Act.eval]) (hr5 _) ?_))
    all_goals
      go_wp2_with fail
      go_end0
      obtain ⟨b9, Z9, k1, k2, k3, k4, k5⟩ := KF.out
      first | exact ⟨rfl, b9, Z9, k1, k2, k3, k4, k5⟩ | exact ⟨rfl, b9, k1, Z9, k2, k3, k4, k5⟩
  · have m1 : ¬ (Z.length : Int) < 250 := by omega
    have H0 := Lib.hid h0
    have HB := Lib.hid hb
    clear h0 r1 r2 o ra rc hz hs f1 f2 hb hx
    go_enter Tryz.func21, Tryz.ntmps21
    go_wp2_with fail
    go_end0
    exact ⟨rfl, bcs, HB.out, Z, H0.out.up hS0, fun _ _ _ => rfl, Tn.refl _ _ _, Or.inr rfl⟩
end Go.Proofs.YtcbgflidlpmhcaaGreatDoor

namespace Go.Proofs.YtcbgflidlpmhcaaGreatDoor
open Go.RowKit

def nilS : Value := .slice none 0 0


theorem stillTexts_nil (bk : Nat) (w : World) (h : w.cell? ⟨bk, 0, none⟩ = some (.slice none 0 0)) :
    Calls Tryz.prog 49 #[.pointer (some ⟨bk, 0, none⟩)] w fun e w' => e = .returned (.bool true) ∧ w = w' := by
  go_enter Tryz.func49, Tryz.ntmps49
  go_wp2_with fail
  go_loop [3] (fun i => i = .int .i64 0) (fun _ => 0)
  case atStart => rfl
  case round =>
    subst hrel
    go_wp2_with fail
    go_ret
    exact ⟨rfl, rfl⟩
theorem putTexts_nil (bk : Nat) (w : World) (h : w.cell? ⟨bk, 0, none⟩ = some (.slice none 0 0)) :
    Calls Tryz.prog 69 #[.pointer (some ⟨bk, 0, none⟩)] w fun e w' => e = .returned (.tuple #[]) ∧ w = w' := by
  go_enter Tryz.func69, Tryz.ntmps69
  go_wp2_with fail
  go_loop [2] (fun i => i = .int .i64 0) (fun _ => 0)
  case atStart => rfl
  case round =>
    subst hrel
    go_wp2_with fail
    go_end0
    exact ⟨rfl, rfl⟩
theorem growTexts_nil (bk : Nat) (w : World) (h : w.cell? ⟨bk, 0, none⟩ = some (.slice none 0 0)) :
    Calls Tryz.prog 79 #[.pointer (some ⟨bk, 0, none⟩)] w fun e w' => e = .returned (.slice none 0 0) ∧ w = w' := by
  go_enter Tryz.func79, Tryz.ntmps79
  go_wp2_with fail
  go_loop [3, 4] (fun o i => o = .slice none 0 0 ∧ i = .int .i64 0) (fun _ _ => 0)
  case atStart => exact ⟨rfl, rfl⟩
  case round =>
    obtain ⟨rfl, rfl⟩ := hrel
    go_wp2_with fail
    go_ret
    exact ⟨rfl, rfl⟩
theorem markedTexts_nil (w : World) :
    Calls Tryz.prog 94 #[.slice none 0 0] w fun e w' => e = .returned (.bool true) ∧ w = w' := by
  go_enter Tryz.func94, Tryz.ntmps94
  go_wp2_with fail
  go_loop [3] (fun i => i = .int .i64 0) (fun _ => 0)
  case atStart => rfl
  case round =>
    subst hrel
    go_wp2_with fail
    go_ret
    exact ⟨rfl, rfl⟩

theorem stillInts_nil (bk : Nat) (w : World) (h : w.cell? ⟨bk, 2, none⟩ = some (.slice none 0 0)) :
    Calls Tryz.prog 50 #[.pointer (some ⟨bk, 0, none⟩)] w fun e w' => e = .returned (.bool true) ∧ w = w' := by
  go_enter Tryz.func50, Tryz.ntmps50
  go_wp2_with fail
  go_loop [3] (fun i => i = .int .i64 0) (fun _ => 0)
  case atStart => rfl
  case round =>
    subst hrel
    go_wp2_with fail
    go_ret
    exact ⟨rfl, rfl⟩
theorem putInts_nil (bk : Nat) (w : World) (h : w.cell? ⟨bk, 2, none⟩ = some (.slice none 0 0)) :
    Calls Tryz.prog 70 #[.pointer (some ⟨bk, 0, none⟩)] w fun e w' => e = .returned (.tuple #[]) ∧ w = w' := by
  go_enter Tryz.func70, Tryz.ntmps70
  go_wp2_with fail
  go_loop [2] (fun i => i = .int .i64 0) (fun _ => 0)
  case atStart => rfl
  case round =>
    subst hrel
    go_wp2_with fail
    go_end0
    exact ⟨rfl, rfl⟩
theorem growInts_nil (bk : Nat) (w : World) (h : w.cell? ⟨bk, 2, none⟩ = some (.slice none 0 0)) :
    Calls Tryz.prog 80 #[.pointer (some ⟨bk, 0, none⟩)] w fun e w' => e = .returned (.slice none 0 0) ∧ w = w' := by
  go_enter Tryz.func80, Tryz.ntmps80
  go_wp2_with fail
  go_loop [3, 4] (fun o i => o = .slice none 0 0 ∧ i = .int .i64 0) (fun _ _ => 0)
  case atStart => exact ⟨rfl, rfl⟩
  case round =>
    obtain ⟨rfl, rfl⟩ := hrel
    go_wp2_with fail
    go_ret
    exact ⟨rfl, rfl⟩
theorem markedInts_nil (w : World) :
    Calls Tryz.prog 95 #[.slice none 0 0] w fun e w' => e = .returned (.bool true) ∧ w = w' := by
  go_enter Tryz.func95, Tryz.ntmps95
  go_wp2_with fail
  go_loop [3] (fun i => i = .int .i64 0) (fun _ => 0)
  case atStart => rfl
  case round =>
    subst hrel
    go_wp2_with fail
    go_ret
    exact ⟨rfl, rfl⟩

theorem stillVecs_nil (bk : Nat) (w : World) (h : w.cell? ⟨bk, 4, none⟩ = some (.slice none 0 0)) :
    Calls Tryz.prog 51 #[.pointer (some ⟨bk, 0, none⟩)] w fun e w' => e = .returned (.bool true) ∧ w = w' := by
  go_enter Tryz.func51, Tryz.ntmps51
  go_wp2_with fail
  go_loop [3] (fun i => i = .int .i64 0) (fun _ => 0)
  case atStart => rfl
  case round =>
    subst hrel
    go_wp2_with fail
    go_ret
    exact ⟨rfl, rfl⟩
theorem putVecs_nil (bk : Nat) (w : World) (h : w.cell? ⟨bk, 4, none⟩ = some (.slice none 0 0)) :
    Calls Tryz.prog 71 #[.pointer (some ⟨bk, 0, none⟩)] w fun e w' => e = .returned (.tuple #[]) ∧ w = w' := by
  go_enter Tryz.func71, Tryz.ntmps71
  go_wp2_with fail
  go_loop [2] (fun i => i = .int .i64 0) (fun _ => 0)
  case atStart => rfl
  case round =>
    subst hrel
    go_wp2_with fail
    go_end0
    exact ⟨rfl, rfl⟩
theorem growVecs_nil (bk : Nat) (w : World) (h : w.cell? ⟨bk, 4, none⟩ = some (.slice none 0 0)) :
    Calls Tryz.prog 81 #[.pointer (some ⟨bk, 0, none⟩)] w fun e w' => e = .returned (.slice none 0 0) ∧ w = w' := by
  go_enter Tryz.func81, Tryz.ntmps81
  go_wp2_with fail
  go_loop [3, 4] (fun o i => o = .slice none 0 0 ∧ i = .int .i64 0) (fun _ _ => 0)
  case atStart => exact ⟨rfl, rfl⟩
  case round =>
    obtain ⟨rfl, rfl⟩ := hrel
    go_wp2_with fail
    go_ret
    exact ⟨rfl, rfl⟩
theorem markedVecs_nil (w : World) :
    Calls Tryz.prog 96 #[.slice none 0 0] w fun e w' => e = .returned (.bool true) ∧ w = w' := by
  go_enter Tryz.func96, Tryz.ntmps96
  go_wp2_with fail
  go_loop [3] (fun i => i = .int .i64 0) (fun _ => 0)
  case atStart => rfl
  case round =>
    subst hrel
    go_wp2_with fail
    go_ret
    exact ⟨rfl, rfl⟩

theorem stillKeys_nil (bk : Nat) (w : World) (h : w.cell? ⟨bk, 6, none⟩ = some (.slice none 0 0)) :
    Calls Tryz.prog 52 #[.pointer (some ⟨bk, 0, none⟩)] w fun e w' => e = .returned (.bool true) ∧ w = w' := by
  go_enter Tryz.func52, Tryz.ntmps52
  go_wp2_with fail
  go_loop [3] (fun i => i = .int .i64 0) (fun _ => 0)
  case atStart => rfl
  case round =>
    subst hrel
    go_wp2_with fail
    go_ret
    exact ⟨rfl, rfl⟩
theorem putKeys_nil (bk : Nat) (w : World) (h : w.cell? ⟨bk, 6, none⟩ = some (.slice none 0 0)) :
    Calls Tryz.prog 72 #[.pointer (some ⟨bk, 0, none⟩)] w fun e w' => e = .returned (.tuple #[]) ∧ w = w' := by
  go_enter Tryz.func72, Tryz.ntmps72
  go_wp2_with fail
  go_loop [2] (fun i => i = .int .i64 0) (fun _ => 0)
  case atStart => rfl
  case round =>
    subst hrel
    go_wp2_with fail
    go_end0
    exact ⟨rfl, rfl⟩
theorem growKeys_nil (bk : Nat) (w : World) (h : w.cell? ⟨bk, 6, none⟩ = some (.slice none 0 0)) :
    Calls Tryz.prog 82 #[.pointer (some ⟨bk, 0, none⟩)] w fun e w' => e = .returned (.slice none 0 0) ∧ w = w' := by
  go_enter Tryz.func82, Tryz.ntmps82
  go_wp2_with fail
  go_loop [3, 4] (fun o i => o = .slice none 0 0 ∧ i = .int .i64 0) (fun _ _ => 0)
  case atStart => exact ⟨rfl, rfl⟩
  case round =>
    obtain ⟨rfl, rfl⟩ := hrel
    go_wp2_with fail
    go_ret
    exact ⟨rfl, rfl⟩
theorem markedKeys_nil (w : World) :
    Calls Tryz.prog 97 #[.slice none 0 0] w fun e w' => e = .returned (.bool true) ∧ w = w' := by
  go_enter Tryz.func97, Tryz.ntmps97
  go_wp2_with fail
  go_loop [3] (fun i => i = .int .i64 0) (fun _ => 0)
  case atStart => rfl
  case round =>
    subst hrel
    go_wp2_with fail
    go_ret
    exact ⟨rfl, rfl⟩

theorem stillPairs_nil (bk : Nat) (w : World) (h : w.cell? ⟨bk, 8, none⟩ = some (.slice none 0 0)) :
    Calls Tryz.prog 53 #[.pointer (some ⟨bk, 0, none⟩)] w fun e w' => e = .returned (.bool true) ∧ w = w' := by
  go_enter Tryz.func53, Tryz.ntmps53
  go_wp2_with fail
  go_loop [3] (fun i => i = .int .i64 0) (fun _ => 0)
  case atStart => rfl
  case round =>
    subst hrel
    go_wp2_with fail
    go_ret
    exact ⟨rfl, rfl⟩
theorem putPairs_nil (bk : Nat) (w : World) (h : w.cell? ⟨bk, 8, none⟩ = some (.slice none 0 0)) :
    Calls Tryz.prog 73 #[.pointer (some ⟨bk, 0, none⟩)] w fun e w' => e = .returned (.tuple #[]) ∧ w = w' := by
  go_enter Tryz.func73, Tryz.ntmps73
  go_wp2_with fail
  go_loop [2] (fun i => i = .int .i64 0) (fun _ => 0)
  case atStart => rfl
  case round =>
    subst hrel
    go_wp2_with fail
    go_end0
    exact ⟨rfl, rfl⟩
theorem growPairs_nil (bk : Nat) (w : World) (h : w.cell? ⟨bk, 8, none⟩ = some (.slice none 0 0)) :
    Calls Tryz.prog 83 #[.pointer (some ⟨bk, 0, none⟩)] w fun e w' => e = .returned (.slice none 0 0) ∧ w = w' := by
  go_enter Tryz.func83, Tryz.ntmps83
  go_wp2_with fail
  go_loop [3, 4] (fun o i => o = .slice none 0 0 ∧ i = .int .i64 0) (fun _ _ => 0)
  case atStart => exact ⟨rfl, rfl⟩
  case round =>
    obtain ⟨rfl, rfl⟩ := hrel
    go_wp2_with fail
    go_ret
    exact ⟨rfl, rfl⟩
theorem markedPairs_nil (w : World) :
    Calls Tryz.prog 98 #[.slice none 0 0] w fun e w' => e = .returned (.bool true) ∧ w = w' := by
  go_enter Tryz.func98, Tryz.ntmps98
  go_wp2_with fail
  go_loop [3] (fun i => i = .int .i64 0) (fun _ => 0)
  case atStart => rfl
  case round =>
    subst hrel
    go_wp2_with fail
    go_ret
    exact ⟨rfl, rfl⟩

theorem stillVersions_nil (bk : Nat) (w : World) (h : w.cell? ⟨bk, 10, none⟩ = some (.slice none 0 0)) :
    Calls Tryz.prog 54 #[.pointer (some ⟨bk, 0, none⟩)] w fun e w' => e = .returned (.bool true) ∧ w = w' := by
  go_enter Tryz.func54, Tryz.ntmps54
  go_wp2_with fail
  go_loop [3] (fun i => i = .int .i64 0) (fun _ => 0)
  case atStart => rfl
  case round =>
    subst hrel
    go_wp2_with fail
    go_ret
    exact ⟨rfl, rfl⟩
theorem putVersions_nil (bk : Nat) (w : World) (h : w.cell? ⟨bk, 10, none⟩ = some (.slice none 0 0)) :
    Calls Tryz.prog 64 #[.pointer (some ⟨bk, 0, none⟩)] w fun e w' => e = .returned (.tuple #[]) ∧ w = w' := by
  go_enter Tryz.func64, Tryz.ntmps64
  go_wp2_with fail
  go_loop [2] (fun i => i = .int .i64 0) (fun _ => 0)
  case atStart => rfl
  case round =>
    subst hrel
    go_wp2_with fail
    go_end0
    exact ⟨rfl, rfl⟩
theorem growVersions_nil (bk : Nat) (w : World) (h : w.cell? ⟨bk, 10, none⟩ = some (.slice none 0 0)) :
    Calls Tryz.prog 84 #[.pointer (some ⟨bk, 0, none⟩)] w fun e w' => e = .returned (.slice none 0 0) ∧ w = w' := by
  go_enter Tryz.func84, Tryz.ntmps84
  go_wp2_with fail
  go_loop [3, 4] (fun o i => o = .slice none 0 0 ∧ i = .int .i64 0) (fun _ _ => 0)
  case atStart => exact ⟨rfl, rfl⟩
  case round =>
    obtain ⟨rfl, rfl⟩ := hrel
    go_wp2_with fail
    go_ret
    exact ⟨rfl, rfl⟩
theorem markedVersions_nil (w : World) :
    Calls Tryz.prog 99 #[.slice none 0 0] w fun e w' => e = .returned (.bool true) ∧ w = w' := by
  go_enter Tryz.func99, Tryz.ntmps99
  go_wp2_with fail
  go_loop [3] (fun i => i = .int .i64 0) (fun _ => 0)
  case atStart => rfl
  case round =>
    subst hrel
    go_wp2_with fail
    go_ret
    exact ⟨rfl, rfl⟩

theorem stillWrites_nil (bk : Nat) (w : World) (h : w.cell? ⟨bk, 12, none⟩ = some (.slice none 0 0)) :
    Calls Tryz.prog 55 #[.pointer (some ⟨bk, 0, none⟩)] w fun e w' => e = .returned (.bool true) ∧ w = w' := by
  go_enter Tryz.func55, Tryz.ntmps55
  go_wp2_with fail
  go_loop [3] (fun i => i = .int .i64 0) (fun _ => 0)
  case atStart => rfl
  case round =>
    subst hrel
    go_wp2_with fail
    go_ret
    exact ⟨rfl, rfl⟩
theorem putWrites_nil (bk : Nat) (w : World) (h : w.cell? ⟨bk, 12, none⟩ = some (.slice none 0 0)) :
    Calls Tryz.prog 74 #[.pointer (some ⟨bk, 0, none⟩)] w fun e w' => e = .returned (.tuple #[]) ∧ w = w' := by
  go_enter Tryz.func74, Tryz.ntmps74
  go_wp2_with fail
  go_loop [2] (fun i => i = .int .i64 0) (fun _ => 0)
  case atStart => rfl
  case round =>
    subst hrel
    go_wp2_with fail
    go_end0
    exact ⟨rfl, rfl⟩
theorem growWrites_nil (bk : Nat) (w : World) (h : w.cell? ⟨bk, 12, none⟩ = some (.slice none 0 0)) :
    Calls Tryz.prog 85 #[.pointer (some ⟨bk, 0, none⟩)] w fun e w' => e = .returned (.slice none 0 0) ∧ w = w' := by
  go_enter Tryz.func85, Tryz.ntmps85
  go_wp2_with fail
  go_loop [3, 4] (fun o i => o = .slice none 0 0 ∧ i = .int .i64 0) (fun _ _ => 0)
  case atStart => exact ⟨rfl, rfl⟩
  case round =>
    obtain ⟨rfl, rfl⟩ := hrel
    go_wp2_with fail
    go_ret
    exact ⟨rfl, rfl⟩
theorem markedWrites_nil (w : World) :
    Calls Tryz.prog 100 #[.slice none 0 0] w fun e w' => e = .returned (.bool true) ∧ w = w' := by
  go_enter Tryz.func100, Tryz.ntmps100
  go_wp2_with fail
  go_loop [3] (fun i => i = .int .i64 0) (fun _ => 0)
  case atStart => rfl
  case round =>
    subst hrel
    go_wp2_with fail
    go_ret
    exact ⟨rfl, rfl⟩

theorem stillTxns_nil (bk : Nat) (w : World) (h : w.cell? ⟨bk, 14, none⟩ = some (.slice none 0 0)) :
    Calls Tryz.prog 56 #[.pointer (some ⟨bk, 0, none⟩)] w fun e w' => e = .returned (.bool true) ∧ w = w' := by
  go_enter Tryz.func56, Tryz.ntmps56
  go_wp2_with fail
  go_loop [3] (fun i => i = .int .i64 0) (fun _ => 0)
  case atStart => rfl
  case round =>
    subst hrel
    go_wp2_with fail
    go_ret
    exact ⟨rfl, rfl⟩
theorem putTxns_nil (bk : Nat) (w : World) (h : w.cell? ⟨bk, 14, none⟩ = some (.slice none 0 0)) :
    Calls Tryz.prog 65 #[.pointer (some ⟨bk, 0, none⟩)] w fun e w' => e = .returned (.tuple #[]) ∧ w = w' := by
  go_enter Tryz.func65, Tryz.ntmps65
  go_wp2_with fail
  go_loop [2] (fun i => i = .int .i64 0) (fun _ => 0)
  case atStart => rfl
  case round =>
    subst hrel
    go_wp2_with fail
    go_end0
    exact ⟨rfl, rfl⟩
theorem growTxns_nil (bk : Nat) (w : World) (h : w.cell? ⟨bk, 14, none⟩ = some (.slice none 0 0)) :
    Calls Tryz.prog 86 #[.pointer (some ⟨bk, 0, none⟩)] w fun e w' => e = .returned (.slice none 0 0) ∧ w = w' := by
  go_enter Tryz.func86, Tryz.ntmps86
  go_wp2_with fail
  go_loop [3, 4] (fun o i => o = .slice none 0 0 ∧ i = .int .i64 0) (fun _ _ => 0)
  case atStart => exact ⟨rfl, rfl⟩
  case round =>
    obtain ⟨rfl, rfl⟩ := hrel
    go_wp2_with fail
    go_ret
    exact ⟨rfl, rfl⟩
theorem markedTxns_nil (w : World) :
    Calls Tryz.prog 101 #[.slice none 0 0] w fun e w' => e = .returned (.bool true) ∧ w = w' := by
  go_enter Tryz.func101, Tryz.ntmps101
  go_wp2_with fail
  go_loop [3] (fun i => i = .int .i64 0) (fun _ => 0)
  case atStart => rfl
  case round =>
    subst hrel
    go_wp2_with fail
    go_ret
    exact ⟨rfl, rfl⟩

theorem stillFiles_nil (bk : Nat) (w : World) (h : w.cell? ⟨bk, 16, none⟩ = some (.slice none 0 0)) :
    Calls Tryz.prog 57 #[.pointer (some ⟨bk, 0, none⟩)] w fun e w' => e = .returned (.bool true) ∧ w = w' := by
  go_enter Tryz.func57, Tryz.ntmps57
  go_wp2_with fail
  go_loop [3] (fun i => i = .int .i64 0) (fun _ => 0)
  case atStart => rfl
  case round =>
    subst hrel
    go_wp2_with fail
    go_ret
    exact ⟨rfl, rfl⟩
theorem putFiles_nil (bk : Nat) (w : World) (h : w.cell? ⟨bk, 16, none⟩ = some (.slice none 0 0)) :
    Calls Tryz.prog 75 #[.pointer (some ⟨bk, 0, none⟩)] w fun e w' => e = .returned (.tuple #[]) ∧ w = w' := by
  go_enter Tryz.func75, Tryz.ntmps75
  go_wp2_with fail
  go_loop [2] (fun i => i = .int .i64 0) (fun _ => 0)
  case atStart => rfl
  case round =>
    subst hrel
    go_wp2_with fail
    go_end0
    exact ⟨rfl, rfl⟩
theorem growFiles_nil (bk : Nat) (w : World) (h : w.cell? ⟨bk, 16, none⟩ = some (.slice none 0 0)) :
    Calls Tryz.prog 87 #[.pointer (some ⟨bk, 0, none⟩)] w fun e w' => e = .returned (.slice none 0 0) ∧ w = w' := by
  go_enter Tryz.func87, Tryz.ntmps87
  go_wp2_with fail
  go_loop [3, 4] (fun o i => o = .slice none 0 0 ∧ i = .int .i64 0) (fun _ _ => 0)
  case atStart => exact ⟨rfl, rfl⟩
  case round =>
    obtain ⟨rfl, rfl⟩ := hrel
    go_wp2_with fail
    go_ret
    exact ⟨rfl, rfl⟩
theorem markedFiles_nil (w : World) :
    Calls Tryz.prog 102 #[.slice none 0 0] w fun e w' => e = .returned (.bool true) ∧ w = w' := by
  go_enter Tryz.func102, Tryz.ntmps102
  go_wp2_with fail
  go_loop [3] (fun i => i = .int .i64 0) (fun _ => 0)
  case atStart => rfl
  case round =>
    subst hrel
    go_wp2_with fail
    go_ret
    exact ⟨rfl, rfl⟩

theorem stillNotes_nil (bk : Nat) (w : World) (h : w.cell? ⟨bk, 18, none⟩ = some (.slice none 0 0)) :
    Calls Tryz.prog 58 #[.pointer (some ⟨bk, 0, none⟩)] w fun e w' => e = .returned (.bool true) ∧ w = w' := by
  go_enter Tryz.func58, Tryz.ntmps58
  go_wp2_with fail
  go_loop [3] (fun i => i = .int .i64 0) (fun _ => 0)
  case atStart => rfl
  case round =>
    subst hrel
    go_wp2_with fail
    go_ret
    exact ⟨rfl, rfl⟩
theorem putNotes_nil (bk : Nat) (w : World) (h : w.cell? ⟨bk, 18, none⟩ = some (.slice none 0 0)) :
    Calls Tryz.prog 76 #[.pointer (some ⟨bk, 0, none⟩)] w fun e w' => e = .returned (.tuple #[]) ∧ w = w' := by
  go_enter Tryz.func76, Tryz.ntmps76
  go_wp2_with fail
  go_loop [2] (fun i => i = .int .i64 0) (fun _ => 0)
  case atStart => rfl
  case round =>
    subst hrel
    go_wp2_with fail
    go_end0
    exact ⟨rfl, rfl⟩
theorem growNotes_nil (bk : Nat) (w : World) (h : w.cell? ⟨bk, 18, none⟩ = some (.slice none 0 0)) :
    Calls Tryz.prog 88 #[.pointer (some ⟨bk, 0, none⟩)] w fun e w' => e = .returned (.slice none 0 0) ∧ w = w' := by
  go_enter Tryz.func88, Tryz.ntmps88
  go_wp2_with fail
  go_loop [3, 4] (fun o i => o = .slice none 0 0 ∧ i = .int .i64 0) (fun _ _ => 0)
  case atStart => exact ⟨rfl, rfl⟩
  case round =>
    obtain ⟨rfl, rfl⟩ := hrel
    go_wp2_with fail
    go_ret
    exact ⟨rfl, rfl⟩
theorem markedNotes_nil (w : World) :
    Calls Tryz.prog 103 #[.slice none 0 0] w fun e w' => e = .returned (.bool true) ∧ w = w' := by
  go_enter Tryz.func103, Tryz.ntmps103
  go_wp2_with fail
  go_loop [3] (fun i => i = .int .i64 0) (fun _ => 0)
  case atStart => rfl
  case round =>
    subst hrel
    go_wp2_with fail
    go_ret
    exact ⟨rfl, rfl⟩

theorem stillLeases_nil (bk : Nat) (w : World) (h : w.cell? ⟨bk, 20, none⟩ = some (.slice none 0 0)) :
    Calls Tryz.prog 59 #[.pointer (some ⟨bk, 0, none⟩)] w fun e w' => e = .returned (.bool true) ∧ w = w' := by
  go_enter Tryz.func59, Tryz.ntmps59
  go_wp2_with fail
  go_loop [3] (fun i => i = .int .i64 0) (fun _ => 0)
  case atStart => rfl
  case round =>
    subst hrel
    go_wp2_with fail
    go_ret
    exact ⟨rfl, rfl⟩
theorem putLeases_nil (bk : Nat) (w : World) (h : w.cell? ⟨bk, 20, none⟩ = some (.slice none 0 0)) :
    Calls Tryz.prog 66 #[.pointer (some ⟨bk, 0, none⟩)] w fun e w' => e = .returned (.tuple #[]) ∧ w = w' := by
  go_enter Tryz.func66, Tryz.ntmps66
  go_wp2_with fail
  go_loop [2] (fun i => i = .int .i64 0) (fun _ => 0)
  case atStart => rfl
  case round =>
    subst hrel
    go_wp2_with fail
    go_end0
    exact ⟨rfl, rfl⟩
theorem growLeases_nil (bk : Nat) (w : World) (h : w.cell? ⟨bk, 20, none⟩ = some (.slice none 0 0)) :
    Calls Tryz.prog 89 #[.pointer (some ⟨bk, 0, none⟩)] w fun e w' => e = .returned (.slice none 0 0) ∧ w = w' := by
  go_enter Tryz.func89, Tryz.ntmps89
  go_wp2_with fail
  go_loop [3, 4] (fun o i => o = .slice none 0 0 ∧ i = .int .i64 0) (fun _ _ => 0)
  case atStart => exact ⟨rfl, rfl⟩
  case round =>
    obtain ⟨rfl, rfl⟩ := hrel
    go_wp2_with fail
    go_ret
    exact ⟨rfl, rfl⟩
theorem markedLeases_nil (w : World) :
    Calls Tryz.prog 104 #[.slice none 0 0] w fun e w' => e = .returned (.bool true) ∧ w = w' := by
  go_enter Tryz.func104, Tryz.ntmps104
  go_wp2_with fail
  go_loop [3] (fun i => i = .int .i64 0) (fun _ => 0)
  case atStart => rfl
  case round =>
    subst hrel
    go_wp2_with fail
    go_ret
    exact ⟨rfl, rfl⟩

theorem stillLetters_nil (bk : Nat) (w : World) (h : w.cell? ⟨bk, 22, none⟩ = some (.slice none 0 0)) :
    Calls Tryz.prog 60 #[.pointer (some ⟨bk, 0, none⟩)] w fun e w' => e = .returned (.bool true) ∧ w = w' := by
  go_enter Tryz.func60, Tryz.ntmps60
  go_wp2_with fail
  go_loop [3] (fun i => i = .int .i64 0) (fun _ => 0)
  case atStart => rfl
  case round =>
    subst hrel
    go_wp2_with fail
    go_ret
    exact ⟨rfl, rfl⟩
theorem putLetters_nil (bk : Nat) (w : World) (h : w.cell? ⟨bk, 22, none⟩ = some (.slice none 0 0)) :
    Calls Tryz.prog 77 #[.pointer (some ⟨bk, 0, none⟩)] w fun e w' => e = .returned (.tuple #[]) ∧ w = w' := by
  go_enter Tryz.func77, Tryz.ntmps77
  go_wp2_with fail
  go_loop [2] (fun i => i = .int .i64 0) (fun _ => 0)
  case atStart => rfl
  case round =>
    subst hrel
    go_wp2_with fail
    go_end0
    exact ⟨rfl, rfl⟩
theorem growLetters_nil (bk : Nat) (w : World) (h : w.cell? ⟨bk, 22, none⟩ = some (.slice none 0 0)) :
    Calls Tryz.prog 90 #[.pointer (some ⟨bk, 0, none⟩)] w fun e w' => e = .returned (.slice none 0 0) ∧ w = w' := by
  go_enter Tryz.func90, Tryz.ntmps90
  go_wp2_with fail
  go_loop [3, 4] (fun o i => o = .slice none 0 0 ∧ i = .int .i64 0) (fun _ _ => 0)
  case atStart => exact ⟨rfl, rfl⟩
  case round =>
    obtain ⟨rfl, rfl⟩ := hrel
    go_wp2_with fail
    go_ret
    exact ⟨rfl, rfl⟩
theorem markedLetters_nil (w : World) :
    Calls Tryz.prog 105 #[.slice none 0 0] w fun e w' => e = .returned (.bool true) ∧ w = w' := by
  go_enter Tryz.func105, Tryz.ntmps105
  go_wp2_with fail
  go_loop [3] (fun i => i = .int .i64 0) (fun _ => 0)
  case atStart => rfl
  case round =>
    subst hrel
    go_wp2_with fail
    go_ret
    exact ⟨rfl, rfl⟩

theorem stillSteps_nil (bk : Nat) (w : World) (h : w.cell? ⟨bk, 24, none⟩ = some (.slice none 0 0)) :
    Calls Tryz.prog 61 #[.pointer (some ⟨bk, 0, none⟩)] w fun e w' => e = .returned (.bool true) ∧ w = w' := by
  go_enter Tryz.func61, Tryz.ntmps61
  go_wp2_with fail
  go_loop [3] (fun i => i = .int .i64 0) (fun _ => 0)
  case atStart => rfl
  case round =>
    subst hrel
    go_wp2_with fail
    go_ret
    exact ⟨rfl, rfl⟩
theorem putSteps_nil (bk : Nat) (w : World) (h : w.cell? ⟨bk, 24, none⟩ = some (.slice none 0 0)) :
    Calls Tryz.prog 67 #[.pointer (some ⟨bk, 0, none⟩)] w fun e w' => e = .returned (.tuple #[]) ∧ w = w' := by
  go_enter Tryz.func67, Tryz.ntmps67
  go_wp2_with fail
  go_loop [2] (fun i => i = .int .i64 0) (fun _ => 0)
  case atStart => rfl
  case round =>
    subst hrel
    go_wp2_with fail
    go_end0
    exact ⟨rfl, rfl⟩
theorem growSteps_nil (bk : Nat) (w : World) (h : w.cell? ⟨bk, 24, none⟩ = some (.slice none 0 0)) :
    Calls Tryz.prog 91 #[.pointer (some ⟨bk, 0, none⟩)] w fun e w' => e = .returned (.slice none 0 0) ∧ w = w' := by
  go_enter Tryz.func91, Tryz.ntmps91
  go_wp2_with fail
  go_loop [3, 4] (fun o i => o = .slice none 0 0 ∧ i = .int .i64 0) (fun _ _ => 0)
  case atStart => exact ⟨rfl, rfl⟩
  case round =>
    obtain ⟨rfl, rfl⟩ := hrel
    go_wp2_with fail
    go_ret
    exact ⟨rfl, rfl⟩
theorem markedSteps_nil (w : World) :
    Calls Tryz.prog 106 #[.slice none 0 0] w fun e w' => e = .returned (.bool true) ∧ w = w' := by
  go_enter Tryz.func106, Tryz.ntmps106
  go_wp2_with fail
  go_loop [3] (fun i => i = .int .i64 0) (fun _ => 0)
  case atStart => rfl
  case round =>
    subst hrel
    go_wp2_with fail
    go_ret
    exact ⟨rfl, rfl⟩

theorem stillReals_nil (bk : Nat) (w : World) (h : w.cell? ⟨bk, 26, none⟩ = some (.slice none 0 0)) :
    Calls Tryz.prog 62 #[.pointer (some ⟨bk, 0, none⟩)] w fun e w' => e = .returned (.bool true) ∧ w = w' := by
  go_enter Tryz.func62, Tryz.ntmps62
  go_wp2_with fail
  go_loop [3] (fun i => i = .int .i64 0) (fun _ => 0)
  case atStart => rfl
  case round =>
    subst hrel
    go_wp2_with fail
    go_ret
    exact ⟨rfl, rfl⟩
theorem putReals_nil (bk : Nat) (w : World) (h : w.cell? ⟨bk, 26, none⟩ = some (.slice none 0 0)) :
    Calls Tryz.prog 78 #[.pointer (some ⟨bk, 0, none⟩)] w fun e w' => e = .returned (.tuple #[]) ∧ w = w' := by
  go_enter Tryz.func78, Tryz.ntmps78
  go_wp2_with fail
  go_loop [2] (fun i => i = .int .i64 0) (fun _ => 0)
  case atStart => rfl
  case round =>
    subst hrel
    go_wp2_with fail
    go_end0
    exact ⟨rfl, rfl⟩
theorem growReals_nil (bk : Nat) (w : World) (h : w.cell? ⟨bk, 26, none⟩ = some (.slice none 0 0)) :
    Calls Tryz.prog 92 #[.pointer (some ⟨bk, 0, none⟩)] w fun e w' => e = .returned (.slice none 0 0) ∧ w = w' := by
  go_enter Tryz.func92, Tryz.ntmps92
  go_wp2_with fail
  go_loop [3, 4] (fun o i => o = .slice none 0 0 ∧ i = .int .i64 0) (fun _ _ => 0)
  case atStart => exact ⟨rfl, rfl⟩
  case round =>
    obtain ⟨rfl, rfl⟩ := hrel
    go_wp2_with fail
    go_ret
    exact ⟨rfl, rfl⟩
theorem markedReals_nil (w : World) :
    Calls Tryz.prog 107 #[.slice none 0 0] w fun e w' => e = .returned (.bool true) ∧ w = w' := by
  go_enter Tryz.func107, Tryz.ntmps107
  go_wp2_with fail
  go_loop [3] (fun i => i = .int .i64 0) (fun _ => 0)
  case atStart => rfl
  case round =>
    subst hrel
    go_wp2_with fail
    go_ret
    exact ⟨rfl, rfl⟩

theorem stillLists_nil (bk : Nat) (w : World) (h : w.cell? ⟨bk, 28, none⟩ = some (.slice none 0 0)) :
    Calls Tryz.prog 63 #[.pointer (some ⟨bk, 0, none⟩)] w fun e w' => e = .returned (.bool true) ∧ w = w' := by
  go_enter Tryz.func63, Tryz.ntmps63
  go_wp2_with fail
  go_loop [3] (fun i => i = .int .i64 0) (fun _ => 0)
  case atStart => rfl
  case round =>
    subst hrel
    go_wp2_with fail
    go_ret
    exact ⟨rfl, rfl⟩
theorem putLists_nil (bk : Nat) (w : World) (h : w.cell? ⟨bk, 28, none⟩ = some (.slice none 0 0)) :
    Calls Tryz.prog 68 #[.pointer (some ⟨bk, 0, none⟩)] w fun e w' => e = .returned (.tuple #[]) ∧ w = w' := by
  go_enter Tryz.func68, Tryz.ntmps68
  go_wp2_with fail
  go_loop [2] (fun i => i = .int .i64 0) (fun _ => 0)
  case atStart => rfl
  case round =>
    subst hrel
    go_wp2_with fail
    go_end0
    exact ⟨rfl, rfl⟩
theorem growLists_nil (bk : Nat) (w : World) (h : w.cell? ⟨bk, 28, none⟩ = some (.slice none 0 0)) :
    Calls Tryz.prog 93 #[.pointer (some ⟨bk, 0, none⟩)] w fun e w' => e = .returned (.slice none 0 0) ∧ w = w' := by
  go_enter Tryz.func93, Tryz.ntmps93
  go_wp2_with fail
  go_loop [3, 4] (fun o i => o = .slice none 0 0 ∧ i = .int .i64 0) (fun _ _ => 0)
  case atStart => exact ⟨rfl, rfl⟩
  case round =>
    obtain ⟨rfl, rfl⟩ := hrel
    go_wp2_with fail
    go_ret
    exact ⟨rfl, rfl⟩
theorem markedLists_nil (w : World) :
    Calls Tryz.prog 108 #[.slice none 0 0] w fun e w' => e = .returned (.bool true) ∧ w = w' := by
  go_enter Tryz.func108, Tryz.ntmps108
  go_wp2_with fail
  go_loop [3] (fun i => i = .int .i64 0) (fun _ => 0)
  case atStart => rfl
  case round =>
    subst hrel
    go_wp2_with fail
    go_ret
    exact ⟨rfl, rfl⟩

end Go.Proofs.YtcbgflidlpmhcaaGreatDoor

namespace Go.Proofs.YtcbgflidlpmhcaaGreatDoor
open Go.RowKit

set_option maxRecDepth 100000 in
set_option maxHeartbeats 16000000 in
theorem apartKeys (B bk : Nat) (bcs : Array Value) (ZKeys : List (List (ByteArray × ByteArray))) (SKeys : Nat) (w : World) (hb : Blk w bk 60 bcs) (hKeys : KStKeys w B bcs ZKeys SKeys) (hnil : ∀ j, j < 30 → j ≠ 6 → j ≠ 7 → bcs[j]? = some (.slice none 0 0)) (hB : B ≤ w.heap.size) :
    Calls Tryz.prog 25 #[.pointer (some ⟨bk, 0, none⟩)] w fun e w' => e = .returned (.bool true) ∧ Below B w w' := by
  have HB := Lib.hid hb
  have HN := Lib.hid hnil
  obtain ⟨v1Keys, v2Keys, aKeys, cKeys, f1Keys, f2Keys, x1, x2, _, x3, x4, x5, _, hmKeys⟩ := hKeys
  obtain ⟨vaKeys, vcKeys, rfl⟩ := srow_slice x1
  have hzKeys : Hid (∀ i, i < ZKeys.length → (ZKeys.getD i []).length ≤ 1000000 ∧ ∀ x ∈ ZKeys.getD i [], okKeys x) := fun i hi => ⟨Nat.le_trans (x5 i hi).1 (by decide), (x5 i hi).2⟩
  have hlKeys : Hid (∀ i, i < ZKeys.length → (ZKeys.getD i []).length ≤ 100000) := fun i hi => (x5 i hi).1
  have PKeys : Hid (PSt elKeys 37 22 w B (.slice vaKeys ZKeys.length vcKeys) aKeys ZKeys.length (fun i => ZKeys.getD i [])) := ⟨x1, x3⟩
  have r2Keys := Lib.hid x2
  have rcKeys := Lib.hid x4
  clear x1 x2 x3 x4 x5
  obtain ⟨mKeys, hmmKeys⟩ : ∃ m, m = ZKeys.length := ⟨_, rfl⟩
  rw [← hmmKeys] at hmKeys hzKeys hlKeys PKeys r2Keys rcKeys f1Keys
  clear hmmKeys
  clear hb hnil
  go_enter Tryz.func25, Tryz.ntmps25
  go_wp2_with fail
  refine (stillTexts_nil bk _ (by rw [HB.out.cell 0]; exact HN.out 0 (by decide) (by decide) (by decide))).mono ?_
  rintro e w2 ⟨rfl, rfl⟩
  go_wp2_with fail
  refine (stillInts_nil bk _ (by rw [HB.out.cell 2]; exact HN.out 2 (by decide) (by decide) (by decide))).mono ?_
  rintro e w2 ⟨rfl, rfl⟩
  go_wp2_with fail
  refine (stillVecs_nil bk _ (by rw [HB.out.cell 4]; exact HN.out 4 (by decide) (by decide) (by decide))).mono ?_
  rintro e w2 ⟨rfl, rfl⟩
  go_wp2_with fail
  refine (stillKeys_any B bk mKeys (.slice vaKeys mKeys vcKeys) v2Keys aKeys cKeys _ w (by rw [HB.out.cell 6]; exact f1Keys) (by rw [HB.out.cell 7]; exact f2Keys) PKeys.out.r1 r2Keys.out PKeys.out.ra.each rcKeys.out hzKeys.out hmKeys).mono ?_
  rintro e W1 ⟨rfl, q1, hq1⟩
  have T1 : Tn B (fun _ => false) w W1 := by rw [hq1]; exact (Tn.refl _ _ _).drewN _
  replace HB := Lib.hid (T1.blk HB.out rfl)
  have L1 := Lib.hid (T1.below (hB))
  replace PKeys := Lib.hid (PKeys.out.tn T1 (fun _ _ => rfl) (fun _ _ => rfl))
  replace r2Keys := Lib.hid (T1.own r2Keys.out (fun _ _ => rfl))
  replace rcKeys := Lib.hid (fun i hi => (rcKeys.out i hi).tn T1 (fun _ _ => rfl))
  clear hq1 T1
  go_wp2_with fail
  refine (stillPairs_nil bk _ (by rw [HB.out.cell 8]; exact HN.out 8 (by decide) (by decide) (by decide))).mono ?_
  rintro e w2 ⟨rfl, rfl⟩
  go_wp2_with fail
  refine (stillVersions_nil bk _ (by rw [HB.out.cell 10]; exact HN.out 10 (by decide) (by decide) (by decide))).mono ?_
  rintro e w2 ⟨rfl, rfl⟩
  go_wp2_with fail
  refine (stillWrites_nil bk _ (by rw [HB.out.cell 12]; exact HN.out 12 (by decide) (by decide) (by decide))).mono ?_
  rintro e w2 ⟨rfl, rfl⟩
  go_wp2_with fail
  refine (stillTxns_nil bk _ (by rw [HB.out.cell 14]; exact HN.out 14 (by decide) (by decide) (by decide))).mono ?_
  rintro e w2 ⟨rfl, rfl⟩
  go_wp2_with fail
  refine (stillFiles_nil bk _ (by rw [HB.out.cell 16]; exact HN.out 16 (by decide) (by decide) (by decide))).mono ?_
  rintro e w2 ⟨rfl, rfl⟩
  go_wp2_with fail
  refine (stillNotes_nil bk _ (by rw [HB.out.cell 18]; exact HN.out 18 (by decide) (by decide) (by decide))).mono ?_
  rintro e w2 ⟨rfl, rfl⟩
  go_wp2_with fail
  refine (stillLeases_nil bk _ (by rw [HB.out.cell 20]; exact HN.out 20 (by decide) (by decide) (by decide))).mono ?_
  rintro e w2 ⟨rfl, rfl⟩
  go_wp2_with fail
  refine (stillLetters_nil bk _ (by rw [HB.out.cell 22]; exact HN.out 22 (by decide) (by decide) (by decide))).mono ?_
  rintro e w2 ⟨rfl, rfl⟩
  go_wp2_with fail
  refine (stillSteps_nil bk _ (by rw [HB.out.cell 24]; exact HN.out 24 (by decide) (by decide) (by decide))).mono ?_
  rintro e w2 ⟨rfl, rfl⟩
  go_wp2_with fail
  refine (stillReals_nil bk _ (by rw [HB.out.cell 26]; exact HN.out 26 (by decide) (by decide) (by decide))).mono ?_
  rintro e w2 ⟨rfl, rfl⟩
  go_wp2_with fail
  refine (stillLists_nil bk _ (by rw [HB.out.cell 28]; exact HN.out 28 (by decide) (by decide) (by decide))).mono ?_
  rintro e w2 ⟨rfl, rfl⟩
  go_wp2_with fail
  refine (putVersions_nil bk _ (by rw [HB.out.cell 10]; exact HN.out 10 (by decide) (by decide) (by decide))).mono ?_
  rintro e w2 ⟨rfl, rfl⟩
  go_wp2_with fail
  refine (putTxns_nil bk _ (by rw [HB.out.cell 14]; exact HN.out 14 (by decide) (by decide) (by decide))).mono ?_
  rintro e w2 ⟨rfl, rfl⟩
  go_wp2_with fail
  refine (putLeases_nil bk _ (by rw [HB.out.cell 20]; exact HN.out 20 (by decide) (by decide) (by decide))).mono ?_
  rintro e w2 ⟨rfl, rfl⟩
  go_wp2_with fail
  refine (putSteps_nil bk _ (by rw [HB.out.cell 24]; exact HN.out 24 (by decide) (by decide) (by decide))).mono ?_
  rintro e w2 ⟨rfl, rfl⟩
  go_wp2_with fail
  refine (putLists_nil bk _ (by rw [HB.out.cell 28]; exact HN.out 28 (by decide) (by decide) (by decide))).mono ?_
  rintro e w2 ⟨rfl, rfl⟩
  go_wp2_with fail
  refine (putTexts_nil bk _ (by rw [HB.out.cell 0]; exact HN.out 0 (by decide) (by decide) (by decide))).mono ?_
  rintro e w2 ⟨rfl, rfl⟩
  go_wp2_with fail
  refine (putInts_nil bk _ (by rw [HB.out.cell 2]; exact HN.out 2 (by decide) (by decide) (by decide))).mono ?_
  rintro e w2 ⟨rfl, rfl⟩
  go_wp2_with fail
  refine (putVecs_nil bk _ (by rw [HB.out.cell 4]; exact HN.out 4 (by decide) (by decide) (by decide))).mono ?_
  rintro e w2 ⟨rfl, rfl⟩
  go_wp2_with fail
  refine (putKeys_any B bk mKeys bcs (.slice vaKeys mKeys vcKeys) aKeys _ W1 HB.out f1Keys PKeys.out.r1 PKeys.out.ra (fun i hi => (hlKeys.out i hi)) hmKeys (Nat.le_trans hB L1.out.size)).mono ?_
  rintro e W2 ⟨rfl, hR2, T2⟩
  replace HB := Lib.hid (T2.blk HB.out (cellsT_ne (by decide) _ _))
  have L2 := Lib.hid (L1.out.trans (T2.below (Nat.le_trans hB L1.out.size)))
  replace PKeys : Hid (PSt elKeys 37 22 W2 B (.slice vaKeys mKeys vcKeys) aKeys mKeys (fun i => elKeys.marks i 0 (ZKeys.getD i []).length)) := ⟨T2.own PKeys.out.r1 (fun cs fr => cellsT_ne (by decide) _ _), hR2⟩
  clear hR2 T2
  go_wp2_with fail
  refine (putPairs_nil bk _ (by rw [HB.out.cell 8]; exact HN.out 8 (by decide) (by decide) (by decide))).mono ?_
  rintro e w2 ⟨rfl, rfl⟩
  go_wp2_with fail
  refine (putWrites_nil bk _ (by rw [HB.out.cell 12]; exact HN.out 12 (by decide) (by decide) (by decide))).mono ?_
  rintro e w2 ⟨rfl, rfl⟩
  go_wp2_with fail
  refine (putFiles_nil bk _ (by rw [HB.out.cell 16]; exact HN.out 16 (by decide) (by decide) (by decide))).mono ?_
  rintro e w2 ⟨rfl, rfl⟩
  go_wp2_with fail
  refine (putNotes_nil bk _ (by rw [HB.out.cell 18]; exact HN.out 18 (by decide) (by decide) (by decide))).mono ?_
  rintro e w2 ⟨rfl, rfl⟩
  go_wp2_with fail
  refine (putLetters_nil bk _ (by rw [HB.out.cell 22]; exact HN.out 22 (by decide) (by decide) (by decide))).mono ?_
  rintro e w2 ⟨rfl, rfl⟩
  go_wp2_with fail
  refine (putReals_nil bk _ (by rw [HB.out.cell 26]; exact HN.out 26 (by decide) (by decide) (by decide))).mono ?_
  rintro e w2 ⟨rfl, rfl⟩
  go_wp2_with fail
  refine (growTexts_nil bk _ (by rw [HB.out.cell 0]; exact HN.out 0 (by decide) (by decide) (by decide))).mono ?_
  rintro e w2 ⟨rfl, rfl⟩
  go_wp2_with fail
  refine (growInts_nil bk _ (by rw [HB.out.cell 2]; exact HN.out 2 (by decide) (by decide) (by decide))).mono ?_
  rintro e w2 ⟨rfl, rfl⟩
  go_wp2_with fail
  refine (growVecs_nil bk _ (by rw [HB.out.cell 4]; exact HN.out 4 (by decide) (by decide) (by decide))).mono ?_
  rintro e w2 ⟨rfl, rfl⟩
  go_wp2_with fail
  refine (growKeys_any B bk mKeys bcs (.slice vaKeys mKeys vcKeys) aKeys (fun i => (ZKeys.getD i []).length) W2 HB.out f1Keys PKeys.out.r1 PKeys.out.ra (fun i hi => (hlKeys.out i hi)) hmKeys (Nat.le_trans hB L2.out.size)).mono ?_
  rintro e W3 ⟨gKeys, bKeys, rfl, hO3, hF3, T3⟩
  replace HB := Lib.hid (T3.blk HB.out (cellsT_ne (by decide) _ _))
  have L3 := Lib.hid (L2.out.trans (T3.below (Nat.le_trans hB L2.out.size)))
  obtain ⟨gaKeys, gcKeys, rfl⟩ := srow_slice hO3
  have r1Keys := Lib.hid (T3.own PKeys.out.r1 (fun cs fr => cellsT_ne (by decide) _ _))
  have fmKeys := Lib.hid hF3
  have ogKeys := Lib.hid hO3
  clear PKeys
  clear hO3 hF3 T3
  go_wp2_with fail
  refine (growPairs_nil bk _ (by rw [HB.out.cell 8]; exact HN.out 8 (by decide) (by decide) (by decide))).mono ?_
  rintro e w2 ⟨rfl, rfl⟩
  go_wp2_with fail
  refine (growVersions_nil bk _ (by rw [HB.out.cell 10]; exact HN.out 10 (by decide) (by decide) (by decide))).mono ?_
  rintro e w2 ⟨rfl, rfl⟩
  go_wp2_with fail
  refine (growWrites_nil bk _ (by rw [HB.out.cell 12]; exact HN.out 12 (by decide) (by decide) (by decide))).mono ?_
  rintro e w2 ⟨rfl, rfl⟩
  go_wp2_with fail
  refine (growTxns_nil bk _ (by rw [HB.out.cell 14]; exact HN.out 14 (by decide) (by decide) (by decide))).mono ?_
  rintro e w2 ⟨rfl, rfl⟩
  go_wp2_with fail
  refine (growFiles_nil bk _ (by rw [HB.out.cell 16]; exact HN.out 16 (by decide) (by decide) (by decide))).mono ?_
  rintro e w2 ⟨rfl, rfl⟩
  go_wp2_with fail
  refine (growNotes_nil bk _ (by rw [HB.out.cell 18]; exact HN.out 18 (by decide) (by decide) (by decide))).mono ?_
  rintro e w2 ⟨rfl, rfl⟩
  go_wp2_with fail
  refine (growLeases_nil bk _ (by rw [HB.out.cell 20]; exact HN.out 20 (by decide) (by decide) (by decide))).mono ?_
  rintro e w2 ⟨rfl, rfl⟩
  go_wp2_with fail
  refine (growLetters_nil bk _ (by rw [HB.out.cell 22]; exact HN.out 22 (by decide) (by decide) (by decide))).mono ?_
  rintro e w2 ⟨rfl, rfl⟩
  go_wp2_with fail
  refine (growSteps_nil bk _ (by rw [HB.out.cell 24]; exact HN.out 24 (by decide) (by decide) (by decide))).mono ?_
  rintro e w2 ⟨rfl, rfl⟩
  go_wp2_with fail
  refine (growReals_nil bk _ (by rw [HB.out.cell 26]; exact HN.out 26 (by decide) (by decide) (by decide))).mono ?_
  rintro e w2 ⟨rfl, rfl⟩
  go_wp2_with fail
  refine (growLists_nil bk _ (by rw [HB.out.cell 28]; exact HN.out 28 (by decide) (by decide) (by decide))).mono ?_
  rintro e w2 ⟨rfl, rfl⟩
  have cTexts : W3.cell? ⟨bk, 0, none⟩ = some (.slice none 0 0) := by rw [HB.out.cell 0]; exact HN.out 0 (by decide) (by decide) (by decide)
  have cInts : W3.cell? ⟨bk, 2, none⟩ = some (.slice none 0 0) := by rw [HB.out.cell 2]; exact HN.out 2 (by decide) (by decide) (by decide)
  have cVecs : W3.cell? ⟨bk, 4, none⟩ = some (.slice none 0 0) := by rw [HB.out.cell 4]; exact HN.out 4 (by decide) (by decide) (by decide)
  have cKeys : W3.cell? ⟨bk, 6, none⟩ = some (.slice vaKeys mKeys vcKeys) := by rw [HB.out.cell 6]; exact f1Keys
  have cPairs : W3.cell? ⟨bk, 8, none⟩ = some (.slice none 0 0) := by rw [HB.out.cell 8]; exact HN.out 8 (by decide) (by decide) (by decide)
  have cVersions : W3.cell? ⟨bk, 10, none⟩ = some (.slice none 0 0) := by rw [HB.out.cell 10]; exact HN.out 10 (by decide) (by decide) (by decide)
  have cWrites : W3.cell? ⟨bk, 12, none⟩ = some (.slice none 0 0) := by rw [HB.out.cell 12]; exact HN.out 12 (by decide) (by decide) (by decide)
  have cTxns : W3.cell? ⟨bk, 14, none⟩ = some (.slice none 0 0) := by rw [HB.out.cell 14]; exact HN.out 14 (by decide) (by decide) (by decide)
  have cFiles : W3.cell? ⟨bk, 16, none⟩ = some (.slice none 0 0) := by rw [HB.out.cell 16]; exact HN.out 16 (by decide) (by decide) (by decide)
  have cNotes : W3.cell? ⟨bk, 18, none⟩ = some (.slice none 0 0) := by rw [HB.out.cell 18]; exact HN.out 18 (by decide) (by decide) (by decide)
  have cLeases : W3.cell? ⟨bk, 20, none⟩ = some (.slice none 0 0) := by rw [HB.out.cell 20]; exact HN.out 20 (by decide) (by decide) (by decide)
  have cLetters : W3.cell? ⟨bk, 22, none⟩ = some (.slice none 0 0) := by rw [HB.out.cell 22]; exact HN.out 22 (by decide) (by decide) (by decide)
  have cSteps : W3.cell? ⟨bk, 24, none⟩ = some (.slice none 0 0) := by rw [HB.out.cell 24]; exact HN.out 24 (by decide) (by decide) (by decide)
  have cReals : W3.cell? ⟨bk, 26, none⟩ = some (.slice none 0 0) := by rw [HB.out.cell 26]; exact HN.out 26 (by decide) (by decide) (by decide)
  have cLists : W3.cell? ⟨bk, 28, none⟩ = some (.slice none 0 0) := by rw [HB.out.cell 28]; exact HN.out 28 (by decide) (by decide) (by decide)
  go_wp2_with fail
  refine (markedTexts_nil W3).mono ?_
  rintro e w2 ⟨rfl, rfl⟩
  go_wp2_with fail
  refine (markedTexts_nil W3).mono ?_
  rintro e w2 ⟨rfl, rfl⟩
  go_wp2_with fail
  refine (markedInts_nil W3).mono ?_
  rintro e w2 ⟨rfl, rfl⟩
  go_wp2_with fail
  refine (markedInts_nil W3).mono ?_
  rintro e w2 ⟨rfl, rfl⟩
  go_wp2_with fail
  refine (markedVecs_nil W3).mono ?_
  rintro e w2 ⟨rfl, rfl⟩
  go_wp2_with fail
  refine (markedVecs_nil W3).mono ?_
  rintro e w2 ⟨rfl, rfl⟩
  go_wp2_with fail
  refine (markedKeys_any B _ mKeys _ bKeys (fun i => (ZKeys.getD i []).length + 72) W3 ogKeys.out (fun i hi => fmKeys.out.rb i hi) (fun i hi => by have := hlKeys.out i hi; omega) hmKeys).mono ?_
  rintro e W4 ⟨rfl, hg4⟩
  have T4 : Tn B (fun _ => false) W3 W4 := Tn.of_grown hg4
  replace HB := Lib.hid (T4.blk HB.out rfl)
  have L4 := Lib.hid (L3.out.trans (T4.below (Nat.le_trans hB L3.out.size)))
  replace r1Keys := Lib.hid (T4.own r1Keys.out (fun _ _ => rfl))
  replace fmKeys := Lib.hid (fmKeys.out.tn T4 (fun _ _ => rfl))
  replace ogKeys := Lib.hid (T4.own ogKeys.out (fun _ _ => rfl))
  clear hg4 T4 cKeys cPairs cVersions cWrites cTxns cFiles cNotes cLeases cLetters cSteps cReals cLists
  have cKeys : W4.cell? ⟨bk, 6, none⟩ = some (.slice vaKeys mKeys vcKeys) := by rw [HB.out.cell 6]; exact f1Keys
  have cPairs : W4.cell? ⟨bk, 8, none⟩ = some (.slice none 0 0) := by rw [HB.out.cell 8]; exact HN.out 8 (by decide) (by decide) (by decide)
  have cVersions : W4.cell? ⟨bk, 10, none⟩ = some (.slice none 0 0) := by rw [HB.out.cell 10]; exact HN.out 10 (by decide) (by decide) (by decide)
  have cWrites : W4.cell? ⟨bk, 12, none⟩ = some (.slice none 0 0) := by rw [HB.out.cell 12]; exact HN.out 12 (by decide) (by decide) (by decide)
  have cTxns : W4.cell? ⟨bk, 14, none⟩ = some (.slice none 0 0) := by rw [HB.out.cell 14]; exact HN.out 14 (by decide) (by decide) (by decide)
  have cFiles : W4.cell? ⟨bk, 16, none⟩ = some (.slice none 0 0) := by rw [HB.out.cell 16]; exact HN.out 16 (by decide) (by decide) (by decide)
  have cNotes : W4.cell? ⟨bk, 18, none⟩ = some (.slice none 0 0) := by rw [HB.out.cell 18]; exact HN.out 18 (by decide) (by decide) (by decide)
  have cLeases : W4.cell? ⟨bk, 20, none⟩ = some (.slice none 0 0) := by rw [HB.out.cell 20]; exact HN.out 20 (by decide) (by decide) (by decide)
  have cLetters : W4.cell? ⟨bk, 22, none⟩ = some (.slice none 0 0) := by rw [HB.out.cell 22]; exact HN.out 22 (by decide) (by decide) (by decide)
  have cSteps : W4.cell? ⟨bk, 24, none⟩ = some (.slice none 0 0) := by rw [HB.out.cell 24]; exact HN.out 24 (by decide) (by decide) (by decide)
  have cReals : W4.cell? ⟨bk, 26, none⟩ = some (.slice none 0 0) := by rw [HB.out.cell 26]; exact HN.out 26 (by decide) (by decide) (by decide)
  have cLists : W4.cell? ⟨bk, 28, none⟩ = some (.slice none 0 0) := by rw [HB.out.cell 28]; exact HN.out 28 (by decide) (by decide) (by decide)
  go_wp2_with fail
  refine (markedKeys_any B B mKeys _ aKeys (fun i => (ZKeys.getD i []).length) W4 r1Keys.out (fun i hi => fmKeys.out.ra i hi) (fun i hi => by have := hlKeys.out i hi; omega) hmKeys).mono ?_
  rintro e W5 ⟨rfl, hg5⟩
  have T5 : Tn B (fun _ => false) W4 W5 := Tn.of_grown hg5
  replace HB := Lib.hid (T5.blk HB.out rfl)
  have L5 := Lib.hid (L4.out.trans (T5.below (Nat.le_trans hB L4.out.size)))
  replace r1Keys := Lib.hid (T5.own r1Keys.out (fun _ _ => rfl))
  replace fmKeys := Lib.hid (fmKeys.out.tn T5 (fun _ _ => rfl))
  replace ogKeys := Lib.hid (T5.own ogKeys.out (fun _ _ => rfl))
  clear hg5 T5 cKeys cPairs cVersions cWrites cTxns cFiles cNotes cLeases cLetters cSteps cReals cLists
  have cKeys : W5.cell? ⟨bk, 6, none⟩ = some (.slice vaKeys mKeys vcKeys) := by rw [HB.out.cell 6]; exact f1Keys
  have cPairs : W5.cell? ⟨bk, 8, none⟩ = some (.slice none 0 0) := by rw [HB.out.cell 8]; exact HN.out 8 (by decide) (by decide) (by decide)
  have cVersions : W5.cell? ⟨bk, 10, none⟩ = some (.slice none 0 0) := by rw [HB.out.cell 10]; exact HN.out 10 (by decide) (by decide) (by decide)
  have cWrites : W5.cell? ⟨bk, 12, none⟩ = some (.slice none 0 0) := by rw [HB.out.cell 12]; exact HN.out 12 (by decide) (by decide) (by decide)
  have cTxns : W5.cell? ⟨bk, 14, none⟩ = some (.slice none 0 0) := by rw [HB.out.cell 14]; exact HN.out 14 (by decide) (by decide) (by decide)
  have cFiles : W5.cell? ⟨bk, 16, none⟩ = some (.slice none 0 0) := by rw [HB.out.cell 16]; exact HN.out 16 (by decide) (by decide) (by decide)
  have cNotes : W5.cell? ⟨bk, 18, none⟩ = some (.slice none 0 0) := by rw [HB.out.cell 18]; exact HN.out 18 (by decide) (by decide) (by decide)
  have cLeases : W5.cell? ⟨bk, 20, none⟩ = some (.slice none 0 0) := by rw [HB.out.cell 20]; exact HN.out 20 (by decide) (by decide) (by decide)
  have cLetters : W5.cell? ⟨bk, 22, none⟩ = some (.slice none 0 0) := by rw [HB.out.cell 22]; exact HN.out 22 (by decide) (by decide) (by decide)
  have cSteps : W5.cell? ⟨bk, 24, none⟩ = some (.slice none 0 0) := by rw [HB.out.cell 24]; exact HN.out 24 (by decide) (by decide) (by decide)
  have cReals : W5.cell? ⟨bk, 26, none⟩ = some (.slice none 0 0) := by rw [HB.out.cell 26]; exact HN.out 26 (by decide) (by decide) (by decide)
  have cLists : W5.cell? ⟨bk, 28, none⟩ = some (.slice none 0 0) := by rw [HB.out.cell 28]; exact HN.out 28 (by decide) (by decide) (by decide)
  go_wp2_with fail
  refine (markedPairs_nil W5).mono ?_
  rintro e w2 ⟨rfl, rfl⟩
  go_wp2_with fail
  refine (markedPairs_nil W5).mono ?_
  rintro e w2 ⟨rfl, rfl⟩
  go_wp2_with fail
  refine (markedVersions_nil W5).mono ?_
  rintro e w2 ⟨rfl, rfl⟩
  go_wp2_with fail
  refine (markedVersions_nil W5).mono ?_
  rintro e w2 ⟨rfl, rfl⟩
  go_wp2_with fail
  refine (markedWrites_nil W5).mono ?_
  rintro e w2 ⟨rfl, rfl⟩
  go_wp2_with fail
  refine (markedWrites_nil W5).mono ?_
  rintro e w2 ⟨rfl, rfl⟩
  go_wp2_with fail
  refine (markedTxns_nil W5).mono ?_
  rintro e w2 ⟨rfl, rfl⟩
  go_wp2_with fail
  refine (markedTxns_nil W5).mono ?_
  rintro e w2 ⟨rfl, rfl⟩
  go_wp2_with fail
  refine (markedFiles_nil W5).mono ?_
  rintro e w2 ⟨rfl, rfl⟩
  go_wp2_with fail
  refine (markedFiles_nil W5).mono ?_
  rintro e w2 ⟨rfl, rfl⟩
  go_wp2_with fail
  refine (markedNotes_nil W5).mono ?_
  rintro e w2 ⟨rfl, rfl⟩
  go_wp2_with fail
  refine (markedNotes_nil W5).mono ?_
  rintro e w2 ⟨rfl, rfl⟩
  go_wp2_with fail
  refine (markedLeases_nil W5).mono ?_
  rintro e w2 ⟨rfl, rfl⟩
  go_wp2_with fail
  refine (markedLeases_nil W5).mono ?_
  rintro e w2 ⟨rfl, rfl⟩
  go_wp2_with fail
  refine (markedLetters_nil W5).mono ?_
  rintro e w2 ⟨rfl, rfl⟩
  go_wp2_with fail
  refine (markedLetters_nil W5).mono ?_
  rintro e w2 ⟨rfl, rfl⟩
  go_wp2_with fail
  refine (markedSteps_nil W5).mono ?_
  rintro e w2 ⟨rfl, rfl⟩
  go_wp2_with fail
  refine (markedSteps_nil W5).mono ?_
  rintro e w2 ⟨rfl, rfl⟩
  go_wp2_with fail
  refine (markedReals_nil W5).mono ?_
  rintro e w2 ⟨rfl, rfl⟩
  go_wp2_with fail
  refine (markedReals_nil W5).mono ?_
  rintro e w2 ⟨rfl, rfl⟩
  go_wp2_with fail
  refine (markedLists_nil W5).mono ?_
  rintro e w2 ⟨rfl, rfl⟩
  go_wp2_with fail
  refine (markedLists_nil W5).mono ?_
  rintro e w2 ⟨rfl, rfl⟩
  go_wp2_with fail
  go_ret
  exact ⟨rfl, L5.out⟩
end Go.Proofs.YtcbgflidlpmhcaaGreatDoor

namespace Go.Proofs.YtcbgflidlpmhcaaGreatDoor
section
variable {P : Program} {ops : Array Oper} {C : World → Prop} {Q : Act → Prop} {a : Act} {o : Oper} {rest : List Oper}
/-- The rest of a region. -/
structure WQ (P : Program) (ops : Array Oper) (C : World → Prop) (Q : Act → Prop) (l : List Oper) (a : Act) : Prop where
  out : wpQuiet P ops C Q l a
theorem wq_nil {Q : Act → Prop} {a : Act} (h : Q a) : WQ P ops C Q [] a := ⟨wpQuiet_nil h⟩
theorem wq_skip (hw : Region.wanted o (yielded ops a.tmps) = false) (h : WQ P ops C Q rest (a.put o.dst undef)) : WQ P ops C Q (o :: rest) a := ⟨wpQuiet_skip hw h.out⟩
theorem wq_take (hw : Region.wanted o (yielded ops a.tmps) = true) (v : Value) (hy : ∀ w, C w → o.quietAt P a C w v) (h : WQ P ops C Q rest (a.put o.dst v)) : WQ P ops C Q (o :: rest) a := ⟨wpQuiet_take hw v hy h.out⟩
theorem wp_region_wq {id : Nat} {Q : Exit → Act → World → Prop} {a : Act} {w : World} {l : List Oper} (C : World → Prop) (hm : P.follows .mixedOrders = true) (hB : Region.lexB .any l.toArray = true) (hC : C w.drew)
    (h : WQ P l.toArray C (fun a' => ∀ w', C w' → Q .normal a' w') l a) : (Code.region id l.toArray true).wp P Q a w :=
  wp_region_class C hm hB hC h.out
end
end Go.Proofs.YtcbgflidlpmhcaaGreatDoor

namespace Go.Proofs.YtcbgflidlpmhcaaGreatDoor
open Go.RowKit

set_option maxRecDepth 100000 in
set_option maxHeartbeats 1000000 in
theorem rputvar_neg (v : Int) (w : World) (hv : v < 0) :
    Calls Tryz.prog 121 #[.int .i64 v] w fun e w' => e = .returned (.string ByteArray.empty) ∧ w = w' := by
  go_enter Tryz.func121, Tryz.ntmps121
  go_wp2
  go_ret
  exact ⟨rfl, rfl⟩

set_option maxRecDepth 100000 in
set_option maxHeartbeats 1000000 in
theorem rputvar_any (v : Nat) (w : World) (hv : v < 9223372036854775808) :
    Calls Tryz.prog 121 #[.int .i64 (v : Int)] w fun e w' => e = .returned (.string ⟨(pv v).toArray⟩) ∧ Below w.heap.size w w' := by
  go_enter Tryz.func121, Tryz.ntmps121
  go_wp2
  go_loopw [0, 3] (fun x b wr => ∃ (u : Nat) (l : List UInt8), x = .int .i64 (u : Int) ∧ u ≤ v ∧ Hid (pv v = l ++ pv u) ∧ Byt wr w.heap.size 5 b l ∧ Below w.heap.size w wr)
    (fun x _ _ => (intOf x).toNat)
  case atStart => exact ⟨v, [], rfl, by simp, rfl, Byt.nil _ _ _, Below.refl _ _⟩
  case round =>
    obtain ⟨u, l, rfl, hu, Hl, hown, hbe⟩ := hrel
    have hll : l.length ≤ 9 := by
      have h1 := pv_len9 v hv
      rw [Hl.out, List.length_append] at h1
      omega
    by_cases h : 128 ≤ u
    · obtain ⟨c, hc⟩ : ∃ c, c = UInt8.ofNat (u % 128 + 128) := ⟨_, rfl⟩
      have hcc : (u : Int) % 128 + 128 = (c.toNat : Int) := by
        rw [hc, ← u8_of _ (by omega)]
        omega
      have HC := Lib.hid hcc
      have Hc := Lib.hid hc
      clear hc hcc
      go_wp2_with (at_builtin; refine wpList_append_byte _ rfl (.tmp 8) (.tmp 13) 68 rfl Tryz.underlying68 u8info rfl (hown.alloc _) ⟨wr.heap.size, 0, none⟩ 1 rfl _ (cell_new _ _ _) c HC.out ?c3 ?c4 ?_)
      case c3 => omega
      case c4 => have := hbe.size; simp; omega
      intro v' w' hown' hgr
      have hb' := (hown.alloc _).grown (below_alloc hbe (Nat.le_refl _) _) (by have := hbe.size; simp; omega) hgr
      clear hgr
      go_wp2
      go_roundw
      case rel =>
        refine ⟨u / 128, l ++ [c], by go_num, by omega, ?_, hown', hb'⟩
        show pv v = _
        rw [Hl.out, pv_more u h, Hc.out]
        simp
      case measure => simp [intOf]; omega
    · obtain ⟨c, hc⟩ : ∃ c, c = UInt8.ofNat u := ⟨_, rfl⟩
      have HC : Hid ((u : Int) = (c.toNat : Int)) := by rw [hc]; exact Lib.hid (u8_of u (by omega))
      have Hc := Lib.hid hc
      clear hc
      go_wp2_with (at_builtin; refine wpList_append_byte _ rfl (.tmp 17) (.tmp 20) 68 rfl Tryz.underlying68 u8info rfl (hown.alloc _) ⟨wr.heap.size, 0, none⟩ 1 rfl _ (cell_new _ _ _) c HC.out ?d3 ?d4 ?_)
      case d3 => omega
      case d4 => have := hbe.size; simp; omega
      intro v' w' hown' hgr
      have hb' := (hown.alloc _).grown (below_alloc hbe (Nat.le_refl _) _) (by have := hbe.size; simp; omega) hgr
      have hcv := hown'.string (src := 68) (dst := 9) Tryz.underlying68 Tryz.underlying5 Tryz.underlying9
      clear hgr hown'
      go_wp2
      go_ret
      refine ⟨?_, hb'⟩
      rw [Hl.out, pv_last u (by omega), Hc.out]
      rfl

theorem be_bytes (v n j : Nat) (h : j < n) : (be v n).drop j = UInt8.ofNat (v / 2 ^ (8 * (n - 1 - j)) % 256) :: (be v n).drop (j + 1) := by
  have hl : j < (be v n).length := by rw [be_length]; exact h
  have hg := be_get v n j h
  rw [List.getElem?_eq_getElem hl] at hg
  injection hg with hg
  rw [List.drop_eq_getElem_cons hl, hg]

theorem be_back (v n j k : Nat) (h : j + 1 + k = n) (x : Int) (hx : x = ((v / 2 ^ (8 * k) : Nat) : Int) % 256) :
    ((List.replicate (j + 1) (0 : UInt8) ++ (be v n).drop (j + 1)).map b8).set j (.int .u8 x) = (List.replicate j (0 : UInt8) ++ (be v n).drop j).map b8 := by
  have hb : Value.int .u8 x = b8 (UInt8.ofNat (v / 2 ^ (8 * k) % 256)) := by
    unfold b8
    rw [← u8_of _ (by omega), hx]
    congr 1
  rw [be_bytes v n j (by omega), show n - 1 - j = k from by omega, hb, ← List.map_set]
  congr 1
  rw [List.replicate_succ', List.append_assoc, List.set_append_right _ _ (by simp)]
  simp

theorem putIs_of (v n _k : Nat) (h1 : 1 ≤ n) (h7 : n ≤ 7) (s : ByteArray) (hs : s = ⟨(be v n).toArray⟩) (h : v / 2 ^ (8 * n) = 0) : PutIs v n s 0 := by
  refine Or.inl ⟨rfl, by omega, by omega, by omega, ?_, ?_⟩
  · have h2 : v < 2 ^ (8 * n) := by
      rcases Nat.lt_or_ge v (2 ^ (8 * n)) with h3 | h3
      · exact h3
      · have := (Nat.le_div_iff_mul_le (Nat.two_pow_pos (8 * n))).2 (show 1 * 2 ^ (8 * n) ≤ v by omega)
        omega
    rw [Int.toNat_natCast]
    exact_mod_cast h2
  · rw [Int.toNat_natCast, Int.toNat_natCast]; exact hs

theorem putIs_not (v n : Nat) (h : 0 < v / 2 ^ (8 * n)) : PutIs v n ByteArray.empty 1 := by
  refine Or.inr ⟨rfl, rfl, Or.inr (Or.inr (Or.inr ?_))⟩
  rw [Int.toNat_natCast]
  have h2 : 2 ^ (8 * n) ≤ v := by
    have := (Nat.le_div_iff_mul_le (Nat.two_pow_pos (8 * n))).1 h
    omega
  exact_mod_cast h2

theorem putIs_one {v n : Int} {s t : ByteArray} {e f : Int} (h : PutIs v n s e) (k : PutIs v n t f) : s = t ∧ e = f := by
  rcases h with ⟨h0, h1, h2, h3, h4, h5⟩ | ⟨h0, h1, h2⟩
  · rcases k with ⟨k0, k1, k2, k3, k4, k5⟩ | ⟨k0, k1, k2⟩
    · exact ⟨h5.trans k5.symm, h0.trans k0.symm⟩
    · omega
  · rcases k with ⟨k0, k1, k2, k3, k4, k5⟩ | ⟨k0, k1, k2⟩
    · omega
    · exact ⟨h1.trans k1.symm, h0.trans k0.symm⟩

set_option maxRecDepth 100000 in
set_option maxHeartbeats 1000000 in
theorem rput_bad (v n : Int) (w : World) (h : n < 1 ∨ 7 < n ∨ v < 0) :
    Calls Tryz.prog 122 #[.int .i64 v, .int .i64 n] w fun e w' => e = .returned (.tuple #[.string ByteArray.empty, .int .i64 1]) ∧ w = w' := by
  by_cases h1 : n < 1
  · clear h
    go_enter Tryz.func122, Tryz.ntmps122
    go_wp2
    go_ret2
    exact ⟨rfl, rfl⟩
  by_cases h2 : 7 < n
  · clear h
    go_enter Tryz.func122, Tryz.ntmps122
    go_wp2
    go_ret2
    exact ⟨rfl, rfl⟩
  have h3 : v < 0 := by omega
  clear h
  go_enter Tryz.func122, Tryz.ntmps122
  go_wp2
  go_ret2
  exact ⟨rfl, rfl⟩

set_option maxRecDepth 100000 in
set_option maxHeartbeats 2000000 in
theorem rput_nat (v n : Nat) (w : World) (h1 : 1 ≤ n) (h7 : n ≤ 7) (hv : v < 9223372036854775808) :
    Calls Tryz.prog 122 #[.int .i64 (v : Int), .int .i64 (n : Int)] w fun e w' => ∃ (s : ByteArray) (er : Int), e = .returned (.tuple #[.string s, .int .i64 er]) ∧ Hid (PutIs v n s er) ∧ Below w.heap.size w w' := by
  obtain ⟨i0, hi0, hz0, hz1, hz2⟩ := info_parts u8info
  go_enter Tryz.func122, Tryz.ntmps122
  go_wp2_with (at_make; refine wpList_make_full _ rfl (.tmp 18) (.tmp 18) 68 rfl w.heap.size 5 i0 (.int .u8 0) 1 Tryz.underlying68 hi0 hz0 hz1 .i64 .i64 _ _ n rfl rfl rfl rfl ?b2 ?b3 ?b4 ?_)
  case b2 => rw [hz2]; omega
  case b3 => unfold maxLen; omega
  case b4 => exact Nat.le_refl _
  intro w1 hown hgr
  have hb1 : Below w.heap.size w w1 := (Below.refl _ _).grown hgr (Nat.le_refl _) (by simp)
  rw [show (madeCells #[Value.int IntKind.u8 0] n).toList = (List.replicate n (0 : UInt8)).map b8 from (toList_madeCells_one _ _).trans (by simp [b8])] at hown
  have Hown := Lib.hid hown
  clear hown hgr
  go_wp2
  go_loopw [0, 7] (fun x i wr => ∃ j k y : Nat, j + k = n ∧ i = .int .i64 ((j : Int) - 1) ∧ x = .int .i64 (y : Int) ∧ y ≤ v ∧ Hid (y = v / 2 ^ (8 * k)) ∧ wr.ownsRow w.heap.size 5 1 (.slice (some ⟨w.heap.size, 0, none⟩) n n) n ((List.replicate j 0 ++ (be v n).drop j).map b8) ∧ Below w.heap.size w wr)
    (fun _ i _ => (intOf i + 1).toNat)
  case atStart => exact ⟨n, 0, v, by omega, rfl, rfl, by omega, by show v = _; simp, by simpa [List.drop_of_length_le (Nat.le_of_eq (be_length v n))] using Hown.out, hb1⟩
  case round =>
    obtain ⟨j, k, y, hjk, hi, rfl, hy, Hy, hown, hbe⟩ := hrel
    cases j with
    | succ j =>
      rw [show (((j + 1 : Nat) : Int) - 1) = (j : Int) from by omega] at hi
      subst hi
      have hln : (List.replicate (j + 1) (0 : UInt8) ++ (be v n).drop (j + 1)).length = n := by simp [be]; omega
      have hc := hown.cellAt j (by omega)
      have hf := hown.frozenAt j
      obtain ⟨x, hx⟩ : ∃ x, ((List.replicate (j + 1) (0 : UInt8) ++ (be v n).drop (j + 1)).map b8)[j]? = some x := ⟨_, List.getElem?_eq_getElem (by rw [List.length_map, hln]; omega)⟩
      rw [hx] at hc
      have Hown' := Lib.hid hown
      have hjn : j < n := by omega
      clear hown hx hln
      go_wp2
      go_roundw
      case rel =>
        have hst := World.ownsRow.stored Hown'.out j (.int .u8 ((y : Int) % 256))
        rw [be_back v n j k (by omega) ((y : Int) % 256) (by rw [Hy.out])] at hst
        refine ⟨j, k + 1, y / 256, by omega, by go_num, by go_num, by omega, ?_, hst.1, below_setCell hbe (Nat.le_refl _) _⟩
        show _ = _
        rw [Hy.out, Nat.div_div_eq_div_mul, Nat.mul_add, Nat.pow_add]
      case measure => simp [intOf]
    | zero =>
      subst hi
      obtain rfl : k = n := by omega
      by_cases hpos : 0 < y
      · go_wp2
        go_ret2
        refine ⟨_, _, rfl, ?_, hbe⟩
        exact Lib.hid (putIs_not v k (by rw [← Hy.out]; exact hpos))
      · have hby : Byt wr w.heap.size 5 (.slice (some ⟨w.heap.size, 0, none⟩) k k) (be v k) := by
          unfold Byt
          rw [be_length]
          simpa using hown
        have hcv := hby.string (src := 68) (dst := 9) Tryz.underlying68 Tryz.underlying5 Tryz.underlying9
        clear hown hby
        go_wp2
        go_ret2
        exact ⟨_, _, rfl, Lib.hid (putIs_of v k 0 h1 h7 _ rfl (by rw [← Hy.out]; omega)), hbe⟩

theorem rput_any (v n : Int) (w : World) (hv : v < 9223372036854775808) :
    Calls Tryz.prog 122 #[.int .i64 v, .int .i64 n] w fun e w' => ∃ (s : ByteArray) (er : Int), e = .returned (.tuple #[.string s, .int .i64 er]) ∧ Hid (PutIs v n s er) ∧ Below w.heap.size w w' := by
  by_cases h : n < 1 ∨ 7 < n ∨ v < 0
  · refine (rput_bad v n w h).mono ?_
    rintro e w' ⟨rfl, rfl⟩
    exact ⟨_, _, rfl, Lib.hid (Or.inr ⟨rfl, rfl, by omega⟩), Below.refl _ _⟩
  · obtain ⟨n, rfl⟩ := Int.eq_ofNat_of_zero_le (show 0 ≤ n by omega)
    obtain ⟨v, rfl⟩ := Int.eq_ofNat_of_zero_le (show 0 ≤ v by omega)
    exact rput_nat v n w (by omega) (by omega) (by omega)
end Go.Proofs.YtcbgflidlpmhcaaGreatDoor

namespace Go.Proofs.YtcbgflidlpmhcaaGreatDoor
open Go.RowKit

/-- What stands while the bytes grow. -/
structure BSt (w : World) (v : Value) (l : List UInt8) (g a0 a1 : Nat) (k m : ByteArray) (W : World) : Prop where
  own : Byt W w.heap.size 5 v l
  c0 : W.cell? ⟨g, a0, none⟩ = some (.string k)
  c1 : W.cell? ⟨g, a1, none⟩ = some (.string m)
  lt : g < W.heap.size
  below : Below w.heap.size w W
theorem BSt.up {w : World} {v : Value} {l : List UInt8} {g a0 a1 : Nat} {k m : ByteArray} {W W' : World} (h : BSt w v l g a0 a1 k m W) (hb : Below W.heap.size W W') : BSt w v l g a0 a1 k m W' :=
  ⟨byt_up h.own hb, (hb.cell (p := ⟨g, a0, none⟩) h.lt).trans h.c0, (hb.cell (p := ⟨g, a1, none⟩) h.lt).trans h.c1, Nat.lt_of_lt_of_le h.lt hb.size, h.below.trans (hb.mono h.below.size)⟩
theorem BSt.cells {w : World} {v : Value} {l : List UInt8} {g a0 a1 : Nat} {k m : ByteArray} {W : World} (h : BSt w v l g a0 a1 k m W) : W.cell? ⟨g, a0, none⟩ = some (.string k) ∧ W.cell? ⟨g, a1, none⟩ = some (.string m) := ⟨h.c0, h.c1⟩
theorem bst_pv {w : World} {v : Value} {l : List UInt8} {g a0 a1 : Nat} {k m : ByteArray} {W : World} (h : BSt w v l g a0 a1 k m W) (u : Nat) (hu : u < 9223372036854775808) {s : ByteArray} (hs : (⟨(pv u).toArray⟩ : ByteArray) = s) :
    Calls Tryz.prog 121 #[.int .i64 (u : Int)] W fun e W' => e = .returned (.string s) ∧ BSt w v l g a0 a1 k m W' :=
  (rputvar_any u W hu).mono fun e W' ⟨h1, h2⟩ => ⟨by rw [h1, hs], h.up h2⟩

theorem byt_slice {w : World} {B : Nat} {e : TypeId} {v : Value} {l : List UInt8} (h : Byt w B e v l) : ∃ A c, v = .slice A l.length c := by
  rcases h.2 with ⟨rfl, hn⟩ | ⟨g, cap, cur, rfl, _⟩
  · exact ⟨none, 0, by rw [hn]⟩
  · exact ⟨_, _, rfl⟩
theorem take_snoc {L : List KV} {k : Nat} {m : KV} (hm : L[k]? = some m) : L.take (k + 1) = L.take k ++ [m] := by
  obtain ⟨h1, h2⟩ := List.getElem?_eq_some_iff.1 hm
  rw [List.take_succ_eq_append_getElem h1, h2]
theorem take_body {L : List KV} {k : Nat} {m : KV} (hm : L[k]? = some m) : bodyL 0 [] (L.take (k + 1)) = bodyL 0 [] (L.take k) ++ onePair k (lastK [] (L.take k)) (bl m.1) (bl m.2) := by
  have h1 := (List.getElem?_eq_some_iff.1 hm).1
  rw [take_snoc hm, bodyL_snoc, List.length_take, Nat.min_eq_left (by omega), Nat.zero_add]
theorem lastK_take {L : List KV} {k : Nat} {m : KV} (hm : L[k]? = some m) : lastK [] (L.take (k + 1)) = bl m.1 := by
  rw [take_snoc hm, lastK_snoc]
theorem put4 {v : Nat} (hv : v < 4294967296) {s : ByteArray} {er : Int} (h : PutIs (v : Int) 4 s er) : er = 0 ∧ s = ⟨(be v 4).toArray⟩ := by
  rcases h with ⟨h1, _, _, _, _, h2⟩ | ⟨_, _, h3⟩
  · exact ⟨h1, h2⟩
  · rcases h3 with h3 | h3 | h3 | h3
    · exact absurd h3 (by decide)
    · exact absurd h3 (by decide)
    · omega
    · have : (2 : Int) ^ (8 * (4 : Int).toNat) = 4294967296 := by decide
      rw [this] at h3
      omega
theorem below_drewN' {w : World} (j : Nat) : Below w.heap.size w (w.drewN j) := (Tn.refl w.heap.size (fun _ => false) w).drewN j |>.below (Nat.le_refl _)
theorem below_drew' {w : World} : Below w.heap.size w w.drew := (Tn.refl w.heap.size (fun _ => false) w).drew |>.below (Nat.le_refl _)

set_option maxRecDepth 100000 in
set_option maxHeartbeats 16000000 in
theorem rbuild (A : Option Addr) (n c : Nat) (L : List KV) (w : World) (h : KeysAt w A n L) (hok : okP L) (hn : n ≤ 1000000) :
    Calls Tryz.prog 35 #[.slice A n c] w fun e w' => e = .returned (.tuple #[.string (buildP L).1, .int .i64 (buildP L).2]) ∧ Below w.heap.size w w' := by
  have HK := Lib.hid h
  have Hok := Lib.hid hok
  have Hlen := Lib.hid h.len
  have C0 := Lib.hid (rrising A n c L w h hok hn)
  obtain ⟨rs, re, hr⟩ : ∃ rs re, buildP L = (rs, re) := ⟨_, _, rfl⟩
  rw [hr]
  have Hr := Lib.hid hr
  clear h hok hr
  have mixed : Tryz.prog.follows .mixedOrders = true := by kernel_rfl
  cases hrise : risesK L with
  | false =>
    obtain ⟨rfl, rfl⟩ : rs = ByteArray.empty ∧ re = 32 := by
      have := Hr.out
      unfold buildP at this
      rw [if_pos hrise] at this
      exact ⟨(congrArg Prod.fst this).symm, (congrArg Prod.snd this).symm⟩
    rw [hrise] at C0
    clear hrise
    go_enter Tryz.func35, Tryz.ntmps35
    go_wp2_with fail
    refine C0.out.mono ?_
    rintro e w1 ⟨rfl, hb⟩
    have H := Lib.hid hb
    clear hb
    go_wp2_with fail
    go_ret2
    exact ⟨rfl, H.out⟩
  | true =>
    rw [hrise] at C0
    have Hrise := Lib.hid hrise
    clear hrise
    go_enter Tryz.func35, Tryz.ntmps35
    go_wp2_with fail
    refine C0.out.mono ?_
    rintro e w1 ⟨rfl, hb⟩
    have HB1 := Lib.hid hb
    clear hb C0
    go_wp2_with fail
    go_loopw [4, 5] (fun b i wr => ∃ k : Nat, k ≤ n ∧ i = .int .i64 (k : Int) ∧ Hid (Byt wr w.heap.size 5 b (bodyL 0 [] (L.take k))) ∧ Hid ((bodyL 0 [] (L.take k)).length ≤ k * 140000) ∧ Hid (∀ m ∈ L.take k, m.1.size ≤ 65536 ∧ m.2.size ≤ 65536) ∧ Hid (Below w.heap.size w wr)) (fun _ i _ => n - (intOf i).toNat)
    case atStart => exact ⟨0, Nat.zero_le _, rfl, Lib.hid (Byt.nil _ _ _), Lib.hid (Nat.zero_le _), Lib.hid (fun m hm => by simp at hm), HB1⟩
    case round =>
      obtain ⟨k, hk, rfl, HO, HL, HS, HB⟩ := hrel
      clear HB1
      by_cases hl : k < n
      · have hkL : k < L.length := by have := Hlen.out; omega
        have hm : L[k]? = some L[k] := List.getElem?_eq_getElem hkL
        have om := Hok.out L[k] (List.getElem_mem hkL)
        have hmem := List.getElem_mem hkL
        generalize L[k] = mm at *
        obtain ⟨key, vv⟩ := mm
        dsimp only at om
        obtain ⟨g, off, hA, hg, x0, x1⟩ := (HK.out.below HB.out).at_ k _ hm
        subst hA
        dsimp only at x0 x1
        have g1 : (k : Int) < (n : Int) := by omega
        have g2 : (0 : Int) ≤ (k : Int) := by omega
        have Hm := Lib.hid hm
        have Hmem := Lib.hid hmem
        clear hm hmem
        by_cases hbig : 65536 < key.size ∨ 65536 < vv.size
        · obtain ⟨rfl, rfl⟩ : rs = ByteArray.empty ∧ re = 2 := by
            have h1 := Hr.out
            have h2 : longK L = true := by
              unfold longK
              rw [List.any_eq_true]
              exact ⟨_, Hmem.out, by simpa using hbig⟩
            unfold buildP at h1
            rw [if_neg (by rw [Hrise.out]; decide), if_pos h2] at h1
            exact ⟨(congrArg Prod.fst h1).symm, (congrArg Prod.snd h1).symm⟩
          by_cases hb1 : 65536 < key.size
          · have q1 : (65536 : Int) < (key.size : Int) := by omega
            have q2 : decide ((65536 : Int) < (key.size : Int)) = true := decide_eq_true q1
            clear hb1 hbig om
            go_wp2_with fail
            go_ret2
            exact ⟨rfl, HB.out⟩
          · have q0 : ¬ (65536 : Int) < (key.size : Int) := by omega
            have q1 : (65536 : Int) < (vv.size : Int) := by omega
            have q2 : decide ((65536 : Int) < (key.size : Int)) = false := decide_eq_false q0
            have q3 : decide ((65536 : Int) < (vv.size : Int)) = true := decide_eq_true q1
            clear hb1 hbig om
            go_wp2_with fail
            go_ret2
            exact ⟨rfl, HB.out⟩
        · have s1 : key.size ≤ 65536 := by omega
          have s2 : vv.size ≤ 65536 := by omega
          have q0 : ¬ (65536 : Int) < (key.size : Int) := by omega
          have q1 : ¬ (65536 : Int) < (vv.size : Int) := by omega
          have q2 : decide ((65536 : Int) < (key.size : Int)) = false := decide_eq_false q0
          have q3 : decide ((65536 : Int) < (vv.size : Int)) = false := decide_eq_false q1
          clear hbig om
          obtain ⟨q, hq⟩ : ∃ q, comI k (lastK [] (L.take k)) (bl key) = q := ⟨_, rfl⟩
          have hqk : q ≤ key.size := by have := (comI_le k (lastK [] (L.take k)) (bl key)).1; rw [hq] at this; exact this
          have Hq := Lib.hid hq
          clear hq
          go_upto_if 38 with fail
          generalize htb : ((k : Int) % 8 != 0) = tb
          have Htb := Lib.hid htb
          clear htb
          go_cut [6] from 39 to 77 (fun s6 wx => s6 = .int .i64 (q : Int) ∧ Hid (Below wr.heap.size wr wx))
          case first =>
            as_aux_lemma =>
            cases tb with
            | false =>
              have hq0 : q = 0 := by
                have h0 : (k : Int) % 8 = 0 := by have := Htb.out; simpa using this
                rw [← Hq.out]; unfold comI; rw [if_pos (by omega)]
              have Hq0 := Lib.hid hq0
              clear hq0
              go_wp2_with fail
              go_meet
              exact ⟨by rw [Hq0.out]; rfl, Lib.hid (Below.refl _ _)⟩
            | true =>
              have hmod : ¬ (k : Int) % 8 = 0 := by have := Htb.out; simpa using this
              obtain ⟨j, hj⟩ : ∃ j, k = j + 1 := ⟨k - 1, by omega⟩
              have hjL : j < L.length := by omega
              have hjm : L[j]? = some L[j] := List.getElem?_eq_getElem hjL
              generalize L[j] = pm at *
              obtain ⟨pk, pvv⟩ := pm
              have hlast : lastK [] (L.take k) = bl pk := by rw [hj]; exact lastK_take hjm
              have hqc : Hid (comL (bl key) (bl pk) = q) := Lib.hid (by rw [← Hq.out, hlast]; unfold comI; rw [if_neg (by omega)])
              obtain ⟨g', off', e', -, y0, -, y1, -⟩ := (HK.out.below HB.out).two Hm.out hjm
              cases e'
              dsimp only at y0 y1
              have j1 : (j : Int) < (n : Int) := by omega
              have j2 : (0 : Int) ≤ (j : Int) := by omega
              have j3 : wrap64 ((k : Int) - 1) = (j : Int) := by unfold wrap64; omega
              have j4 : IntKind.i64.wrap ((k : Int) - 1) = (j : Int) := by rw [IntKind.wrap_i64]; omega
              have Hk1 := Lib.hid hj
              have X0g := Lib.hid hg
              clear hj hjm hjL hlast hmod x0 x1 s2 q0 q1 q2 q3
              go_wp2_with fail
              generalize wr = wo at *
              go_loopw [6] (fun s wx => ∃ t : Nat, s = .int .i64 (t : Int) ∧ t ≤ key.size ∧ Hid (q = t + comL ((bl key).drop t) ((bl pk).drop t)) ∧ Hid (Below wo.heap.size wo wx)) (fun s _ => key.size - (intOf s).toNat)
              case atStart => exact ⟨0, rfl, Nat.zero_le _, Lib.hid (by rw [← hqc.out, List.drop_zero, List.drop_zero, Nat.zero_add]), Lib.hid (Below.refl _ _)⟩
              case round =>
                obtain ⟨t, rfl, ht, HQ, HX⟩ := hrel
                have X0 : wr.cell? ⟨g, off + k * 2, none⟩ = some (.string key) := (HX.out.cell (p := ⟨g, off + k * 2, none⟩) X0g.out).trans y0
                have X1 : wr.cell? ⟨g, off + j * 2, none⟩ = some (.string pk) := (HX.out.cell (p := ⟨g, off + j * 2, none⟩) X0g.out).trans y1
                have t0 : (0 : Int) ≤ (t : Int) := by omega
                clear y0 y1
                by_cases ta : t < key.size
                · have ta1 : (t : Int) < (key.size : Int) := by omega
                  have ta2 : decide ((t : Int) < (key.size : Int)) = true := decide_eq_true ta1
                  by_cases tb : t < pk.size
                  · have tb1 : (t : Int) < (pk.size : Int) := by omega
                    have tb2 : decide ((t : Int) < (pk.size : Int)) = true := decide_eq_true tb1
                    by_cases te : key[t] = pk[t]
                    · have te1 : ((key[t].toNat : Int) == (pk[t].toNat : Int)) = true := by rw [te]; simp
                      have te2 : (key[t].toNat == pk[t].toNat) = true := by rw [te]; simp
                      have te3 : (key[t] == pk[t]) = true := by rw [te]; simp
                      have HQ2 : Hid (q = (t + 1) + comL ((bl key).drop (t + 1)) ((bl pk).drop (t + 1))) := Lib.hid (by
                        have h1 := comL_step (bl key) (bl pk) t ta tb te
                        rw [HQ.out, h1]; omega)
                      clear te
                      go_upto_region 11 with fail
                      refine wp_region_wq (fun W => ∃ j, W = wr.drewN j) mixed (by kernel_rfl) ⟨1, rfl⟩ ?_
                      repeat' (first
                        | (refine wq_skip (by rfl) ?_; try simp only [Act.put, List.setIfInBounds_toArray, List.set_cons_zero, List.set_cons_succ])
                        | (refine wq_take (by rfl) ?_ (fun W hW => ?_) ?_
                           rotate_left
                           focus
                             obtain ⟨jw, rfl⟩ := hW
                             have e0 : (wr.drewN jw).cell? ⟨g, off + k * 2, none⟩ = some (.string key) := X0
                             have e1 : (wr.drewN jw).cell? ⟨g, off + j * 2, none⟩ = some (.string pk) := X1
                             go_simp
                             first
                               | (refine ⟨rfl, _, rfl⟩)
                               | exact ⟨_, rfl⟩
                               | done
                               | with_reducible rfl
                           try simp only [Act.put, List.setIfInBounds_toArray, List.set_cons_zero, List.set_cons_succ]))
                      refine wq_nil (fun w9 S9 => ?_)
                      obtain ⟨jw, rfl⟩ := S9
                      have HX9 := Lib.hid (HX.out.trans ((below_drewN' (w := wr) jw).mono HX.out.size))
                      go_wp2_with fail
                      go_roundw
                      case rel => exact ⟨t + 1, by go_num, by omega, HQ2, HX9⟩
                      case measure => simp [intOf]; omega
                    · have te1 : ((key[t].toNat : Int) == (pk[t].toNat : Int)) = false := by rw [beq_eq_false_iff_ne]; intro h; exact te (UInt8.toNat_inj.1 (by omega))
                      have te2 : (key[t].toNat == pk[t].toNat) = false := by rw [beq_eq_false_iff_ne]; intro h; exact te (UInt8.toNat_inj.1 h)
                      have te3 : (key[t] == pk[t]) = false := by rw [beq_eq_false_iff_ne]; exact te
                      obtain rfl : q = t := by rw [HQ.out, comL_stop (bl key) (bl pk) t (Or.inr (Or.inr ⟨ta, tb, te⟩)), Nat.add_zero]
                      clear te HQ hqc
                      go_upto_region 11 with fail
                      refine wp_region_wq (fun W => ∃ j, W = wr.drewN j) mixed (by kernel_rfl) ⟨1, rfl⟩ ?_
                      repeat' (first
                        | (refine wq_skip (by rfl) ?_; try simp only [Act.put, List.setIfInBounds_toArray, List.set_cons_zero, List.set_cons_succ])
                        | (refine wq_take (by rfl) ?_ (fun W hW => ?_) ?_
                           rotate_left
                           focus
                             obtain ⟨jw, rfl⟩ := hW
                             have e0 : (wr.drewN jw).cell? ⟨g, off + k * 2, none⟩ = some (.string key) := X0
                             have e1 : (wr.drewN jw).cell? ⟨g, off + j * 2, none⟩ = some (.string pk) := X1
                             go_simp
                             first
                               | (refine ⟨rfl, _, rfl⟩)
                               | exact ⟨_, rfl⟩
                               | done
                               | with_reducible rfl
                           try simp only [Act.put, List.setIfInBounds_toArray, List.set_cons_zero, List.set_cons_succ]))
                      refine wq_nil (fun w9 S9 => ?_)
                      obtain ⟨jw, rfl⟩ := S9
                      have HX9 := Lib.hid (HX.out.trans ((below_drewN' (w := wr) jw).mono HX.out.size))
                      go_wp2_with fail
                      go_meet
                      exact ⟨rfl, HX9⟩
                  · have tb1 : ¬ (t : Int) < (pk.size : Int) := by omega
                    have tb2 : decide ((t : Int) < (pk.size : Int)) = false := decide_eq_false tb1
                    obtain rfl : q = t := by rw [HQ.out, comL_stop (bl key) (bl pk) t (Or.inr (Or.inl (by rw [bl_len]; omega))), Nat.add_zero]
                    clear HQ hqc
                    go_upto_region 11 with fail
                    refine wp_region_wq (fun W => ∃ j, W = wr.drewN j) mixed (by kernel_rfl) ⟨1, rfl⟩ ?_
                    repeat' (first
                      | (refine wq_skip (by rfl) ?_; try simp only [Act.put, List.setIfInBounds_toArray, List.set_cons_zero, List.set_cons_succ])
                      | (refine wq_take (by rfl) ?_ (fun W hW => ?_) ?_
                         rotate_left
                         focus
                           obtain ⟨jw, rfl⟩ := hW
                           have e0 : (wr.drewN jw).cell? ⟨g, off + k * 2, none⟩ = some (.string key) := X0
                           have e1 : (wr.drewN jw).cell? ⟨g, off + j * 2, none⟩ = some (.string pk) := X1
                           go_simp
                           first
                             | (refine ⟨rfl, _, rfl⟩)
                             | exact ⟨_, rfl⟩
                             | done
                             | with_reducible rfl
                         try simp only [Act.put, List.setIfInBounds_toArray, List.set_cons_zero, List.set_cons_succ]))
                    refine wq_nil (fun w9 S9 => ?_)
                    obtain ⟨jw, rfl⟩ := S9
                    have HX9 := Lib.hid (HX.out.trans ((below_drewN' (w := wr) jw).mono HX.out.size))
                    go_wp2_with fail
                    go_meet
                    exact ⟨rfl, HX9⟩
                · have ta1 : ¬ (t : Int) < (key.size : Int) := by omega
                  have ta2 : decide ((t : Int) < (key.size : Int)) = false := decide_eq_false ta1
                  obtain rfl : q = t := by rw [HQ.out, comL_stop (bl key) (bl pk) t (Or.inl (by rw [bl_len]; omega)), Nat.add_zero]
                  clear HQ hqc
                  go_upto_region 11 with fail
                  refine wp_region_wq (fun W => ∃ j, W = wr.drewN j) mixed (by kernel_rfl) ⟨1, rfl⟩ ?_
                  repeat' (first
                    | (refine wq_skip (by rfl) ?_; try simp only [Act.put, List.setIfInBounds_toArray, List.set_cons_zero, List.set_cons_succ])
                    | (refine wq_take (by rfl) ?_ (fun W hW => ?_) ?_
                       rotate_left
                       focus
                         obtain ⟨jw, rfl⟩ := hW
                         have e0 : (wr.drewN jw).cell? ⟨g, off + k * 2, none⟩ = some (.string key) := X0
                         have e1 : (wr.drewN jw).cell? ⟨g, off + j * 2, none⟩ = some (.string pk) := X1
                         go_simp
                         first
                           | (refine ⟨rfl, _, rfl⟩)
                           | exact ⟨_, rfl⟩
                           | done
                           | with_reducible rfl
                       try simp only [Act.put, List.setIfInBounds_toArray, List.set_cons_zero, List.set_cons_succ]))
                  refine wq_nil (fun w9 S9 => ?_)
                  obtain ⟨jw, rfl⟩ := S9
                  have HX9 := Lib.hid (HX.out.trans ((below_drewN' (w := wr) jw).mono HX.out.size))
                  go_wp2_with fail
                  go_meet
                  exact ⟨rfl, HX9⟩
          case rest =>
          as_aux_lemma =>
          obtain ⟨rfl, HX⟩ := hcut
          obtain ⟨d, hd⟩ : ∃ d, key.size - q = d := ⟨_, rfl⟩
          obtain ⟨p1, hp1⟩ : ∃ p1, (⟨(pv q).toArray⟩ : ByteArray) = p1 := ⟨_, rfl⟩
          obtain ⟨p2, hp2⟩ : ∃ p2, (⟨(pv d).toArray⟩ : ByteArray) = p2 := ⟨_, rfl⟩
          obtain ⟨p3, hp3⟩ : ∃ p3, (⟨(pv vv.size).toArray⟩ : ByteArray) = p3 := ⟨_, rfl⟩
          obtain ⟨ke, hke⟩ : ∃ ke, key.extract q key.size = ke := ⟨_, rfl⟩
          have z1 : p1.size ≤ 9 := by rw [← hp1, size_mk]; exact pv_len9 q (by omega)
          have z2 : p2.size ≤ 9 := by rw [← hp2, size_mk]; exact pv_len9 d (by omega)
          have z3 : p3.size ≤ 9 := by rw [← hp3, size_mk]; exact pv_len9 vv.size (by omega)
          have z4 : ke.size ≤ 65536 := by rw [← hke, ByteArray.size_extract]; omega
          obtain ⟨c1, hc1⟩ : ∃ c1, p1 ++ p2 = c1 := ⟨_, rfl⟩
          obtain ⟨c2, hc2⟩ : ∃ c2, c1 ++ p3 = c2 := ⟨_, rfl⟩
          obtain ⟨c3, hc3⟩ : ∃ c3, c2 ++ ke = c3 := ⟨_, rfl⟩
          obtain ⟨c4, hc4⟩ : ∃ c4, c3 ++ vv = c4 := ⟨_, rfl⟩
          have y1 : c1.size = p1.size + p2.size := by rw [← hc1, cat_size]
          have y2 : c2.size = c1.size + p3.size := by rw [← hc2, cat_size]
          have y3 : c3.size = c2.size + ke.size := by rw [← hc3, cat_size]
          have y4 : c4.size = c3.size + vv.size := by rw [← hc4, cat_size]
          have r1 := cat_is (P := Tryz.prog) p1 p2 c1 hc1 (by omega)
          have r2 := cat_is (P := Tryz.prog) c1 p3 c2 hc2 (by omega)
          have r3 := cat_is (P := Tryz.prog) c2 ke c3 hc3 (by omega)
          have r4 := cat_is (P := Tryz.prog) c3 vv c4 hc4 (by omega)
          rw [← hke] at r3
          have hbytes : Hid (bl c4 = onePair k (lastK [] (L.take k)) (bl key) (bl vv)) := Lib.hid (by
            have e1 : bl ke = (bl key).drop q := by
              rw [← hke]
              simp [bl]
              rw [List.take_of_length_le (by simp [List.length_drop])]
            rw [onePair, Hq.out, bl_len key, hd, bl_len vv]
            unfold bl at e1 ⊢
            rw [← hc4, ← hc3, ← hc2, ← hc1, cat_list, cat_list, cat_list, cat_list, e1, ← hp1, ← hp2, ← hp3]
            simp [List.append_assoc])
          have hroom : Hid ((bodyL 0 [] (L.take k)).length + c4.size < 140737488355328) := Lib.hid (by have := HL.out; have : k * 140000 ≤ 1000000 * 140000 := Nat.mul_le_mul_right _ (by omega); omega)
          have h4 : Hid (c4.size ≤ 140000) := Lib.hid (by omega)
          have BS := Lib.hid (BSt.up (g := g) (a0 := off + k * 2) (a1 := off + k * 2 + 1) (k := key) (m := vv) ⟨HO.out, x0, x1, hg, HB.out⟩ HX.out)
          have g4 : (q : Int) ≤ (key.size : Int) := by omega
          have g5 : (0 : Int) ≤ (q : Int) := by omega
          have g6 : wrap64 ((key.size : Int) - (q : Int)) = (d : Int) := by unfold wrap64; omega
          have g7 : IntKind.i64.wrap ((key.size : Int) - (q : Int)) = (d : Int) := by rw [IntKind.wrap_i64]; omega
          have CA := fun W S => Lib.hid (bst_pv (w := w) (v := u4) (l := bodyL 0 [] (L.take k)) (g := g) (a0 := off + k * 2) (a1 := off + k * 2 + 1) (k := key) (m := vv) (W := W) S q (by omega) hp1)
          have CB := fun W S => Lib.hid (bst_pv (w := w) (v := u4) (l := bodyL 0 [] (L.take k)) (g := g) (a0 := off + k * 2) (a1 := off + k * 2 + 1) (k := key) (m := vv) (W := W) S d (by omega) hp2)
          have CV := fun W S => Lib.hid (bst_pv (w := w) (v := u4) (l := bodyL 0 [] (L.take k)) (g := g) (a0 := off + k * 2) (a1 := off + k * 2 + 1) (k := key) (m := vv) (W := W) S vv.size (by omega) hp3)
          have S0 := BS.out.up (below_drew' (w := wc))
          obtain ⟨g', off', e', hg0, X0, X1⟩ := HK.out.at_ k _ Hm.out
          cases e'
          have XC := fun W (hW : Below w.heap.size w W) => (⟨(hW.cell (p := ⟨g, off + k * 2, none⟩) hg0).trans X0, (hW.cell (p := ⟨g, off + k * 2 + 1, none⟩) hg0).trans X1⟩ : W.cell? ⟨g, off + k * 2, none⟩ = some (.string key) ∧ W.cell? ⟨g, off + k * 2 + 1, none⟩ = some (.string vv))
          clear X0 X1
          clear z1 z2 z3 z4 y1 y2 y3 y4 hc1 hc2 hc3 hc4 hp1 hp2 hp3 hke hd x0 x1
          go_upto_region 13 with fail
          go_region_held3 (fun W => W.cell? ⟨g, off + k * 2, none⟩ = some (.string key) ∧ W.cell? ⟨g, off + k * 2 + 1, none⟩ = some (.string vv))
            (first | exact XC _ HB8 | exact XC _ S7.below | exact XC _ S6.below | exact XC _ S5.below | exact XC _ S0.below)
            (first
              | (go_at_call 121; refine (CV _ S6).out.mono ?_; rintro e w7 ⟨rfl, S7⟩)
              | (go_at_call 121; refine (CB _ S5).out.mono ?_; rintro e w6 ⟨rfl, S6⟩)
              | (go_at_call 121; refine (CA _ S0).out.mono ?_; rintro e w5 ⟨rfl, S5⟩)
              | (refine step_append_str rfl (.tmp 78) (.tmp 112) 68 9 rfl Tryz.underlying68 Tryz.underlying9 u8info (by simp [Act.eval]) S7.own c4 (by simp [Act.eval]) hroom.out S7.below.size ?_; intro v8 w8 HO8 hg8; have HB8 := S7.own.grown S7.below S7.below.size hg8))
          have HB8 := Lib.hid HB8
          have HO9 : Hid (Byt w8 w.heap.size 5 v8 (bodyL 0 [] (L.take (k + 1)))) := Lib.hid (by rw [take_body Hm.out]; have := hbytes.out; unfold bl at this ⊢; rw [← this]; exact HO8)
          have HL9 : Hid ((bodyL 0 [] (L.take (k + 1))).length ≤ (k + 1) * 140000) := Lib.hid (by
            rw [take_body Hm.out, List.length_append, ← hbytes.out, bl_len]
            have h1 := HL.out
            have h2 := h4.out
            omega)
          have HS9 : Hid (∀ m ∈ L.take (k + 1), m.1.size ≤ 65536 ∧ m.2.size ≤ 65536) := Lib.hid (by
            intro m hm
            rw [take_snoc Hm.out, List.mem_append, List.mem_singleton] at hm
            rcases hm with hm | rfl
            · exact HS.out m hm
            · exact ⟨s1, s2⟩)
          clear S0 S5 S6 S7 CA CB CV HO8 hg8 BS XC HO HL HS hbytes hroom h4
          go_wp2_with fail
          go_roundw
          case rel => exact ⟨k + 1, by omega, by go_num, HO9, HL9, HS9, HB8⟩
          case measure => simp [intOf]; omega
      · as_aux_lemma =>
        obtain rfl : k = n := by omega
        have g1 : ¬ (k : Int) < (k : Int) := by omega
        have hLk : L.take k = L := List.take_of_length_le (by have := Hlen.out; omega)
        rw [hLk] at HO HL HS
        have hlong : longK L = false := by
          unfold longK
          rw [List.any_eq_false]
          intro m hm
          have := HS.out m hm
          simp
          omega
        have Hbuild : Hid ((rs, re) = if 524288 < (blkL L).length then (ByteArray.empty, (2 : Int)) else (⟨(blkL L).toArray⟩, 0)) := Lib.hid (by
          rw [← Hr.out]
          unfold buildP
          rw [if_neg (by rw [Hrise.out]; decide), if_neg (by rw [hlong]; decide)])
        have hblk : Hid (blkL L = (bodyL 0 [] L ++ be k 4) ++ be (crc (bodyL 0 [] L ++ be k 4)) 4) := Lib.hid (by rw [blkL, ← Hlen.out])
        have hbl : Hid ((bodyL 0 [] L).length ≤ 140000000000) := Lib.hid (by have := HL.out; have : k * 140000 ≤ 1000000 * 140000 := Nat.mul_le_mul_right _ hn; omega)
        generalize bodyL 0 [] L = body at *
        clear hlong hLk HS HL hl hk
        have CP := Lib.hid (rput_any (k : Int) 4 wr (by omega))
        go_wp2_with fail
        refine CP.out.mono ?_
        rintro e w2 ⟨p4, er, rfl, hP, hb2⟩
        obtain ⟨rfl, hp4⟩ := put4 (by omega) hP.out
        have hl4 : p4.size = 4 := by rw [hp4, size_mk, be_length]
        have HO2 := Lib.hid (byt_up HO.out hb2)
        have HB2 := Lib.hid (HB.out.trans (hb2.mono HB.out.size))
        have hroom : Hid (body.length + p4.size < 140737488355328) := Lib.hid (by have := hbl.out; omega)
        have Hp4 := Lib.hid hp4
        have Hl4 := Lib.hid hl4
        clear CP hP hb2 HO HB hp4 hl4
        go_wp2_with (at_builtin; refine wpList_append_str _ rfl (.tmp 120) (.tmp 121) 68 9 rfl Tryz.underlying68 Tryz.underlying9 u8info rfl HO2.out p4 rfl hroom.out HB2.out.size ?_; intro v3 w3 HO3 hg3)
        have HB3 := Lib.hid (HO2.out.grown HB2.out HB2.out.size hg3)
        rw [show p4.data.toList = be k 4 from by rw [Hp4.out]] at HO3
        obtain ⟨A3, c3, rfl⟩ := byt_slice HO3
        obtain ⟨n3, hn3⟩ : ∃ n3, (body ++ be k 4).length = n3 := ⟨_, rfl⟩
        have hlen : (blkL L).length = n3 + 4 := by rw [hblk.out, List.length_append, be_length, hn3]
        have hn3b : n3 ≤ 140000000004 := by rw [← hn3, List.length_append, be_length]; have := hbl.out; omega
        rw [hn3] at HO3 ⊢
        obtain ⟨s3, hs3⟩ : ∃ s3, (⟨(body ++ be k 4).toArray⟩ : ByteArray) = s3 := ⟨_, rfl⟩
        have hs3n : s3.size = n3 := by rw [← hs3, size_mk, hn3]
        have HO4 := Lib.hid HO3
        have hln := fun W => run_len_slice (P := Tryz.prog) (w := W) 68 3 A3 n3 c3 (by kernel_rfl)
        have w1 : wrap64 ((n3 : Int) + 4) = (n3 : Int) + 4 := by unfold wrap64; omega
        have w1' : IntKind.i64.wrap ((n3 : Int) + 4) = (n3 : Int) + 4 := by rw [IntKind.wrap_i64]; omega
        clear HO2 HB2 hroom hbl Hp4 Hl4 hg3 HO3
        by_cases hbig : 524288 < n3 + 4
        · have q1 : (524288 : Int) < (n3 : Int) + 4 := by omega
          have q2 : decide ((524288 : Int) < (n3 : Int) + 4) = true := decide_eq_true q1
          obtain ⟨rfl, rfl⟩ : rs = ByteArray.empty ∧ re = 2 := by
            have := Hbuild.out
            rw [if_pos (by omega)] at this
            exact ⟨congrArg Prod.fst this, congrArg Prod.snd this⟩
          clear hn3 hlen hs3 hs3n hbig
          go_wp2_with fail
          rw [hln]
          go_wp2_with fail
          go_ret2
          exact ⟨rfl, HB3.out⟩
        · have q1 : ¬ (524288 : Int) < (n3 : Int) + 4 := by omega
          have q2 : decide ((524288 : Int) < (n3 : Int) + 4) = false := decide_eq_false q1
          have hcv := HO4.out.string (src := 68) (dst := 9) Tryz.underlying68 Tryz.underlying5 Tryz.underlying9
          rw [hs3] at hcv
          have CS := Lib.hid (rsum_any s3 w3 (by omega))
          have hcrc : crc s3.data.toList < 4294967296 := crc_lt _
          obtain ⟨cr, hcr⟩ : ∃ cr, crc s3.data.toList = cr := ⟨_, rfl⟩
          rw [hcr] at CS hcrc
          have CP := Lib.hid (rput_any (cr : Int) 4 w3 (by omega))
          have Hcrc := Lib.hid hcrc
          have Hs3 := Lib.hid hs3
          have Hcr := Lib.hid hcr
          have Hlen3 := Lib.hid hlen
          have Hs3n := Lib.hid hs3n
          have Hn3b : Hid (n3 + 4 ≤ 524288) := Lib.hid (by omega)
          clear hs3 hcr hlen hs3n hcrc hn3 hbig hn3b
          go_wp2_with fail
          refine CS.out.mono ?_
          rintro e w4 ⟨rfl, rfl⟩
          go_wp2_with fail
          refine CP.out.mono ?_
          rintro e w5 ⟨p5, er5, rfl, hP5, hb5⟩
          obtain ⟨rfl, hp5⟩ := put4 Hcrc.out hP5.out
          have hcv5 := (byt_up HO4.out hb5).string (src := 68) (dst := 9) Tryz.underlying68 Tryz.underlying5 Tryz.underlying9
          rw [Hs3.out] at hcv5
          have z5 : p5.size = 4 := by rw [hp5, size_mk, be_length]
          obtain ⟨c5, hc5⟩ : ∃ c5, s3 ++ p5 = c5 := ⟨_, rfl⟩
          have rc := cat_is (P := Tryz.prog) s3 p5 c5 hc5 (by have := Hs3n.out; have := Hn3b.out; omega)
          obtain ⟨rfl, rfl⟩ : rs = c5 ∧ re = 0 := by
            have h1 := Hbuild.out
            rw [if_neg (by rw [Hlen3.out]; have := Hn3b.out; omega)] at h1
            refine ⟨(congrArg Prod.fst h1).trans ?_, congrArg Prod.snd h1⟩
            apply bl_inj
            rw [bl_mk, hblk.out, ← hc5]
            show _ = (s3 ++ p5).data.toList
            rw [cat_list, hp5, ← Hcr.out, ← Hs3.out]
          have HB5 := Lib.hid (HB3.out.trans (hb5.mono HB3.out.size))
          clear hcv CS CP hP5 hb5 hp5 z5 hc5
          go_wp2_with fail
          go_ret2
          exact ⟨rfl, HB5.out⟩
end Go.Proofs.YtcbgflidlpmhcaaGreatDoor

namespace Go.Proofs.YtcbgflidlpmhcaaGreatDoor
open Go.RowKit

set_option maxRecDepth 100000 in
set_option maxHeartbeats 2000000 in
theorem rwrite_any (A : Option Addr) (n c : Nat) (L : List KV) (w : World) (h : KeysAt w A n L) (hok : okP L) (hn : n ≤ 1000000) :
    Calls Tryz.prog 8 #[.slice A n c] w fun e w' => e = .returned (.int .i64 (writeE L)) ∧ Below w.heap.size w w' := by
  have CR := Lib.hid (rrising A n c L w h hok hn)
  have CB := fun W (hb : Below w.heap.size w W) => Lib.hid (rbuild A n c L W (h.below hb) hok hn)
  have hlen := h.len
  obtain ⟨r, hr⟩ : ∃ r, writeE L = r := ⟨_, rfl⟩
  rw [hr]
  unfold writeE at hr
  clear h hok hn
  cases hR : risesK L
  · rw [if_pos hR] at hr
    rw [hR] at CR
    subst hr
    clear CB hlen
    go_enter Tryz.func8, Tryz.ntmps8
    go_wp2_with fail
    refine CR.out.mono ?_
    rintro e w1 ⟨rfl, hb1⟩
    have HB := Lib.hid hb1
    clear hb1 CR
    go_wp2_with fail
    go_ret
    exact ⟨rfl, HB.out⟩
  · rw [if_neg (by rw [hR]; decide)] at hr
    rw [hR] at CR
    obtain ⟨rs, re, hb⟩ : ∃ rs re, buildP L = (rs, re) := ⟨_, _, rfl⟩
    rw [hb] at CB hr
    dsimp only at CB hr
    by_cases h0 : re = 0
    · rw [if_pos h0] at hr
      subst h0
      have hr2 : r = if (n : Int) = 0 then 1 else 0 := by
        rw [← hr, hlen]
        cases L with
        | nil => rfl
        | cons a l => rw [if_neg (by simp), if_neg (by rw [List.length_cons]; omega)]
      clear hr hlen hb
      by_cases hn0 : n = 0
      · rw [if_pos (by omega)] at hr2
        subst hn0
        subst hr2
        go_enter Tryz.func8, Tryz.ntmps8
        go_wp2_with fail
        refine CR.out.mono ?_
        rintro e w1 ⟨rfl, hb1⟩
        have HB := Lib.hid hb1
        have CB := CB _ hb1
        clear hb1 CR
        go_wp2_with fail
        refine CB.out.mono ?_
        rintro e w2 ⟨rfl, hb1⟩
        have HB := Lib.hid (HB.out.trans (hb1.mono HB.out.size))
        clear hb1 CB
        go_wp2_with fail
        go_ret
        exact ⟨rfl, HB.out⟩
      · rw [if_neg (by omega)] at hr2
        subst hr2
        have e0 : ((n : Int) == 0) = false := beq_eq_false_iff_ne.2 (by omega)
        go_enter Tryz.func8, Tryz.ntmps8
        go_wp2_with fail
        refine CR.out.mono ?_
        rintro e w1 ⟨rfl, hb1⟩
        have HB := Lib.hid hb1
        have CB := CB _ hb1
        clear hb1 CR
        go_wp2_with fail
        refine CB.out.mono ?_
        rintro e w2 ⟨rfl, hb1⟩
        have HB := Lib.hid (HB.out.trans (hb1.mono HB.out.size))
        clear hb1 CB
        go_wp2_with fail
        go_ret
        exact ⟨rfl, HB.out⟩
    · rw [if_neg h0] at hr
      subst hr
      have e0 : (re == 0) = false := beq_eq_false_iff_ne.2 h0
      have e1 : (re != 0) = true := by rw [bne, e0]; rfl
      clear hlen hb
      go_enter Tryz.func8, Tryz.ntmps8
      go_wp2_with fail
      refine CR.out.mono ?_
      rintro e w1 ⟨rfl, hb1⟩
      have HB := Lib.hid hb1
      have CB := CB _ hb1
      clear hb1 CR
      go_wp2_with fail
      refine CB.out.mono ?_
      rintro e w2 ⟨rfl, hb1⟩
      have HB := Lib.hid (HB.out.trans (hb1.mono HB.out.size))
      clear hb1 CB
      dsimp only
      go_wp2_with fail
      go_ret
      exact ⟨rfl, HB.out⟩

/-- The pairs from a key on, so far. -/
def onL (L : List KV) (key : ByteArray) (k : Nat) : List KV := (L.take k).filter fun m => decide (0 ≤ cmpT m.1 key)
theorem onL_yes {L : List KV} {key : ByteArray} {k : Nat} {m : KV} (hm : L[k]? = some m) (h : 0 ≤ cmpT m.1 key) : onL L key (k + 1) = onL L key k ++ [m] := by
  unfold onL
  rw [List.take_add_one, hm, List.filter_append]
  show _ ++ List.filter _ [m] = _
  rw [List.filter_cons_of_pos (by simpa using h)]
  rfl
theorem onL_no {L : List KV} {key : ByteArray} {k : Nat} {m : KV} (hm : L[k]? = some m) (h : ¬ 0 ≤ cmpT m.1 key) : onL L key (k + 1) = onL L key k := by
  unfold onL
  rw [List.take_add_one, hm, List.filter_append]
  show _ ++ List.filter _ [m] = _
  rw [List.filter_cons_of_neg (by simpa using h)]
  exact List.append_nil _
theorem onL_len (L : List KV) (key : ByteArray) (k : Nat) : (onL L key k).length ≤ k := by
  have := List.length_filter_le (fun m : KV => decide (0 ≤ cmpT m.1 key)) (L.take k)
  unfold onL
  rw [List.length_take] at this
  omega
theorem fromK_all {L : List KV} {key : ByteArray} {most : Int} {k : Nat} (hk : L.length ≤ k) (h : most < 0 ∨ ((onL L key k).length : Int) ≤ most) : fromK L key most = onL L key k := by
  unfold fromK
  have e : onL L key k = L.filter fun m => decide (0 ≤ cmpT m.1 key) := by unfold onL; rw [List.take_of_length_le hk]
  rw [← e]
  split
  · rfl
  · exact List.take_of_length_le (by omega)
theorem fromK_stop {L : List KV} {key : ByteArray} {most : Int} {k : Nat} (h0 : ¬ most < 0) (h : ((onL L key k).length : Int) = most) : fromK L key most = onL L key k := by
  unfold fromK
  rw [if_neg h0]
  have e : L.filter (fun m => decide (0 ≤ cmpT m.1 key)) = onL L key k ++ (L.drop k).filter (fun m => decide (0 ≤ cmpT m.1 key)) := by
    unfold onL
    rw [← List.filter_append, List.take_append_drop]
  rw [e, List.take_append_of_le_length (by omega), List.take_of_length_le (by omega)]

set_option maxRecDepth 100000 in
set_option maxHeartbeats 4000000 in
theorem rfrom11_any (A : Option Addr) (n c : Nat) (L : List KV) (key : ByteArray) (most : Int) (w : World) (h : KeysAt w A n L) (hok : okP L) (hkey : key.size ≤ 140737488351232) (hn : n ≤ 1000000) :
    Calls Tryz.prog 23 #[.slice A n c, .string key, .int .i64 most] w fun e w' => ∃ v, e = .returned v ∧ Own elKeys w' w.heap.size 37 v (fromK L key most) ∧ Below w.heap.size w w' := by
  have HK := Lib.hid h
  have Hok := Lib.hid hok
  have Hlen := Lib.hid h.len
  have CC := fun (s : ByteArray) (hs : s.size ≤ 9223372036854775807) W => Lib.hid (rcompare9 s key W hs (by omega))
  obtain ⟨r, hr⟩ : ∃ r, fromK L key most = r := ⟨_, rfl⟩
  rw [hr]
  have Hr := Lib.hid hr
  clear h hok hr hkey
  go_enter Tryz.func23, Tryz.ntmps23
  go_wp2_with fail
  go_loopw [7, 8] (fun o i wr => ∃ k q : Nat, k ≤ n ∧ q ≤ k ∧ i = .int .i64 (k : Int) ∧ Hid (q = (onL L key k).length) ∧ Hid (most < 0 ∨ (q : Int) ≤ most) ∧ Hid (Own elKeys wr w.heap.size 37 o (onL L key k)) ∧ Hid (Below w.heap.size w wr)) (fun _ i _ => n - (intOf i).toNat)
  case atStart => exact ⟨0, 0, by omega, by omega, rfl, Lib.hid rfl, Lib.hid (by omega), World.ownsRow_nil _ _ _ _, Lib.hid (Below.refl _ _)⟩
  case round =>
    obtain ⟨k, q, hk, hqk, rfl, Hq, Hm, HN, HB⟩ := hrel
    obtain ⟨ao, co, eo⟩ := HN.out.slice
    rw [← Hq.out] at eo
    subst eo
    by_cases hl : k < n
    · have g1 : (k : Int) < (n : Int) := by omega
      have g0 : (0 : Int) ≤ (k : Int) := by omega
      by_cases hb : most < 0 ∨ (q : Int) < most
      · have hkL : k < L.length := by have := Hlen.out; omega
        have hm : L[k]? = some L[k] := List.getElem?_eq_getElem hkL
        have oz := Hok.out L[k] (List.getElem_mem hkL)
        generalize L[k] = m at *
        obtain ⟨g, off, hA, hg, x0, x1⟩ := (HK.out.below HB.out).at_ k _ hm
        subst hA
        have CM := CC m.1 (by omega)
        have hk1 : k < 9223372036854775807 := by omega
        have Hqn : Hid (q ≤ 1000000) := Lib.hid (by omega)
        have Hmm := Lib.hid hm
        by_cases hc : 0 ≤ cmpT m.1 key
        · have hsn := onL_yes hm hc
          obtain ⟨mk, mv⟩ := m
          dsimp only at x0 x1 CM hc hsn
          have Ha : Own elKeys ((wr.drewN 0).alloc (.cells #[.string mk, .string mv] 37)) w.heap.size 37 (.slice ao q co) (onL L key k) := World.ownsRow.alloc HN.out _
          have happ := fun j => app_own (P := Tryz.prog) elKeys 22 37 (.agg #[.string ⟨#[]⟩, .string ⟨#[]⟩]) 32 underKeys infoKeys rfl ((wr.drewN j).alloc (.cells #[.string mk, .string mv] 37)) w.heap.size (.slice ao q co) (onL L key k) [(mk, mv)] (World.ownsRow.alloc HN.out _) (some ⟨wr.heap.size, 0, none⟩) 1 (fun h => by cases h) (fun a ha j' u hu => by
            cases ha
            rw [El.row_one] at hu
            exact cells_new (wr.drewN j) 37 [.string mk, .string mv] j' u hu) (by rw [← Hq.out]; unfold maxLen; simp; omega) (by rw [← Hq.out]; simp; omega) (Nat.le_trans HB.out.size (by simp)) 1 rfl
          rw [← hsn] at happ
          have Happ := Lib.hid happ
          have Hq2 : Hid (q + 1 = (onL L key (k + 1)).length) := Lib.hid (by rw [hsn, List.length_append, ← Hq.out]; rfl)
          have e1 : decide ((0 : Int) ≤ cmpT mk key) = true := decide_eq_true hc
          have Hm2 : Hid (most < 0 ∨ ((q + 1 : Nat) : Int) ≤ most) := Lib.hid (by omega)
          clear hsn hm hkL oz CC happ Ha
          by_cases z : most < 0
          · clear hb
            go_wp2_with fail
            refine (CM _).out.mono ?_
            rintro e w5 ⟨rfl, j, rfl⟩
            obtain ⟨v', w2, hr, hown, hgr, _, _⟩ := Happ.out j
            have HR := fun ty => Lib.hid (hr ty)
            have HN2 := Lib.hid hown
            have HB2 : Hid (Below w.heap.size w w2) := Lib.hid ((below_alloc (HB.out.trans ((below_drewN' j).mono HB.out.size)) (Nat.le_refl _) _).grown hgr (Nat.le_trans HB.out.size (by simp)) (fun k hk => (World.ownsRow.lt HN.out k hk).1))
            clear hr hown hgr Happ CM
            go_wp2_with (at_builtin; refine wpList_append_k _ w2 rfl (.tmp 33) (.tmp 38) 22 rfl _ _ v' rfl rfl (fun ty => (HR ty).out) ?_)
            go_roundw
            case rel => exact ⟨k + 1, q + 1, by omega, by omega, by go_num, Hq2, Hm2, HN2, HB2⟩
            case measure => simp [intOf]; omega
          · have y : (q : Int) < most := by omega
            clear hb
            go_wp2_with fail
            refine (CM _).out.mono ?_
            rintro e w5 ⟨rfl, j, rfl⟩
            obtain ⟨v', w2, hr, hown, hgr, _, _⟩ := Happ.out j
            have HR := fun ty => Lib.hid (hr ty)
            have HN2 := Lib.hid hown
            have HB2 : Hid (Below w.heap.size w w2) := Lib.hid ((below_alloc (HB.out.trans ((below_drewN' j).mono HB.out.size)) (Nat.le_refl _) _).grown hgr (Nat.le_trans HB.out.size (by simp)) (fun k hk => (World.ownsRow.lt HN.out k hk).1))
            clear hr hown hgr Happ CM
            go_wp2_with (at_builtin; refine wpList_append_k _ w2 rfl (.tmp 33) (.tmp 38) 22 rfl _ _ v' rfl rfl (fun ty => (HR ty).out) ?_)
            go_roundw
            case rel => exact ⟨k + 1, q + 1, by omega, by omega, by go_num, Hq2, Hm2, HN2, HB2⟩
            case measure => simp [intOf]; omega
        · have hsn := onL_no hm hc
          have e1 : decide ((0 : Int) ≤ cmpT m.1 key) = false := decide_eq_false hc
          rw [← hsn] at Hq HN
          clear hsn hm hkL oz CC
          by_cases z : most < 0
          · clear hb
            go_wp2_with fail
            refine (CM _).out.mono ?_
            rintro e w5 ⟨rfl, j, rfl⟩
            go_wp2_with fail
            go_roundw
            case rel => exact ⟨k + 1, q, by omega, by omega, by go_num, Hq, Hm, Lib.hid (Own.below HN.out (below_drewN' j)), Lib.hid (HB.out.trans ((below_drewN' j).mono HB.out.size))⟩
            case measure => simp [intOf]; omega
          · have y : (q : Int) < most := by omega
            clear hb
            go_wp2_with fail
            refine (CM _).out.mono ?_
            rintro e w5 ⟨rfl, j, rfl⟩
            go_wp2_with fail
            go_roundw
            case rel => exact ⟨k + 1, q, by omega, by omega, by go_num, Hq, Hm, Lib.hid (Own.below HN.out (below_drewN' j)), Lib.hid (HB.out.trans ((below_drewN' j).mono HB.out.size))⟩
            case measure => simp [intOf]; omega
      · have z : ¬ most < 0 := by omega
        have y : ¬ (q : Int) < most := by omega
        have e2 : onL L key k = r := by rw [← Hr.out]; exact (fromK_stop z (by have := Hq.out; have := Hm.out; omega)).symm
        rw [e2] at HN
        clear hb e2 Hq Hm CC
        go_wp2_with fail
        go_ret
        exact ⟨_, rfl, HN.out, HB.out⟩
    · obtain rfl : k = n := by omega
      have e2 : onL L key k = r := by rw [← Hr.out]; exact (fromK_all (Nat.le_of_eq Hlen.out.symm) (by have := Hq.out; have := Hm.out; omega)).symm
      rw [e2] at HN
      clear e2 Hq Hm CC
      go_wp2_with fail
      go_ret
      exact ⟨_, rfl, HN.out, HB.out⟩
end Go.Proofs.YtcbgflidlpmhcaaGreatDoor

namespace Go.Proofs.YtcbgflidlpmhcaaGreatDoor
open Go.RowKit Go.WideShapes Go.ChangeShapes
section
variable {H : Type} {enc : TypeId × Value → H} {P : Program}
theorem post_of_below {f : Func} {s : ChangeSpec} {apart fresh handsOn again : Bool} {W W' : World} {args : Array Value} {v : Value} {ds gs : List (DataW H)} {before pa pv : List MemPlace}
    (hW : DataW.Whole enc P f.params.toList s.vars apart W args.toList ds gs before)
    (hres : ∀ (b : Nat) (sp : Nat → Bool) (hd : Bool), DataW.TrodAll enc P W' b sp hd f.resultTypes.toList (v.resultList f.resultTypes.size) (s.fn H (ds ++ gs)).results [])
    (hargs : ∀ sp : Nat → Bool, (∀ p ∈ before, sp p.block = true) → DataW.TrodAll enc P W' 0 sp true f.params.toList args.toList (s.fn H (ds ++ gs)).args pa)
    (hvars : ∀ sp : Nat → Bool, (∀ p ∈ before, sp p.block = true) → DataW.TrodVars enc P W' sp s.vars (s.fn H (ds ++ gs)).vars pv)
    (hps : before = pa ++ pv) (hb : Below W.heap.size W W')
    (hok : ∀ (j : Nat) (t : TypeId) (r : Value), f.resultTypes[j]? = some t → (v.resultList f.resultTypes.size)[j]? = some r → Value.okWide P W' .any 0 t r) :
    s.post enc P f apart fresh handsOn again W args v W' := by
  have hlt : ∀ p ∈ before, p.block < W.heap.size := fun p hp => hW.lt p hp
  have hold : ∀ p ∈ before, (fun b => decide (b < W.heap.size)) p.block = true := fun p hp => by simpa using hlt p hp
  refine ⟨ds, gs, before, [], pa, pv, hW, hres _ _ _, hargs _ hold, hvars _ hold, World.keptBut_mono (fun p hp => ⟨hp, ?_⟩) (hb.frame (· ∈ before)), fun _ => ?_⟩
  · rw [hps, List.mem_append] at hp
    exact Or.inr hp
  · obtain ⟨_, _, _, _, _, hz, hn⟩ := hW
    refine ⟨hok, _, _, ([] ++ pa) ++ pv, ⟨[] ++ pa, pv, trodAll_append (hargs _ (fun _ _ => rfl)) (hres _ _ _), hvars _ (fun _ _ => rfl), rfl, ?_, ?_⟩, ?_⟩
    · intro b off hp
      have hin : MemPlace.cell b off ∈ before := by rw [hps]; simpa using hp
      rw [hb.frozen (hlt _ hin)]
      exact hz b off hin
    · intro ha
      have := hn ha
      rw [hps] at this
      simpa using this
    · intro p hp _
      rw [hps]
      simpa using hp
end
end Go.Proofs.YtcbgflidlpmhcaaGreatDoor

namespace Go.Proofs.YtcbgflidlpmhcaaGreatDoor
section
variable {H : Type} {enc : TypeId × Value → H}
theorem witness_row_shaped {C : Checked} {os : Os} {f : FuncId} {fn : Func} {s : OpenSpec} {conds : List PathCond} {apart : Bool} {laid : List (String × DataW Unit)} (modest : Bool) (w0 : World) (args : Array Value) (hos : w0.os = os)
    (hsh : (w0.forCall (fun _ _ => 0) ⟨#[], args, []⟩).Shaped C.prog)
    (hok : Input.okWideB C.prog (w0.forCall (fun _ _ => 0) ⟨#[], args, []⟩) f ⟨#[], args, []⟩ = true)
    (hrow : s.preRow enc C.prog fn conds apart laid (w0.forCall (fun _ _ => 0) ⟨#[], args, []⟩).memory args) :
    ∃ (w : World) (tape : Tape) (i : Input), w.os = os ∧ (w.forCall tape i).Shaped C.prog ∧ i.vars = [] ∧ Input.okWide C.prog (w.forCall tape i) .any w.heap.size f i ∧
      s.preRow enc C.prog fn conds apart laid (w.forCall tape i).memory i.args ∧ ({ modest := modest } : Assume).holds C.prog (lone (Frame.enter C.prog f i.args .normal) [] (w.forCall tape i)) :=
  ⟨w0, fun _ _ => 0, ⟨#[], args, []⟩, hos, hsh, (Input.okWide_of_okWideB (base := 0) hok).1, (Input.okWide_of_okWideB hok).2, hrow, by
    simp only [Assume.holds]
    exact ⟨by simp, by simp, fun _ => Modest.zero, by simp, by simp⟩⟩
end
end Go.Proofs.YtcbgflidlpmhcaaGreatDoor
