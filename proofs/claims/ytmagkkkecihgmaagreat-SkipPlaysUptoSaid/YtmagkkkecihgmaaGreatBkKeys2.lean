/-
  The book of lists, Keys: are they as they were? Marks are put into them. (Written by wip/gen/gen_bk.py.)
-/
import Derived.Test.YtmagkkkecihgmaaGreatBkKeys1
import Derived.Test.YtmagkkkecihgmaaGreatBkB
import Derived.BigQuiet
namespace Go.Proofs.YtmagkkkecihgmaaGreat
open Go.RowKit

set_option maxRecDepth 100000 in
set_option maxHeartbeats 1000000 in
theorem stillKeys_any (B bk m : Nat) (v1 v2 : Value) (a c : Nat → Value) (F : Nat → List (ByteArray × ByteArray)) (w : World) (hc1 : w.cell? ⟨bk, 6, none⟩ = some v1) (hc2 : w.cell? ⟨bk, 7, none⟩ = some v2) (r1 : w.ownsRow B 60 1 v1 m ((List.range m).map a)) (r2 : w.ownsRow B 60 1 v2 m ((List.range m).map c))
    (ra : ∀ i, i < m → Own elKeys w B 78 (a i) (F i)) (rc : ∀ i, i < m → Own elKeys w B 78 (c i) (F i)) (hF : ∀ i, i < m → (F i).length ≤ 1000000 ∧ ∀ x ∈ F i, okKeys x) (hm : m ≤ 250) :
    Calls Tryz.prog 43 #[.pointer (some ⟨bk, 0, none⟩)] w fun e w' => e = .returned (.bool true) ∧ ∃ q, w' = w.drewN q := by
  obtain ⟨A1, p1, e1⟩ := srow_slice r1
  obtain ⟨A2, p2, e2⟩ := srow_slice r2
  have s1 := fun k (hk : k < m) => srow_at r1 hk
  have s2 := fun k (hk : k < m) => srow_at r2 hk
  rw [e1] at hc1 s1
  rw [e2] at hc2 s2
  have S1 := Lib.hid s1
  have S2 := Lib.hid s2
  have RA := Lib.hid ra
  have RC := Lib.hid rc
  have HF := Lib.hid hF
  have hm' : (m : Int) ≤ 250 := by omega
  clear r1 r2 ra rc hF s1 s2
  go_enter Tryz.func43, Tryz.ntmps43
  go_wp2_with fail
  go_loopw [3] (fun i wr => ∃ k q : Nat, k ≤ m ∧ i = .int .i64 (k : Int) ∧ Hid (wr = w.drewN q)) (fun i _ => m - (intOf i).toNat)
  case atStart => exact ⟨0, 0, by omega, rfl, rfl⟩
  case round =>
    obtain ⟨k, q, hk, rfl, Hw⟩ := hrel
    have d1 : wr.cell? ⟨bk, 6, none⟩ = some (.slice A1 m p1) := by rw [Hw.out]; exact hc1
    have d2 : wr.cell? ⟨bk, 7, none⟩ = some (.slice A2 m p2) := by rw [Hw.out]; exact hc2
    by_cases hl : k < m
    · obtain ⟨g1, q1, f1, _, _, t1⟩ := S1.out k hl
      obtain ⟨g2, q2, f2, _, _, t2⟩ := S2.out k hl
      injection f1 with f1 f1b f1c
      injection f2 with f2 f2b f2c
      clear f1b f1c f2b f2c
      subst f1 f2
      have ia := RA.out k hl
      have ic := RC.out k hl
      obtain ⟨B1, b1, x1⟩ := ia.slice
      obtain ⟨B2, b2, x2⟩ := ic.slice
      rw [x1] at ia t1
      rw [x2] at ic t2
      have hf := HF.out k hl
      have K : Hid (∀ q, Calls Tryz.prog 12 #[.slice B1 (F k).length b1, .slice B2 (F k).length b2] (wr.drewN q) fun e w' => e = .returned (.bool true) ∧ ∃ m, w' = (wr.drewN q).drewN m) := fun q' => by
        rw [Hw.out]
        exact sameKeys_any B1 B2 _ _ b1 b2 B B (F k) _ ia ic hf.1 hf.2
      have u1 : wr.cell? ⟨g1, k, none⟩ = some (.slice B1 (F k).length b1) := by rw [Hw.out]; exact t1
      have u2 : wr.cell? ⟨g2, k, none⟩ = some (.slice B2 (F k).length b2) := by rw [Hw.out]; exact t2
      have hl1 : (k : Int) < (m : Int) := by omega
      clear ia ic x1 x2 t1 t2 hf
      generalize (F k).length = n1 at *
      go_wp2_with fail
      go_quiet (first | (go_at_call 12; refine Calls.quiet_of (K.out _)))
      go_wp2_with fail
      go_roundw
      case rel => exact ⟨k + 1, _, by omega, by go_num, (by rw [Hw.out, World.drewN_drewN]; rfl)⟩
      case measure => simp [intOf]; omega
    · obtain rfl : k = m := by omega
      go_wp2_with fail
      go_ret
      exact ⟨rfl, q, Hw.out⟩

set_option maxRecDepth 100000 in
set_option maxHeartbeats 4000000 in
theorem putKeys_any (B bk m : Nat) (bcs : Array Value) (v1 : Value) (a : Nat → Value) (F : Nat → List (ByteArray × ByteArray)) (w : World) (hb : Blk w bk 53 bcs) (hf : bcs[6]? = some v1) (r1 : w.ownsRow B 60 1 v1 m ((List.range m).map a)) (hR : Rwk elKeys w B 78 m a F) (hF : ∀ i, i < m → (F i).length ≤ 100000) (hm : m ≤ 250) (_hB : B ≤ w.heap.size) :
    Calls Tryz.prog 63 #[.pointer (some ⟨bk, 0, none⟩)] w fun e w' => e = .returned (.tuple #[]) ∧ Rwk elKeys w' B 78 m a (fun i => elKeys.marks i 0 (F i).length) ∧ Tn B (cellsT 78) w w' := by
  obtain ⟨A1, p1, e1⟩ := srow_slice r1
  have bkc : ∀ W, Tn B (cellsT 78) w W → W.cell? ⟨bk, 6, none⟩ = some (.slice A1 m p1) := fun W hW => by
    have := (hW.blk hb (cellsT_ne (by decide) _ _)).cell 6
    rw [this, hf, e1]
  have s1 : ∀ W, Tn B (cellsT 78) w W → ∀ k, k < m → ∃ g, A1 = some ⟨g, 0, none⟩ ∧ W.cell? ⟨g, k, none⟩ = some (a k) := fun W hW k hk => by
    obtain ⟨g, c, h1, _, _, h2⟩ := srow_at (hW.own r1 (fun cs fr => cellsT_ne (by decide) _ _)) hk
    rw [e1] at h1
    injection h1 with h1 _ _
    exact ⟨g, h1, h2⟩
  have BK := Lib.hid bkc
  have S1 := Lib.hid s1
  have HR := Lib.hid hR
  have HF := Lib.hid hF
  have hm' : (m : Int) ≤ 250 := by omega
  clear hb hf r1 hR hF e1 bkc s1
  go_enter Tryz.func63, Tryz.ntmps63
  go_wp2_with fail
  go_loopw [2] (fun i wr => ∃ k : Nat, ∃ G : Nat → List (ByteArray × ByteArray), k ≤ m ∧ i = .int .i64 (k : Int) ∧ Hid (Rwk elKeys wr B 78 m a G ∧ (∀ i, i < m → (G i).length = (F i).length) ∧ ∀ i, i < k → G i = elKeys.marks i 0 (F i).length) ∧ Hid (Tn B (cellsT 78) w wr)) (fun i _ => m - (intOf i).toNat)
  case atStart => exact ⟨0, F, by omega, rfl, ⟨HR.out, fun _ _ => rfl, fun i hi => absurd hi (by omega)⟩, Tn.refl _ _ _⟩
  case round =>
    obtain ⟨k, G, hk, rfl, HR1, HT1⟩ := hrel
    have d4 := BK.out _ HT1.out
    by_cases hl : k < m
    · obtain ⟨g1, rfl, s2⟩ := S1.out _ HT1.out k hl
      obtain ⟨nk, hnk⟩ : ∃ n, (F k).length = n := ⟨_, rfl⟩
      have hnk2 := HF.out k hl
      rw [hnk] at hnk2
      have hrow := HR1.out.1.each k hl
      have hGk := HR1.out.2.1 k hl
      rw [hnk] at hGk
      obtain ⟨ak, ck, ek⟩ := hrow.slice
      rw [hGk] at ek
      rw [ek] at s2
      have Hnk := Lib.hid hnk
      have Ek := Lib.hid ek
      have HGk := Lib.hid hGk
      have hl1 : (k : Int) < (m : Int) := by omega
      have hnk3 : (nk : Int) ≤ 100000 := by omega
      have M := Lib.hid (markKeys_any k 0 nk wr (by omega) (by omega))
      have HG : Hid (∀ g, (Value.slice ak nk ck).ownBlock = some g → g < wr.heap.size) := fun g hg => (hrow.lt (by rw [Ek.out]; exact hg)).2
      clear hnk hrow hGk ek
      go_wp2_with fail
      refine M.out.mono ?_
      rintro e w1 ⟨v, rfl, hN, hb⟩
      obtain ⟨av, cv, ev⟩ := hN.slice
      rw [El.marks_length] at ev
      subst ev
      obtain ⟨S, hS⟩ : ∃ S, wr.heap.size = S := ⟨_, rfl⟩
      rw [hS] at hN HG
      have HN := Lib.hid hN
      have HR2 := Lib.hid (HR1.out.1.below (below_g hb))
      have HT2 := Lib.hid (HT1.out.trans (Tn.of_grown hb))
      clear hN hb M hS d4 s2
      go_wp2_with fail
      go_loopw [4] (fun i wr' => ∃ j : Nat, ∃ G' : Nat → List (ByteArray × ByteArray), j ≤ nk ∧ i = .int .i64 (j : Int) ∧ Hid (Rwk elKeys wr' B 78 m a G' ∧ (∀ i, i < m → (G' i).length = (F i).length) ∧ (∀ i, i < k → G' i = elKeys.marks i 0 (F i).length) ∧ ∀ t, t < j → (G' k)[t]? = (elKeys.marks k 0 nk)[t]?) ∧ Hid (Own elKeys wr' S 78 (.slice av nk cv) (elKeys.marks k 0 nk)) ∧ Hid (Tn B (cellsT 78) w wr')) (fun i _ => nk - (intOf i).toNat)
      case atStart => exact ⟨0, G, by omega, rfl, ⟨HR2.out, HR1.out.2.1, HR1.out.2.2, fun t ht => absurd ht (by omega)⟩, HN, HT2⟩
      case round =>
        obtain ⟨j, G', hj, rfl, HR3, HN3, HT3⟩ := hrel
        by_cases hlj : j < nk
        · have d5 := BK.out _ HT3.out
          obtain ⟨g1', q1, s3⟩ := S1.out _ HT3.out k hl
          simp only [Option.some.injEq, Addr.mk.injEq, and_true] at q1
          subst q1
          rw [Ek.out] at s3
          have hGl : (G' k).length = nk := by rw [HR3.out.2.1 k hl, Hnk.out]
          obtain ⟨gk, ck', curk, ek', _, hhk⟩ := (HR3.out.1.each k hl).some_ (by omega)
          rw [Ek.out] at ek'
          injection ek' with ek1 ek2 ek3
          clear ek2 ek3
          subst ek1
          have hrow := HR3.out.1.each k hl
          rw [Ek.out] at hrow
          obtain ⟨gv, cv', curv, ev', _, _⟩ := HN3.out.some_ (by rw [El.marks_length]; omega)
          injection ev' with ev1 ev2 ev3
          clear ev2 ev3
          subst ev1
          obtain ⟨x, hx⟩ : ∃ x, x = elKeys.mark k j := ⟨_, rfl⟩
          have hxm : (elKeys.marks k 0 nk)[j]? = some x := by rw [hx]; exact El.marks_at _ _ _ _ hlj
          obtain ⟨y, hy⟩ : ∃ y, (G' k)[j]? = some y := ⟨_, List.getElem?_eq_getElem (by omega)⟩
          have y0 : wr.cell? ⟨gv, j * 2, none⟩ = some (.string x.1) := by
            have h9 := Own.cells (j := 0) HN3.out hxm (by decide) rfl
            rwa [show j * elKeys.sz + 0 = j * 2 from by show j * 2 + 0 = _; omega] at h9
          have y1 : wr.cell? ⟨gv, j * 2 + 1, none⟩ = some (.string x.2) := by
            have h9 := Own.cells (j := 1) HN3.out hxm (by decide) rfl
            rwa [show j * elKeys.sz + 1 = j * 2 + 1 from by show j * 2 + 1 = _; omega] at h9
          have z0 : wr.cell? ⟨gk, j * 2, none⟩ = some (.string y.1) := by
            have h9 := Own.cells (j := 0) hrow hy (by decide) rfl
            rwa [show j * elKeys.sz + 0 = j * 2 from by show j * 2 + 0 = _; omega] at h9
          have z1 : wr.cell? ⟨gk, j * 2 + 1, none⟩ = some (.string y.2) := by
            have h9 := Own.cells (j := 1) hrow hy (by decide) rfl
            rwa [show j * elKeys.sz + 1 = j * 2 + 1 from by show j * 2 + 1 = _; omega] at h9
          have hfz := fun i => (show Own elKeys wr B 78 _ _ from hrow).frozen_ i
          have fz0 := hfz (j * 2)
          have fz1 := hfz (j * 2 + 1)
          have PK := Lib.hid (put_k (j := j) (x := x) HR3.out.1 hl Ek.out (by omega))
          have hgS : (Value.slice (some ⟨gv, 0, none⟩) nk cv).ownBlock ≠ some gk := by
            intro h
            have h1 := (HN3.out.lt h).1
            have h2 := HG.out gk rfl
            omega
          have PN := Lib.hid (PK.out.2.2 _ _ _ HN3.out hgS)
          have hlj1 : (j : Int) < (nk : Int) := by omega
          have Hxm := Lib.hid hxm
          have HGl := Lib.hid hGl
          clear hrow hx hxm hy hgS hfz hhk hGl
          obtain ⟨xa, xb⟩ := x
          have PK1 := PK.out.1
          clear PK1
          go_wp2_with fail
          go_region
          go_wp2_with fail
          go_roundw
          case rel =>
            refine ⟨j + 1, upk G' k ((G' k).set j (xa, xb)), by omega, by go_num, ⟨⟨PK.out.1.each, PK.out.1.apart⟩, fun i hi => ?_, fun i hi => ?_, fun t ht => ?_⟩, PN, (HT3.out.drew.trans PK.out.2.1.fromDrew)⟩
            · by_cases hik : i = k
              · subst hik; rw [upk_at, List.length_set]; exact HR3.out.2.1 i hi
              · rw [upk_ne _ _ hik]; exact HR3.out.2.1 i hi
            · rw [upk_ne _ _ (by omega)]
              exact HR3.out.2.2.1 i hi
            · rw [upk_at]
              by_cases htj : t = j
              · subst htj
                rw [Hxm.out, List.getElem?_set_self (by rw [HGl.out]; exact hlj)]
              · rw [List.getElem?_set_ne (fun h => htj h.symm)]
                exact HR3.out.2.2.2 t (by omega)
          case measure => simp [intOf]; omega
        · obtain rfl : j = nk := by omega
          go_wp2_with fail
          go_roundw
          case rel =>
            refine ⟨k + 1, G', by omega, by go_num, ⟨HR3.out.1, HR3.out.2.1, fun i hi => ?_⟩, HT3⟩
            by_cases hik : i = k
            · subst hik
              rw [Hnk.out]
              refine List.ext_getElem? fun t => ?_
              by_cases ht : t < j
              · exact HR3.out.2.2.2 t ht
              · rw [List.getElem?_eq_none (by rw [HR3.out.2.1 i hl, Hnk.out]; omega), List.getElem?_eq_none (by rw [El.marks_length]; omega)]
            · exact HR3.out.2.2.1 i (by omega)
          case measure => simp [intOf]; omega
    · obtain rfl : k = m := by omega
      go_wp2_with fail
      go_end0
      exact ⟨rfl, ⟨fun i hi => by rw [← HR1.out.2.2 i hi]; exact HR1.out.1.each i hi, HR1.out.1.apart⟩, HT1.out⟩
end Go.Proofs.YtmagkkkecihgmaaGreat
