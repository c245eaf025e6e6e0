/-
  The book of lists, Ints: all are grown; do all bear their marks? (Written by wip/gen/gen_bk.py.)
-/
import Derived.Test.YtmagkkkecihgmaaGreatBkInts2
import Derived.Deep.RegionHeld3
namespace Go.Proofs.YtmagkkkecihgmaaGreat
open Go.RowKit

theorem sinfoInts : (Tryz.prog.info? 68).map (fun i => (i.zero, i.size, i.bytes)) = some (some (.slice none 0 0), 1, 24) := by kernel_rfl
theorem sunderInts : Tryz.prog.underlying 39 = some (.slice 68) := by kernel_rfl
set_option maxRecDepth 100000 in
set_option maxHeartbeats 4000000 in
theorem growInts_any (B bk m : Nat) (bcs : Array Value) (v1 : Value) (a : Nat → Value) (n : Nat → Nat) (w : World) (hb : Blk w bk 53 bcs) (hf : bcs[2]? = some v1) (r1 : w.ownsRow B 68 1 v1 m ((List.range m).map a)) (hR : Rwk elInts w B 3 m a (fun i => elInts.marks i 0 (n i))) (hn : ∀ i, i < m → n i ≤ 100000) (hm : m ≤ 250) (hB : B ≤ w.heap.size) :
    Calls Tryz.prog 71 #[.pointer (some ⟨bk, 0, none⟩)] w fun e w' => ∃ v b, e = .returned v ∧ w'.ownsRow w.heap.size 68 1 v m ((List.range m).map b) ∧ Famk elInts w' B 3 m a b (fun i => elInts.marks i 0 (n i)) (fun i => elInts.marks i 0 (n i + 72)) ∧ Tn B (cellsT 3) w w' := by
  obtain ⟨A1, p1, e1⟩ := srow_slice r1
  have bkc : ∀ W, Tn B (cellsT 3) w W → W.cell? ⟨bk, 2, none⟩ = some (.slice A1 m p1) := fun W hW => by
    have := (hW.blk hb (cellsT_ne (by decide) _ _)).cell 2
    rw [this, hf, e1]
  have s1 : ∀ W, Tn B (cellsT 3) w W → ∀ k, k < m → ∃ g, A1 = some ⟨g, 0, none⟩ ∧ W.cell? ⟨g, k, none⟩ = some (a k) := fun W hW k hk => by
    obtain ⟨g, c, h1, _, _, h2⟩ := srow_at (hW.own r1 (fun cs fr => cellsT_ne (by decide) _ _)) hk
    rw [e1] at h1
    injection h1 with h1 _ _
    exact ⟨g, h1, h2⟩
  have BK := Lib.hid bkc
  have S1 := Lib.hid s1
  have HR := Lib.hid hR
  have HN := Lib.hid hn
  have hm' : (m : Int) ≤ 250 := by omega
  obtain ⟨S, hS⟩ : ∃ S, w.heap.size = S := ⟨_, rfl⟩
  have HS := Lib.hid hS
  have HB := Lib.hid hB
  rw [hS]
  clear hb hf r1 hR hn e1 bkc s1 hS hB
  go_enter Tryz.func71, Tryz.ntmps71
  go_wp2_with fail
  go_loopw [3, 4] (fun o i wr => ∃ k : Nat, ∃ b : Nat → Value, ∃ H : Nat → List (Int), k ≤ m ∧ i = .int .i64 (k : Int) ∧ Hid (wr.ownsRow S 68 1 o k ((List.range k).map b)) ∧ Hid (Famk elInts wr B 3 m a b (fun i => elInts.marks i 0 (n i)) H ∧ (∀ i, i < k → H i = elInts.marks i 0 (n i + 72)) ∧ ∀ i, k ≤ i → b i = a i ∧ H i = elInts.marks i 0 (n i)) ∧ Hid (Tn B (cellsT 3) w wr)) (fun _ i _ => m - (intOf i).toNat)
  case atStart => exact ⟨0, a, _, by omega, rfl, World.ownsRow_nil _ _ _ _, ⟨Famk.start HR.out, fun i hi => absurd hi (by omega), fun i _ => ⟨rfl, rfl⟩⟩, Tn.refl _ _ _⟩
  case round =>
    obtain ⟨k, b, H, hk, rfl, HO1, HF1, HT1⟩ := hrel
    have d4 := BK.out _ HT1.out
    obtain ⟨ao, co, eo⟩ := srow_slice HO1.out
    subst eo
    by_cases hl : k < m
    · obtain ⟨g1, rfl, s2⟩ := S1.out _ HT1.out k hl
      obtain ⟨nk, hnk⟩ : ∃ x, n k = x := ⟨_, rfl⟩
      have hnk2 := HN.out k hl
      rw [hnk] at hnk2
      obtain ⟨ak, ck, ek⟩ := (HF1.out.1.ra k hl).slice
      rw [El.marks_length, hnk] at ek
      rw [ek] at s2
      have Hnk := Lib.hid hnk
      have Ek := Lib.hid ek
      have hl1 : (k : Int) < (m : Int) := by omega
      have hnk3 : (nk : Int) ≤ 100000 := by omega
      have HF2 : Hid (Famk elInts wr B 3 m a (upk b k (.slice ak nk ck)) (fun i => elInts.marks i 0 (n i)) (upk H k (elInts.marks k 0 (nk + 0)))) := by
        unfold Hid
        rw [upk_self b k _ (by rw [(HF1.out.2.2 k (Nat.le_refl _)).1, ek]), upk_self H k _ (by rw [(HF1.out.2.2 k (Nat.le_refl _)).2, hnk]; rfl)]
        exact HF1.out.1
      clear hnk ek
      go_wp2_with fail
      go_loopw [5, 6] (fun l t wr' => ∃ j : Nat, j ≤ 12 ∧ t = .int .i64 (j : Int) ∧ Hid (wr'.ownsRow S 68 1 (.slice ao k co) k ((List.range k).map b)) ∧ Hid (Famk elInts wr' B 3 m a (upk b k l) (fun i => elInts.marks i 0 (n i)) (upk H k (elInts.marks k 0 (nk + j)))) ∧ Hid (Tn B (cellsT 3) w wr')) (fun _ t _ => 12 - (intOf t).toNat)
      case atStart => exact ⟨0, by omega, rfl, HO1, HF2, HT1⟩
      case round =>
        obtain ⟨j, hj, rfl, HO2, HF3, HT2⟩ := hrel
        have hrow := HF3.out.rb k hl
        rw [upk_at, upk_at] at hrow
        obtain ⟨N, hN⟩ : ∃ N, nk + j = N := ⟨_, rfl⟩
        rw [hN] at hrow HF3
        obtain ⟨al, cl, el⟩ := hrow.slice
        rw [El.marks_length] at el
        subst el
        have hN1 : N ≤ 100012 := by omega
        have HN4 := Lib.hid hN
        have Hrow := Lib.hid hrow
        clear hrow hN d4 s2
        by_cases hlj : j < 12
        · have hlj1 : (j : Int) < 12 := by omega
          have M := Lib.hid (markInts_any k N 1 wr (by omega) (by omega))
          go_wp2_with fail
          refine M.out.mono ?_
          rintro e w1 ⟨v, rfl, hN5, hb5⟩
          obtain ⟨av, cv, ev⟩ := hN5.slice
          rw [El.marks_length] at ev
          subst ev
          obtain ⟨hz9, hA, hM⟩ := own_reads hN5
          have hrow1 := Hrow.out.below (below_g hb5)
          have hB1 : B ≤ w1.heap.size := Nat.le_trans HB.out (Nat.le_trans HT2.out.size hb5.size)
          obtain ⟨l', w2, hr, hown, hgr, hold, hblk⟩ := app_own (P := Tryz.prog) elInts 68 3 (.int .i64 0) 8 underInts infoInts rfl w1 B (.slice al N cl) (elInts.marks k 0 N) (elInts.marks k N 1) hrow1 av cv hA hM (by rw [El.marks_length, El.marks_length]; unfold maxLen; omega) (by rw [El.marks_length, El.marks_length]; omega) hB1 1 (El.marks_length _ _ _ _).symm
          have HF5 := Lib.hid ((HF3.out.below (below_g hb5)).marked2 hl hown hgr hold hblk)
          have HT5 := Lib.hid ((HT2.out.trans (Tn.of_grown hb5)).grow hrow1 hgr)
          have HO5 : Hid (w2.ownsRow S 68 1 (.slice ao k co) k ((List.range k).map b)) := ((Tn.refl B (cellsT 3) w1).grow hrow1 hgr).own ((Tn.of_grown (B := B) (T := cellsT 3) hb5).own HO2.out (fun cs fr => cellsT_ne (by decide) _ _)) (fun cs fr => cellsT_ne (by decide) _ _)
          have HR5 := fun ty => Lib.hid (hr ty)
          clear hz9 hN5 hb5 hA hM hrow1 hB1 hr hown hgr hold hblk M hN1 hnk2 hnk3
          go_wp2_with (at_builtin; refine wpList_append_k _ w2 rfl (.tmp 27) (.tmp 31) 68 rfl _ _ l' rfl rfl (fun ty => (HR5 ty).out) ?_)
          go_roundw
          case rel => exact ⟨j + 1, by omega, by go_num, HO5, by rw [← Nat.add_assoc, HN4.out]; exact HF5, HT5⟩
          case measure => simp [intOf]; omega
        · obtain rfl : j = 12 := by omega
          have M := Lib.hid (markInts_any k N 60 wr (by omega) (by omega))
          go_wp2_with fail
          refine M.out.mono ?_
          rintro e w1 ⟨v, rfl, hN5, hb5⟩
          obtain ⟨av, cv, ev⟩ := hN5.slice
          rw [El.marks_length] at ev
          subst ev
          obtain ⟨hz9, hA, hM⟩ := own_reads hN5
          have hrow1 := Hrow.out.below (below_g hb5)
          have hB1 : B ≤ w1.heap.size := Nat.le_trans HB.out (Nat.le_trans HT2.out.size hb5.size)
          obtain ⟨l', w2, hr, hown, hgr, hold, hblk⟩ := app_own (P := Tryz.prog) elInts 68 3 (.int .i64 0) 8 underInts infoInts rfl w1 B (.slice al N cl) (elInts.marks k 0 N) (elInts.marks k N 60) hrow1 av cv hA hM (by rw [El.marks_length, El.marks_length]; unfold maxLen; omega) (by rw [El.marks_length, El.marks_length]; omega) hB1 60 (El.marks_length _ _ _ _).symm
          obtain ⟨al', cl', el'⟩ := hown.slice
          rw [List.length_append, El.marks_length, El.marks_length] at el'
          subst el'
          have hF5 := (HF3.out.below (below_g hb5)).marked2 hl hown hgr hold hblk
          have hT5 := (HT2.out.trans (Tn.of_grown hb5)).grow hrow1 hgr
          have hO5 : w2.ownsRow S 68 1 (.slice ao k co) k ((List.range k).map b) := ((Tn.refl B (cellsT 3) w1).grow hrow1 hgr).own ((Tn.of_grown (B := B) (T := cellsT 3) hb5).own HO2.out (fun cs fr => cellsT_ne (by decide) _ _)) (fun cs fr => cellsT_ne (by decide) _ _)
          have HR5 := fun ty => Lib.hid (hr ty)
          have hO6 := World.ownsRow.alloc hO5 (.cells #[.slice al' (N + 60) cl'] 68)
          obtain ⟨o', w3, hr3, hown3, hgr3, hold3, hblk3⟩ := app_srow (P := Tryz.prog) 39 68 sunderInts sinfoInts (w2.alloc (.cells #[.slice al' (N + 60) cl'] 68)) S (.slice ao k co) k _ hO6 (.slice al' (N + 60) cl') rfl w2.heap.size 1 ((Blk.new w2 68 #[.slice al' (N + 60) cl']).cell 0) (by omega) (Nat.le_trans (HS.out ▸ hT5.size) (by simp))
          have HR6 := fun ty => Lib.hid (hr3 ty)
          rw [range_upk] at hown3
          have HO7 := Lib.hid hown3
          have hT6 := (hT5.alloc (.cells #[.slice al' (N + 60) cl'] 68))
          have HT7 := Lib.hid (hT6.growNew hO6 (Nat.le_of_eq HS.out) hgr3)
          have HF7 : Hid (Famk elInts w3 B 3 m a (upk b k (.slice al' (N + 60) cl')) (fun i => elInts.marks i 0 (n i)) (upk H k (elInts.marks k 0 (N + 60)))) := by
            have h1 := hF5.below (below_g (World.grownBy_alloc w2 (.cells #[.slice al' (N + 60) cl'] 68) none))
            have h2 : Tn S (cellsT 68) (w2.alloc (.cells #[.slice al' (N + 60) cl'] 68)) w3 := (Tn.refl S (cellsT 68) _).grow hO6 hgr3
            exact h1.tn h2 (fun cs fr => cellsT_ne (by decide) _ _)
          clear hz9 hN5 hb5 hA hM hrow1 hB1 hr hown hgr hold hblk M hF5 hT5 hO5 hO6 hr3 hown3 hgr3 hold3 hblk3 hT6 hN1 hnk2 hnk3
          go_wp2_with (at_builtin; first | refine wpList_append_k _ w2 rfl (.tmp 34) (.tmp 38) 68 rfl _ _ (.slice al' (N + 60) cl') rfl rfl (fun ty => (HR5 ty).out) ?_ | refine wpList_append_k _ w3 rfl (.tmp 33) (.tmp 40) 39 rfl _ _ o' rfl rfl (fun ty => (HR6 ty).out) ?_)
          go_roundw
          case rel =>
            refine ⟨k + 1, upk b k (.slice al' (N + 60) cl'), _, by omega, by go_num, HO7, ⟨HF7.out, fun i hi => ?_, fun i hi => ?_⟩, HT7⟩
            · by_cases hik : i = k
              · subst hik
                rw [upk_at, Hnk.out, ← HN4.out]
              · rw [upk_ne _ _ hik]
                exact HF1.out.2.1 i (by omega)
            · rw [upk_ne _ _ (show i ≠ k by omega), upk_ne _ _ (show i ≠ k by omega)]
              exact HF1.out.2.2 i (by omega)
          case measure => simp [intOf]; omega
    · obtain rfl : k = m := by omega
      go_wp2_with fail
      go_ret
      refine ⟨_, b, rfl, HO1.out, ⟨HF1.out.1.ra, fun i hi => ?_, HF1.out.1.oaa, HF1.out.1.oab, HF1.out.1.obb, fun i hi => ?_⟩, HT1.out⟩
      · rw [← HF1.out.2.1 i hi]
        exact HF1.out.1.rb i hi
      · rw [← HF1.out.2.1 i hi]
        exact HF1.out.1.tie i hi

set_option maxRecDepth 100000 in
set_option maxHeartbeats 2000000 in
theorem markedInts_any (B B2 m : Nat) (v : Value) (a : Nat → Value) (n : Nat → Nat) (w : World) (hown : w.ownsRow B2 68 1 v m ((List.range m).map a)) (hR : ∀ i, i < m → Own elInts w B 3 (a i) (elInts.marks i 0 (n i))) (hn : ∀ i, i < m → n i ≤ 200000) (hm : m ≤ 250) :
    Calls Tryz.prog 86 #[v] w fun e w' => e = .returned (.bool true) ∧ w.grownBy w' none := by
  obtain ⟨A1, p1, e1⟩ := srow_slice hown
  subst e1
  have s1 : ∀ W, w.grownBy W none → ∀ k, k < m → ∃ g, A1 = some ⟨g, 0, none⟩ ∧ W.cell? ⟨g, k, none⟩ = some (a k) := fun W hW k hk => by
    obtain ⟨g, c, h1, _, _, h2⟩ := srow_at hown hk
    injection h1 with h1 _ _
    exact ⟨g, h1, hW.cell h2 (by simp)⟩
  have S1 := Lib.hid s1
  have HR := Lib.hid hR
  have HN := Lib.hid hn
  have hm' : (m : Int) ≤ 250 := by omega
  clear hown hR hn s1
  go_enter Tryz.func86, Tryz.ntmps86
  go_wp2_with fail
  go_loopw [3] (fun i wr => ∃ k : Nat, k ≤ m ∧ i = .int .i64 (k : Int) ∧ Hid (w.grownBy wr none)) (fun i _ => m - (intOf i).toNat)
  case atStart => exact ⟨0, by omega, rfl, grefl _ _⟩
  case round =>
    obtain ⟨k, hk, rfl, HG⟩ := hrel
    by_cases hl : k < m
    · obtain ⟨g1, rfl, s2⟩ := S1.out _ HG.out k hl
      obtain ⟨nk, hnk⟩ : ∃ x, n k = x := ⟨_, rfl⟩
      have hnk2 := HN.out k hl
      have hrow := HR.out k hl
      rw [hnk] at hnk2 hrow
      obtain ⟨ak, ck, ek⟩ := hrow.slice
      rw [El.marks_length] at ek
      rw [ek] at s2 hrow
      have M : ∀ W, wr.grownBy W none → Hid (Calls Tryz.prog 123 #[.int .i64 (k : Int), .int .i64 0, .int .i64 (nk : Int)] W fun e W1 => ∃ av cv, e = .returned (.slice av nk cv) ∧ W1.cell? ⟨g1, k, none⟩ = some (.slice ak nk ck) ∧ Hid (wr.grownBy W1 none) ∧ Hid (∀ W2, W1.grownBy W2 none → Calls Tryz.prog 23 #[.slice ak nk ck, .slice av nk cv] W2 fun e W3 => e = .returned (.bool true) ∧ W2.grownBy W3 none)) := by
        intro W hW
        refine (markInts_any k 0 nk W (by omega) (by omega)).mono ?_
        rintro e W1 ⟨v, rfl, hN5, hb5⟩
        obtain ⟨av, cv, ev⟩ := hN5.slice
        rw [El.marks_length] at ev
        subst ev
        have hg1 := gnone hW hb5
        refine ⟨av, cv, rfl, hg1.cell s2 (by simp), hg1, fun W2 h2 => ?_⟩
        refine (sameInts_any ak av nk nk ck cv B W.heap.size (elInts.marks k 0 nk) W2 ((hrow.below (below_g HG.out)).below (below_g (gnone hg1 h2))) (hN5.below (below_g h2)) (by rw [El.marks_length]; omega) (okmInts k 0 nk)).mono ?_
        rintro e W3 ⟨rfl, q, rfl⟩
        exact ⟨rfl, only_drewN (grefl _ _) q⟩
      have hl1 : (k : Int) < (m : Int) := by omega
      have hnk3 : (nk : Int) ≤ 200000 := by omega
      have G0 : wr.grownBy wr.drew none := ⟨rfl, rfl, rfl, Nat.le_refl _, fun _ _ _ => rfl⟩
      have HG0 := Lib.hid G0
      have c0 : wr.drew.cell? ⟨g1, k, none⟩ = some (.slice ak nk ck) := s2
      clear hnk hrow ek G0
      go_wp2_with fail
      go_region_held3 (fun W => W.cell? ⟨g1, k, none⟩ = some (.slice ak nk ck))
        (first | exact c0 | exact c1 | exact H2.out.cell c1 (by simp))
        (first
          | (go_at_call 123; refine (M _ HG0.out).out.mono ?_; rintro e W1 ⟨av, cv, rfl, c1, HG1, HS1⟩)
          | (go_at_call 23; refine (HS1.out _ (grefl _ _)).mono ?_; rintro e W3 ⟨rfl, h2⟩; have H2 := Lib.hid h2; clear h2))
      have HG9 := Lib.hid (gnone HG.out (gnone HG1.out H2.out))
      go_wp2_with fail
      go_roundw
      case rel => exact ⟨k + 1, by omega, by go_num, HG9⟩
      case measure => simp [intOf]; omega
    · obtain rfl : k = m := by omega
      go_wp2_with fail
      go_ret
      exact ⟨rfl, HG.out⟩
end Go.Proofs.YtmagkkkecihgmaaGreat
