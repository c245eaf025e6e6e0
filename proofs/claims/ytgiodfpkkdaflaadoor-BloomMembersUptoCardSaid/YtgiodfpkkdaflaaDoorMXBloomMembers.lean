/-
  The law BloomMembers, walked.
-/
import Derived.Test.YtgiodfpkkdaflaaDoorMXBloomEmpty
namespace Go.Proofs.YtgiodfpkkdaflaaDoor
open Go.RowKit Ieee

/-- A list without its first text. -/
theorem TextsAt.tail {w : World} {g off n : Nat} {s : ByteArray} {L : List ByteArray} (h : TextsAt w (some ⟨g, off, none⟩) (n + 1) (s :: L)) : TextsAt w (some ⟨g, off + 1, none⟩) n L :=
  ⟨by have := h.len; rw [List.length_cons] at this; omega, fun i t ht => by
    obtain ⟨g', off', e, hg, hc⟩ := h.at_ (i + 1) t (by rw [List.getElem?_cons_succ]; exact ht)
    cases e
    exact ⟨g, off + 1, rfl, hg, by rw [show off + 1 + i = off + (i + 1) from by omega]; exact hc⟩⟩
theorem u8_andNot (a b : Nat) (ha : a < 256) (hb : b < 256) (h : a &&& (255 - b) = 0) : bits .andNot .u8 (a : Int) (b : Int) = 0 := by
  have o : ∀ v : Nat, v < 256 → (BitVec.ofInt 8 (v : Int)).toNat = v := fun v hv => by
    rw [BitVec.ofInt_natCast, BitVec.toNat_ofNat]; exact Nat.mod_eq_of_lt (by omega)
  show IntKind.u8.wrap ((BitVec.ofInt 8 (a : Int) &&& ~~~ BitVec.ofInt 8 (b : Int)).toNat : Int) = _
  rw [BitVec.toNat_and, BitVec.toNat_not, o a ha, o b hb, show 2 ^ 8 - 1 - b = 255 - b from by omega, h]
  rfl
/-- A byte of a filter that was built. -/
theorem filterT_at (hs : List Nat) (z k i : Nat) (hi : i < z) (hil : i < (filterT hs z k).size) : (filterT hs z k)[i].toNat = (filterL hs z k).getD i 0 := by
  have hl := filterL_length hs z k
  have hd : (filterT hs z k).data.toList = (filterL hs z k ++ [k]).map UInt8.ofNat := by unfold filterT; simp
  rw [← getD_byte _ _ hil, hd, List.getD_eq_getElem?_getD, List.getElem?_map, List.getElem?_append_left (by omega), List.getElem?_eq_getElem (by omega), List.getD_eq_getElem?_getD, List.getElem?_eq_getElem (by omega)]
  show (UInt8.ofNat _).toNat = _
  rw [UInt8.toNat_ofNat', Nat.mod_eq_of_lt (filterL_byte hs z k _ (List.getElem_mem _))]
  rfl
/-- What fewer keys mark more keys mark, too, in a filter that is as large. -/
theorem bytes_sub (s : ByteArray) (L : List ByteArray) (x i : Nat) (f t : ByteArray) (hf : bloomT (s :: L) x = f) (ht : bloomT L x = t) (hsz : t.size = f.size) (hi : i + 1 < f.size) (b1 : i < t.size) (b2 : i < f.size) :
    bits .andNot .u8 (t[i].toNat : Int) (f[i].toNat : Int) = 0 := by
  subst hf ht
  have h1 := bloomT_size L x
  have h2 := bloomT_size (s :: L) x
  have hz : sizeN (L.length : Int) x = sizeN ((s :: L).length : Int) x := by omega
  have e1 := filterT_at (L.map fun s => crc s.data.toList) (sizeN (L.length : Int) x) (probesN x) i (by omega) (by rw [filterT_size]; omega)
  have e2 := filterT_at ((s :: L).map fun s => crc s.data.toList) (sizeN ((s :: L).length : Int) x) (probesN x) i (by omega) (by rw [filterT_size]; omega)
  have g1 : ((bloomT L x)[i]'(by omega)).toNat = (filterL (L.map fun s => crc s.data.toList) (sizeN (L.length : Int) x) (probesN x)).getD i 0 := e1
  have g2 : ((bloomT (s :: L) x)[i]'(by omega)).toNat = (filterL ((s :: L).map fun s => crc s.data.toList) (sizeN ((s :: L).length : Int) x) (probesN x)).getD i 0 := e2
  refine u8_andNot _ _ (UInt8.toNat_lt _) (UInt8.toNat_lt _) ?_
  rw [g1, g2, hz, List.map_cons]
  exact filter_sub _ _ _ _ _ (by omega)

set_option maxRecDepth 100000 in
set_option maxHeartbeats 8000000 in
theorem lawBloomMembers (A : Option Addr) (n c : Nat) (L : List ByteArray) (x : Nat) (_hx : (Lit.float .f64 x).wf = true) (w : World) (I : TextsAt w A n L) (hbk : bulkT L ≤ 1048576) (hcap : n ≤ c) (hL : LaidM w) :
    Calls Tryd.prog 4 #[.slice A n c, .float .f64 x] w fun e w' => e = .returned (.bool true) ∧ Below w.heap.size w w' := by
  have CA := fun W (hb : Below w.heap.size w W) => Lib.hid (alive12_any W (hL.on hb))
  have CW := Lib.hid (weight_any A n c L w I hbk)
  by_cases hwt : wtT L ≤ 9000
  · have g1 : ¬ (9000 : Int) < ((wtT L : Nat) : Int) := by omega
    have hlen := wtT_len L
    have hll := I.len
    have hn : n ≤ 900 := by omega
    have hok : ∀ s ∈ L, s.size ≤ 9223372036854775807 := fun s hs => by have := wtT_mem L s hs; omega
    have HI := Lib.hid I
    have Hok := Lib.hid hok
    have Hlen := Lib.hid hll
    have CB := fun W (hb : Below w.heap.size w W) => Lib.hid (bbuild_any A n c x L W (I.below hb) (by omega) hok (hL.on hb))
    have CM := fun f (hf : f.size ≤ 100000000000) (s : ByteArray) (hs : s.size ≤ 9223372036854775807) W (hb : Below w.heap.size w W) => Lib.hid (bmay_any f s W (hL.on hb) hs hf)
    have HB1 := fun s hs => Lib.hid (may_built L x s hs)
    have z1 := bloomT_size L x
    have y1 := sizeN_le (L.length : Int) x
    have y2 := sizeN_ge (L.length : Int) x
    have S1 := Lib.hid (show (bloomT L x).size ≤ 100000000000 by omega)
    have CS := fun W => Lib.hid (bsize_any (n : Int) x W (by omega))
    rw [← hll] at z1
    have hcap' : (n : Int) ≤ (c : Int) := by omega
    have Z1 := Lib.hid z1
    have HT := Lib.hid hL
    clear z1 y1 y2 hlen hok hll I hL hwt hbk
    obtain ⟨f, hf⟩ : ∃ f, bloomT L x = f := ⟨_, rfl⟩
    rw [hf] at CB HB1 S1 Z1
    have HF := Lib.hid hf
    clear hf
    go_enter Tryd.func4, Tryd.ntmps4
    go_wp2_with fail
    refine CW.out.mono ?_
    rintro e w1 ⟨rfl, hb1⟩
    have HB0 := Lib.hid hb1
    clear hb1 CW
    go_wp2_with fail
    refine (CB _ HB0.out).out.mono ?_
    rintro e w1 ⟨rfl, hb1⟩
    have HB0 := Lib.hid (HB0.out.trans (hb1.mono HB0.out.size))
    clear hb1 CB
    go_wp2_with fail
    go_loopw [6] (fun i wr => ∃ k : Nat, k ≤ n ∧ i = .int .i64 (k : Int) ∧ Hid (Below w.heap.size w wr)) (fun i _ => n - (intOf i).toNat)
    case atStart => exact ⟨0, by omega, rfl, HB0⟩
    case round =>
      obtain ⟨k, hk, rfl, HB⟩ := hrel
      clear HB0
      by_cases hl : k < n
      · as_aux_lemma =>
        have g3 : (k : Int) < (n : Int) := by omega
        have g0 : (0 : Int) ≤ (k : Int) := by omega
        have hkL : k < L.length := by have := Hlen.out; omega
        have hm : L[k]? = some L[k] := List.getElem?_eq_getElem hkL
        have hmem := List.getElem_mem hkL
        generalize L[k] = s at *
        obtain ⟨g, off, hA, hg, x0⟩ := (HI.out.below HB.out).at_ k _ hm
        subst hA
        have m1 := (HB1 s hmem).out
        have CM1 := CM f S1.out s (Hok.out s hmem) _ HB.out
        clear hm hkL hmem CM HB1
        go_wp2_with fail
        refine CM1.out.mono ?_
        rintro e w1 ⟨rfl, hb1⟩
        have HB := Lib.hid (HB.out.trans (hb1.mono HB.out.size))
        clear hb1 CM1
        go_wp2_with fail
        go_roundw
        case rel => exact ⟨k + 1, by omega, by go_num, HB⟩
        case measure => simp [intOf]; omega
      · as_aux_lemma =>
        obtain rfl : k = n := by omega
        clear CM HB1
        cases L with
        | nil =>
          obtain rfl : k = 0 := Hlen.out
          go_wp2_with fail
          refine (CA _ HB.out).out.mono ?_
          rintro e w1 ⟨rfl, hb1⟩
          have HB := Lib.hid (HB.out.trans (hb1.mono HB.out.size))
          clear hb1
          go_wp2_with fail
          go_ret
          exact ⟨rfl, HB.out⟩
        | cons s0 L' =>
          obtain ⟨m, rfl⟩ : ∃ m, k = m + 1 := ⟨L'.length, by have := Hlen.out; rw [List.length_cons] at this; omega⟩
          obtain ⟨g, off, hA, hg, x0⟩ := HI.out.at_ 0 s0 rfl
          subst hA
          have HT2 := Lib.hid HI.out.tail
          have zt := bloomT_size L' x
          obtain ⟨t, ht⟩ : ∃ t, bloomT L' x = t := ⟨_, rfl⟩
          have hsub := fun i => bytes_sub s0 L' x i f t HF.out ht
          have y3 := sizeN_le (L'.length : Int) x
          obtain ⟨Z, hZ⟩ : ∃ Z, sizeN ((m : Int) + 1) x = Z := ⟨_, rfl⟩
          have y4 := sizeN_le ((m : Int) + 1) x
          have y5 := sizeN_ge ((m : Int) + 1) x
          have hfZ : f.size = Z + 1 := by
            have h9 := Z1.out
            rw [show ((m + 1 : Nat) : Int) = (m : Int) + 1 from rfl, hZ] at h9
            exact h9
          have CS2 := fun W => Lib.hid (show Calls Tryd.prog 15 #[.int .i64 ((m : Int) + 1), .float .f64 x] W fun e w' => e = .returned (.int .i64 (Z : Int)) ∧ Below W.heap.size W w' from by
            have h9 := bsize_any ((m : Int) + 1) x W (by omega)
            rw [hZ] at h9
            exact h9)
          rw [hZ] at y4 y5
          have Hsub : Hid (t.size = f.size → ∀ i, i < Z → ∀ (b1 : i < t.size) (b2 : i < f.size), bits .andNot .u8 (t[i].toNat : Int) (f[i].toNat : Int) = 0) := Lib.hid fun e i hi b1 b2 => hsub i e (by omega) b1 b2
          have hq : ((f.size : Int) == (Z : Int) + 1) = true := beq_iff_eq.2 (by omega)
          have hok2 : Hid (∀ s ∈ L', s.size ≤ 9223372036854775807) := Lib.hid fun s hs => Hok.out s (List.mem_cons_of_mem _ hs)
          have hb : ∃ off' c', (∀ W, Below w.heap.size w W → Hid (Calls Tryd.prog 10 #[.slice (some ⟨g, off', none⟩) m c', .float .f64 x] W fun e w' => e = .returned (.string t) ∧ Below W.heap.size W w')) ∧ ((c = 1 ∧ off' = off ∧ c' = 0 ∧ m = 0) ∨ (¬ c = 1 ∧ off' = off + 1 ∧ c' = c - 1)) := by
            by_cases hc1 : c = 1
            · refine ⟨off, 0, fun W hb => Lib.hid ?_, Or.inl ⟨hc1, rfl, rfl, by omega⟩⟩
              have hm0 : m = 0 := by omega
              have hL0 : L' = [] := List.length_eq_zero_iff.1 (by have := HT2.out.len; omega)
              subst hm0
              rw [← ht, hL0]
              exact bbuild_any _ 0 0 x [] W ⟨rfl, fun i s hs => by simp at hs⟩ (by decide) (fun s hs => by cases hs) (HT.out.on hb)
            · refine ⟨off + 1, c - 1, fun W hb => Lib.hid ?_, Or.inr ⟨hc1, rfl, rfl⟩⟩
              rw [← ht]
              exact bbuild_any _ m (c - 1) x L' W (HT2.out.below hb) (by omega) hok2.out (HT.out.on hb)
          obtain ⟨off', c', CB2, hoff⟩ := hb
          have c1 : (1 : Int) ≤ (m : Int) + 1 := by omega
          have c2 : (m : Int) + 1 ≤ (c : Int) := by omega
          have hts : t.size ≤ 100000 := by rw [← ht]; omega
          have HZ := Lib.hid hfZ
          have Hts := Lib.hid hts
          have Hy : Hid (8 ≤ Z ∧ Z ≤ 65536) := Lib.hid ⟨y5, y4⟩
          clear zt HF ht x0 hg hl hk y3 y4 y5 hsub HT2 hok2 hfZ hts Z1 S1 hZ HI Hok Hlen HT CS
          rcases hoff with ⟨rfl, rfl, rfl, rfl⟩ | ⟨hc1, rfl, rfl⟩
          · have CS2 := fun W => Lib.hid (show Calls Tryd.prog 15 #[.int .i64 1, .float .f64 x] W fun e w' => e = .returned (.int .i64 (Z : Int)) ∧ Below W.heap.size W w' from (CS2 W).out)
            go_wp2_with fail
            refine (CB2 _ HB.out).out.mono ?_
            rintro e w1 ⟨rfl, hb1⟩
            have HB0 := Lib.hid (HB.out.trans (hb1.mono HB.out.size))
            clear hb1 CB2 HB
            go_wp2_with fail
            go_loopw [8] (fun i wr => ∃ k : Nat, k ≤ Z ∧ i = .int .i64 (k : Int) ∧ Hid (Below w.heap.size w wr)) (fun i _ => Z - (intOf i).toNat)
            case atStart => exact ⟨0, by omega, rfl, HB0⟩
            case round =>
              obtain ⟨k, hk, rfl, HB⟩ := hrel
              clear HB0
              have hZ1 := HZ.out
              have hZ2 := Hy.out.2
              have hk2 : k ≤ 65536 := by omega
              have s1 : wrap64 ((k : Int) + 1) = (k : Int) + 1 := by unfold wrap64; omega
              have s2 : wrap64 ((Z : Int) + 1) = (Z : Int) + 1 := by unfold wrap64; omega
              by_cases hl : k < Z
              · have g3 : (k : Int) + 1 < (f.size : Int) := by omega
                have g0 : (0 : Int) ≤ (k : Int) := by omega
                have g4 : (k : Int) < (f.size : Int) := by omega
                by_cases he : t.size = f.size
                · as_aux_lemma =>
                  have e1 : ((t.size : Int) == (f.size : Int)) = true := beq_iff_eq.2 (by omega)
                  have g5 : (k : Int) < (t.size : Int) := by omega
                  have b1 : k < t.size := by omega
                  have b2 : k < f.size := by omega
                  have hs := Hsub.out he k hl b1 b2
                  obtain ⟨u, hu⟩ : ∃ u : UInt8, t[k] = u := ⟨_, rfl⟩
                  obtain ⟨v, hv⟩ : ∃ v : UInt8, f[k] = v := ⟨_, rfl⟩
                  rw [hu, hv] at hs
                  clear hZ1 hZ2 he
                  go_wp2_with fail
                  go_quiet (fail)
                  go_wp2_with fail
                  go_roundw
                  case rel => exact ⟨k + 1, by omega, by go_num, Lib.hid (below_drewN HB.out _)⟩
                  case measure => simp [intOf]; omega
                · as_aux_lemma =>
                  have e1 : ((t.size : Int) == (f.size : Int)) = false := beq_eq_false_iff_ne.2 (by omega)
                  clear hZ1 hZ2 he
                  go_wp2_with fail
                  refine (CA _ HB.out).out.mono ?_
                  rintro e w1 ⟨rfl, hb1⟩
                  have HB := Lib.hid (HB.out.trans (hb1.mono HB.out.size))
                  clear hb1
                  go_wp2_with fail
                  refine (CS2 _).out.mono ?_
                  rintro e w1 ⟨rfl, hb1⟩
                  have HB := Lib.hid (HB.out.trans (hb1.mono HB.out.size))
                  clear hb1
                  go_wp2_with fail
                  go_ret
                  exact ⟨rfl, HB.out⟩
              · as_aux_lemma =>
                have g3 : ¬ (k : Int) + 1 < (f.size : Int) := by omega
                clear hZ1 hZ2
                go_wp2_with fail
                refine (CA _ HB.out).out.mono ?_
                rintro e w1 ⟨rfl, hb1⟩
                have HB := Lib.hid (HB.out.trans (hb1.mono HB.out.size))
                clear hb1
                go_wp2_with fail
                refine (CS2 _).out.mono ?_
                rintro e w1 ⟨rfl, hb1⟩
                have HB := Lib.hid (HB.out.trans (hb1.mono HB.out.size))
                clear hb1
                go_wp2_with fail
                go_ret
                exact ⟨rfl, HB.out⟩
          · go_wp2_with fail
            refine (CB2 _ HB.out).out.mono ?_
            rintro e w1 ⟨rfl, hb1⟩
            have HB0 := Lib.hid (HB.out.trans (hb1.mono HB.out.size))
            clear hb1 CB2 HB
            go_wp2_with fail
            go_loopw [8] (fun i wr => ∃ k : Nat, k ≤ Z ∧ i = .int .i64 (k : Int) ∧ Hid (Below w.heap.size w wr)) (fun i _ => Z - (intOf i).toNat)
            case atStart => exact ⟨0, by omega, rfl, HB0⟩
            case round =>
              obtain ⟨k, hk, rfl, HB⟩ := hrel
              clear HB0
              have hZ1 := HZ.out
              have hZ2 := Hy.out.2
              have hk2 : k ≤ 65536 := by omega
              have s1 : wrap64 ((k : Int) + 1) = (k : Int) + 1 := by unfold wrap64; omega
              have s2 : wrap64 ((Z : Int) + 1) = (Z : Int) + 1 := by unfold wrap64; omega
              by_cases hl : k < Z
              · have g3 : (k : Int) + 1 < (f.size : Int) := by omega
                have g0 : (0 : Int) ≤ (k : Int) := by omega
                have g4 : (k : Int) < (f.size : Int) := by omega
                by_cases he : t.size = f.size
                · as_aux_lemma =>
                  have e1 : ((t.size : Int) == (f.size : Int)) = true := beq_iff_eq.2 (by omega)
                  have g5 : (k : Int) < (t.size : Int) := by omega
                  have b1 : k < t.size := by omega
                  have b2 : k < f.size := by omega
                  have hs := Hsub.out he k hl b1 b2
                  obtain ⟨u, hu⟩ : ∃ u : UInt8, t[k] = u := ⟨_, rfl⟩
                  obtain ⟨v, hv⟩ : ∃ v : UInt8, f[k] = v := ⟨_, rfl⟩
                  rw [hu, hv] at hs
                  clear hZ1 hZ2 he
                  go_wp2_with fail
                  go_quiet (fail)
                  go_wp2_with fail
                  go_roundw
                  case rel => exact ⟨k + 1, by omega, by go_num, Lib.hid (below_drewN HB.out _)⟩
                  case measure => simp [intOf]; omega
                · as_aux_lemma =>
                  have e1 : ((t.size : Int) == (f.size : Int)) = false := beq_eq_false_iff_ne.2 (by omega)
                  clear hZ1 hZ2 he
                  go_wp2_with fail
                  refine (CA _ HB.out).out.mono ?_
                  rintro e w1 ⟨rfl, hb1⟩
                  have HB := Lib.hid (HB.out.trans (hb1.mono HB.out.size))
                  clear hb1
                  go_wp2_with fail
                  refine (CS2 _).out.mono ?_
                  rintro e w1 ⟨rfl, hb1⟩
                  have HB := Lib.hid (HB.out.trans (hb1.mono HB.out.size))
                  clear hb1
                  go_wp2_with fail
                  go_ret
                  exact ⟨rfl, HB.out⟩
              · as_aux_lemma =>
                have g3 : ¬ (k : Int) + 1 < (f.size : Int) := by omega
                clear hZ1 hZ2
                go_wp2_with fail
                refine (CA _ HB.out).out.mono ?_
                rintro e w1 ⟨rfl, hb1⟩
                have HB := Lib.hid (HB.out.trans (hb1.mono HB.out.size))
                clear hb1
                go_wp2_with fail
                refine (CS2 _).out.mono ?_
                rintro e w1 ⟨rfl, hb1⟩
                have HB := Lib.hid (HB.out.trans (hb1.mono HB.out.size))
                clear hb1
                go_wp2_with fail
                go_ret
                exact ⟨rfl, HB.out⟩
  · have g1 : (9000 : Int) < ((wtT L : Nat) : Int) := by omega
    clear hL hwt hbk I hcap
    go_enter Tryd.func4, Tryd.ntmps4
    go_wp2_with fail
    refine CW.out.mono ?_
    rintro e w1 ⟨rfl, hb1⟩
    have HB := Lib.hid hb1
    clear hb1 CW
    go_wp2_with fail
    refine (CA _ HB.out).out.mono ?_
    rintro e w1 ⟨rfl, hb1⟩
    have HB := Lib.hid (HB.out.trans (hb1.mono HB.out.size))
    clear hb1
    go_wp2_with fail
    go_ret
    exact ⟨rfl, HB.out⟩
end Go.Proofs.YtgiodfpkkdaflaaDoor
