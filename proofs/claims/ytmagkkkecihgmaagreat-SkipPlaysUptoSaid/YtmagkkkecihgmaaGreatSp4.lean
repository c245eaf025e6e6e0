/-
  Package skip, part 4: the way to a key.
-/
import Derived.Test.YtmagkkkecihgmaaGreatSp3
namespace Go.Proofs.YtmagkkkecihgmaaGreat
open Go.RowKit

theorem grown_new {a b c : World} {g : Nat} (h : a.grownBy b none) (k : b.grownBy c (some g)) (hg : a.heap.size ≤ g) : a.grownBy c none :=
  ⟨k.os.trans h.os, k.tape.trans h.tape, k.output.trans h.output, Nat.le_trans h.size k.size, fun i hi _ => (k.block i (Nat.lt_of_lt_of_le hi h.size) (fun e => by injection e with e; omega)).trans (h.block i hi (by simp))⟩
theorem steps_less {n c pl k : Nat} {v : Int} (hv : v = ((c + 1 : Nat) : Int)) (h1 : pl ≤ n) (h2 : k ≤ pl) (h3 : c + 1 ≤ k) : n - (intOf (.int .i64 v)).toNat < n - (intOf (.int .i64 (c : Int))).toNat := by
  subst hv
  show n - ((c + 1 : Nat) : Int).toNat < n - (c : Int).toNat
  simp only [Int.toNat_natCast]
  omega
set_option maxRecDepth 100000 in
set_option maxHeartbeats 4000000 in
theorem way_any {B p : Nat} {s : S10} {w : World} {Z : List Z10} (h : SkZ B p w s Z) (key : ByteArray) (hL : s.L.length ≤ 100000) :
    Calls Tryz.prog 31 #[.pointer (some ⟨p, 0, none⟩), .string key] w fun e w' => e = .returned (.tuple #[.agg (befV p Z (placeL s.L key)), .int .i64 (stepsL s.L key)]) ∧ w.grownBy w' none := by
  have CM := fun (a b : ByteArray) (W : World) => Lib.hid (compare_any a b W)
  have hpl := placeL_le s.L key
  have hr := down_hi s.L key 12 (Nat.le_trans (List.takeWhile_sublist _).length_le (by simp)) (Nat.le_refl _)
  obtain ⟨r, hr0⟩ : ∃ r, stepsL s.L key = r := ⟨_, rfl⟩
  rw [hr0] at hr ⊢
  have H := Lib.hid h
  have hlen := h.len
  obtain ⟨pl, hpl0⟩ : ∃ pl, placeL s.L key = pl := ⟨_, rfl⟩
  rw [hpl0] at hpl ⊢
  obtain ⟨n, hn⟩ : ∃ n, s.L.length = n := ⟨_, rfl⟩
  rw [hn] at hpl hlen hL
  have Hn := Lib.hid (And.intro hn (And.intro hlen (And.intro hpl hL)))
  have Hr := Lib.hid hr
  have Hpl := Lib.hid hpl0
  clear h hpl hr hr0 hlen hpl0 hn hL
  have A0 := World.grownBy_alloc w (.cells #[.pointer none, .pointer none, .pointer none, .pointer none, .pointer none, .pointer none, .pointer none, .pointer none, .pointer none, .pointer none, .pointer none, .pointer none] 31) none
  have B0 := Blk.new w 31 #[.pointer none, .pointer none, .pointer none, .pointer none, .pointer none, .pointer none, .pointer none, .pointer none, .pointer none, .pointer none, .pointer none, .pointer none]
  have HA0 := Lib.hid A0
  have HB0 := Lib.hid B0
  clear A0 B0
  go_enter Tryz.func31, Tryz.ntmps31
  go_wp2_with fail
  go_loopw [5, 6, 7, 8] (fun s5 s6 s7 _ wr => ∃ (t k c : Nat) (hI : Int), s7 = .int .i64 hI ∧ s6 = posV p Z k ∧ s5 = .int .i64 (c : Int) ∧ Hid (hI + 1 = (t : Int) ∧ t ≤ 12 ∧ k ≤ pl ∧ c ≤ k ∧ Opn Z k (t - 1)) ∧ Hid ((downL s.L key t (k, c)).2 = r) ∧
    Hid (∃ cs, Blk wr w.heap.size 31 cs ∧ cs.size = 12 ∧ ∀ h, t ≤ h → h < 12 → cs[h]? = some (posV p Z (bef Z h pl))) ∧ Hid (w.grownBy wr none)) (fun _ _ s7 _ _ => (intOf s7 + 1).toNat)
  case atStart => exact ⟨12, 0, 0, 11, rfl, rfl, rfl, Lib.hid ⟨by omega, by omega, by omega, by omega, Or.inl rfl⟩, Hr, Lib.hid ⟨_, HB0.out, rfl, fun h h1 h2 => by omega⟩, HA0⟩
  case round =>
    obtain ⟨t, k, c, hI, rfl, rfl, rfl, HB, HD, HC, HG⟩ := hrel
    obtain ⟨b1, b2, b3, b4, b5⟩ := HB.out
    obtain ⟨cs, C1, C2, C3⟩ := HC.out
    clear HB HC HA0 HB0
    cases t with
    | zero =>
      obtain rfl : hI = -1 := by omega
      have e1 : c = r := HD.out
      subst e1
      obtain rfl := befV_of (p := p) (Z := Z) (pl := pl) C2 (fun h hh => C3 h (Nat.zero_le _) hh)
      have H1 := Lib.hid C1
      clear b1 b2 b3 b4 b5 C1 C2 C3 HD
      go_wp2_with (first
        | (refine wpList_load_arr H1.out (befV_size _ _ _) rfl (.tmp 4) rfl rfl ?_)
        | (refine wpList_store_arr H1.out (befV_size _ _ _) (befV_size _ _ _) (befV_one _ _ _) rfl (.tmp 4) (.tmp 45) rfl rfl rfl ?_; intro w9 H9 G9))
      refine bodyPost_ret (results_way rfl _ _ H9 (befV_size _ _ _) rfl) rfl ?_
      exact ⟨rfl, grown_new HG.out G9 (Nat.le_refl _)⟩
    | succ t =>
      obtain rfl : hI = (t : Int) := by omega
      obtain ⟨q1, q2, q3, q4⟩ := Hn.out
      have ht : t < 12 := by omega
      have X0 := (H.out.at_.up HG.out).link (k := k) (t := t) (by omega) (by omega)
      have g1 : (0 : Int) ≤ (t : Int) := by omega
      have g2 : (t : Int) < 12 := by omega
      unfold posV
      go_wp2_with fail
      have HB1 : Hid (k ≤ pl ∧ c ≤ k ∧ Opn Z k t) := ⟨b3, b4, b5⟩
      have HD1 : Hid ((downL s.L key t (scanL key t (s.L.drop k) k (k, c))).2 = r) := HD.out
      have HC1 := Lib.hid C3
      have HK1 := Lib.hid C1
      have Hs := Lib.hid C2
      have Ht := Lib.hid ht
      clear b1 b2 b3 b4 b5 C1 C2 C3 HD q1 q2 q3 q4 ht X0
      go_loopw [5, 6, 8] (fun s5 s6 s8 wi => ∃ k c : Nat, s6 = .pointer (some ⟨padr p Z k, 0, none⟩) ∧ s5 = .int .i64 (c : Int) ∧ s8 = .pointer (lnk Z k t) ∧ Hid (k ≤ pl ∧ c ≤ k ∧ Opn Z k t) ∧ Hid ((downL s.L key t (scanL key t (s.L.drop k) k (k, c))).2 = r) ∧ wi = wr) (fun s5 _ _ _ => n - (intOf s5).toNat)
      case atStart => exact ⟨k, c, rfl, rfl, rfl, HB1, HD1, rfl⟩
      case round =>
        clear HB1 HD1
        obtain ⟨k, c, rfl, rfl, rfl, HB, HD, rfl⟩ := hrel
        obtain ⟨b1, b2, b3⟩ := HB.out
        obtain ⟨q1, q2, q3, q4⟩ := Hn.out
        rcases nxt_spec t (Z.drop k) with ⟨h1, h2⟩ | ⟨j, m, h1, h2, h3, h4⟩
        · -- the lane has no more
          have e0 : lnk Z k t = none := by rw [lnk_pos b3, h1]; rfl
          have eb : bef Z t pl = k := bef_of b3 pl b1 (fun i m hi _ hm => h2 (i - k) m (by rw [List.getElem?_drop]; rw [show k + (i - k) = i by omega]; exact hm))
          have hd := HD.out
          rw [scan_none key t s.L (k, c) k (fun i m hi hm => by
            rw [← H.out.map, List.getElem?_map] at hm
            obtain ⟨m', hm', rfl⟩ := Option.map_eq_some_iff.1 hm
            exact h2 (i - k) m' (by rw [List.getElem?_drop]; rw [show k + (i - k) = i by omega]; exact hm'))] at hd
          have HD2 := Lib.hid hd
          have Heb := Lib.hid eb
          rw [e0]
          obtain ⟨x, hx⟩ : ∃ x, cs[t]? = some x := ⟨_, Array.getElem?_eq_getElem (by rw [Hs.out]; exact Ht.out)⟩
          have Y0 : wr.cell? ⟨w.heap.size, t, none⟩ = some x := by rw [HK1.out.cell]; exact hx
          have Y1 := HK1.out.frozen t
          have g3 : wrap64 ((t : Int) - 1) = (t : Int) - 1 := IntWalk.wrap64_in _ (by have := Ht.out; omega)
          have HB4 : Hid ((t : Int) - 1 + 1 = (t : Int) ∧ t ≤ 12 ∧ k ≤ pl ∧ c ≤ k ∧ Opn Z k (t - 1)) := ⟨by omega, by have := Ht.out; omega, b1, b2, b3.down (by omega)⟩
          have HC4 : Hid (∃ cs, Blk (wr.setCell ⟨w.heap.size, t, none⟩ (posV p Z k)) w.heap.size 31 cs ∧ cs.size = 12 ∧ ∀ h, t ≤ h → h < 12 → cs[h]? = some (posV p Z (bef Z h pl))) := by
            refine ⟨_, HK1.out.set_ t _, by rw [Array.size_setIfInBounds]; exact Hs.out, fun h h1 h2 => ?_⟩
            rw [set_at (by rw [Hs.out]; exact Ht.out)]
            by_cases e : h = t
            · rw [if_pos e, e, eb]
            · rw [if_neg e]; exact HC1.out h (by omega) h2
          have HG4 : Hid (w.grownBy (wr.setCell ⟨w.heap.size, t, none⟩ (posV p Z k)) none) := grown_new HG.out (only_setCell (grefl wr (some w.heap.size)) (Or.inl rfl) _) (Nat.le_refl _)
          clear h1 h2 b1 b2 b3 q1 q2 q3 q4 hd eb e0 hx HB HD
          go_wp2_with fail
          go_roundw
          case rel => exact ⟨t, k, c, (t : Int) - 1, rfl, rfl, rfl, HB4, HD2, HC4, HG4⟩
          case measure => simp [intOf]
        · have hj : Z[k + j]? = some m := by rw [List.getElem?_drop] at h2; exact h2
          have hjl := (List.getElem?_eq_some_iff.1 hj).1
          have e0 : lnk Z k t = some ⟨m.1, 0, none⟩ := by rw [lnk_pos b3, h1]; rfl
          have X1 := ((H.out.at_.up HG.out).nd _ m hj).key
          have hmL := H.out.at_L hj
          have hsk := scan_skip key t s.L (k, c) j k (by omega) (fun i m' hi1 hi2 hm => by
            rw [← H.out.map, List.getElem?_map] at hm
            obtain ⟨m', hm', rfl⟩ := Option.map_eq_some_iff.1 hm
            exact h4 (i - k) m' (by omega) (by rw [List.getElem?_drop]; rw [show k + (i - k) = i by omega]; exact hm'))
          rw [scanL_at key t s.L (k + j) (k, c) m.2 hmL, if_neg (by omega)] at hsk
          have hd := HD.out
          rw [hsk] at hd
          rw [e0]
          by_cases z : cmpT m.2.1 key < 0
          · rw [if_neg (by omega)] at hd
            have HD2 := Lib.hid hd
            have hlt : k + j < pl := by
              rcases Nat.lt_or_ge (k + j) pl with hl | hl
              · exact hl
              · have := place_ge H.out.rise (key := key) (by rw [Hpl.out]; exact hl) hmL
                omega
            have o2 : Opn Z (k + j + 1) t := Or.inr ⟨m, by rw [Nat.add_sub_cancel]; exact hj, h3⟩
            have X2 := (H.out.at_.up HG.out).link (k := k + j + 1) (t := t) (by omega) Ht.out
            have HB2 : Hid (k + j + 1 ≤ pl ∧ c + 1 ≤ k + j + 1 ∧ Opn Z (k + j + 1) t) := ⟨hlt, by omega, o2⟩
            have ep : padr p Z (k + j + 1) = m.1 := padr_succ hj
            rw [ep] at X2
            have e1 : decide (cmpT m.2.1 key < 0) = true := decide_eq_true z
            unfold cmpT at e1
            have g4 : wrap64 ((c : Int) + 1) = ((c + 1 : Nat) : Int) := (IntWalk.wrap64_in _ (by omega)).trans (by omega)
            clear h1 h2 h3 h4 b1 b2 b3 q1 q2 q3 q4 hd e0 hj hjl hmL hsk o2 hlt z HB HD
            go_wp2_with fail
            refine (CM m.2.1 key wr).out.mono ?_
            rintro e w8 ⟨rfl, rfl⟩
            go_wp2_with fail
            go_roundw
            case rel => exact ⟨k + j + 1, c + 1, by rw [ep], by rw [g4], rfl, HB2, HD2, trivial⟩
            case measure => exact steps_less g4 Hn.out.2.2.1 HB2.out.1 HB2.out.2.1
          · rw [if_pos (by omega)] at hd
            have HD2 := Lib.hid hd
            have hge : pl ≤ k + j := by
              rcases Nat.lt_or_ge (k + j) pl with hl | hl
              · have := place_lt (key := key) (by rw [Hpl.out]; exact hl) hmL
                omega
              · exact hl
            have eb : bef Z t pl = k := bef_of b3 pl b1 (fun i m' hi1 hi2 hm => h4 (i - k) m' (by omega) (by rw [List.getElem?_drop]; rw [show k + (i - k) = i by omega]; exact hm))
            have e1 : decide (cmpT m.2.1 key < 0) = false := decide_eq_false z
            unfold cmpT at e1
            obtain ⟨x, hx⟩ : ∃ x, cs[t]? = some x := ⟨_, Array.getElem?_eq_getElem (by rw [Hs.out]; exact Ht.out)⟩
            have Y0 : wr.cell? ⟨w.heap.size, t, none⟩ = some x := by rw [HK1.out.cell]; exact hx
            have Y1 := HK1.out.frozen t
            have g3 : wrap64 ((t : Int) - 1) = (t : Int) - 1 := IntWalk.wrap64_in _ (by have := Ht.out; omega)
            have HB4 : Hid ((t : Int) - 1 + 1 = (t : Int) ∧ t ≤ 12 ∧ k ≤ pl ∧ c ≤ k ∧ Opn Z k (t - 1)) := ⟨by omega, by have := Ht.out; omega, b1, b2, b3.down (by omega)⟩
            have HC4 : Hid (∃ cs, Blk (wr.setCell ⟨w.heap.size, t, none⟩ (posV p Z k)) w.heap.size 31 cs ∧ cs.size = 12 ∧ ∀ h, t ≤ h → h < 12 → cs[h]? = some (posV p Z (bef Z h pl))) := by
              refine ⟨_, HK1.out.set_ t _, by rw [Array.size_setIfInBounds]; exact Hs.out, fun h h1 h2 => ?_⟩
              rw [set_at (by rw [Hs.out]; exact Ht.out)]
              by_cases e : h = t
              · rw [if_pos e, e, eb]
              · rw [if_neg e]; exact HC1.out h (by omega) h2
            have HG4 : Hid (w.grownBy (wr.setCell ⟨w.heap.size, t, none⟩ (posV p Z k)) none) := grown_new HG.out (only_setCell (grefl wr (some w.heap.size)) (Or.inl rfl) _) (Nat.le_refl _)
            clear h1 h2 h3 h4 b1 b2 b3 q1 q2 q3 q4 hd e0 hj hjl hmL hsk hge z eb hx HB HD
            go_wp2_with fail
            refine (CM m.2.1 key wr).out.mono ?_
            rintro e w8 ⟨rfl, rfl⟩
            go_wp2_with fail
            go_roundw
            case rel => exact ⟨t, k, c, (t : Int) - 1, rfl, rfl, rfl, HB4, HD2, HC4, HG4⟩
            case measure => simp [intOf]
end Go.Proofs.YtmagkkkecihgmaaGreat
