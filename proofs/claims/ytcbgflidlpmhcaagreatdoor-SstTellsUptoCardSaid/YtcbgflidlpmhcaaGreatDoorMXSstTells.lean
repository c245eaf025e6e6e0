/-
  The law SstTells, walked.
-/
import Derived.Test.YtcbgflidlpmhcaaGreatDoorM6
import Derived.Test.YtcbgflidlpmhcaaGreatDoorM7
import Derived.Test.YtcbgflidlpmhcaaGreatDoorM5
import Derived.Test.YtcbgflidlpmhcaaGreatDoorM3
namespace Go.Proofs.YtcbgflidlpmhcaaGreatDoor
open Go.RowKit

/-- The book of what was told, and the table. -/
structure St13 (w : World) (bk s t : Nat) (L : List KV) (F : ByteArray) (W : World) : Prop where
  book : ∃ bcs ZK, Blk W bk 60 bcs ∧ KStKeys W w.heap.size bcs ZK s ∧ ∀ j, j < 30 → j ≠ 6 → j ≠ 7 → bcs[j]? = some (.slice none 0 0)
  tab : TabAt W t L F
  hbk : w.heap.size ≤ bk
  sle : s ≤ W.heap.size
  below : Below w.heap.size w W
section
variable {w : World} {bk s t : Nat} {L : List KV} {F : ByteArray} {W W' : World}
theorem St13.up (S : St13 w bk s t L F W) (h : Below W.heap.size W W') : St13 w bk s t L F W' := by
  have g : Tn w.heap.size (fun _ => false) W W' := Tn.of_below h
  obtain ⟨bcs, ZK, k1, k2, k3⟩ := S.book
  exact ⟨⟨bcs, ZK, g.blk k1 rfl, k2.tn g (fun _ _ => rfl) (fun _ _ => rfl), k3⟩, S.tab.up h, S.hbk, Nat.le_trans S.sle g.size, S.below.trans (h.mono S.below.size)⟩
theorem st13_keep (S : St13 w bk s t L F W) {A : Option Addr} {n c lo : Nat} {M : List KV} (hx : Own elKeys W lo 37 (.slice A n c) M) (hs : s ≤ lo) (hl : w.heap.size ≤ lo) (hM : M.length ≤ 100000 ∧ ∀ y ∈ M, okKeys y) :
    Calls Tryz.prog 21 #[.pointer (some ⟨bk, 0, none⟩), .slice A n c] W fun e W2 => e = .returned (.tuple #[]) ∧ Own elKeys W2 lo 37 (.slice A n c) M ∧ ∃ s', St13 w bk s' t L F W2 := by
  obtain ⟨bcs, ZK, k1, k2, k3⟩ := S.book
  refine (keepKeys_any w.heap.size bk s lo bcs ZK A n c M W k1 k2 hx hs hl S.hbk S.below.size S.sle hM).mono ?_
  rintro e W2 ⟨rfl, bcs', Z', h1, h2, h3, h4, _⟩
  exact ⟨rfl, hx.tn h4 (twoT_ne (by decide) (by decide)), W.heap.size, ⟨bcs', Z', h1, h2, fun j hj h6 h7 => by rw [h3 j h6 h7]; exact k3 j hj h6 h7⟩, S.tab.tn h4, S.hbk, h4.size, S.below.trans (h4.below S.below.size)⟩
theorem st13_apart (S : St13 w bk s t L F W) :
    Calls Tryz.prog 25 #[.pointer (some ⟨bk, 0, none⟩)] W fun e W2 => e = .returned (.bool true) ∧ Below w.heap.size w W2 := by
  obtain ⟨bcs, ZK, k1, k2, k3⟩ := S.book
  exact (apartKeys w.heap.size bk bcs ZK s W k1 k2 k3 S.below.size).mono fun e W2 ⟨h1, h2⟩ => ⟨h1, S.below.trans h2⟩
end
theorem bloom_size (L : List ByteArray) (x : Nat) : (bloomT L x).size = sizeN (L.length : Int) x + 1 := by
  unfold bloomT
  show ((filterL (L.map fun s => crc s.data.toList) (sizeN (L.length : Int) x) (probesN x) ++ [probesN x]).map UInt8.ofNat).toArray.size = _
  simp [filterL_length]
/-- A book that keeps nothing. -/
abbrev bookNil13 : Array Value := #[.slice none 0 0, .slice none 0 0, .slice none 0 0, .slice none 0 0, .slice none 0 0, .slice none 0 0, .slice none 0 0, .slice none 0 0, .slice none 0 0, .slice none 0 0, .slice none 0 0, .slice none 0 0, .slice none 0 0, .slice none 0 0, .slice none 0 0, .slice none 0 0, .slice none 0 0, .slice none 0 0, .slice none 0 0, .slice none 0 0, .slice none 0 0, .slice none 0 0, .slice none 0 0, .slice none 0 0, .slice none 0 0, .slice none 0 0, .slice none 0 0, .slice none 0 0, .slice none 0 0, .slice none 0 0]
theorem bookNil13_at (j : Nat) (hj : j < 30) : (bookNil13)[j]? = some (.slice none 0 0) := by
  have e : bookNil13 = Array.replicate 30 (Value.slice none 0 0) := by rfl
  rw [e]
  simp [hj]

set_option maxRecDepth 100000 in
set_option maxHeartbeats 16000000 in
theorem lawSstTells (A : Option Addr) (n c : Nat) (L : List KV) (x : Nat) (_hx : (Lit.float .f64 x).wf = true) (key : ByteArray) (hkey : key.size ≤ 140737488351232) (most : Int) (_hm : (Lit.int .i64 most).wf = true) (w : World) (I : PairsIn w A n L) (hT : LaidS w) :
    Calls Tryz.prog 3 #[.slice A n c, .float .f64 x, .string key, .int .i64 most] w fun e w' => e = .returned (.bool true) ∧ Below w.heap.size w w' := by
  have CL := Lib.hid (light13_any A n c L w I)
  have CA := fun W (hb : Below w.heap.size w W) => Lib.hid (alive13_any W (hT.on hb))
  by_cases hlt : wtK L ≤ 60000
  · rw [decide_eq_true hlt] at CL
    obtain ⟨k1, k2, k3, k4⟩ := light_short hlt
    have hlen := I.at_.len
    have Hlen := Lib.hid hlen
    have hn : n ≤ 3000 := by rw [hlen]; exact k4
    have hokL : ∀ x ∈ L, okKeys x := fun x hx => by have := wtK_all L x hx; exact ⟨by omega, by omega⟩
    have hkz : ∀ m ∈ L, m.1.size ≤ 1000000 ∧ m.2.size ≤ 1000000 := fun m hm => by have := wtK_all L m hm; exact ⟨by omega, by omega⟩
    have BL := fun W (hb : Below w.heap.size w W) => Lib.hid (lentkeys_any A n c L W (I.at_.below hb) (by omega))
    have BW := fun W g cap (hq : n ≤ cap) (h : KeysAt W (some ⟨g, 0, none⟩) n L) (hb : Below w.heap.size w W) => Lib.hid (swrite_any (some ⟨g, 0, none⟩) n cap L x W h hq hlt (hT.on hb))
    have RW := fun W (hb : Below w.heap.size w W) => Lib.hid (rwrite_any A n c L W (I.at_.below hb) k3 (by omega))
    have BY := fun W B g cap (h : LentK W B g n cap L) (hb : Below w.heap.size w W) => Lib.hid (stayskeys_any A n c B g cap L W (I.at_.below hb) h (by omega) hokL)
    have HI := Lib.hid I
    have HTS := Lib.hid hT
    by_cases he : writeE L = 0
    · have hne : L ≠ [] := by
        rintro rfl
        have h9 : writeE [] = 1 := by decide +kernel
        rw [h9] at he
        cases he
      have hpos : 0 < L.length := List.length_pos_iff.2 hne
      obtain ⟨k, hk⟩ : ∃ k, n = k + 1 := ⟨n - 1, by omega⟩
      subst hk
      have hm0 : L[0]? = some L[0] := List.getElem?_eq_getElem hpos
      have hkl : k < L.length := by omega
      have hml : L[L.length - 1]? = some L[k] := by rw [show L.length - 1 = k from by omega]; exact List.getElem?_eq_getElem hkl
      have hmk : L[k]? = some L[k] := List.getElem?_eq_getElem hkl
      generalize L[0] = m0 at *
      generalize L[k] = mk at *
      obtain ⟨ga, off, hA, hga, x0, -⟩ := I.at_.at_ 0 m0 hm0
      obtain ⟨ga2, off2, hA2, -, x1, -⟩ := I.at_.at_ k mk hmk
      rw [hA] at hA2
      cases hA2
      subst hA
      have Hcell := Lib.hid (fun W (hb : Below w.heap.size w W) => (show W.cell? ⟨ga, off, none⟩ = some (.string m0.1) ∧ W.cell? ⟨ga, off + k * 2, none⟩ = some (.string mk.1) from ⟨(hb.cell (p := ⟨ga, off, none⟩) hga).trans (by simpa using x0), (hb.cell (p := ⟨ga, off + k * 2, none⟩) hga).trans x1⟩))
      obtain ⟨F, hF⟩ : ∃ F, bloomT (headsK L) x = F := ⟨_, rfl⟩
      have BO := fun b W (h : WrtP L x b) (hb : Below w.heap.size w W) => Lib.hid (sopen_any L x b W h (hT.on hb))
      have RB := fun W (hb : Below w.heap.size w W) => Lib.hid (rblocks_any (some ⟨ga, off, none⟩) (k + 1) c L W (I.at_.below hb) (by omega) hkz)
      have RH := fun W (hb : Below w.heap.size w W) => Lib.hid (rheads_any (some ⟨ga, off, none⟩) (k + 1) c L W (I.at_.below hb) (fun m hm => (hkz m hm).1) (by omega))
      have hhz : ∀ s ∈ headsK L, s.size ≤ 9223372036854775807 := fun s hs => by
        obtain ⟨m, hm, rfl⟩ := (headsK_mem L s).1 hs
        have h1 := head_size m.1
        have h2 := (hkz m hm).1
        omega
      have hhl := headsK_len L
      have RBl := fun W A' c' (h : TextsAt W A' (headsK L).length (headsK L)) => Lib.hid (rbloom_any A' (headsK L).length c' x (headsK L) W h (by omega) hhz)
      have zF : (bloomT (headsK L) x).size = sizeN ((headsK L).length : Int) x + 1 := bloom_size _ _
      have yF := sizeN_le ((headsK L).length : Int) x
      rw [hF] at zF
      have RM := fun W => Lib.hid (rmay_any F key W (by omega) (by omega))
      have BM := fun W t (h : TabAt W t L F) (hb : Below w.heap.size w W) => Lib.hid (smay_any h (hT.on hb) key (by omega))
      have BF := fun W t (h : TabAt W t L F) (hb : Below w.heap.size w W) => Lib.hid (sfrom_any h (hT.on hb) key most hkey)
      have RF := fun W (hb : Below w.heap.size w W) => Lib.hid (rfrom11_any (some ⟨ga, off, none⟩) (k + 1) c L key most W (I.at_.below hb) k3 hkey (by omega))
      have RF1 := fun W (hb : Below w.heap.size w W) => Lib.hid (rfrom11_any (some ⟨ga, off, none⟩) (k + 1) c L key 1 W (I.at_.below hb) k3 hkey (by omega))
      have BG := fun W t (h : TabAt W t L F) (hb : Below w.heap.size w W) => Lib.hid (sget_any h (hT.on hb) key hkey)
      obtain ⟨gv, ge, hgk⟩ : ∃ gv ge, getK L key = (gv, ge) := ⟨_, _, rfl⟩
      rw [hgk] at BG
      dsimp only at BG
      have Hgk := Lib.hid hgk
      clear hgk
      have Hok := Lib.hid hokL
      have Hk3 : Hid (k ≤ 3000) := Lib.hid (by omega)
      rw [hF] at RBl BO
      have e1 : ((0 : Int) != 0) = false := rfl
      rw [he] at RW
      have HE := Lib.hid he
      clear k1 k2 k3 k4 hn hkz hlt I hT hhz hhl zF yF hF x0 x1 hokL hkey hne hpos hkl he hlen
      go_enter Tryz.func3, Tryz.ntmps3
      go_wp2_with fail
      refine CL.out.mono ?_
      rintro e w1 ⟨rfl, hb1⟩
      have HB := Lib.hid hb1
      clear hb1 CL
      go_wp2_with fail
      refine (BL _ HB.out).out.mono ?_
      rintro e w2 ⟨g, cap, rfl, hx, hb1⟩
      have HX := Lib.hid hx
      have HB := Lib.hid (HB.out.trans (hb1.mono HB.out.size))
      clear hb1 hx BL
      go_wp2_with fail
      refine (BW _ g cap (by have := HX.out.cap; omega) HX.out.at_ HB.out).out.mono ?_
      rintro e w3 ⟨b, rfl, hbz, -, hb1⟩
      rw [HE.out]
      have HW := Lib.hid (hbz HE.out)
      have HX := Lib.hid (HX.out.below hb1)
      have HB := Lib.hid (HB.out.trans (hb1.mono HB.out.size))
      clear hb1 BW hbz
      dsimp only
      go_wp2_with fail
      refine (RW _ HB.out).out.mono ?_
      rintro e w4 ⟨rfl, hb1⟩
      have HX := Lib.hid (HX.out.below hb1)
      have HB := Lib.hid (HB.out.trans (hb1.mono HB.out.size))
      clear hb1 RW
      go_wp2_with fail
      refine (BY _ _ g cap HX.out HB.out).out.mono ?_
      rintro e w5 ⟨rfl, hb1⟩
      have HB := Lib.hid (HB.out.trans (hb1.mono HB.out.size))
      clear hb1 BY HX
      go_wp2_with fail
      refine (BO b _ HW.out HB.out).out.mono ?_
      rintro e w6 ⟨t, rfl, ht, hb1⟩
      have HT := Lib.hid ht
      have HB := Lib.hid (HB.out.trans (hb1.mono HB.out.size))
      clear hb1 ht BO HW
      dsimp only
      go_upto_region 10 with fail
      have C1 := fun W (hW : Below w6.heap.size w6 W) => Lib.hid (cls_call hW (scount_any (HT.out.up hW)))
      have C2 := fun W (hW : Below w6.heap.size w6 W) => Lib.hid (cls_call hW (sfirst_any (HT.out.up hW) hm0))
      have C3 := fun W (hW : Below w6.heap.size w6 W) => Lib.hid (cls_call hW (slastk_any (HT.out.up hW) hml))
      have C4 := fun W (hW : Below w6.heap.size w6 W) => Lib.hid (cls_call hW (sblocks_any (HT.out.up hW)))
      have C5 := fun W (hW : Below w6.heap.size w6 W) => Lib.hid (cls_call hW (RB W (HB.out.trans (hW.mono HB.out.size))).out)
      have Hc := Lib.hid (fun W (hW : Below w6.heap.size w6 W) => Hcell.out W (HB.out.trans (hW.mono HB.out.size)))
      have hll : (L.length : Int) = (k : Int) + 1 := by have := Hlen.out; omega
      rw [hll] at C1
      have w1 : wrap64 ((k : Int) + 1 - 1) = (k : Int) := by have := Hk3.out; unfold wrap64; omega
      have w2 : IntKind.i64.wrap (k : Int) = (k : Int) := by have := Hk3.out; rw [IntKind.wrap_i64]; omega
      have w3 : wrap64 (k : Int) = (k : Int) := by have := Hk3.out; unfold wrap64; omega
      have g0 : (0 : Int) ≤ (k : Int) := by omega
      have g1 : (k : Int) < (k : Int) + 1 := by omega
      have g2 : k < k + 1 := by omega
      clear hml hm0 hmk hll
      refine wp_region_class (fun W => Below w6.heap.size w6 W) (by kernel_rfl) (by kernel_rfl) ((Below.refl _ w6).drew) ?_
      repeat' (first
        | (refine wpQuiet_skip (by rfl) ?_; try simp only [Act.put, List.setIfInBounds_toArray, List.set_cons_zero, List.set_cons_succ])
        | (refine wpQuiet_take (by rfl) ?_ (fun W hW => ?_) ?_
           rotate_left
           focus
             obtain ⟨y0, y1⟩ := Hc.out _ hW
             go_simp
             first
               | done
               | with_reducible rfl
               | (go_at_call 11; exact (C1 _ hW).out)
               | (go_at_call 12; exact (C2 _ hW).out)
               | (go_at_call 13; exact (C3 _ hW).out)
               | (go_at_call 14; exact (C4 _ hW).out)
               | (go_at_call 15; exact (C5 _ hW).out)
           try simp only [Act.put, List.setIfInBounds_toArray, List.set_cons_zero, List.set_cons_succ]))
      refine wpQuiet_nil (fun w9 S9 => ?_)
      have hb1 := S9
      have HT := Lib.hid (HT.out.up hb1)
      have HB := Lib.hid (HB.out.trans (hb1.mono HB.out.size))
      clear C1 C2 C3 C4 C5 Hc S9 hb1 RB
      go_wp2_with fail
      refine (RH _ HB.out).out.mono ?_
      rintro e w10 ⟨v, rfl, hv, hb1⟩
      obtain ⟨Ah, ch, rfl⟩ := Own.slice hv
      have HH := Lib.hid (Own.textsAt hv rfl)
      have HT := Lib.hid (HT.out.up hb1)
      have HB := Lib.hid (HB.out.trans (hb1.mono HB.out.size))
      clear hb1 hv RH
      go_wp2_with fail
      refine (BM _ t HT.out HB.out).out.mono ?_
      rintro e w11 ⟨rfl, hb1⟩
      have HH := Lib.hid (HH.out.below hb1)
      have HT := Lib.hid (HT.out.up hb1)
      have HB := Lib.hid (HB.out.trans (hb1.mono HB.out.size))
      clear hb1 BM
      go_wp2_with fail
      refine (RBl _ Ah ch HH.out).out.mono ?_
      rintro e w12 ⟨rfl, hb1⟩
      have HT := Lib.hid (HT.out.up hb1)
      have HB := Lib.hid (HB.out.trans (hb1.mono HB.out.size))
      clear hb1 RBl HH
      go_wp2_with fail
      refine (RM _).out.mono ?_
      rintro e w13 ⟨rfl, hb1⟩
      have HT := Lib.hid (HT.out.up hb1)
      have HB := Lib.hid (HB.out.trans (hb1.mono HB.out.size))
      clear hb1 RM
      generalize mayT F (crc key.data.toList) = tm at *
      have e5 : (tm != tm) = false := bne_self_eq_false _
      have K0 : Hid (Blk (w13.alloc (.cells bookNil13 60)) w13.heap.size 60 bookNil13) := Lib.hid (Blk.new _ _ _)
      have KT : Hid (TabAt (w13.alloc (.cells bookNil13 60)) t L F) := Lib.hid (HT.out.up (below_alloc (Below.refl _ _) (Nat.le_refl _) _))
      have KB : Hid (Below w.heap.size w (w13.alloc (.cells bookNil13 60))) := Lib.hid (below_alloc HB.out (Nat.le_refl _) _)
      have hbk : w.heap.size ≤ w13.heap.size := HB.out.size
      have Hbk := Lib.hid hbk
      have HS : ∃ s, Hid (St13 w w13.heap.size s t L F (w13.alloc (.cells bookNil13 60))) := ⟨(w13.alloc (.cells bookNil13 60)).heap.size, Lib.hid ⟨⟨_, [], K0.out, KSt.nil (bookNil13_at 6 (by decide)) (bookNil13_at 7 (by decide)), fun j hj _ _ => bookNil13_at j hj⟩, KT.out, hbk, Nat.le_refl _, KB.out⟩⟩
      clear K0 KT KB hbk HT HB
      unfold bookNil13 at HS
      go_wp2_with fail
      generalize w13.heap.size = bk at *
      generalize w13.alloc _ = w14 at *
      have FK1 := fromK_len L key most
      go_loopw [16] (fun y wr => ∃ (j s : Nat), j ≤ 2 ∧ y = .int .i64 (j : Int) ∧ Hid (St13 w bk s t L F wr)) (fun y _ => 2 - (intOf y).toNat)
      case atStart =>
        obtain ⟨s, HS⟩ := HS
        exact ⟨0, s, by omega, rfl, HS⟩
      case round =>
        obtain ⟨j, s, hj, rfl, HS⟩ := hrel
        by_cases hj2 : j < 2
        · as_aux_lemma =>
          have c1 : (j : Int) < 2 := by omega
          go_wp2_with fail
          refine (BF _ t HS.out.tab HS.out.below).out.mono ?_
          rintro e w15 ⟨v, rfl, hv, hb1⟩
          obtain ⟨Am, cm, rfl⟩ := Own.slice hv
          have HM := Lib.hid hv
          have Hlo := Lib.hid HS.out.sle
          have Hlw := Lib.hid HS.out.below.size
          have HS2 := Lib.hid (HS.out.up hb1)
          generalize wr.heap.size = lo at *
          clear hb1 hv BF HS
          go_wp2_with fail
          refine (st13_keep HS2.out HM.out Hlo.out Hlw.out ⟨by have := Hlen.out; have := Hk3.out; omega, fun y hy => Hok.out y (fromK_mem hy).1⟩).mono ?_
          rintro e w16 ⟨rfl, hm2, s', hs2⟩
          have HM2 := Lib.hid hm2
          have HS3 := Lib.hid hs2
          clear hm2 hs2 HS2 HM
          go_wp2_with fail
          refine (RF _ HS3.out.below).out.mono ?_
          rintro e w17 ⟨v, rfl, hv, hb1⟩
          obtain ⟨An, cn, rfl⟩ := Own.slice hv
          have HM3 := Lib.hid (HM2.out.below hb1)
          have HS4 := Lib.hid (HS3.out.up hb1)
          have CS := Lib.hid (same_at Am An (fromK L key most).length cm cn (fromK L key most) w17 HM3.out.keysAt (Own.keysAt hv) (by have := Hlen.out; have := Hk3.out; omega) (fun y hy => Hok.out y (fromK_mem hy).1))
          clear hb1 hv RF HS3 HM2
          go_wp2_with fail
          refine CS.out.mono ?_
          rintro e w18 ⟨rfl, hb1⟩
          have HS5 := Lib.hid (HS4.out.up hb1)
          clear hb1 CS HS4 HM3
          go_wp2_with fail
          go_roundw
          case rel => exact ⟨j + 1, s', by omega, by go_num, HS5⟩
          case measure => simp [intOf]; omega
        · as_aux_lemma =>
          obtain rfl : j = 2 := by omega
          clear BF RF
          go_wp2_with fail
          refine (BG _ t HS.out.tab HS.out.below).out.mono ?_
          rintro e w19 ⟨rfl, hb1⟩
          have HS := Lib.hid (HS.out.up hb1)
          clear hb1 BG
          go_wp2_with fail
          refine (RF1 _ HS.out.below).out.mono ?_
          rintro e w20 ⟨v, rfl, hv, hb1⟩
          have HS := Lib.hid (HS.out.up hb1)
          clear hb1 RF1
          have hgk := Hgk.out
          unfold getK at hgk
          have hl1 : (fromK L key 1).length ≤ 1 := by
            unfold fromK
            rw [if_neg (by decide), List.length_take]
            exact Nat.min_le_left _ _
          generalize fromK L key 1 = M1 at *
          cases M1 with
          | nil =>
            obtain ⟨rfl, rfl⟩ : (⟨#[]⟩ : ByteArray) = gv ∧ (22 : Int) = ge := by
              have h9 := hgk
              simp only [Prod.mk.injEq] at h9
              exact h9
            obtain ⟨An, cn, rfl⟩ := Own.slice hv
            clear hv hgk Hgk hl1
            go_wp2_with fail
            refine (CA _ HS.out.below).out.mono ?_
            rintro e w21 ⟨rfl, hb1⟩
            have HS := Lib.hid (HS.out.up hb1)
            clear hb1
            go_wp2_with fail
            refine (st13_apart HS.out).mono ?_
            rintro e w22 ⟨rfl, hb1⟩
            have HB := Lib.hid hb1
            clear hb1
            go_wp2_with fail
            go_ret
            exact ⟨rfl, HB.out⟩
          | cons m1 r1 =>
            obtain rfl : r1 = [] := by
              cases r1 with
              | nil => rfl
              | cons a l => simp at hl1
            obtain ⟨g1, cn, cur, rfl, hg1, hh1⟩ := Own.some_ hv (by simp)
            have d0 := Own.cells (E := elKeys) (i := 0) (j := 0) hv rfl (by decide) rfl
            have d1 := Own.cells (E := elKeys) (i := 0) (j := 1) hv rfl (by decide) rfl
            have hg1l : g1 < w20.heap.size := (Array.getElem?_eq_some_iff.1 hh1).1
            dsimp only at hgk
            simp only [Nat.zero_mul, Nat.zero_add] at d0 d1
            clear hv hh1 hl1 hg1
            have q0 : w20.cell? ⟨g1, 0, none⟩ = some (.string m1.1) := d0
            have q1 : w20.cell? ⟨g1, 1, none⟩ = some (.string m1.2) := d1
            clear d0 d1 Hgk
            obtain ⟨a1, a2⟩ := m1
            dsimp only at hgk q0 q1
            cases hk : (a1.toList == key.toList)
            · rw [hk, if_neg (by decide)] at hgk
              obtain ⟨rfl, rfl⟩ : (⟨#[]⟩ : ByteArray) = gv ∧ (22 : Int) = ge := by
                have h9 := hgk
                simp only [Prod.mk.injEq] at h9
                exact h9
              clear hgk
              go_wp2_with fail
              refine (CA _ HS.out.below).out.mono ?_
              rintro e w21 ⟨rfl, hb1⟩
              have HS := Lib.hid (HS.out.up hb1)
              clear hb1
              go_wp2_with fail
              refine (st13_apart HS.out).mono ?_
              rintro e w22 ⟨rfl, hb1⟩
              have HB := Lib.hid hb1
              clear hb1
              go_wp2_with fail
              go_ret
              exact ⟨rfl, HB.out⟩
            · rw [hk, if_pos rfl] at hgk
              obtain ⟨rfl, rfl⟩ : a2 = gv ∧ (0 : Int) = ge := by
                have h9 := hgk
                simp only [Prod.mk.injEq] at h9
                exact h9
              clear hgk
              go_wp2_with fail
              refine (CA _ HS.out.below).out.mono ?_
              rintro e w21 ⟨rfl, hb1⟩
              have HS := Lib.hid (HS.out.up hb1)
              have q2 : w21.cell? ⟨g1, 1, none⟩ = some (.string a2) := (hb1.cell (p := ⟨g1, 1, none⟩) hg1l).trans q1
              clear hb1
              go_wp2_with fail
              refine (st13_apart HS.out).mono ?_
              rintro e w22 ⟨rfl, hb1⟩
              have HB := Lib.hid hb1
              clear hb1
              go_wp2_with fail
              go_ret
              exact ⟨rfl, HB.out⟩
    · obtain ⟨er, her⟩ : ∃ er, writeE L = er := ⟨_, rfl⟩
      rw [her] at he RW
      have e1 : (er != 0) = true := bne_iff_ne.2 he
      have e2 : (er == 0) = false := beq_eq_false_iff_ne.2 he
      clear k1 k2 k3 k4 hlen hn hokL hkz hlt I hT
      go_enter Tryz.func3, Tryz.ntmps3
      go_wp2_with fail
      refine CL.out.mono ?_
      rintro e w1 ⟨rfl, hb1⟩
      have HB := Lib.hid hb1
      clear hb1 CL
      go_wp2_with fail
      refine (BL _ HB.out).out.mono ?_
      rintro e w2 ⟨g, cap, rfl, hx, hb1⟩
      have HX := Lib.hid hx
      have HB := Lib.hid (HB.out.trans (hb1.mono HB.out.size))
      clear hb1 hx BL
      go_wp2_with fail
      refine (BW _ g cap (by have := HX.out.cap; omega) HX.out.at_ HB.out).out.mono ?_
      rintro e w3 ⟨b, rfl, -, hbz, hb1⟩
      rw [her] at hbz ⊢
      obtain rfl := hbz he
      have HX := Lib.hid (HX.out.below hb1)
      have HB := Lib.hid (HB.out.trans (hb1.mono HB.out.size))
      clear hb1 BW hbz
      dsimp only
      go_wp2_with fail
      refine (RW _ HB.out).out.mono ?_
      rintro e w4 ⟨rfl, hb1⟩
      have HX := Lib.hid (HX.out.below hb1)
      have HB := Lib.hid (HB.out.trans (hb1.mono HB.out.size))
      clear hb1 RW
      go_wp2_with fail
      refine (BY _ _ g cap HX.out HB.out).out.mono ?_
      rintro e w5 ⟨rfl, hb1⟩
      have HB := Lib.hid (HB.out.trans (hb1.mono HB.out.size))
      clear hb1 BY HX
      go_wp2_with fail
      refine (CA _ HB.out).out.mono ?_
      rintro e w6 ⟨rfl, hb1⟩
      have HB := Lib.hid (HB.out.trans (hb1.mono HB.out.size))
      clear hb1 CA
      go_wp2_with fail
      go_ret
      exact ⟨rfl, HB.out⟩
  · rw [decide_eq_false hlt] at CL
    clear hlt hT I
    go_enter Tryz.func3, Tryz.ntmps3
    go_wp2_with fail
    refine CL.out.mono ?_
    rintro e w1 ⟨rfl, hb1⟩
    have HB := Lib.hid hb1
    clear hb1 CL
    go_wp2_with fail
    refine (CA _ HB.out).out.mono ?_
    rintro e w2 ⟨rfl, hb1⟩
    have HB := Lib.hid (HB.out.trans (hb1.mono HB.out.size))
    clear hb1
    go_wp2_with fail
    go_ret
    exact ⟨rfl, HB.out⟩
end Go.Proofs.YtcbgflidlpmhcaaGreatDoor
