/-
  The law BlockTells, walked.
-/
import Derived.Test.YtmoffcgbjmeiaaaGreatDoorM3
import Derived.Test.YtmoffcgbjmeiaaaGreatDoorM4
import Derived.Test.YtmoffcgbjmeiaaaGreatDoorM5
namespace Go.Proofs.YtmoffcgbjmeiaaaGreatDoor
open Go.RowKit

/-- The book of what was parsed, and what the document's own answer parsed. -/
structure St11 (w : World) (bk s : Nat) (An : Option Addr) (cn : Nat) (PB : List KV) (W : World) : Prop where
  book : ∃ bcs ZK, Blk W bk 41 bcs ∧ KStKeys W w.heap.size bcs ZK s ∧ ∀ j, j < 30 → j ≠ 6 → j ≠ 7 → bcs[j]? = some (.slice none 0 0)
  ref : Own elKeys W w.heap.size 53 (.slice An PB.length cn) PB
  hbk : w.heap.size ≤ bk
  sle : s ≤ W.heap.size
  below : Below w.heap.size w W
section
variable {w : World} {bk s : Nat} {An : Option Addr} {cn : Nat} {PB : List KV} {W W' : World}
theorem St11.up (S : St11 w bk s An cn PB W) (h : Below W.heap.size W W') : St11 w bk s An cn PB W' := by
  have g : Tn w.heap.size (fun _ => false) W W' := Tn.of_below h
  obtain ⟨bcs, ZK, k1, k2, k3⟩ := S.book
  exact ⟨⟨bcs, ZK, g.blk k1 rfl, k2.tn g (fun _ _ => rfl) (fun _ _ => rfl), k3⟩, S.ref.tn g (fun _ _ => rfl), S.hbk, Nat.le_trans S.sle g.size, S.below.trans (h.mono S.below.size)⟩
theorem st11_keep (S : St11 w bk s An cn PB W) {A : Option Addr} {n c lo : Nat} {L : List KV} (hx : Own elKeys W lo 53 (.slice A n c) L) (hs : s ≤ lo) (hl : w.heap.size ≤ lo) (hL : L.length ≤ 100000 ∧ ∀ y ∈ L, okKeys y) :
    Calls Tryz.prog 15 #[.pointer (some ⟨bk, 0, none⟩), .slice A n c] W fun e W2 => e = .returned (.tuple #[]) ∧ ∃ s', St11 w bk s' An cn PB W2 := by
  obtain ⟨bcs, ZK, k1, k2, k3⟩ := S.book
  refine (keepKeys_any w.heap.size bk s lo bcs ZK A n c L W k1 k2 hx hs hl S.hbk S.below.size S.sle hL).mono ?_
  rintro e W2 ⟨rfl, bcs', Z', h1, h2, h3, h4, _⟩
  exact ⟨rfl, W.heap.size, ⟨bcs', Z', h1, h2, fun j hj h6 h7 => by rw [h3 j h6 h7]; exact k3 j hj h6 h7⟩, S.ref.tn h4 (twoT_ne (by decide) (by decide)), S.hbk, h4.size, S.below.trans (h4.below S.below.size)⟩
theorem st11_apart (S : St11 w bk s An cn PB W) :
    Calls Tryz.prog 16 #[.pointer (some ⟨bk, 0, none⟩)] W fun e W2 => e = .returned (.bool true) ∧ Below w.heap.size w W2 := by
  obtain ⟨bcs, ZK, k1, k2, k3⟩ := S.book
  exact (apartKeys w.heap.size bk bcs ZK s W k1 k2 k3 S.below.size).mono fun e W2 ⟨h1, h2⟩ => ⟨h1, S.below.trans h2⟩
end
/-- A book that keeps nothing. -/
abbrev bookNil11 : Array Value := #[.slice none 0 0, .slice none 0 0, .slice none 0 0, .slice none 0 0, .slice none 0 0, .slice none 0 0, .slice none 0 0, .slice none 0 0, .slice none 0 0, .slice none 0 0, .slice none 0 0, .slice none 0 0, .slice none 0 0, .slice none 0 0, .slice none 0 0, .slice none 0 0, .slice none 0 0, .slice none 0 0, .slice none 0 0, .slice none 0 0, .slice none 0 0, .slice none 0 0, .slice none 0 0, .slice none 0 0, .slice none 0 0, .slice none 0 0, .slice none 0 0, .slice none 0 0, .slice none 0 0, .slice none 0 0]
theorem bookNil11_at (j : Nat) (hj : j < 30) : (bookNil11)[j]? = some (.slice none 0 0) := by
  have e : bookNil11 = Array.replicate 30 (Value.slice none 0 0) := by rfl
  rw [e]
  simp [hj]
/-- What a parsed list is like. -/
theorem parse_size {b : ByteArray} {l : List KV} {e : Int} (h : parseP b = (l, e)) (hb : b.size ≤ 70000) : l.length ≤ 70000 ∧ okP l ∧ ∀ y ∈ l, okKeys y := by
  rcases parse_ok h with ⟨rfl, h2⟩ | ⟨_, rfl⟩
  · obtain ⟨k1, k2, k3, k4⟩ := buildP_ok h2
    have hc := body_count l 0 []
    have h8 := blkL_length l
    have hz : (blkL l).length = b.size := by rw [k4, size_mk]
    refine ⟨by omega, fun m hm => ?_, fun m hm => ?_⟩
    · have := longK_ok k2 m hm; omega
    · have := longK_ok k2 m hm; exact ⟨by omega, by omega⟩
  · exact ⟨by simp, fun m hm => (by cases hm), fun m hm => (by cases hm)⟩
theorem build_light' {L : List KV} (h : wtK L ≤ 60000) {rs : ByteArray} {re : Int} (hr : buildP L = (rs, re)) : rs.size ≤ 60008 := by
  obtain ⟨h1, h2, _, _⟩ := light_short h
  have hb := blk_bounds h1
  have hs := sum_wt L
  unfold buildP at hr
  split at hr
  · have h0 := congrArg Prod.fst hr
    dsimp only at h0
    rw [← h0]
    simp
  · rw [if_neg (by rw [h1]; decide), if_neg (by omega)] at hr
    obtain rfl := (congrArg Prod.fst hr)
    show (⟨(blkL L).toArray⟩ : ByteArray).size ≤ _
    rw [size_mk]; omega

set_option maxRecDepth 100000 in
set_option maxHeartbeats 16000000 in
theorem lawBlockTells (A : Option Addr) (n c : Nat) (L : List KV) (b : ByteArray) (hbz : b.size ≤ 140737488351232) (key : ByteArray) (hkey : key.size ≤ 140737488351232) (w : World) (I : PairsIn w A n L) (hT : LaidB w) :
    Calls Tryz.prog 3 #[.slice A n c, .string b, .string key] w fun e w' => e = .returned (.bool true) ∧ Below w.heap.size w w' := by
  have CL := Lib.hid (light_any A n c L w I)
  have CA := fun W (h : LaidB W) => Lib.hid (alive11_any W h)
  have HT := Lib.hid hT
  by_cases hlt : wtK L ≤ 60000
  · rw [decide_eq_true hlt] at CL
    by_cases hb9 : b.size ≤ 9000
    · have q1 : (b.size : Int) ≤ 9000 := by omega
      have q2 : decide ((9000 : Int) < (b.size : Int)) = false := decide_eq_false (by omega)
      obtain ⟨k1, k2, k3, k4⟩ := light_short hlt
      have Hlen := Lib.hid I.at_.len
      have hn : n ≤ 3000 := by rw [Hlen.out]; exact k4
      obtain ⟨rs, re, hr⟩ : ∃ rs re, buildP L = (rs, re) := ⟨_, _, rfl⟩
      have hrz := build_light' hlt hr
      obtain ⟨PB, pe, hp⟩ : ∃ PB pe, parseP b = (PB, pe) := ⟨_, _, rfl⟩
      obtain ⟨p1, p2, p3⟩ := parse_size hp (by omega)
      obtain ⟨RB, pr, hpr⟩ : ∃ RB pr, parseP rs = (RB, pr) := ⟨_, _, rfl⟩
      obtain ⟨r1, r2, r3⟩ := parse_size hpr (by omega)
      obtain ⟨ca, cb, ce, hc⟩ : ∃ ca cb ce, seekP b key = (ca, cb, ce) := ⟨_, _, _, rfl⟩
      obtain ⟨ua, ub, ue, hu⟩ : ∃ ua ub ue, seekP rs key = (ua, ub, ue) := ⟨_, _, _, rfl⟩
      have RBd := fun W (hb : Below w.heap.size w W) => rbuild A n c L W (I.at_.below hb) k3 (by omega)
      rw [hr] at RBd
      have RBd := fun W hb => Lib.hid (RBd W hb)
      have RPb := fun W => rparse b W (by omega)
      have RSb := fun W => rseek_of b key W (RPb W) (by rw [hp]; show PB.length ≤ _; omega) (by rw [hp]; exact p2) (by omega)
      rw [hp] at RPb
      rw [hc] at RSb
      have RPb := fun W => Lib.hid (RPb W)
      have RSb := fun W => Lib.hid (RSb W)
      have RSr := fun W => rseek_of rs key W (rparse rs W (by omega)) (by rw [hpr]; show RB.length ≤ _; omega) (by rw [hpr]; exact r2) (by omega)
      rw [hu] at RSr
      have RSr := fun W => Lib.hid (RSr W)
      have BL := fun W (hb : Below w.heap.size w W) => Lib.hid (lentkeys_any A n c L W (I.at_.below hb) (by omega))
      have BB := fun W B g cap (h : LentK W B g n cap L) (hL : LaidB W) => build_any (some ⟨g, 0, none⟩) n cap L W h.at_ k3 (by omega) k1 k2 hL
      rw [hr] at BB
      have BB := fun W B g cap h hL => Lib.hid (BB W B g cap h hL)
      have BP := fun W (hL : LaidB W) => parse_any b W (by omega) hL
      rw [hp] at BP
      have BP := fun W hL => Lib.hid (BP W hL)
      have BSb := fun W (hL : LaidB W) => seek_any b key W (by omega) hL
      rw [hc] at BSb
      have BSb := fun W hL => Lib.hid (BSb W hL)
      have BSr := fun W (hL : LaidB W) => seek_any rs key W (by omega) hL
      rw [hu] at BSr
      have BSr := fun W hL => Lib.hid (BSr W hL)
      have hokL : ∀ x ∈ L, okKeys x := fun x hx => by have := wtK_all L x hx; exact ⟨by omega, by omega⟩
      have BY := fun W B g cap (h : LentK W B g n cap L) (hb : Below w.heap.size w W) => Lib.hid (stayskeys_any A n c B g cap L W (I.at_.below hb) h (by omega) hokL)
      dsimp only at RBd RPb RSb RSr BB BP BSb BSr
      have hP3 := Lib.hid p3
      clear hr hp hpr hc hu k1 k2 k3 k4 p2 p3 r1 r2 r3 hlt hT I hokL
      go_enter Tryz.func3, Tryz.ntmps3
      go_wp2_with fail
      refine CL.out.mono ?_
      rintro e w1 ⟨rfl, hb1⟩
      have HB1 := Lib.hid hb1
      have K0 : Hid (Blk (w1.alloc (.cells bookNil11 41)) w1.heap.size 41 bookNil11) := Lib.hid (Blk.new _ _ _)
      have KB : Hid (Below w.heap.size w (w1.alloc (.cells bookNil11 41))) := Lib.hid (below_alloc hb1 (Nat.le_refl _) _)
      have hbk : w.heap.size ≤ w1.heap.size := hb1.size
      have Hbk := Lib.hid hbk
      clear hb1 CL HB1 hbk
      unfold bookNil11 at K0 KB
      go_wp2_with fail
      refine (RBd _ KB.out).out.mono ?_
      rintro e w3 ⟨rfl, hb3⟩
      have HB3 := Lib.hid (KB.out.trans (hb3.mono KB.out.size))
      have K3 := Lib.hid (K0.out.below hb3 K0.out.lt)
      generalize w1.heap.size = bk at *
      clear hb3 KB K0 RBd
      go_wp2_with fail
      refine (RPb w3).out.mono ?_
      rintro e w4 ⟨v, rfl, hv, hb4⟩
      obtain ⟨An, cn, rfl⟩ := Own.slice hv
      have HS4 : Hid (St11 w bk w4.heap.size An cn PB w4) := Lib.hid ⟨⟨_, [], K3.out.below hb4 K3.out.lt, KSt.nil (bookNil11_at 6 (by decide)) (bookNil11_at 7 (by decide)), fun j hj _ _ => bookNil11_at j hj⟩, Own.low hv HB3.out.size, Hbk.out, Nat.le_refl _, HB3.out.trans (hb4.mono HB3.out.size)⟩
      clear hv hb4 HB3 K3 Hbk RPb
      go_wp2_with fail
      refine (RSb w4).out.mono ?_
      rintro e w5 ⟨rfl, hb5⟩
      have HS5 := Lib.hid (HS4.out.up hb5)
      clear hb5 RSb
      go_wp2_with fail
      refine (RSr w5).out.mono ?_
      rintro e w6 ⟨rfl, hb6⟩
      have HS6 : ∃ s, Hid (St11 w bk s An cn PB w6) := ⟨_, Lib.hid (HS5.out.up hb6)⟩
      clear hb6 RSr HS5 HS4
      go_wp2_with fail
      go_loopw [18] (fun x wr => ∃ (k s : Nat), k ≤ 2 ∧ x = .int .i64 (k : Int) ∧ Hid (St11 w bk s An cn PB wr)) (fun x _ => 2 - (intOf x).toNat)
      case atStart =>
        obtain ⟨s, HS⟩ := HS6
        exact ⟨0, s, by omega, rfl, HS⟩
      case round =>
        obtain ⟨k, s, hk, rfl, HS⟩ := hrel
        clear HS6
        by_cases hk2 : k < 2
        · as_aux_lemma =>
          have c1 : (k : Int) < 2 := by omega
          go_wp2_with fail
          refine (BL wr HS.out.below).out.mono ?_
          rintro e w7 ⟨g, cap, rfl, hx7, hb7⟩
          have HX7 := Lib.hid hx7
          have HS7 := Lib.hid (HS.out.up hb7)
          clear hx7 hb7 HS BL
          go_wp2_with fail
          refine (BB w7 _ g cap HX7.out (HT.out.on HS7.out.below)).out.mono ?_
          rintro e w8 ⟨rfl, hb8⟩
          have HX8 := Lib.hid (HX7.out.below hb8)
          have HS8 := Lib.hid (HS7.out.up hb8)
          clear hb8 HX7 HS7 BB
          go_wp2_with fail
          refine (BP w8 (HT.out.on HS8.out.below)).out.mono ?_
          rintro e w9 ⟨vm, rfl, hm, hb9⟩
          obtain ⟨Am, cm, rfl⟩ := Own.slice hm
          have HM9 := Lib.hid hm
          have HX9 := Lib.hid (HX8.out.below hb9)
          have HS9 := Lib.hid (HS8.out.up hb9)
          have Hlo := Lib.hid HS8.out.sle
          have Hlw := Lib.hid HS8.out.below.size
          generalize w8.heap.size = lo at *
          clear hm hb9 HX8 HS8 BP
          go_wp2_with fail
          refine (BSb w9 (HT.out.on HS9.out.below)).out.mono ?_
          rintro e w10 ⟨rfl, hb10⟩
          have HX10 := Lib.hid (HX9.out.below hb10)
          have HM10 := Lib.hid (HM9.out.below hb10)
          have HS10 := Lib.hid (HS9.out.up hb10)
          clear hb10 HX9 HM9 HS9 BSb
          go_wp2_with fail
          refine (BSr w10 (HT.out.on HS10.out.below)).out.mono ?_
          rintro e w11 ⟨rfl, hb11⟩
          have HX11 := Lib.hid (HX10.out.below hb11)
          have HM11 := Lib.hid (HM10.out.below hb11)
          have HS11 := Lib.hid (HS10.out.up hb11)
          clear hb11 HX10 HM10 HS10 BSr
          have CS := Lib.hid (same_at Am An PB.length cm cn PB w11 HM11.out.keysAt HS11.out.ref.keysAt (by omega) hP3.out)
          go_wp2_with fail
          refine CS.out.mono ?_
          rintro e w12 ⟨rfl, hb12⟩
          have HX12 := Lib.hid (HX11.out.below hb12)
          have HM12 := Lib.hid (HM11.out.below hb12)
          have HS12 := Lib.hid (HS11.out.up hb12)
          clear hb12 HX11 HM11 HS11 CS
          go_wp2_with fail
          refine (BY w12 _ g cap HX12.out HS12.out.below).out.mono ?_
          rintro e w13 ⟨rfl, hb13⟩
          have HM13 := Lib.hid (HM12.out.below hb13)
          have HS13 := Lib.hid (HS12.out.up hb13)
          clear hb13 HX12 HM12 HS12 BY
          go_wp2_with fail
          refine (st11_keep HS13.out HM13.out Hlo.out Hlw.out ⟨by omega, hP3.out⟩).mono ?_
          rintro e w14 ⟨rfl, s', hs14⟩
          have HS14 := Lib.hid hs14
          clear hs14 HS13 HM13
          go_wp2_with fail
          go_roundw
          case rel => exact ⟨k + 1, s', by omega, by go_num, HS14⟩
          case measure => simp [intOf]; omega
        · as_aux_lemma =>
          obtain rfl : k = 2 := by omega
          have CA1 := CA wr (HT.out.on HS.out.below)
          clear CA
          go_wp2_with fail
          refine CA1.out.mono ?_
          rintro e w2 ⟨rfl, hb2⟩
          have HS2 := Lib.hid (HS.out.up hb2)
          clear hb2 CA1
          go_wp2_with fail
          refine (st11_apart HS2.out).mono ?_
          rintro e w15 ⟨rfl, hb15⟩
          have HB15 := Lib.hid hb15
          clear hb15
          go_wp2_with fail
          go_ret
          exact ⟨rfl, HB15.out⟩
    · have q1 : ¬ (b.size : Int) ≤ 9000 := by omega
      have q2 : decide ((9000 : Int) < (b.size : Int)) = true := decide_eq_true (by omega)
      clear hlt hT I
      go_enter Tryz.func3, Tryz.ntmps3
      go_wp2_with fail
      refine CL.out.mono ?_
      rintro e w1 ⟨rfl, hb1⟩
      have HB1 := Lib.hid hb1
      have CA1 := CA w1 (HT.out.on hb1)
      clear hb1 CA
      go_wp2_with fail
      refine CA1.out.mono ?_
      rintro e w2 ⟨rfl, hb2⟩
      have HB2 := Lib.hid (HB1.out.trans (hb2.mono HB1.out.size))
      clear hb2
      go_wp2_with fail
      go_ret
      exact ⟨rfl, HB2.out⟩
  · rw [decide_eq_false hlt] at CL
    clear hlt hT I
    go_enter Tryz.func3, Tryz.ntmps3
    go_wp2_with fail
    refine CL.out.mono ?_
    rintro e w1 ⟨rfl, hb1⟩
    have HB1 := Lib.hid hb1
    have CA1 := CA w1 (HT.out.on hb1)
    clear hb1 CA
    go_wp2_with fail
    refine CA1.out.mono ?_
    rintro e w2 ⟨rfl, hb2⟩
    have HB2 := Lib.hid (HB1.out.trans (hb2.mono HB1.out.size))
    clear hb2
    go_wp2_with fail
    go_ret
    exact ⟨rfl, HB2.out⟩
end Go.Proofs.YtmoffcgbjmeiaaaGreatDoor
