/-
  The law BloomTells, walked.
-/
import Derived.Test.YtgiodfpkkdaflaaDoorMXBloomEmpty
import Derived.Test.YtgiodfpkkdaflaaDoorM3
import Derived.Test.YtgiodfpkkdaflaaDoorMXBloomSizes
namespace Go.Proofs.YtgiodfpkkdaflaaDoor
open Go.RowKit Ieee

/-- What stands between the two ratios: each is the same. -/
theorem nan_same {z y : Nat} (h1 : isN z = true) (h2 : isN y = true) : (cmpN z y == 0) = true := by
  rw [cmpN_eq (by rw [rank_nan z h1, rank_nan y h2])]
  rfl

set_option maxRecDepth 100000 in
set_option maxHeartbeats 16000000 in
theorem lawBloomTells (A : Option Addr) (n c : Nat) (L : List ByteArray) (x : Nat) (_hx : (Lit.float .f64 x).wf = true) (p : Int) (hp : (Lit.int .i64 p).wf = true) (q : Int) (_hq : (Lit.int .i64 q).wf = true) (f : ByteArray) (hf : f.size ≤ 140737488351232) (key : ByteArray) (hkey : key.size ≤ 140737488351232) (w : World) (I : TextsAt w A n L) (hbk : bulkT L ≤ 1048576) (hL : LaidM w) :
    Calls Tryd.prog 3 #[.slice A n c, .float .f64 x, .int .i64 p, .int .i64 q, .string f, .string key] w fun e w' => e = .returned (.bool true) ∧ Below w.heap.size w w' := by
  have CA := fun W (hb : Below w.heap.size w W) => Lib.hid (alive12_any W (hL.on hb))
  have CW := Lib.hid (weight_any A n c L w I hbk)
  have exit_ : ∀ (t1 t2 : Bool), decide ((9000 : Int) < ((wtT L : Nat) : Int)) = t1 → decide ((9000 : Int) < (f.size : Int) + (key.size : Int)) = t2 → (t1 || t2) = true →
      Calls Tryd.prog 3 #[.slice A n c, .float .f64 x, .int .i64 p, .int .i64 q, .string f, .string key] w fun e w' => e = .returned (.bool true) ∧ Below w.heap.size w w' := by
    intro t1 t2 g1 g2 g3
    have g0 : wrap64 ((f.size : Int) + (key.size : Int)) = (f.size : Int) + (key.size : Int) := by unfold wrap64; omega
    clear hL hbk I hp hf hkey
    cases t1 <;> cases t2
    · cases g3
    all_goals
      clear g3
      go_enter Tryd.func3, Tryd.ntmps3
      go_wp2_with fail
      refine CW.out.mono ?_
      rintro e w1 ⟨rfl, hb1⟩
      have HB := Lib.hid hb1
      clear hb1 CW
      go_wp2_with fail
      refine (CA _ HB.out).out.mono ?_
      rintro e w1 ⟨rfl, hb1⟩
      have HB := Lib.hid (HB.out.trans (hb1.mono HB.out.size))
      clear hb1
      go_wp2_with fail
      go_ret
      exact ⟨rfl, HB.out⟩
  by_cases h1 : 9000 < wtT L
  · exact exit_ true _ (decide_eq_true (by omega)) rfl rfl
  by_cases h2 : 9000 < f.size + key.size
  · exact exit_ false true (decide_eq_false (by omega)) (decide_eq_true (by omega)) rfl
  clear exit_
  have hlen := wtT_len L
  have hll := I.len
  have hn : n ≤ 900 := by omega
  have hok : ∀ s ∈ L, s.size ≤ 9223372036854775807 := fun s hs => by have := wtT_mem L s hs; omega
  have hp := i64_le hp
  have CL := fun W (hb : Below w.heap.size w W) => Lib.hid (lenttexts_any A n c L W (I.below hb) (by omega))
  have CB := fun W g cap (h : TextsAt W (some ⟨g, 0, none⟩) n L) (hb : Below w.heap.size w W) => Lib.hid (bbuild_any (some ⟨g, 0, none⟩) n cap x L W h (by omega) hok (hL.on hb))
  have CR := fun W (hb : Below w.heap.size w W) => Lib.hid (rbloom_any A n c x L W (I.below hb) (by omega) hok)
  have CY := fun W B g cap (hx : LentT W B g n cap L) (hb : Below w.heap.size w W) => Lib.hid (staystexts_any A n c B g cap L W (I.below hb) hx (by omega))
  have P1 := fun W => Lib.hid (bprobes_any x W)
  have P2 := fun W => Lib.hid (rprobes_any x W)
  have S1 := fun W => Lib.hid (bsize_any p x W hp)
  have S2 := fun W => Lib.hid (rsize_any p x W hp)
  have M1 := fun W (hb : Below w.heap.size w W) => Lib.hid (bmay_any f key W (hL.on hb) (by omega) (by omega))
  have M2 := fun W => Lib.hid (rmay_any f key W (by omega) (by omega))
  have z1 := bloomT_size L x
  have y1 := sizeN_le (L.length : Int) x
  have M3 := fun W (hb : Below w.heap.size w W) => Lib.hid (bmay_any (bloomT L x) key W (hL.on hb) (by omega) (by omega))
  have M4 := fun W => Lib.hid (rmay_any (bloomT L x) key W (by omega) (by omega))
  have R1 := fun W => brate_any p q W
  have R2 := fun W => qratio_any q p W
  have g1 : decide ((9000 : Int) < ((wtT L : Nat) : Int)) = false := decide_eq_false (by omega)
  have g2 : decide ((9000 : Int) < (f.size : Int) + (key.size : Int)) = false := decide_eq_false (by omega)
  have g0 : wrap64 ((f.size : Int) + (key.size : Int)) = (f.size : Int) + (key.size : Int) := by unfold wrap64; omega
  have g1' : ¬ (9000 : Int) < ((wtT L : Nat) : Int) := by omega
  have g2' : ¬ (9000 : Int) < (f.size : Int) + (key.size : Int) := by omega
  generalize mayT f (crc key.data.toList) = t1 at *
  generalize mayT (bloomT L x) (crc key.data.toList) = t2 at *
  generalize bloomT L x = s at *
  generalize probesN x = k at *
  generalize sizeN p x = z at *
  have t3 : (s.toList == s.toList) = true := beq_self_eq_true _
  have t4 : (t1 == t1) = true := beq_self_eq_true _
  have t5 : (t2 == t2) = true := beq_self_eq_true _
  clear hL hbk I hp hf hkey hok hlen hll z1 y1 h1 h2 hn
  cases hr : floatBits .quo .f64 (floatOfInt .f64 q) (floatOfInt .f64 p) with
  | some r =>
    have hrl : r < 18446744073709551616 := wf_f64 (floatBits_wf hr)
    rw [hr] at R1 R2
    have R1 := fun W => Lib.hid (R1 W)
    have R2 := fun W => Lib.hid (R2 W)
    have R3 := fun W => Lib.hid (qsame_any r r hrl hrl W)
    have t8 : (cmpN r r == 0) = true := by rw [cmpN_self]; rfl
    clear hr hrl
    go_enter Tryd.func3, Tryd.ntmps3
    go_wp2_with fail
    refine CW.out.mono ?_
    rintro e w1 ⟨rfl, hb1⟩
    have HB := Lib.hid hb1
    clear hb1 CW
    go_wp2_with fail
    refine (CL _ HB.out).out.mono ?_
    rintro e w1 ⟨g, cap, rfl, hx, hb1⟩
    have HX := Lib.hid hx
    have HB := Lib.hid (HB.out.trans (hb1.mono HB.out.size))
    clear hb1 hx CL
    go_wp2_with fail
    refine (CB _ g cap HX.out.at_ HB.out).out.mono ?_
    rintro e w2 ⟨rfl, hb1⟩
    have HB := Lib.hid (HB.out.trans (hb1.mono HB.out.size))
    have HX := Lib.hid (HX.out.below hb1)
    clear hb1 CB
    go_wp2_with fail
    refine (CR _ HB.out).out.mono ?_
    rintro e w3 ⟨rfl, hb1⟩
    have HB := Lib.hid (HB.out.trans (hb1.mono HB.out.size))
    have HX := Lib.hid (HX.out.below hb1)
    clear hb1 CR
    go_wp2_with fail
    refine (CY _ _ g cap HX.out HB.out).out.mono ?_
    rintro e w4 ⟨rfl, hb1⟩
    have HB := Lib.hid (HB.out.trans (hb1.mono HB.out.size))
    clear hb1 CY HX
    go_wp2_with fail
    refine (P1 _).out.mono ?_
    rintro e w1 ⟨rfl, hb1⟩
    have HB := Lib.hid (HB.out.trans (hb1.mono HB.out.size))
    clear hb1
    go_wp2_with fail
    refine (P2 _).out.mono ?_
    rintro e w1 ⟨rfl, rfl⟩
    go_wp2_with fail
    refine (S1 _).out.mono ?_
    rintro e w1 ⟨rfl, hb1⟩
    have HB := Lib.hid (HB.out.trans (hb1.mono HB.out.size))
    clear hb1
    go_wp2_with fail
    refine (S2 _).out.mono ?_
    rintro e w1 ⟨rfl, hb1⟩
    have HB := Lib.hid (HB.out.trans (hb1.mono HB.out.size))
    clear hb1
    go_wp2_with fail
    refine (CA _ HB.out).out.mono ?_
    rintro e w1 ⟨rfl, hb1⟩
    have HB := Lib.hid (HB.out.trans (hb1.mono HB.out.size))
    clear hb1
    go_wp2_with fail
    refine (M3 _ HB.out).out.mono ?_
    rintro e w1 ⟨rfl, hb1⟩
    have HB := Lib.hid (HB.out.trans (hb1.mono HB.out.size))
    clear hb1
    go_wp2_with fail
    refine (M4 _).out.mono ?_
    rintro e w1 ⟨rfl, hb1⟩
    have HB := Lib.hid (HB.out.trans (hb1.mono HB.out.size))
    clear hb1
    go_wp2_with fail
    refine (M1 _ HB.out).out.mono ?_
    rintro e w1 ⟨rfl, hb1⟩
    have HB := Lib.hid (HB.out.trans (hb1.mono HB.out.size))
    clear hb1
    go_wp2_with fail
    refine (M2 _).out.mono ?_
    rintro e w1 ⟨rfl, hb1⟩
    have HB := Lib.hid (HB.out.trans (hb1.mono HB.out.size))
    clear hb1
    go_wp2_with fail
    refine (R1 _).out.mono ?_
    rintro e w1 ⟨rfl, rfl⟩
    go_wp2_with fail
    refine (R2 _).out.mono ?_
    rintro e w1 ⟨rfl, rfl⟩
    go_wp2_with fail
    refine (R3 _).out.mono ?_
    rintro e w1 ⟨rfl, rfl⟩
    go_wp2_with fail
    go_ret
    exact ⟨rfl, HB.out⟩
  | none =>
    rw [hr] at R1 R2
    have R1 := fun W => Lib.hid (R1 W)
    have R2 := fun W => Lib.hid (R2 W)
    clear hr
    go_enter Tryd.func3, Tryd.ntmps3
    go_wp2_with fail
    refine CW.out.mono ?_
    rintro e w1 ⟨rfl, hb1⟩
    have HB := Lib.hid hb1
    clear hb1 CW
    go_wp2_with fail
    refine (CL _ HB.out).out.mono ?_
    rintro e w1 ⟨g, cap, rfl, hx, hb1⟩
    have HX := Lib.hid hx
    have HB := Lib.hid (HB.out.trans (hb1.mono HB.out.size))
    clear hb1 hx CL
    go_wp2_with fail
    refine (CB _ g cap HX.out.at_ HB.out).out.mono ?_
    rintro e w2 ⟨rfl, hb1⟩
    have HB := Lib.hid (HB.out.trans (hb1.mono HB.out.size))
    have HX := Lib.hid (HX.out.below hb1)
    clear hb1 CB
    go_wp2_with fail
    refine (CR _ HB.out).out.mono ?_
    rintro e w3 ⟨rfl, hb1⟩
    have HB := Lib.hid (HB.out.trans (hb1.mono HB.out.size))
    have HX := Lib.hid (HX.out.below hb1)
    clear hb1 CR
    go_wp2_with fail
    refine (CY _ _ g cap HX.out HB.out).out.mono ?_
    rintro e w4 ⟨rfl, hb1⟩
    have HB := Lib.hid (HB.out.trans (hb1.mono HB.out.size))
    clear hb1 CY HX
    go_wp2_with fail
    refine (P1 _).out.mono ?_
    rintro e w1 ⟨rfl, hb1⟩
    have HB := Lib.hid (HB.out.trans (hb1.mono HB.out.size))
    clear hb1
    go_wp2_with fail
    refine (P2 _).out.mono ?_
    rintro e w1 ⟨rfl, rfl⟩
    go_wp2_with fail
    refine (S1 _).out.mono ?_
    rintro e w1 ⟨rfl, hb1⟩
    have HB := Lib.hid (HB.out.trans (hb1.mono HB.out.size))
    clear hb1
    go_wp2_with fail
    refine (S2 _).out.mono ?_
    rintro e w1 ⟨rfl, hb1⟩
    have HB := Lib.hid (HB.out.trans (hb1.mono HB.out.size))
    clear hb1
    go_wp2_with fail
    refine (CA _ HB.out).out.mono ?_
    rintro e w1 ⟨rfl, hb1⟩
    have HB := Lib.hid (HB.out.trans (hb1.mono HB.out.size))
    clear hb1
    go_wp2_with fail
    refine (M3 _ HB.out).out.mono ?_
    rintro e w1 ⟨rfl, hb1⟩
    have HB := Lib.hid (HB.out.trans (hb1.mono HB.out.size))
    clear hb1
    go_wp2_with fail
    refine (M4 _).out.mono ?_
    rintro e w1 ⟨rfl, hb1⟩
    have HB := Lib.hid (HB.out.trans (hb1.mono HB.out.size))
    clear hb1
    go_wp2_with fail
    refine (M1 _ HB.out).out.mono ?_
    rintro e w1 ⟨rfl, hb1⟩
    have HB := Lib.hid (HB.out.trans (hb1.mono HB.out.size))
    clear hb1
    go_wp2_with fail
    refine (M2 _).out.mono ?_
    rintro e w1 ⟨rfl, hb1⟩
    have HB := Lib.hid (HB.out.trans (hb1.mono HB.out.size))
    clear hb1
    go_wp2_with fail
    refine (R1 _).out.mono ?_
    rintro e w5 ⟨v1, rfl, hv1, hl1, hb1⟩
    have HB := Lib.hid (HB.out.trans (hb1.mono HB.out.size))
    clear hb1
    go_wp2_with fail
    refine (R2 _).out.mono ?_
    rintro e w6 ⟨v2, rfl, hv2, hl2, hb1⟩
    have HB := Lib.hid (HB.out.trans (hb1.mono HB.out.size))
    have R3 := fun W => Lib.hid (qsame_any v1 v2 hl1 hl2 W)
    have t8 := nan_same hv1.out hv2.out
    clear hb1 hl1 hl2 hv1 hv2
    go_wp2_with fail
    refine (R3 _).out.mono ?_
    rintro e w1 ⟨rfl, rfl⟩
    go_wp2_with fail
    go_ret
    exact ⟨rfl, HB.out⟩
end Go.Proofs.YtgiodfpkkdaflaaDoor
