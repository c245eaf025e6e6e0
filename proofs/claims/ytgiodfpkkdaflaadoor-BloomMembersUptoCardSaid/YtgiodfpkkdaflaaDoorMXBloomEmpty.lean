/-
  The law BloomEmpty, walked; what a filter that was built tells.
-/
import Derived.Test.YtgiodfpkkdaflaaDoorM3
namespace Go.Proofs.YtgiodfpkkdaflaaDoor
open Go.RowKit Ieee

theorem hasB_snoc (L : List Nat) (k p : Nat) (h : p / 8 < L.length) : hasB (L ++ [k]) p = hasB L p := by
  unfold hasB
  rw [List.getD_eq_getElem?_getD, List.getD_eq_getElem?_getD, List.getElem?_append_left h]
/-- What May tells of a filter that was built. -/
theorem may_filter (hs : List Nat) (z k h : Nat) (hz : 1 ≤ z) (hk : 1 ≤ k) (hk2 : k ≤ 30) : mayT (filterT hs z k) h = mayL (filterL hs z k) h z k := by
  have hsz := filterT_size hs z k
  have hd : (filterT hs z k).data.toList = (filterL hs z k ++ [k]).map UInt8.ofNat := by unfold filterT; simp
  have hn : ((filterL hs z k ++ [k]).map UInt8.ofNat).map UInt8.toNat = filterL hs z k ++ [k] := by
    rw [List.map_map]
    have hall : ∀ x ∈ filterL hs z k ++ [k], (UInt8.toNat ∘ UInt8.ofNat) x = x := fun x hx => by
      have hx2 : x < 256 := by
        rcases List.mem_append.1 hx with h1 | h1
        · exact filterL_byte hs z k x h1
        · rw [List.mem_singleton] at h1; omega
      show (UInt8.ofNat x).toNat = x
      rw [UInt8.toNat_ofNat', Nat.mod_eq_of_lt hx2]
    rw [List.map_congr_left hall, List.map_id']
  have hlast : (((filterL hs z k ++ [k]).map UInt8.ofNat).getD z 0).toNat = k := by
    have hl := filterL_length hs z k
    rw [List.getD_eq_getElem?_getD, List.getElem?_map, List.getElem?_append_right (by omega), hl, Nat.sub_self]
    show (UInt8.ofNat k).toNat = k
    rw [UInt8.toNat_ofNat', Nat.mod_eq_of_lt (by omega)]
  unfold mayT
  rw [hsz, if_neg (by omega), show z + 1 - 1 = z from by omega, hd, hlast, if_neg (by omega), hn]
  unfold mayL
  rw [Bool.eq_iff_iff, List.all_eq_true, List.all_eq_true]
  have hh : ∀ p ∈ placesH h z k, hasB (filterL hs z k ++ [k]) p = hasB (filterL hs z k) p := fun p hp => by
    have := placesP_lt _ _ (by omega) _ _ p hp
    exact hasB_snoc _ _ _ (by rw [filterL_length]; omega)
  constructor
  · intro h1 p hp; rw [← hh p hp]; exact h1 p hp
  · intro h1 p hp; rw [hh p hp]; exact h1 p hp
/-- Of each key that was built in. -/
theorem may_built (L : List ByteArray) (x : Nat) (s : ByteArray) (hs : s ∈ L) : mayT (bloomT L x) (crc s.data.toList) = true := by
  have z1 := sizeN_ge (L.length : Int) x
  unfold bloomT
  rw [may_filter _ _ _ _ (by omega) (probesN_ge x) (probesN_le x)]
  exact may_member _ _ _ _ (by omega) (List.mem_map.2 ⟨s, hs, rfl⟩)
theorem may_nobody (x h : Nat) : mayT (bloomT [] x) h = false := by
  have z1 := sizeN_ge (([] : List ByteArray).length : Int) x
  have k1 := probesN_ge x
  unfold bloomT
  rw [may_filter _ _ _ _ (by omega) k1 (probesN_le x)]
  exact may_none _ _ _ (by omega) (by omega)
theorem bloomT_size (L : List ByteArray) (x : Nat) : (bloomT L x).size = sizeN (L.length : Int) x + 1 := filterT_size _ _ _
theorem may_nil (h : Nat) : mayT ⟨#[]⟩ h = true := rfl
theorem may_x (h : Nat) : mayT ⟨#[120]⟩ h = true := rfl

set_option maxRecDepth 100000 in
set_option maxHeartbeats 8000000 in
theorem lawBloomEmpty (key : ByteArray) (hkey : key.size ≤ 140737488351232) (other : ByteArray) (hother : other.size ≤ 140737488351232) (x : Nat) (_hx : (Lit.float .f64 x).wf = true) (w : World) (hL : LaidM w) :
    Calls Tryd.prog 6 #[.string key, .string other, .float .f64 x] w fun e w' => e = .returned (.bool true) ∧ Below w.heap.size w w' := by
  have CA := fun W (hb : Below w.heap.size w W) => Lib.hid (alive12_any W (hL.on hb))
  have HB := Lib.hid (Below.refl w.heap.size w)
  by_cases hl : key.size + other.size ≤ 3000
  · have g1 : ¬ (3000 : Int) < (key.size : Int) + (other.size : Int) := by omega
    have CM := fun f (hf : f.size ≤ 100000000000) (s : ByteArray) (hs : s.size ≤ 9223372036854775807) W (hb : Below w.heap.size w W) => Lib.hid (bmay_any f s W (hL.on hb) hs hf)
    have C0 := fun W (hb : Below w.heap.size w W) => Lib.hid (bbuild_any none 0 0 x [] W ⟨rfl, fun i s hs => by simp at hs⟩ (by decide) (fun s hs => by cases hs) (hL.on hb))
    have C1 := fun W (hb : Below w.heap.size w W) => Lib.hid (show Calls Tryd.prog 10 #[.slice (some ⟨W.heap.size, 0, none⟩) 1 1, .float .f64 x] (W.alloc (.cells #[.string key] 9)) fun e w' => e = .returned (.string (bloomT [key] x)) ∧ Below w.heap.size (W.alloc (.cells #[.string key] 9)) w' from
      (bbuild_any (some ⟨W.heap.size, 0, none⟩) 1 1 x [key] _ ⟨rfl, fun i s hs => by
        match i, hs with
        | 0, hs => cases hs; exact ⟨_, 0, rfl, by simp, cell_new _ _ _⟩
        | i + 1, hs => simp at hs⟩ (by decide) (fun s hs => by simp at hs; subst hs; omega) (hL.on (hb.alloc hb.size _))).mono fun e w' ⟨h1, h2⟩ => ⟨h1, h2.mono (by have := hb.size; simp; omega)⟩)
    have C2 := fun W (hb : Below w.heap.size w W) => Lib.hid (show Calls Tryd.prog 10 #[.slice (some ⟨W.heap.size, 0, none⟩) 2 2, .float .f64 x] (W.alloc (.cells #[.string key, .string other] 9)) fun e w' => e = .returned (.string (bloomT [key, other] x)) ∧ Below w.heap.size (W.alloc (.cells #[.string key, .string other] 9)) w' from
      (bbuild_any (some ⟨W.heap.size, 0, none⟩) 2 2 x [key, other] _ ⟨rfl, fun i s hs => by
        have B := Blk.new W 9 #[.string key, .string other]
        match i, hs with
        | 0, hs => cases hs; exact ⟨_, 0, rfl, B.lt, B.cell 0⟩
        | 1, hs => cases hs; exact ⟨_, 0, rfl, B.lt, B.cell 1⟩
        | i + 2, hs => simp at hs⟩ (by decide) (fun s hs => by simp at hs; rcases hs with rfl | rfl <;> omega) (hL.on (hb.alloc hb.size _))).mono fun e w' ⟨h1, h2⟩ => ⟨h1, h2.mono (by have := hb.size; simp; omega)⟩)
    have m0 := may_nobody x (crc key.data.toList)
    have m1 := may_built [key] x key (by simp)
    have m2 := may_built [key, other] x key (by simp)
    have m3 := may_built [key, other] x other (by simp)
    have m4 := may_nil (crc key.data.toList)
    have m5 := may_x (crc key.data.toList)
    have z0 := bloomT_size [] x
    have z1 := bloomT_size [key] x
    have z2 := bloomT_size [key, other] x
    have y0 := sizeN_ge (([] : List ByteArray).length : Int) x
    have y1 := sizeN_le (([] : List ByteArray).length : Int) x
    have y2 := sizeN_le (([key] : List ByteArray).length : Int) x
    have y3 := sizeN_le (([key, other] : List ByteArray).length : Int) x
    have g9 : (9 : Int) ≤ ((bloomT [] x).size : Int) := by omega
    have S0 := Lib.hid (show (bloomT [] x).size ≤ 100000000000 by omega)
    have S1 := Lib.hid (show (bloomT [key] x).size ≤ 100000000000 by omega)
    have S2 := Lib.hid (show (bloomT [key, other] x).size ≤ 100000000000 by omega)
    have K1 := Lib.hid (show key.size ≤ 9223372036854775807 by omega)
    have K2 := Lib.hid (show other.size ≤ 9223372036854775807 by omega)
    clear z0 z1 z2 y0 y1 y2 y3 hL hkey hother
    have SN := Lib.hid (show (⟨#[]⟩ : ByteArray).size ≤ 100000000000 by decide)
    have SX := Lib.hid (show (⟨#[120]⟩ : ByteArray).size ≤ 100000000000 by decide)
    by_cases he : key.toList = other.toList
    · have m6 : mayT (bloomT [key] x) (crc other.data.toList) = true := by
        have hko : key = other := ByteArray.ext (Array.ext' (by rw [Lib.toList_data, Lib.toList_data] at he; exact he))
        rw [← hko]; exact m1
      have e1 : (key.toList == other.toList) = true := beq_iff_eq.2 he
      generalize bloomT [] x = f0 at *
      generalize bloomT [key] x = f1 at *
      generalize bloomT [key, other] x = f2 at *
      go_enter Tryd.func6, Tryd.ntmps6
      go_wp2_with fail
      refine (C0 _ HB.out).out.mono ?_
      rintro e w1 ⟨rfl, hb1⟩
      have HB := Lib.hid (HB.out.trans (hb1.mono HB.out.size))
      clear hb1 C0
      go_wp2_with fail
      refine (C1 _ HB.out).out.mono ?_
      rintro e w2 ⟨rfl, hb1⟩
      have HB := Lib.hid ((HB.out.alloc HB.out.size _).trans hb1)
      clear hb1 C1
      go_wp2_with fail
      refine (C2 _ HB.out).out.mono ?_
      rintro e w3 ⟨rfl, hb1⟩
      have HB := Lib.hid ((HB.out.alloc HB.out.size _).trans hb1)
      clear hb1 C2
      go_wp2_with fail
      refine (CM _ S0.out _ K1.out _ HB.out).out.mono ?_
      rintro e w1 ⟨rfl, hb1⟩
      have HB := Lib.hid (HB.out.trans (hb1.mono HB.out.size))
      clear hb1
      go_wp2_with fail
      refine (CM _ S1.out _ K1.out _ HB.out).out.mono ?_
      rintro e w1 ⟨rfl, hb1⟩
      have HB := Lib.hid (HB.out.trans (hb1.mono HB.out.size))
      clear hb1
      go_wp2_with fail
      refine (CM _ S2.out _ K1.out _ HB.out).out.mono ?_
      rintro e w1 ⟨rfl, hb1⟩
      have HB := Lib.hid (HB.out.trans (hb1.mono HB.out.size))
      clear hb1
      go_wp2_with fail
      refine (CM _ S2.out _ K2.out _ HB.out).out.mono ?_
      rintro e w1 ⟨rfl, hb1⟩
      have HB := Lib.hid (HB.out.trans (hb1.mono HB.out.size))
      clear hb1
      go_wp2_with fail
      refine (CA _ HB.out).out.mono ?_
      rintro e w1 ⟨rfl, hb1⟩
      have HB := Lib.hid (HB.out.trans (hb1.mono HB.out.size))
      clear hb1
      go_wp2_with fail
      refine (CM _ S1.out _ K2.out _ HB.out).out.mono ?_
      rintro e w1 ⟨rfl, hb1⟩
      have HB := Lib.hid (HB.out.trans (hb1.mono HB.out.size))
      clear hb1
      go_wp2_with fail
      refine (CM _ SN.out _ K1.out _ HB.out).out.mono ?_
      rintro e w1 ⟨rfl, hb1⟩
      have HB := Lib.hid (HB.out.trans (hb1.mono HB.out.size))
      clear hb1
      go_wp2_with fail
      refine (CM _ SX.out _ K1.out _ HB.out).out.mono ?_
      rintro e w1 ⟨rfl, hb1⟩
      have HB := Lib.hid (HB.out.trans (hb1.mono HB.out.size))
      clear hb1
      go_wp2_with fail
      go_ret
      exact ⟨rfl, HB.out⟩
    · have e1 : (key.toList == other.toList) = false := beq_eq_false_iff_ne.2 he
      generalize bloomT [] x = f0 at *
      generalize bloomT [key] x = f1 at *
      generalize bloomT [key, other] x = f2 at *
      go_enter Tryd.func6, Tryd.ntmps6
      go_wp2_with fail
      refine (C0 _ HB.out).out.mono ?_
      rintro e w1 ⟨rfl, hb1⟩
      have HB := Lib.hid (HB.out.trans (hb1.mono HB.out.size))
      clear hb1 C0
      go_wp2_with fail
      refine (C1 _ HB.out).out.mono ?_
      rintro e w2 ⟨rfl, hb1⟩
      have HB := Lib.hid ((HB.out.alloc HB.out.size _).trans hb1)
      clear hb1 C1
      go_wp2_with fail
      refine (C2 _ HB.out).out.mono ?_
      rintro e w3 ⟨rfl, hb1⟩
      have HB := Lib.hid ((HB.out.alloc HB.out.size _).trans hb1)
      clear hb1 C2
      go_wp2_with fail
      refine (CM _ S0.out _ K1.out _ HB.out).out.mono ?_
      rintro e w1 ⟨rfl, hb1⟩
      have HB := Lib.hid (HB.out.trans (hb1.mono HB.out.size))
      clear hb1
      go_wp2_with fail
      refine (CM _ S1.out _ K1.out _ HB.out).out.mono ?_
      rintro e w1 ⟨rfl, hb1⟩
      have HB := Lib.hid (HB.out.trans (hb1.mono HB.out.size))
      clear hb1
      go_wp2_with fail
      refine (CM _ S2.out _ K1.out _ HB.out).out.mono ?_
      rintro e w1 ⟨rfl, hb1⟩
      have HB := Lib.hid (HB.out.trans (hb1.mono HB.out.size))
      clear hb1
      go_wp2_with fail
      refine (CM _ S2.out _ K2.out _ HB.out).out.mono ?_
      rintro e w1 ⟨rfl, hb1⟩
      have HB := Lib.hid (HB.out.trans (hb1.mono HB.out.size))
      clear hb1
      go_wp2_with fail
      refine (CA _ HB.out).out.mono ?_
      rintro e w1 ⟨rfl, hb1⟩
      have HB := Lib.hid (HB.out.trans (hb1.mono HB.out.size))
      clear hb1
      go_wp2_with fail
      refine (CM _ SN.out _ K1.out _ HB.out).out.mono ?_
      rintro e w1 ⟨rfl, hb1⟩
      have HB := Lib.hid (HB.out.trans (hb1.mono HB.out.size))
      clear hb1
      go_wp2_with fail
      refine (CM _ SX.out _ K1.out _ HB.out).out.mono ?_
      rintro e w1 ⟨rfl, hb1⟩
      have HB := Lib.hid (HB.out.trans (hb1.mono HB.out.size))
      clear hb1
      go_wp2_with fail
      go_ret
      exact ⟨rfl, HB.out⟩
  · have g1 : (3000 : Int) < (key.size : Int) + (other.size : Int) := by omega
    have g0 : wrap64 ((key.size : Int) + (other.size : Int)) = (key.size : Int) + (other.size : Int) := by unfold wrap64; omega
    have CA := CA w (Below.refl _ _)
    clear hL hkey hother
    go_enter Tryd.func6, Tryd.ntmps6
    go_wp2_with fail
    refine CA.out.mono ?_
    rintro e w1 ⟨rfl, hb1⟩
    have HB := Lib.hid hb1
    clear hb1
    go_wp2_with fail
    go_ret
    exact ⟨rfl, HB.out⟩
end Go.Proofs.YtgiodfpkkdaflaaDoor
