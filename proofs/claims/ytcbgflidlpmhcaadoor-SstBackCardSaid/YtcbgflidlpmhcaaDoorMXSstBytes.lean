/-
  The law SstBytes, walked.
-/
import Derived.Test.YtcbgflidlpmhcaaDoorM6
import Derived.Test.YtcbgflidlpmhcaaDoorM4
import Derived.Test.YtcbgflidlpmhcaaDoorM2
namespace Go.Proofs.YtcbgflidlpmhcaaDoor
open Go.RowKit

theorem fits_read {b : ByteArray} (h : fitsB b) : getL (b.extract (b.size - 4) b.size).data.toList = crc (b.extract 0 (b.size - 4)).data.toList := by
  have h1 := (fits_iff b (fits_size h)).1 h
  have h2 := bl_drop b (b.size - 4)
  have h3 := bl_take b (b.size - 4) (by omega)
  rw [h1] at h2
  unfold bl at h2 h3
  rw [h2, h3]
  exact getL_be4 _ (crc_lt _)

set_option maxRecDepth 100000 in
set_option maxHeartbeats 8000000 in
theorem lawSstBytes (b : ByteArray) (_hb : b.size ≤ 140737488351232) (sl : Bool) (key : ByteArray) (hkey : key.size ≤ 140737488351232) (w : World) (hT : LaidS w) :
    Calls Tryd.prog 4 #[.string b, .bool sl, .string key] w fun e w' => e = .returned (.bool true) ∧ Below w.heap.size w w' := by
  have CA := fun W (hb : Below w.heap.size w W) => Lib.hid (alive13_any W (hT.on hb))
  have HB := Lib.hid (Below.refl w.heap.size w)
  by_cases hl : b.size ≤ 9000
  · have g1 : ¬ (9000 : Int) < (b.size : Int) := by omega
    have CO := fun B (hB : B.size ≤ 1000000) W (hb : Below w.heap.size w W) => Lib.hid (sopen_bytes B W hB (hT.on hb))
    have CS := fun (s : ByteArray) (hs : s.size ≤ 9223372036854775807) W => Lib.hid (rsum_any s W hs)
    have CG := fun (s : ByteArray) (h1 : 1 ≤ s.size) (h7 : s.size ≤ 7) W => Lib.hid (rget_ok s W h1 h7)
    have CP := fun (v : Nat) (h : v < 4294967296) W => Lib.hid (rput_any (v : Int) 4 W (by omega))
    have HT := Lib.hid hT
    clear hT
    cases sl
    · obtain ⟨B, rfl⟩ : ∃ B, B = b := ⟨_, rfl⟩
      go_enter Tryd.func4, Tryd.ntmps4
      go_wp2_with fail
      refine (CO B (by omega) _ HB.out).out.mono ?_
      rintro e w1 ⟨o, er, rfl, ho, hb1⟩
      have HB := Lib.hid (HB.out.trans (hb1.mono HB.out.size))
      clear hb1
      dsimp only
      rcases ho.out with ⟨rfl, hf, t, rfl, hok⟩ | ⟨rfl, rfl⟩
      · have hz := fits_size hf
        have hfr := fits_read hf
        have CG1 := CG (B.extract (B.size - 4) B.size) (by simp; omega) (by simp; omega)
        rw [hfr] at CG1
        have CS1 := CS (B.extract 0 (B.size - 4)) (by simp; omega)
        generalize crc (B.extract 0 (B.size - 4)).data.toList = sm at CG1 CS1
        rw [show B.size - 4 = (max ((B.size : Int) - 4) 0).toNat from by omega] at CG1
        have OK := Lib.hid hok
        have z4 : (4 : Int) ≤ (B.size : Int) := by omega
        have z5 : ¬ (B.size : Int) < 4 := by omega
        clear ho hf hfr hok CG CS CO CP
        go_wp2_with fail
        refine (CG1 _).out.mono ?_
        rintro e w2 ⟨rfl, rfl⟩
        dsimp only
        go_wp2_with fail
        refine (sget_ok OK.out (HT.out.on HB.out) key hkey).mono ?_
        rintro e w2 ⟨v1, e1, rfl, hb1⟩
        have OK := Lib.hid (OK.out.up hb1)
        have HB := Lib.hid (HB.out.trans (hb1.mono HB.out.size))
        clear hb1
        dsimp only
        go_wp2_with fail
        refine (sfrom_ok OK.out (HT.out.on HB.out) key 3 hkey).mono ?_
        rintro e w3 ⟨v2, rfl, hb1⟩
        have OK := Lib.hid (OK.out.up hb1)
        have HB := Lib.hid (HB.out.trans (hb1.mono HB.out.size))
        clear hb1
        dsimp only
        go_wp2_with fail
        refine (smay_ok OK.out (HT.out.on HB.out) key hkey).mono ?_
        rintro e w4 ⟨v3, rfl, hb1⟩
        have OK := Lib.hid (OK.out.up hb1)
        have HB := Lib.hid (HB.out.trans (hb1.mono HB.out.size))
        clear hb1
        dsimp only
        go_wp2_with fail
        refine (CA _ HB.out).out.mono ?_
        rintro e w5 ⟨rfl, hb1⟩
        have HB := Lib.hid (HB.out.trans (hb1.mono HB.out.size))
        clear hb1
        go_wp2_with fail
        refine (CS1 _).out.mono ?_
        rintro e w6 ⟨rfl, rfl⟩
        dsimp only
        go_wp2_with fail
        go_ret
        exact ⟨rfl, HB.out⟩
      · go_wp2_with fail
        refine (CA _ HB.out).out.mono ?_
        rintro e w2 ⟨rfl, hb1⟩
        have HB := Lib.hid (HB.out.trans (hb1.mono HB.out.size))
        clear hb1
        go_wp2_with fail
        go_ret
        exact ⟨rfl, HB.out⟩
    · go_enter Tryd.func4, Tryd.ntmps4
      go_wp2_with fail
      refine (CS b (by omega) _).out.mono ?_
      rintro e w1 ⟨rfl, rfl⟩
      have hcl := crc_lt b.data.toList
      generalize crc b.data.toList = sb at *
      dsimp only
      go_wp2_with fail
      refine (CP sb hcl _).out.mono ?_
      rintro e w1 ⟨sg, e0, rfl, hp, hb1⟩
      have HB := Lib.hid (HB.out.trans (hb1.mono HB.out.size))
      have hsg : sg.size ≤ 4 := by
        rcases hp.out with ⟨-, -, -, -, -, rfl⟩ | ⟨-, rfl, -⟩
        · rw [size_mk, be_length]; exact Nat.le_refl _
        · exact Nat.zero_le _
      clear hb1 hp hcl
      dsimp only
      obtain ⟨B, hB⟩ : ∃ B, b ++ sg = B := ⟨_, rfl⟩
      have hBz : B.size ≤ 9010 := by rw [← hB, cat_size]; omega
      have CC := fun W => cat_is (P := Tryd.prog) b sg B hB (by omega) W
      clear hB
      go_wp2_with fail
      refine (CO B (by omega) _ HB.out).out.mono ?_
      rintro e w1 ⟨o, er, rfl, ho, hb1⟩
      have HB := Lib.hid (HB.out.trans (hb1.mono HB.out.size))
      clear hb1
      dsimp only
      rcases ho.out with ⟨rfl, hf, t, rfl, hok⟩ | ⟨rfl, rfl⟩
      · have hz := fits_size hf
        have hfr := fits_read hf
        have CG1 := CG (B.extract (B.size - 4) B.size) (by simp; omega) (by simp; omega)
        rw [hfr] at CG1
        have CS1 := CS (B.extract 0 (B.size - 4)) (by simp; omega)
        generalize crc (B.extract 0 (B.size - 4)).data.toList = sm at CG1 CS1
        rw [show B.size - 4 = (max ((B.size : Int) - 4) 0).toNat from by omega] at CG1
        have OK := Lib.hid hok
        have z4 : (4 : Int) ≤ (B.size : Int) := by omega
        have z5 : ¬ (B.size : Int) < 4 := by omega
        clear ho hf hfr hok CG CS CO CP
        go_wp2_with fail
        refine (CG1 _).out.mono ?_
        rintro e w2 ⟨rfl, rfl⟩
        dsimp only
        go_wp2_with fail
        refine (sget_ok OK.out (HT.out.on HB.out) key hkey).mono ?_
        rintro e w2 ⟨v1, e1, rfl, hb1⟩
        have OK := Lib.hid (OK.out.up hb1)
        have HB := Lib.hid (HB.out.trans (hb1.mono HB.out.size))
        clear hb1
        dsimp only
        go_wp2_with fail
        refine (sfrom_ok OK.out (HT.out.on HB.out) key 3 hkey).mono ?_
        rintro e w3 ⟨v2, rfl, hb1⟩
        have OK := Lib.hid (OK.out.up hb1)
        have HB := Lib.hid (HB.out.trans (hb1.mono HB.out.size))
        clear hb1
        dsimp only
        go_wp2_with fail
        refine (smay_ok OK.out (HT.out.on HB.out) key hkey).mono ?_
        rintro e w4 ⟨v3, rfl, hb1⟩
        have OK := Lib.hid (OK.out.up hb1)
        have HB := Lib.hid (HB.out.trans (hb1.mono HB.out.size))
        clear hb1
        dsimp only
        go_wp2_with fail
        refine (CA _ HB.out).out.mono ?_
        rintro e w5 ⟨rfl, hb1⟩
        have HB := Lib.hid (HB.out.trans (hb1.mono HB.out.size))
        clear hb1
        go_wp2_with fail
        refine (CS1 _).out.mono ?_
        rintro e w6 ⟨rfl, rfl⟩
        dsimp only
        go_wp2_with fail
        go_ret
        exact ⟨rfl, HB.out⟩
      · go_wp2_with fail
        refine (CA _ HB.out).out.mono ?_
        rintro e w2 ⟨rfl, hb1⟩
        have HB := Lib.hid (HB.out.trans (hb1.mono HB.out.size))
        clear hb1
        go_wp2_with fail
        go_ret
        exact ⟨rfl, HB.out⟩
  · have g1 : (9000 : Int) < (b.size : Int) := by omega
    cases sl
    all_goals
      go_enter Tryd.func4, Tryd.ntmps4
      go_wp2_with fail
      refine (CA _ HB.out).out.mono ?_
      rintro e w1 ⟨rfl, hb1⟩
      have HB := Lib.hid (HB.out.trans (hb1.mono HB.out.size))
      clear hb1
      go_wp2_with fail
      go_ret
      exact ⟨rfl, HB.out⟩
end Go.Proofs.YtcbgflidlpmhcaaDoor
