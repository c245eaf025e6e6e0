/-
  OpValues: what a key has behind all versions of every list; they stay.
-/
import Derived.Test.YthacdegaeokgnaaDoorMXBookW
import Derived.Test.YthacdegaeokgnaaDoorM7
import Derived.Test.YthacdegaeokgnaaDoorM8
import Derived.Test.YthacdegaeokgnaaDoorM3
import Derived.Deep.Cut
namespace Go.Proofs.YthacdegaeokgnaaDoor
open Go.RowKit

set_option maxRecDepth 100000 in
set_option maxHeartbeats 1000000 in
theorem opval_big (key : ByteArray) (A : Option Addr) (n c : Nat) (w : World) (hL : LaidO w) (hn : 100 < n) (hmx : n ≤ 9223372036854775807) :
    Calls Tryd.prog 4 #[.string key, .slice A n c] w fun e w' => e = .returned (.bool true) ∧ Below w.heap.size w w' := by
  have e1 : (100 : Int) < (n : Int) := by omega
  go_enter Tryd.func4, Tryd.ntmps4
  go_wp2_with fail
  refine (oalive_any w hL).mono ?_
  rintro e w2 ⟨rfl, g2⟩
  go_wp2_with fail
  go_ret
  exact ⟨rfl, g2⟩
set_option maxRecDepth 100000 in
set_option maxHeartbeats 8000000 in
theorem lawOpValues (key : ByteArray) (hk : key.size ≤ 140737488351232) (A : Option Addr) (n c : Nat) (vs : List VerR) (w : World) (I : VersIn w A n vs) (hL : LaidO w) :
    Calls Tryd.prog 4 #[.string key, .slice A n c] w fun e w' => e = .returned (.bool true) ∧ Below w.heap.size w w' := by
  have hmx := I.max
  by_cases hn : 100 < n
  · exact opval_big key A n c w hL hn hmx
  have hn3 : n ≤ 1000 := by omega
  have HK : Hid (key.size ≤ 9223372036854775807) := Nat.le_trans hk (by decide)
  have hlen := Lib.hid I.len
  have I := Lib.hid I
  have e1 : ¬ (100 : Int) < (n : Int) := by omega
  have AL := Lib.hid (oalive_any w hL)
  go_enter Tryd.func4, Tryd.ntmps4
  go_wp2_with fail
  go_loop [5] (fun i => ∃ k : Nat, k ≤ n ∧ i = .int .i64 (k : Int) ∧ Hid (∀ j, j < k → (vs.getD j VerR.zero).n ≤ 100000)) (fun i => n - (intOf i).toNat)
  case atStart => exact ⟨0, by omega, rfl, fun j hj => absurd hj (by omega)⟩
  case round =>
    obtain ⟨k, hkn, rfl, HX⟩ := hrel
    by_cases hkl : k < n
    · obtain ⟨b, off, rfl, hbl, hcells⟩ := I.out.some (by omega)
      obtain ⟨r, hr⟩ : ∃ r, vs.getD k VerR.zero = r := ⟨_, rfl⟩
      obtain ⟨d0, d1, d2, d3, d4, d5, d6, d7⟩ := VersIn.at_ hcells hkl hr
      have HR := Lib.hid hr
      have hkl' : (k : Int) < (n : Int) := by omega
      clear hcells hr d0 d2 d3 d4 d5 d6 hbl
      by_cases g1 : (60 : Int) < (r.n : Int)
      · go_wp2_with fail
        refine AL.out.mono ?_
        rintro e w2 ⟨rfl, g2⟩
        go_wp2_with fail
        go_ret
        exact ⟨rfl, g2⟩
      · by_cases g2 : (2000 : Int) < (r.tx.size : Int)
        · go_wp2_with fail
          refine AL.out.mono ?_
          rintro e w2 ⟨rfl, g2⟩
          go_wp2_with fail
          go_ret
          exact ⟨rfl, g2⟩
        · have HX2 : Hid (∀ j, j < k + 1 → (vs.getD j VerR.zero).n ≤ 100000) := by
            intro j hj
            by_cases e : j = k
            · subst e
              rw [HR.out]
              omega
            · exact HX.out j (by omega)
          go_wp2_with fail
          go_round
          case rel => exact ⟨k + 1, by omega, by go_num, HX2⟩
          case measure => simp [intOf]; omega
    · obtain rfl : k = n := by omega
      have hkk : ¬ (k : Int) < (k : Int) := by omega
      clear AL
      go_wp2_with fail
      refine (lentvers_any A k c vs w I.out hn3 HX.out).mono ?_
      rintro e w2 ⟨g, cap, us, rfl, HL⟩
      have hb2 := Lib.hid HL.below
      have HL := Lib.hid HL
      go_wp2_with fail
      refine (oalive_any _ (hL.on hb2.out)).mono ?_
      rintro e w3 ⟨rfl, g3⟩
      have HL3 := Lib.hid (HL.out.on (Nat.le_refl _) g3)
      have hb3 := Lib.hid HL3.out.below
      clear HL hb2 g3
      have CV := ovalue_any key HK.out (some ⟨g, 0, none⟩) k cap us w3 (HL3.out.vers I.out hn3)
      rw [lent_s6 HL3.out hlen.out] at CV
      have CV := Lib.hid CV
      go_wp2_with fail
      refine CV.out.mono ?_
      rintro e w4 ⟨⟨th, nu, it, tx, rfl, IV, hx⟩, g4⟩
      clear CV
      simp only [valV]
      have HL4 := Lib.hid (HL3.out.on (Nat.le_refl _) g4)
      have hb4 := Lib.hid HL4.out.below
      clear HL3 hb3 g4
      have CR := Lib.hid (rvaluel_any key HK.out A k c vs w4 (I.out.below hb4.out))
      go_wp2_with fail
      refine CR.out.mono ?_
      rintro e w5 ⟨⟨th', nu', it', tx', rfl, IV', hx'⟩, g5⟩
      clear CR
      simp only [valV]
      have HL5 := Lib.hid (HL4.out.on (Nat.le_refl _) g5)
      have hb5 := Lib.hid HL5.out.below
      clear HL4 hb4 g5
      have CS := rsameval_any th nu it tx th' nu' it' tx' IV.nu IV'.nu w5
      have hs : (v6 th nu it tx).same (v6 th' nu' it' tx') = true := (V6.same_iff _ _).2 (hx.trans hx'.symm)
      rw [hs] at CS
      simp only [valV] at CS
      have CS := Lib.hid CS
      clear hs hx hx' IV IV'
      go_wp2_with fail
      refine CS.out.mono ?_
      rintro e w6 ⟨rfl, g6⟩
      clear CS
      have HL6 := Lib.hid (HL5.out.on (Nat.le_refl _) g6)
      have hb6 := Lib.hid HL6.out.below
      clear HL5 hb5 g6
      have CT := Lib.hid (staysvers_any w w.heap.size g cap us A k c vs w6 HL6.out (Nat.le_refl _) (I.out.below hb6.out) hn3 HX.out (fun r _ => sameR_refl r))
      go_wp2_with fail
      refine CT.out.mono ?_
      rintro e w7 ⟨rfl, g7⟩
      have hb7 := hb6.out.trans (g7.mono hb6.out.size)
      clear CT
      go_wp2_with fail
      go_ret
      exact ⟨rfl, hb7⟩
end Go.Proofs.YthacdegaeokgnaaDoor
