/-
  RawVars: numbers laid one behind the other are got one behind the other.
-/
import Derived.Test.YtkjfhgaiakienaaDoorAlive
import Derived.Test.YtkjfhgaiakienaaDoorRawShort
import Derived.Test.YtkjfhgaiakienaaDoorView
import Derived.Lib.Strings
namespace Go.Proofs.YtkjfhgaiakienaaDoor
open Go.RowKit

set_option maxRecDepth 100000 in
set_option maxHeartbeats 1000000 in
theorem rawVars_long (A : Option Addr) (n cp : Nat) (w : World) (hL : Laid w) (h : 200 < n) :
    Calls Tryd.prog 5 #[.slice A n cp] w fun e w' => e = .returned (.bool true) ∧ Below w.heap.size w w' := by
  go_enter Tryd.func5, Tryd.ntmps5
  go_wp2_with fail
  refine (alive_any w hL).mono ?_
  rintro e w1 ⟨rfl, hb1⟩
  go_wp2_with fail
  go_ret
  exact ⟨rfl, hb1⟩

def cat (zs : List Int) : List UInt8 := (zs.map fun z => pv z.toNat).flatten
theorem cat_snoc (zs : List Int) (k u : Nat) (hk : k < zs.length) (hz : zs.getD k 0 = (u : Int)) : cat (zs.take (k + 1)) = cat (zs.take k) ++ pv u := by
  have e : zs[k] = (u : Int) := by rw [← hz, List.getD_eq_getElem?_getD, List.getElem?_eq_getElem hk]; rfl
  unfold cat
  rw [List.take_succ_eq_append_getElem hk, List.map_append, List.flatten_append, e]
  simp
theorem cat_cons (zs : List Int) (k u : Nat) (hk : k < zs.length) (hz : zs.getD k 0 = (u : Int)) : cat (zs.drop k) = pv u ++ cat (zs.drop (k + 1)) := by
  have e : zs[k] = (u : Int) := by rw [← hz, List.getD_eq_getElem?_getD, List.getElem?_eq_getElem hk]; rfl
  unfold cat
  rw [List.drop_eq_getElem_cons hk, List.map_cons, List.flatten_cons, e]
  rfl
theorem mem_snoc (zs : List Int) (k u : Nat) (hk : k < zs.length) (hz : zs.getD k 0 = (u : Int)) (h : ∀ z ∈ zs.take k, 0 ≤ z) : ∀ z ∈ zs.take (k + 1), 0 ≤ z := by
  have e : zs[k] = (u : Int) := by rw [← hz, List.getD_eq_getElem?_getD, List.getElem?_eq_getElem hk]; rfl
  intro z hz'
  rw [List.take_succ_eq_append_getElem hk, List.mem_append, List.mem_singleton] at hz'
  rcases hz' with h' | h'
  · exact h z h'
  · rw [h', e]; omega

set_option maxRecDepth 100000 in
set_option maxHeartbeats 1000000 in
theorem rawVars_short (A : Option Addr) (n cp : Nat) (zs : List Int) (w : World) (hL : Laid w) (hI : IntsIn w A n zs) (h : n ≤ 200) :
    Calls Tryd.prog 5 #[.slice A n cp] w fun e w' => e = .returned (.bool true) ∧ Below w.heap.size w w' := by
  have HL := Lib.hid hL
  have HI := Lib.hid hI
  clear hL hI
  go_enter Tryd.func5, Tryd.ntmps5
  go_wp2_with fail
  go_loopw [3, 4] (fun s i wr => ∃ (k : Nat) (b : ByteArray), k ≤ n ∧ i = .int .i64 (k : Int) ∧ s = .string b ∧ b.size ≤ 9 * k ∧ Hid (b.data.toList = cat (zs.take k) ∧ ∀ z ∈ zs.take k, 0 ≤ z) ∧ Below w.heap.size w wr)
    (fun _ i _ => n - (intOf i).toNat)
  case atStart => exact ⟨0, _, by omega, rfl, rfl, Nat.zero_le _, ⟨rfl, by simp⟩, Below.refl _ _⟩
  case round =>
    obtain ⟨k, b, hk, rfl, rfl, hbs, Hb, hbe⟩ := hrel
    by_cases hl : k < n
    · obtain ⟨bb, off, rfl, hlt, hc⟩ := (HI.out.below hbe).some (by omega)
      have hck := hc k hl
      obtain ⟨z, hz⟩ : ∃ z, zs.getD k 0 = z := ⟨_, rfl⟩
      rw [hz] at hck
      clear hc
      by_cases hn : z < 0
      · have L1 := HL.out.on hbe
        go_wp2_with fail
        refine (alive_any wr L1).mono ?_
        rintro e w1 ⟨rfl, hb1⟩
        go_wp2_with fail
        go_ret
        exact ⟨rfl, hbe.trans (hb1.mono hbe.size)⟩
      · have hzw := HI.out.wf z (by rw [← hz, List.getD_eq_getElem?_getD, List.getElem?_eq_getElem (by rw [HI.out.len]; exact hl)]; exact List.getElem_mem _)
        have hzb := bounds_i64 hzw
        obtain ⟨u, rfl⟩ := Int.eq_ofNat_of_zero_le (show 0 ≤ z by omega)
        have hub : u < 9223372036854775808 := by omega
        have Hub := Lib.hid hub
        have Hz := Lib.hid hz
        clear hub hzw hzb hz
        go_wp2_with fail
        refine (putvar_any u wr Hub.out).mono ?_
        obtain ⟨p, hp⟩ : ∃ p : ByteArray, p = ⟨(pv u).toArray⟩ := ⟨_, rfl⟩
        rw [← hp]
        have hps : p.size ≤ 9 := by rw [hp, size_mk]; exact pv_len9 u Hub.out
        have Hp := Lib.hid hp
        clear hp
        rintro e w1 ⟨rfl, hb1⟩
        go_wp2_with fail
        go_roundw
        have hlz : k < zs.length := by rw [HI.out.len]; exact hl
        case rel =>
          refine ⟨k + 1, b ++ p, by omega, by go_num, rfl, by rw [ByteArray.size_append]; omega, ?_, hbe.trans (hb1.mono hbe.size)⟩
          refine ⟨?_, mem_snoc zs k u hlz Hz.out Hb.out.2⟩
          rw [cat_snoc zs k u hlz Hz.out, ← Hb.out.1, Hp.out]
          simp [ByteArray.data_append]
        case measure => simp [intOf]; omega
    · obtain rfl : k = n := by omega
      have hall : ∀ z ∈ zs, 0 ≤ z := by
        have := Hb.out.2
        rwa [List.take_of_length_le (by rw [HI.out.len]; exact Nat.le_refl _)] at this
      have hcat : b.data.toList = cat zs := by
        have := Hb.out.1
        rwa [List.take_of_length_le (by rw [HI.out.len]; exact Nat.le_refl _)] at this
      have Hall := Lib.hid hall
      have Hcat := Lib.hid hcat
      clear hall hcat
      go_wp2_with fail
      go_loopw [3, 5] (fun s i wr => ∃ (j : Nat) (c : ByteArray), j ≤ k ∧ i = .int .i64 (j : Int) ∧ s = .string c ∧ c.size ≤ 1800 ∧ Hid (c.data.toList = cat (zs.drop j)) ∧ Below w.heap.size w wr)
        (fun _ i _ => k - (intOf i).toNat)
      case atStart => exact ⟨0, b, by omega, rfl, rfl, by omega, Hcat, hbe⟩
      case round =>
        obtain ⟨j, c, hj, rfl, rfl, hcs, Hc, hbe2⟩ := hrel
        by_cases hl2 : j < k
        · obtain ⟨bb, off, rfl, hlt, hc⟩ := (HI.out.below hbe2).some (by omega)
          have hlz : j < zs.length := by rw [HI.out.len]; exact hl2
          obtain ⟨u, hu⟩ := Int.eq_ofNat_of_zero_le (Hall.out _ (List.getElem_mem hlz))
          have hz : zs.getD j 0 = (u : Int) := by rw [← hu, List.getD_eq_getElem?_getD, List.getElem?_eq_getElem hlz]; rfl
          have hub : u < 9223372036854775808 := by
            have := bounds_i64 (HI.out.wf _ (List.getElem_mem hlz))
            omega
          have hcc := cat_cons zs j u hlz hz
          have hc9 := pv_len9 u hub
          have hc1 := pv_pos u
          have hgv : gv c.data.toList 0 0 = .ok u (pv u).length := by
            rw [Hc.out, hcc, gv_pv _ u 0 0 (by omega) (fun h => absurd h (by decide))]
            simp
          have hcsz : (pv u).length ≤ c.size := by
            have h1 := congrArg List.length Hc.out
            rw [hcc, List.length_append] at h1
            have h2 : c.data.toList.length = c.size := by simp
            omega
          have hce : (c.extract (pv u).length c.size).data.toList = cat (zs.drop (j + 1)) := by
            rw [Lib.extract_data, Hc.out, hcc, List.drop_left' rfl]
            rw [List.take_of_length_le]
            have h1 := congrArg List.length Hc.out
            rw [hcc, List.length_append] at h1
            have h2 : c.data.toList.length = c.size := by simp
            omega
          have h2' := hc j hl2
          rw [hz] at h2'
          have Hgv := Lib.hid hgv
          have Hce := Lib.hid hce
          clear hc hz hu hgv hce hcc hub
          obtain ⟨q, hq⟩ : ∃ q, q = (pv u).length := ⟨_, rfl⟩
          rw [← hq] at hc9 hc1 hcsz Hgv Hce
          clear hq
          go_wp2_with fail
          refine (getvar_ok c u q wr (by omega) Hgv.out).mono ?_
          rintro e w1 ⟨rfl, hb1⟩
          have h3 := (hb1.cell (p := ⟨bb, off + j, none⟩) hlt).trans h2'
          go_wp2_with fail
          go_roundw
          case rel => exact ⟨j + 1, _, by omega, by go_num, rfl, by simp; omega, Hce, hbe2.trans (hb1.mono hbe2.size)⟩
          case measure => simp [intOf]; omega
        · obtain rfl : j = k := by omega
          have hce : c.toList = [] := by
            rw [Lib.toList_data, Hc.out, List.drop_of_length_le (by rw [HI.out.len]; exact Nat.le_refl _)]
            rfl
          have L1 := HL.out.on hbe2
          go_wp2_with fail
          refine (alive_any wr L1).mono ?_
          rintro e w1 ⟨rfl, hb1⟩
          go_wp2_with fail
          go_ret
          exact ⟨rfl, hbe2.trans (hb1.mono hbe2.size)⟩

theorem lawRawVars (A : Option Addr) (n cp : Nat) (zs : List Int) (w : World) (hI : IntsIn w A n zs) (hL : Laid w) :
    Calls Tryd.prog 5 #[.slice A n cp] w fun e w' => e = .returned (.bool true) ∧ Below w.heap.size w w' := by
  by_cases h : 200 < n
  · exact rawVars_long A n cp w hL h
  · exact rawVars_short A n cp zs w hL hI (by omega)
end Go.Proofs.YtkjfhgaiakienaaDoor
