/-
  The law BlockSeeks, walked.
-/
import Derived.Test.YtmoffcgbjmeiaaaDoorMXBlockBack
import Derived.Test.YtmoffcgbjmeiaaaDoorM2
namespace Go.Proofs.YtmoffcgbjmeiaaaDoor
open Go.RowKit

theorem bless_is : ∀ x y : List UInt8, Op.bytesLess x y = decide (Lib.compareBytes x y < 0)
  | [], [] => by simp [Op.bytesLess, Lib.compareBytes]
  | _ :: _, [] => by simp [Op.bytesLess, Lib.compareBytes]
  | [], _ :: _ => by simp [Op.bytesLess, Lib.compareBytes]
  | a :: x, b :: y => by
    rw [Op.bytesLess, bless_is x y, cmp9_cons]
    by_cases h : a.toNat < b.toNat
    · rw [if_pos h]
      have h2 : a < b := UInt8.lt_iff_toNat_lt.2 h
      simp [h2]
    · rw [if_neg h]
      have h2 : ¬ a < b := fun e => h (UInt8.lt_iff_toNat_lt.1 e)
      by_cases h3 : b.toNat < a.toNat
      · rw [if_pos h3]
        have h4 : ¬ a = b := fun e => by rw [e] at h3; omega
        simp [h2, h4]
      · rw [if_neg h3]
        have h4 : a = b := UInt8.toNat_inj.1 (by omega)
        subst h4
        simp
theorem bless_T (a b : ByteArray) : Op.bytesLess a.toList b.toList = decide (cmpT a b < 0) := by
  rw [Lib.toList_data, Lib.toList_data, bless_is]
  rfl

set_option maxRecDepth 100000 in
set_option maxHeartbeats 8000000 in
theorem lawBlockSeeks (A : Option Addr) (n c : Nat) (L : List KV) (key : ByteArray) (_hkey : key.size ≤ 140737488351232) (w : World) (I : PairsIn w A n L) (hT : LaidB w) :
    Calls Tryd.prog 4 #[.slice A n c, .string key] w fun e w' => e = .returned (.bool true) ∧ Below w.heap.size w w' := by
  have CL := Lib.hid (light_any A n c L w I)
  have CA := fun W (h : LaidB W) => Lib.hid (alive11_any W h)
  have HT := Lib.hid hT
  by_cases hlt : wtK L ≤ 60000
  · rw [decide_eq_true hlt] at CL
    obtain ⟨k1, k2, k3, k4⟩ := light_short hlt
    have HK := Lib.hid I.at_
    have Hlen := Lib.hid I.at_.len
    have Hok := Lib.hid k3
    have Hsz := Lib.hid (longK_ok k1)
    have hn : n ≤ 3000 := by rw [Hlen.out]; exact k4
    have CB := fun W (hb : Below w.heap.size w W) => Lib.hid (build_any A n c L W (I.at_.below hb) k3 (by omega) k1 k2 (hT.on hb))
    obtain ⟨rs, re, hr⟩ : ∃ rs re, buildP L = (rs, re) := ⟨_, _, rfl⟩
    rw [hr] at CB
    have hbl := build_light hlt hr
    have Hr := Lib.hid hr
    clear hr hlt k1 k2 k3 k4 hT I
    go_enter Tryd.func4, Tryd.ntmps4
    go_wp2_with fail
    refine CL.out.mono ?_
    rintro e w1 ⟨rfl, hb1⟩
    have HB1 := Lib.hid hb1
    have CB1 := CB w1 hb1
    clear hb1 CB CL
    go_wp2_with fail
    refine CB1.out.mono ?_
    rintro e w2 ⟨rfl, hb2⟩
    have HB2 := Lib.hid (HB1.out.trans (hb2.mono HB1.out.size))
    clear hb2 CB1
    dsimp only
    rcases hbl with ⟨rfl, z1, z2⟩ | ⟨rfl, rfl⟩
    · have Hri := Lib.hid (buildP_ok Hr.out).1
      have CSk : ∀ x W, LaidB W → Hid (Calls Tryd.prog 12 #[.string rs, .string x] W fun e w' => e = .returned (.tuple #[.string (seekL L x).1, .string (seekL L x).2.1, .int .i64 (seekL L x).2.2]) ∧ Below W.heap.size W w') := fun x W h => Lib.hid (by
        have := seek_any rs x W (by omega) h
        rw [show seekP rs x = seekL L x by unfold seekP; rw [parse_build Hr.out]; rfl] at this
        exact this)
      clear Hr
      go_wp2_with fail
      go_loopw [7] (fun i wr => ∃ k : Nat, k ≤ n ∧ i = .int .i64 (k : Int) ∧ Hid (Below w.heap.size w wr)) (fun i _ => n - (intOf i).toNat)
      case atStart => exact ⟨0, by omega, rfl, HB2⟩
      case round =>
        obtain ⟨k, hk, rfl, HB⟩ := hrel
        by_cases hkn : k < n
        · have k1 : (k : Int) < (n : Int) := by omega
          have k0 : (0 : Int) ≤ (k : Int) := by omega
          by_cases h100 : k < 100
          · have k2 : (k : Int) < 100 := by omega
            have hkL : k < L.length := by have := Hlen.out; omega
            have hm : L[k]? = some L[k] := List.getElem?_eq_getElem hkL
            have om := Hsz.out L[k] (List.getElem_mem hkL)
            generalize L[k] = mm at *
            obtain ⟨mk, mv⟩ := mm
            dsimp only at om
            obtain ⟨g, off, hA, hg, x0, x1⟩ := (HK.out.below HB.out).at_ k _ hm
            obtain ⟨zz, hz⟩ : ∃ zz, mk ++ ⟨#[0]⟩ = zz := ⟨_, rfl⟩
            have CC := fun W => cat_is (P := Tryd.prog) mk ⟨#[0]⟩ zz hz (by show mk.size + 1 ≤ _; omega) W
            have hzl : bl zz = bl mk ++ [0] := by rw [← hz]; exact cat_list _ _
            obtain ⟨s1, s2, s3⟩ := seeks_at Hri.out hm hzl
            dsimp only at s1 x0 x1
            have C1 := CSk mk wr (HT.out.on HB.out)
            rw [s1] at C1
            have HTo := HT.out
            by_cases hk2 : k + 1 < n
            · have hkL2 : k + 1 < L.length := by have := Hlen.out; omega
              have hm2 : L[k + 1]? = some L[k + 1] := List.getElem?_eq_getElem hkL2
              have s4 := s2 _ hm2
              generalize L[k + 1] = pp at *
              obtain ⟨pk, pv⟩ := pp
              obtain ⟨g', off', hA', hg', y0, y1⟩ := (HK.out.below HB.out).at_ (k + 1) _ hm2
              subst hA
              cases hA'
              dsimp only at s4 y0 y1
              have C2 := fun W h => CSk zz W h
              rw [s4] at C2
              have HBx := fun W (hb : Below wr.heap.size wr W) => Lib.hid (HB.out.trans (hb.mono HB.out.size))
              have n1 : (k : Int) + 1 < (n : Int) := by omega
              have n2 : ((k : Int) + 1 == (n : Int)) = false := by rw [beq_eq_false_iff_ne]; omega
              have n3 : (0 : Int) ≤ (k : Int) + 1 := by omega
              clear s1 s2 s3 s4 hm hm2 hkL hkL2 hz hzl
              go_wp2_with fail
              refine C1.out.mono ?_
              rintro e w3 ⟨rfl, hb3⟩
              have HB3 := HBx w3 hb3
              have X0 := (hb3.cell (p := ⟨g, off + k * 2, none⟩) hg).trans x0
              have X1 := (hb3.cell (p := ⟨g, off + k * 2 + 1, none⟩) hg).trans x1
              have Y0 := (hb3.cell (p := ⟨g, off + (k + 1) * 2, none⟩) hg).trans y0
              have Y1 := (hb3.cell (p := ⟨g, off + (k + 1) * 2 + 1, none⟩) hg).trans y1
              have C3 := C2 w3 (HTo.on HB3.out)
              clear C1 C2 x0 x1 y0 y1
              go_wp2_with fail
              refine C3.out.mono ?_
              rintro e w5 ⟨rfl, hb5⟩
              have hg3 : g < w3.heap.size := Nat.lt_of_lt_of_le hg hb3.size
              have HB5 := HBx w5 (hb3.trans (hb5.mono hb3.size))
              have Z0 := (hb5.cell (p := ⟨g, off + k * 2, none⟩) hg3).trans X0
              have Z1 := (hb5.cell (p := ⟨g, off + k * 2 + 1, none⟩) hg3).trans X1
              have V0 := (hb5.cell (p := ⟨g, off + (k + 1) * 2, none⟩) hg3).trans Y0
              have V1 := (hb5.cell (p := ⟨g, off + (k + 1) * 2 + 1, none⟩) hg3).trans Y1
              clear C3 X0 X1 Y0 Y1 hb5 hb3
              go_wp2_with fail
              go_roundw
              case rel => exact ⟨k + 1, by omega, by go_num, HB5⟩
              case measure => simp [intOf]; omega
            · have hkk : L.length = k + 1 := by have := Hlen.out; omega
              have s4 := s3 hkk
              subst hA
              have C2 := fun W h => CSk zz W h
              rw [s4] at C2
              have HBx := fun W (hb : Below wr.heap.size wr W) => Lib.hid (HB.out.trans (hb.mono HB.out.size))
              have n1 : ¬ (k : Int) + 1 < (n : Int) := by omega
              have n4 : decide ((k : Int) + 1 < (n : Int)) = false := decide_eq_false n1
              have n2 : ((k : Int) + 1 == (n : Int)) = true := by rw [beq_iff_eq]; omega
              clear s1 s2 s3 s4 hm hkL hz hzl hkk
              go_wp2_with fail
              refine C1.out.mono ?_
              rintro e w3 ⟨rfl, hb3⟩
              have HB3 := HBx w3 hb3
              have X0 := (hb3.cell (p := ⟨g, off + k * 2, none⟩) hg).trans x0
              have X1 := (hb3.cell (p := ⟨g, off + k * 2 + 1, none⟩) hg).trans x1
              have C3 := C2 w3 (HTo.on HB3.out)
              clear C1 C2 x0 x1
              go_wp2_with fail
              refine C3.out.mono ?_
              rintro e w5 ⟨rfl, hb5⟩
              have hg3 : g < w3.heap.size := Nat.lt_of_lt_of_le hg hb3.size
              have HB5 := HBx w5 (hb3.trans (hb5.mono hb3.size))
              have Z0 := (hb5.cell (p := ⟨g, off + k * 2, none⟩) hg3).trans X0
              have Z1 := (hb5.cell (p := ⟨g, off + k * 2 + 1, none⟩) hg3).trans X1
              clear C3 X0 X1 hb5 hb3
              go_wp2_with fail
              go_roundw
              case rel => exact ⟨k + 1, by omega, by go_num, HB5⟩
              case measure => simp [intOf]; omega
          · have k2 : ¬ (k : Int) < 100 := by omega
            have k3 : decide ((k : Int) < 100) = false := decide_eq_false k2
            obtain ⟨sa, sb, se, hse⟩ : ∃ sa sb se, seekL L key = (sa, sb, se) := ⟨_, _, _, rfl⟩
            have hcs := seek_cases L key
            have C1 := CSk key wr (HT.out.on HB.out)
            rw [hse] at C1
            dsimp only at C1
            rcases hcs with ⟨i, a, ha, hs, hge⟩ | ⟨hs, hall⟩
            · rw [hse] at hs
              obtain ⟨rfl, rfl, rfl⟩ : sa = a.1 ∧ sb = a.2 ∧ se = 0 := by simpa using hs
              have hc : Op.bytesLess a.1.toList key.toList = false := by rw [bless_T]; exact decide_eq_false (by omega)
              obtain ⟨ak, av⟩ := a
              dsimp only at C1 hc
              clear hs hse ha hge
              go_wp2_with fail
              refine C1.out.mono ?_
              rintro e w3 ⟨rfl, hb3⟩
              have HB3 := Lib.hid (HB.out.trans (hb3.mono HB.out.size))
              have CA3 := CA w3 (HT.out.on HB3.out)
              clear hb3 C1
              go_wp2_with fail
              refine CA3.out.mono ?_
              rintro e w4 ⟨rfl, hb4⟩
              have HB4 := Lib.hid (HB3.out.trans (hb4.mono HB3.out.size))
              clear hb4
              go_wp2_with fail
              go_ret
              exact ⟨rfl, HB4.out⟩
            · rw [hse] at hs
              obtain ⟨rfl, rfl, rfl⟩ : sa = ByteArray.empty ∧ sb = ByteArray.empty ∧ se = 22 := by simpa using hs
              clear hs hse
              by_cases hn0 : n = 0
              · exact absurd hn0 (by omega)
              · have e0 : ((n : Int) == 0) = false := by rw [beq_eq_false_iff_ne]; omega
                obtain ⟨m, hmn⟩ : ∃ m, n = m + 1 := ⟨n - 1, by omega⟩
                have hmL : m < L.length := by have := Hlen.out; omega
                have hm : L[m]? = some L[m] := List.getElem?_eq_getElem hmL
                have hlast := hall L[m] (List.getElem_mem hmL)
                generalize L[m] = mm at *
                obtain ⟨mk, mv⟩ := mm
                dsimp only at hlast
                have hc : Op.bytesLess mk.toList key.toList = true := by rw [bless_T]; exact decide_eq_true hlast
                have p1 : (m : Int) < (n : Int) := by omega
                have p0 : (0 : Int) ≤ (m : Int) := by omega
                have p2 : wrap64 ((n : Int) - 1) = (m : Int) := by unfold wrap64; omega
                have p3 : IntKind.i64.wrap ((n : Int) - 1) = (m : Int) := by rw [IntKind.wrap_i64]; omega
                have p4 : (n : Int) - 1 = (m : Int) := by omega
                obtain ⟨g, off, hA, hg, x0, x1⟩ := HK.out.at_ m _ hm
                subst hA
                dsimp only at x0 x1
                clear hall hm hmL hlast hmn
                go_wp2_with fail
                refine C1.out.mono ?_
                rintro e w3 ⟨rfl, hb3⟩
                have HB3 := Lib.hid (HB.out.trans (hb3.mono HB.out.size))
                have CA3 := CA w3 (HT.out.on HB3.out)
                clear hb3 C1
                go_wp2_with fail
                refine CA3.out.mono ?_
                rintro e w4 ⟨rfl, hb4⟩
                have HB4 := Lib.hid (HB3.out.trans (hb4.mono HB3.out.size))
                have X0 := (HB4.out.cell (p := ⟨g, off + m * 2, none⟩) hg).trans x0
                clear hb4 x0 x1
                go_wp2_with fail
                go_ret
                exact ⟨rfl, HB4.out⟩
        · have k2 : ¬ (k : Int) < (n : Int) := by omega
          have k3 : decide ((k : Int) < (n : Int)) = false := decide_eq_false k2
          obtain ⟨sa, sb, se, hse⟩ : ∃ sa sb se, seekL L key = (sa, sb, se) := ⟨_, _, _, rfl⟩
          have hcs := seek_cases L key
          have C1 := CSk key wr (HT.out.on HB.out)
          rw [hse] at C1
          dsimp only at C1
          rcases hcs with ⟨i, a, ha, hs, hge⟩ | ⟨hs, hall⟩
          · rw [hse] at hs
            obtain ⟨rfl, rfl, rfl⟩ : sa = a.1 ∧ sb = a.2 ∧ se = 0 := by simpa using hs
            have hc : Op.bytesLess a.1.toList key.toList = false := by rw [bless_T]; exact decide_eq_false (by omega)
            obtain ⟨ak, av⟩ := a
            dsimp only at C1 hc
            clear hs hse ha hge
            go_wp2_with fail
            refine C1.out.mono ?_
            rintro e w3 ⟨rfl, hb3⟩
            have HB3 := Lib.hid (HB.out.trans (hb3.mono HB.out.size))
            have CA3 := CA w3 (HT.out.on HB3.out)
            clear hb3 C1
            go_wp2_with fail
            refine CA3.out.mono ?_
            rintro e w4 ⟨rfl, hb4⟩
            have HB4 := Lib.hid (HB3.out.trans (hb4.mono HB3.out.size))
            clear hb4
            go_wp2_with fail
            go_ret
            exact ⟨rfl, HB4.out⟩
          · rw [hse] at hs
            obtain ⟨rfl, rfl, rfl⟩ : sa = ByteArray.empty ∧ sb = ByteArray.empty ∧ se = 22 := by simpa using hs
            clear hs hse
            by_cases hn0 : n = 0
            · have e0 : ((n : Int) == 0) = true := by rw [beq_iff_eq]; omega
              clear hall
              go_wp2_with fail
              refine C1.out.mono ?_
              rintro e w3 ⟨rfl, hb3⟩
              have HB3 := Lib.hid (HB.out.trans (hb3.mono HB.out.size))
              have CA3 := CA w3 (HT.out.on HB3.out)
              clear hb3 C1
              go_wp2_with fail
              refine CA3.out.mono ?_
              rintro e w4 ⟨rfl, hb4⟩
              have HB4 := Lib.hid (HB3.out.trans (hb4.mono HB3.out.size))
              clear hb4
              go_wp2_with fail
              go_ret
              exact ⟨rfl, HB4.out⟩
            · have e0 : ((n : Int) == 0) = false := by rw [beq_eq_false_iff_ne]; omega
              obtain ⟨m, hmn⟩ : ∃ m, n = m + 1 := ⟨n - 1, by omega⟩
              have hmL : m < L.length := by have := Hlen.out; omega
              have hm : L[m]? = some L[m] := List.getElem?_eq_getElem hmL
              have hlast := hall L[m] (List.getElem_mem hmL)
              generalize L[m] = mm at *
              obtain ⟨mk, mv⟩ := mm
              dsimp only at hlast
              have hc : Op.bytesLess mk.toList key.toList = true := by rw [bless_T]; exact decide_eq_true hlast
              have p1 : (m : Int) < (n : Int) := by omega
              have p0 : (0 : Int) ≤ (m : Int) := by omega
              have p2 : wrap64 ((n : Int) - 1) = (m : Int) := by unfold wrap64; omega
              have p3 : IntKind.i64.wrap ((n : Int) - 1) = (m : Int) := by rw [IntKind.wrap_i64]; omega
              have p4 : (n : Int) - 1 = (m : Int) := by omega
              obtain ⟨g, off, hA, hg, x0, x1⟩ := HK.out.at_ m _ hm
              subst hA
              dsimp only at x0 x1
              clear hall hm hmL hlast hmn
              go_wp2_with fail
              refine C1.out.mono ?_
              rintro e w3 ⟨rfl, hb3⟩
              have HB3 := Lib.hid (HB.out.trans (hb3.mono HB.out.size))
              have CA3 := CA w3 (HT.out.on HB3.out)
              clear hb3 C1
              go_wp2_with fail
              refine CA3.out.mono ?_
              rintro e w4 ⟨rfl, hb4⟩
              have HB4 := Lib.hid (HB3.out.trans (hb4.mono HB3.out.size))
              have X0 := (HB4.out.cell (p := ⟨g, off + m * 2, none⟩) hg).trans x0
              clear hb4 x0 x1
              go_wp2_with fail
              go_ret
              exact ⟨rfl, HB4.out⟩
    · have CA2 := CA w2 (HT.out.on HB2.out)
      clear CA Hr
      go_wp2_with fail
      refine CA2.out.mono ?_
      rintro e w3 ⟨rfl, hb3⟩
      have HB3 := Lib.hid (HB2.out.trans (hb3.mono HB2.out.size))
      clear hb3
      go_wp2_with fail
      go_ret
      exact ⟨rfl, HB3.out⟩
  · rw [decide_eq_false hlt] at CL
    clear hlt hT I
    go_enter Tryd.func4, Tryd.ntmps4
    go_wp2_with fail
    refine CL.out.mono ?_
    rintro e w1 ⟨rfl, hb1⟩
    have HB1 := Lib.hid hb1
    have CA1 := CA w1 (HT.out.on hb1)
    clear hb1 CA
    go_wp2_with fail
    refine CA1.out.mono ?_
    rintro e w2 ⟨rfl, hb2⟩
    have HB2 := Lib.hid (HB1.out.trans (hb2.mono HB1.out.size))
    clear hb2
    go_wp2_with fail
    go_ret
    exact ⟨rfl, HB2.out⟩
end Go.Proofs.YtmoffcgbjmeiaaaDoor
