/-
  SkipFound: each key that was put is found with its first value, and ahead of it the next lesser one.
-/
import Derived.Test.YtpkoiacenamccaaSp13
import Derived.Test.YtpkoiacenamccaaSpF
import Derived.Test.YtpkoiacenamccaaView
import Derived.LoopTactic
import Derived.BigQuiet
import Derived.Deep.RegionWith
import Derived.BigRegion
import Derived.Test.YtpkoiacenamccaaWq
namespace Go.Proofs.Ytpkoiacenamccaa
open Go.RowKit

set_option maxRecDepth 100000 in
set_option maxHeartbeats 2000000 in
theorem skipfound_long (A : Option Addr) (n c : Nat) (A' : Option Addr) (n' c' : Nat) (w : World) (h : 120 < n ∨ n' = 0) :
    Calls Try.prog 5 #[.slice A n c, .slice A' n' c'] w fun e w' => e = .returned (.bool true) ∧ Below w.heap.size w w' := by
  have HA := Lib.hid (alive10_any w)
  by_cases h1 : 120 < n
  · have g1 : (120 : Int) < (n : Int) := by omega
    clear h
    go_enter Try.func5, Try.ntmps5
    go_wp2_with fail
    refine HA.out.mono ?_
    rintro e w1 ⟨rfl, g⟩
    have G := Lib.hid g
    clear g
    go_wp2_with fail
    go_ret
    exact ⟨rfl, below_g G.out⟩
  · have g1 : ¬ (120 : Int) < (n : Int) := by omega
    obtain rfl : n' = 0 := by omega
    clear h
    go_enter Try.func5, Try.ntmps5
    go_wp2_with fail
    refine HA.out.mono ?_
    rintro e w1 ⟨rfl, g⟩
    have G := Lib.hid g
    clear g
    go_wp2_with fail
    go_ret
    exact ⟨rfl, below_g G.out⟩

theorem vb_at (W : World) (k : Nat) (hk : k < 256) : (convert 42 9 (.slice (some ⟨W.heap.size, 0, none⟩) 1 1)).run Try.prog ((W.alloc (.cells #[.int .u8 (k : Int)] 5)).drew) = .ok (.string (vb k)) ((W.alloc (.cells #[.int .u8 (k : Int)] 5)).drew) := by
  have h := run_convert_bytes_back (P := Try.prog) ((W.alloc (.cells #[.int .u8 (k : Int)] 5)).drew) 42 9 5 ⟨W.heap.size, 0, none⟩ 1 [UInt8.ofNat k] Try.underlying42 Try.underlying5 Try.underlying9 (fun j hj => by
    obtain rfl : j = 0 := by simpa using hj
    rw [Addr.add_lit]
    have : ((UInt8.ofNat k).toNat : Int) = (k : Int) := by
      rw [UInt8.toNat_ofNat', Nat.mod_eq_of_lt hk]
    show (W.alloc (.cells #[.int .u8 (k : Int)] 5)).cell? ⟨W.heap.size, 0 + 0, none⟩ = some (.int .u8 ((UInt8.ofNat k).toNat : Int))
    rw [this]
    exact (Blk.new W 5 #[.int .u8 (k : Int)]).cell 0)
  exact h

set_option maxRecDepth 100000 in
set_option maxHeartbeats 8000000 in
theorem skipfound_some (A : Option Addr) (n c : Nat) (ss : List ByteArray) (A' : Option Addr) (n' c' : Nat) (zs : List Int) (w : World) (I : StrsIn w A n ss) (I' : IntsIn w A' n' zs) (hn : n ≤ 120) (hn' : 0 < n') (hm : n' ≤ 17592186043904) :
    Calls Try.prog 5 #[.slice A n c, .slice A' n' c'] w fun e w' => e = .returned (.bool true) ∧ Below w.heap.size w w' := by
  have g1 : ¬ (120 : Int) < (n : Int) := by omega
  have g2 : ((n' : Int) == 0) = false := beq_eq_false_iff_ne.2 (by omega)
  have g2m : ¬ n' = 0 := by omega
  have HI := Lib.hid I
  have HA := fun W => Lib.hid (alive10_any W)
  have C0 := Lib.hid (sknew_any w)
  have Hn := Lib.hid hn
  have Hm := Lib.hid hm
  obtain ⟨b', off', rfl, hlt', hc'⟩ := I'.some hn'
  have HC' := Lib.hid hc'
  clear I hn hc' I' hlt' hm
  go_enter Try.func5, Try.ntmps5
  go_wp2_with fail
  refine C0.out.mono ?_
  rintro e w1 ⟨rfl, rfl⟩
  have Z0 := Lib.hid (skz_new (B := w.heap.size) (Blk.new w 54 newC) (Nat.le_refl _))
  have G0 := Lib.hid (World.grownBy_alloc w (.cells newC 54) none)
  have V0 := Lib.hid (InvV.zero fun j => ss.getD j ByteArray.empty)
  generalize w.alloc (.cells newC 54) = w1 at *
  generalize hp : w.heap.size = p at *
  have Hp := Lib.hid hp
  clear hp C0
  go_wp2_with fail
  go_loopw [6] (fun i wr => ∃ (k : Nat) (s : S10) (Z : List Z10), k ≤ n ∧ i = .int .i64 (k : Int) ∧ Hid (InvV (fun j => ss.getD j ByteArray.empty) k s) ∧ Hid (SkZ p p wr s Z) ∧ Hid (w.grownBy wr none)) (fun i _ => n - (intOf i).toNat)
  case atStart => exact ⟨0, _, _, by omega, rfl, V0, Z0, G0⟩
  case round =>
    obtain ⟨k, s, Z, hk, rfl, V, HZ, HG⟩ := hrel
    clear V0 Z0 G0
    by_cases hl : k < n
    · obtain ⟨b, off, rfl, hlt, hc⟩ := HI.out.some (by omega)
      have hkm : k % n' < n' := Nat.mod_lt _ hn'
      have x0 := hc k hl
      have X0 : wr.cell? ⟨b, off + k, none⟩ = some (.string (ss.getD k ByteArray.empty)) := HG.out.cell x0 (by simp)
      have X1 : wr.cell? ⟨b', off' + k % n', none⟩ = some (.int .i64 (zs.getD (k % n') 0)) := HG.out.cell (HC'.out _ hkm) (by simp)
      have g3 : (k : Int) < (n : Int) := by omega
      have g4 : (0 : Int) ≤ (k : Int) := by omega
      have em : (k : Int).tmod (n' : Int) = ((k % n' : Nat) : Int) := (Int.ofNat_tmod k n').symm
      have g6 : ((k % n' : Nat) : Int) < (n' : Int) := by omega
      have g8 : (0 : Int) ≤ ((k % n' : Nat) : Int) := by omega
      have HV := Lib.hid (fun t (hs : (ss.getD k ByteArray.empty).size ≤ 65536) => V.out.put HZ.out.rise t hs)
      have x1 := HC'.out _ hkm
      generalize ss.getD k ByteArray.empty = y at *
      generalize zs.getD (k % n') 0 = z at *
      generalize k % n' = km at *
      clear hc
      by_cases hs : 500 < y.size
      · have g5 : (500 : Int) < (y.size : Int) := by omega
        clear hs
        go_wp2_with fail
        refine (HA wr).out.mono ?_
        rintro e w2 ⟨rfl, g⟩
        have G := Lib.hid (gnone HG.out g)
        clear g
        go_wp2_with fail
        go_ret
        exact ⟨rfl, below_g G.out⟩
      · have g5 : ¬ (500 : Int) < (y.size : Int) := by omega
        have CP := fun W (hW : wr.grownBy W none) => Lib.hid ((skput_any (HZ.out.up hW) y (vb k) z (by rw [← Hp.out]; exact (gnone HG.out hW).size) (by have := V.out.len; have := Hn.out; omega)).mono (R' := fun e w' => e = .returned (.int .i64 (putL s y (vb k) z).1) ∧ ∃ Z', SkZ p p w' (putL s y (vb k) z).2 Z' ∧ w.grownBy w' none) (fun e w' h => by
          obtain ⟨h0, Z', h1, h2, _⟩ := h
          exact ⟨h0, Z', h1, tu_new (gnone HG.out hW) h2 (fun q hq => by rw [Hp.out]; exact (HZ.out.foot_lt hq).1)⟩))
        have hg0 := only_drew (grefl wr none)
        have hw8 : IntKind.u8.wrap (k : Int) = (k : Int) := by
          have := Hn.out
          rw [IntKind.wrap_u8]
          omega
        have cv := vb_at wr k (by have := Hn.out; omega)
        have ga : wr.grownBy (wr.alloc (.cells #[.int .u8 (k : Int)] 5)).drew none := only_drew (World.grownBy_alloc wr (.cells #[.int .u8 (k : Int)] 5) none)
        have c0 : wr.drew.cell? ⟨b, off + k, none⟩ = some (.string y) := X0
        have c1 : wr.drew.cell? ⟨b', off' + km, none⟩ = some (.int .i64 z) := X1
        have e0 : (wr.alloc (.cells #[.int .u8 (k : Int)] 5)).drew.cell? ⟨b, off + k, none⟩ = some (.string y) := ga.cell X0 (by simp)
        have e1 : (wr.alloc (.cells #[.int .u8 (k : Int)] 5)).drew.cell? ⟨b', off' + km, none⟩ = some (.int .i64 z) := ga.cell X1 (by simp)
        go_upto_region 9 with fail
        go_region_with (go_at_call 12; refine (CP _ ga).out.mono ?_; rintro e w2 ⟨rfl, Z2, h1, h2⟩)
        all_goals
          have HG2 := Lib.hid h2
          have HV2 := Lib.hid (HV.out z (by omega))
          have HZ2 := Lib.hid h1
          clear h1 h2 HZ HG V HV CP X0 X1 hs c0 c1 e0 e1 cv ga hw8 x0 x1
          go_wp2_with fail
          go_roundw
          case rel => exact ⟨k + 1, _, Z2, by omega, by go_num, HV2, HZ2, HG2⟩
          case measure => simp [intOf]; omega
    · obtain rfl : k = n := by omega
      have hlen := V.out.len
      have hsn := Hn.out
      have HL := Lib.hid (show s.L.length ≤ 100000 by omega)
      clear hl hlen
      go_wp2_with fail
      go_loopw [7, 8, 9, 10, 11, 12, 13, 14, 15, 16] (fun s7 _ _ _ _ _ _ _ _ _ wi => ∃ i : Nat, i ≤ k ∧ s7 = .int .i64 (i : Int) ∧ Hid (SkZ p p wi s Z) ∧ Hid (w.grownBy wi none)) (fun s7 _ _ _ _ _ _ _ _ _ _ => k - (intOf s7).toNat)
      case atStart => exact ⟨0, by omega, rfl, HZ, HG⟩
      case round =>
        clear HZ HG
        obtain ⟨i, hi, rfl, HZ, HG⟩ := hrel
        by_cases hl : i < k
        · obtain ⟨b, off, rfl, hlt, hc⟩ := HI.out.some (by omega)
          have HIc := Lib.hid hc
          have g3 : (i : Int) < (k : Int) := by omega
          have g4 : (0 : Int) ≤ (i : Int) := by omega
          clear hc hlt
          go_wp2_with fail
          obtain ⟨wi, hwi⟩ : ∃ wi, wi = wr := ⟨_, rfl⟩
          rw [← hwi] at HZ HG
          have HJ0 : Hid (wi.grownBy wr none) := by rw [hwi]; exact grefl _ _
          clear hwi
          go_loopw [8, 9] (fun s8 _ wz => ∃ q : Nat, q ≤ i ∧ s8 = .int .i64 (q : Int) ∧ Hid (ss.getD q ByteArray.empty = ss.getD i ByteArray.empty) ∧ Hid (wi.grownBy wz none)) (fun s8 _ _ => (intOf s8).toNat)
          case atStart => exact ⟨i, Nat.le_refl _, rfl, rfl, HJ0⟩
          case round =>
            clear HJ0
            obtain ⟨q, hqi, rfl, HQ, HJ⟩ := hrel
            by_cases hq0 : q = 0
            · have g5 : ¬ (0 : Int) < (q : Int) := by omega
              have g5n : ¬ 0 < q := by omega
              have g5d : decide (0 < q) = false := decide_eq_false g5n
              have hmin : ∀ j, j < q → ss.getD j ByteArray.empty ≠ ss.getD i ByteArray.empty := fun j hj => by omega
              clear hq0
              have HZ1 := Lib.hid (HZ.out.up HJ.out)
              have HG1 := Lib.hid (gnone HG.out HJ.out)
              obtain ⟨fg, ff, la, lv, lok, fl, fl1, fl2⟩ := found_any V.out HZ1.out.rise hl HQ.out hmin
              have CG := skget_any HZ1.out (ss.getD i ByteArray.empty) HL.out
              rw [fg] at CG
              have x0 := HIc.out i hl
              have HCG := Lib.hid CG
              have FF := Lib.hid ff
              have FL := Lib.hid (And.intro fl (And.intro fl1 fl2))
              have X0 : wr.cell? ⟨b, off + i, none⟩ = some (.string (ss.getD i ByteArray.empty)) := HG1.out.cell x0 (by simp)
              clear CG fg ff fl fl1 fl2 hmin HZ HG HJ
              obtain ⟨y, hy⟩ : ∃ y, ss.getD i ByteArray.empty = y := ⟨_, rfl⟩
              have HYy := Lib.hid hy
              rw [hy] at HCG x0 X0 FF FL HQ
              clear hy
              go_wp2_with fail
              refine HCG.out.mono ?_
              rintro e w4 ⟨rfl, g⟩
              have X1 : w4.cell? ⟨b, off + i, none⟩ = some (.string y) := g.cell X0 (by simp)
              have HZ4 := Lib.hid (HZ1.out.up g)
              have HG4 := Lib.hid (gnone HG1.out g)
              have CF := skfrom_any HZ4.out y 1 HL.out
              rw [FF.out] at CF
              have HCF := Lib.hid CF
              clear g CF HCG HZ1 HG1 X0 FF
              go_wp2_with fail
              refine HCF.out.mono ?_
              rintro e w5 ⟨v, rfl, hv, g⟩
              obtain ⟨gl, cl, cul, rfl, _, _⟩ := Own.some_ hv (by simp)
              have y0 := Own.cells (j := 0) hv (show [(y, vb q)][0]? = some (y, vb q) from rfl) (by decide) rfl
              have y1 := Own.cells (j := 1) hv (show [(y, vb q)][0]? = some (y, vb q) from rfl) (by decide) rfl
              have X2 : w5.cell? ⟨b, off + i, none⟩ = some (.string y) := g.cell X1 (by simp)
              have HZ5 := Lib.hid (HZ4.out.up g)
              have HG5 := Lib.hid (gnone HG4.out g)
              rw [show 0 * elKeys.sz + 0 = 0 from rfl] at y0
              rw [show 0 * elKeys.sz + 1 = 1 from rfl] at y1
              clear hv g HCF X1 HZ4 HG4
              have hq256 : q < 256 := by have := Hn.out; omega
              have hw8 : IntKind.u8.wrap (q : Int) = (q : Int) := by
                rw [IntKind.wrap_u8]
                omega
              have cv := vb_at w5 q hq256
              generalize vb q = vq at *
              have ga : w5.grownBy (w5.alloc (.cells #[.int .u8 (q : Int)] 5)).drew none := only_drew (World.grownBy_alloc w5 (.cells #[.int .u8 (q : Int)] 5) none)
              have c0 : w5.drew.cell? ⟨b, off + i, none⟩ = some (.string y) := X2
              have c1 : w5.drew.cell? ⟨gl, 0, none⟩ = some (.string y) := y0
              have c2 : w5.drew.cell? ⟨gl, 1, none⟩ = some (.string vq) := y1
              have e0 : (w5.alloc (.cells #[.int .u8 (q : Int)] 5)).drew.cell? ⟨b, off + i, none⟩ = some (.string y) := ga.cell X2 (by simp)
              have e1 : (w5.alloc (.cells #[.int .u8 (q : Int)] 5)).drew.cell? ⟨gl, 0, none⟩ = some (.string y) := ga.cell y0 (by simp)
              have e2 : (w5.alloc (.cells #[.int .u8 (q : Int)] 5)).drew.cell? ⟨gl, 1, none⟩ = some (.string vq) := ga.cell y1 (by simp)
              have t1 : (y.toList == y.toList) = true := by rw [teq9]; exact decide_eq_true rfl
              have t2 : (vq.toList == vq.toList) = true := by rw [teq9]; exact decide_eq_true rfl
              go_wp2_with fail
              go_region
              all_goals
                have HG6 := Lib.hid (gnone HG5.out ga)
                have HZ6 := Lib.hid (HZ5.out.up ga)
                have CL := sklast_any HZ6.out y HL.out
                rw [FL.out.1] at CL
                have HCL := Lib.hid CL
                have X3 := e0
                generalize (w5.alloc (.cells #[.int .u8 (q : Int)] 5)).drew = w6 at *
                clear CL c0 c1 c2 e0 e1 e2 cv ga hw8 hq256 y0 y1 X2 HG5 HZ5
                go_wp2_with fail
                refine HCL.out.mono ?_
                rintro e w7 ⟨rfl, g⟩
                have X4 := g.cell X3 (by simp)
                have HZ7 := Lib.hid (HZ6.out.up g)
                have HG7 := Lib.hid (gnone HG6.out g)
                clear g HCL X3 HZ6 HG6 t1 t2
                go_wp2_with fail
                go_loopw [16] (fun s16 wy => ∃ j : Nat, j ≤ k ∧ s16 = .int .i64 (j : Int) ∧ Hid (w7.grownBy wy none)) (fun s16 _ => k - (intOf s16).toNat)
                case atStart => exact ⟨0, by omega, rfl, grefl _ _⟩
                case round =>
                  obtain ⟨j, hj, rfl, HW⟩ := hrel
                  have Xi : wr.cell? ⟨b, off + i, none⟩ = some (.string y) := HW.out.cell X4 (by simp)
                  by_cases hlj : j < k
                  · have Xj : wr.cell? ⟨b, off + j, none⟩ = some (.string (ss.getD j ByteArray.empty)) := (gnone HG7.out HW.out).cell (HIc.out j hlj) (by simp)
                    have hfl := FL.out.2.1 j hlj
                    have j3 : (j : Int) < (k : Int) := by omega
                    have j4 : (0 : Int) ≤ (j : Int) := by omega
                    generalize ss.getD j ByteArray.empty = fj at *
                    by_cases hc : cmpT fj y < 0
                    · obtain ⟨hok, hnl⟩ := hfl hc
                      have t3 : Op.bytesLess fj.toList y.toList = true := by rw [sl_text]; exact decide_eq_true hc
                      have t4 : Op.bytesLess la.toList fj.toList = false := by rw [sl_text]; exact decide_eq_false (by omega)
                      subst hok
                      clear hc hnl hfl
                      go_wp2_with fail
                      go_quiet (fail)
                      go_wp2_with fail
                      go_roundw
                      case rel => exact ⟨j + 1, by omega, by go_num, only_drewN HW.out _⟩
                      case measure => simp [intOf]; omega
                    · have t3 : Op.bytesLess fj.toList y.toList = false := by rw [sl_text]; exact decide_eq_false hc
                      clear hc hfl
                      go_wp2_with fail
                      go_quiet (fail)
                      go_wp2_with fail
                      go_roundw
                      case rel => exact ⟨j + 1, by omega, by go_num, only_drewN HW.out _⟩
                      case measure => simp [intOf]; omega
                  · obtain rfl : j = k := by omega
                    have HG8 := Lib.hid (gnone HG7.out HW.out)
                    have HZ8 := Lib.hid (HZ7.out.up HW.out)
                    have fl2 := FL.out.2.2
                    cases lok with
                    | false =>
                      clear hlj fl2
                      go_wp2_with fail
                      go_roundw
                      case rel => exact ⟨i + 1, by omega, by go_num, HZ8, HG8⟩
                      case measure => simp [intOf]; omega
                    | true =>
                      have t5 : Op.bytesLess la.toList y.toList = true := by rw [sl_text]; exact decide_eq_true (fl2 rfl)
                      clear hlj fl2
                      go_wp2_with fail
                      go_roundw
                      case rel => exact ⟨i + 1, by omega, by go_num, HZ8, HG8⟩
                      case measure => simp [intOf]; omega
            · have g5 : (0 : Int) < (q : Int) := by omega
              have g5n : 0 < q := by omega
              have g5d : decide (0 < q) = true := decide_eq_true g5n
              have g6 : wrap64 ((q : Int) - 1) = (q : Int) - 1 := IntWalk.wrap64_in _ (by omega)
              go_wp2_with fail
              obtain ⟨wj, hwj⟩ : ∃ wj, wj = wr := ⟨_, rfl⟩
              rw [← hwj] at HJ
              have HK0 : Hid (wj.grownBy wr none) := by rw [hwj]; exact grefl _ _
              clear hwj
              go_loopw [9] (fun s9 wz => ∃ d : Nat, d ≤ q ∧ s9 = .int .i64 ((d : Int) - 1) ∧ Hid (∀ j, d ≤ j → j < q → ss.getD j ByteArray.empty ≠ ss.getD i ByteArray.empty) ∧ Hid (wj.grownBy wz none)) (fun s9 _ => (intOf s9 + 1).toNat)
              case atStart => exact ⟨q, Nat.le_refl _, rfl, (fun j h1 h2 => by omega), HK0⟩
              case round =>
                clear HK0
                obtain ⟨d, hd, hs9, HD, HK⟩ := hrel
                have HJ := Lib.hid (gnone HJ.out HK.out)
                rcases d with _ | d
                · rw [show ((0 : Nat) : Int) - 1 = -1 from rfl] at hs9
                  subst hs9
                  have hmin : ∀ j, j < q → ss.getD j ByteArray.empty ≠ ss.getD i ByteArray.empty := fun j hj => HD.out j (Nat.zero_le _) hj
                  clear HK
                  go_wp2_with fail
                  go_quiet (fail)
                  generalize hwq : World.drewN wr _ = wq
                  have HJ2 : Hid (wi.grownBy wq none) := by rw [← hwq]; exact only_drewN HJ.out _
                  clear HJ hwq
                  have HJ := HJ2
                  clear HJ2
                  have HZ1 := Lib.hid (HZ.out.up HJ.out)
                  have HG1 := Lib.hid (gnone HG.out HJ.out)
                  obtain ⟨fg, ff, la, lv, lok, fl, fl1, fl2⟩ := found_any V.out HZ1.out.rise hl HQ.out hmin
                  have CG := skget_any HZ1.out (ss.getD i ByteArray.empty) HL.out
                  rw [fg] at CG
                  have x0 := HIc.out i hl
                  have HCG := Lib.hid CG
                  have FF := Lib.hid ff
                  have FL := Lib.hid (And.intro fl (And.intro fl1 fl2))
                  have X0 : wq.cell? ⟨b, off + i, none⟩ = some (.string (ss.getD i ByteArray.empty)) := HG1.out.cell x0 (by simp)
                  clear CG fg ff fl fl1 fl2 hmin HZ HG HJ
                  obtain ⟨y, hy⟩ : ∃ y, ss.getD i ByteArray.empty = y := ⟨_, rfl⟩
                  have HYy := Lib.hid hy
                  rw [hy] at HCG x0 X0 FF FL HQ
                  clear hy
                  go_wp2_with fail
                  refine HCG.out.mono ?_
                  rintro e w4 ⟨rfl, g⟩
                  have X1 : w4.cell? ⟨b, off + i, none⟩ = some (.string y) := g.cell X0 (by simp)
                  have HZ4 := Lib.hid (HZ1.out.up g)
                  have HG4 := Lib.hid (gnone HG1.out g)
                  have CF := skfrom_any HZ4.out y 1 HL.out
                  rw [FF.out] at CF
                  have HCF := Lib.hid CF
                  clear g CF HCG HZ1 HG1 X0 FF
                  go_wp2_with fail
                  refine HCF.out.mono ?_
                  rintro e w5 ⟨v, rfl, hv, g⟩
                  obtain ⟨gl, cl, cul, rfl, _, _⟩ := Own.some_ hv (by simp)
                  have y0 := Own.cells (j := 0) hv (show [(y, vb q)][0]? = some (y, vb q) from rfl) (by decide) rfl
                  have y1 := Own.cells (j := 1) hv (show [(y, vb q)][0]? = some (y, vb q) from rfl) (by decide) rfl
                  have X2 : w5.cell? ⟨b, off + i, none⟩ = some (.string y) := g.cell X1 (by simp)
                  have HZ5 := Lib.hid (HZ4.out.up g)
                  have HG5 := Lib.hid (gnone HG4.out g)
                  rw [show 0 * elKeys.sz + 0 = 0 from rfl] at y0
                  rw [show 0 * elKeys.sz + 1 = 1 from rfl] at y1
                  clear hv g HCF X1 HZ4 HG4
                  have hq256 : q < 256 := by have := Hn.out; omega
                  have hw8 : IntKind.u8.wrap (q : Int) = (q : Int) := by
                    rw [IntKind.wrap_u8]
                    omega
                  have cv := vb_at w5 q hq256
                  generalize vb q = vq at *
                  have ga : w5.grownBy (w5.alloc (.cells #[.int .u8 (q : Int)] 5)).drew none := only_drew (World.grownBy_alloc w5 (.cells #[.int .u8 (q : Int)] 5) none)
                  have c0 : w5.drew.cell? ⟨b, off + i, none⟩ = some (.string y) := X2
                  have c1 : w5.drew.cell? ⟨gl, 0, none⟩ = some (.string y) := y0
                  have c2 : w5.drew.cell? ⟨gl, 1, none⟩ = some (.string vq) := y1
                  have e0 : (w5.alloc (.cells #[.int .u8 (q : Int)] 5)).drew.cell? ⟨b, off + i, none⟩ = some (.string y) := ga.cell X2 (by simp)
                  have e1 : (w5.alloc (.cells #[.int .u8 (q : Int)] 5)).drew.cell? ⟨gl, 0, none⟩ = some (.string y) := ga.cell y0 (by simp)
                  have e2 : (w5.alloc (.cells #[.int .u8 (q : Int)] 5)).drew.cell? ⟨gl, 1, none⟩ = some (.string vq) := ga.cell y1 (by simp)
                  have t1 : (y.toList == y.toList) = true := by rw [teq9]; exact decide_eq_true rfl
                  have t2 : (vq.toList == vq.toList) = true := by rw [teq9]; exact decide_eq_true rfl
                  go_wp2_with fail
                  go_region
                  all_goals
                    have HG6 := Lib.hid (gnone HG5.out ga)
                    have HZ6 := Lib.hid (HZ5.out.up ga)
                    have CL := sklast_any HZ6.out y HL.out
                    rw [FL.out.1] at CL
                    have HCL := Lib.hid CL
                    have X3 := e0
                    generalize (w5.alloc (.cells #[.int .u8 (q : Int)] 5)).drew = w6 at *
                    clear CL c0 c1 c2 e0 e1 e2 cv ga hw8 hq256 y0 y1 X2 HG5 HZ5
                    go_wp2_with fail
                    refine HCL.out.mono ?_
                    rintro e w7 ⟨rfl, g⟩
                    have X4 := g.cell X3 (by simp)
                    have HZ7 := Lib.hid (HZ6.out.up g)
                    have HG7 := Lib.hid (gnone HG6.out g)
                    clear g HCL X3 HZ6 HG6 t1 t2
                    go_wp2_with fail
                    go_loopw [16] (fun s16 wy => ∃ j : Nat, j ≤ k ∧ s16 = .int .i64 (j : Int) ∧ Hid (w7.grownBy wy none)) (fun s16 _ => k - (intOf s16).toNat)
                    case atStart => exact ⟨0, by omega, rfl, grefl _ _⟩
                    case round =>
                      obtain ⟨j, hj, rfl, HW⟩ := hrel
                      have Xi : wr.cell? ⟨b, off + i, none⟩ = some (.string y) := HW.out.cell X4 (by simp)
                      by_cases hlj : j < k
                      · have Xj : wr.cell? ⟨b, off + j, none⟩ = some (.string (ss.getD j ByteArray.empty)) := (gnone HG7.out HW.out).cell (HIc.out j hlj) (by simp)
                        have hfl := FL.out.2.1 j hlj
                        have j3 : (j : Int) < (k : Int) := by omega
                        have j4 : (0 : Int) ≤ (j : Int) := by omega
                        generalize ss.getD j ByteArray.empty = fj at *
                        by_cases hc : cmpT fj y < 0
                        · obtain ⟨hok, hnl⟩ := hfl hc
                          have t3 : Op.bytesLess fj.toList y.toList = true := by rw [sl_text]; exact decide_eq_true hc
                          have t4 : Op.bytesLess la.toList fj.toList = false := by rw [sl_text]; exact decide_eq_false (by omega)
                          subst hok
                          clear hc hnl hfl
                          go_wp2_with fail
                          go_quiet (fail)
                          go_wp2_with fail
                          go_roundw
                          case rel => exact ⟨j + 1, by omega, by go_num, only_drewN HW.out _⟩
                          case measure => simp [intOf]; omega
                        · have t3 : Op.bytesLess fj.toList y.toList = false := by rw [sl_text]; exact decide_eq_false hc
                          clear hc hfl
                          go_wp2_with fail
                          go_quiet (fail)
                          go_wp2_with fail
                          go_roundw
                          case rel => exact ⟨j + 1, by omega, by go_num, only_drewN HW.out _⟩
                          case measure => simp [intOf]; omega
                      · obtain rfl : j = k := by omega
                        have HG8 := Lib.hid (gnone HG7.out HW.out)
                        have HZ8 := Lib.hid (HZ7.out.up HW.out)
                        have fl2 := FL.out.2.2
                        cases lok with
                        | false =>
                          clear hlj fl2
                          go_wp2_with fail
                          go_roundw
                          case rel => exact ⟨i + 1, by omega, by go_num, HZ8, HG8⟩
                          case measure => simp [intOf]; omega
                        | true =>
                          have t5 : Op.bytesLess la.toList y.toList = true := by rw [sl_text]; exact decide_eq_true (fl2 rfl)
                          clear hlj fl2
                          go_wp2_with fail
                          go_roundw
                          case rel => exact ⟨i + 1, by omega, by go_num, HZ8, HG8⟩
                          case measure => simp [intOf]; omega
                · rw [show ((d + 1 : Nat) : Int) - 1 = (d : Int) by omega] at hs9
                  subst hs9
                  have Xd : wr.cell? ⟨b, off + d, none⟩ = some (.string (ss.getD d ByteArray.empty)) := (gnone HG.out HJ.out).cell (HIc.out d (by omega)) (by simp)
                  have Xi : wr.cell? ⟨b, off + i, none⟩ = some (.string (ss.getD i ByteArray.empty)) := (gnone HG.out HJ.out).cell (HIc.out i hl) (by simp)
                  have d1 : (0 : Int) ≤ (d : Int) := by omega
                  have d2 : (d : Int) < (k : Int) := by omega
                  have d3 : ¬ (d : Int) < 0 := by omega
                  have tt := teq9 (ss.getD d ByteArray.empty) (ss.getD i ByteArray.empty)
                  by_cases e : ss.getD d ByteArray.empty = ss.getD i ByteArray.empty
                  · have HE := Lib.hid e
                    rw [decide_eq_true e] at tt
                    clear e
                    generalize ss.getD d ByteArray.empty = fd at Xd tt
                    generalize ss.getD i ByteArray.empty = fi at Xi tt
                    go_wp2_with fail
                    go_quiet (fail)
                    go_wp2_with fail
                    go_roundw
                    case rel => exact ⟨d, by omega, rfl, HE, only_drewN HJ.out _⟩
                    case measure => simp [intOf]; omega
                  · have d6 : wrap64 ((d : Int) - 1) = (d : Int) - 1 := IntWalk.wrap64_in _ (by omega)
                    have HD2 : Hid (∀ j, d ≤ j → j < q → ss.getD j ByteArray.empty ≠ ss.getD i ByteArray.empty) := fun j h1 h2 => by
                      by_cases ej : j = d
                      · subst ej; exact e
                      · exact HD.out j (by omega) h2
                    rw [decide_eq_false e] at tt
                    clear e HD
                    obtain ⟨fd, hfd⟩ : ∃ fd, ss.getD d ByteArray.empty = fd := ⟨_, rfl⟩
                    obtain ⟨fi, hfi⟩ : ∃ fi, ss.getD i ByteArray.empty = fi := ⟨_, rfl⟩
                    rw [hfd] at Xd tt
                    rw [hfi] at Xi tt
                    clear hfd hfi
                    have tn : (fd.toList != fi.toList) = true := by rw [bne, tt]; rfl
                    have tp : ¬ fd.toList = fi.toList := fun e => by rw [e] at tt; simp at tt
                    go_wp2_with fail
                    go_quiet (fail)
                    go_wp2_with fail
                    go_roundw
                    case rel => exact ⟨d, by omega, by go_num, HD2, only_drewN HK.out _⟩
                    case measure => first | (simp [intOf]; done) | (simp [intOf]; omega)
        · obtain rfl : i = k := by omega
          have HCk := HA wr
          clear hl
          go_wp2_with fail
          refine HCk.out.mono ?_
          rintro e w8 ⟨rfl, g⟩
          have HG8 := Lib.hid (gnone HG.out g)
          clear g
          go_wp2_with fail
          go_ret
          exact ⟨rfl, below_g HG8.out⟩

theorem lawSkipFound (A : Option Addr) (n c : Nat) (ss : List ByteArray) (A' : Option Addr) (n' c' : Nat) (zs : List Int) (w : World) (I : StrsIn w A n ss) (I' : IntsIn w A' n' zs) (hm : n' ≤ 17592186043904) :
    Calls Try.prog 5 #[.slice A n c, .slice A' n' c'] w fun e w' => e = .returned (.bool true) ∧ Below w.heap.size w w' := by
  by_cases h : 120 < n ∨ n' = 0
  · exact skipfound_long A n c A' n' c' w h
  · exact skipfound_some A n c ss A' n' c' zs w I I' (by omega) (by omega) hm
end Go.Proofs.Ytpkoiacenamccaa
