/-
  SkipLanes: no lane has more pairs than the one below it; lane 0 has all; a height more never makes a lane shorter.
-/
import Derived.Test.YtpkoiacenamccaaSpT
import Derived.Test.YtpkoiacenamccaaView
import Derived.LoopTactic
import Derived.Deep.RegionWith
import Derived.Test.YtpkoiacenamccaaWq
namespace Go.Proofs.Ytpkoiacenamccaa
open Go.RowKit

set_option maxRecDepth 100000 in
set_option maxHeartbeats 2000000 in
theorem skiplanes_long (A : Option Addr) (n c : Nat) (A' : Option Addr) (n' c' : Nat) (w : World) (h : 100 < n ∨ n' = 0) :
    Calls Try.prog 6 #[.slice A n c, .slice A' n' c'] w fun e w' => e = .returned (.bool true) ∧ Below w.heap.size w w' := by
  have HA := Lib.hid (alive10_any w)
  by_cases h1 : 100 < n
  · have g1 : (100 : Int) < (n : Int) := by omega
    clear h
    go_enter Try.func6, Try.ntmps6
    go_wp2_with fail
    refine HA.out.mono ?_
    rintro e w1 ⟨rfl, g⟩
    have G := Lib.hid g
    clear g
    go_wp2_with fail
    go_ret
    exact ⟨rfl, below_g G.out⟩
  · have g1 : ¬ (100 : Int) < (n : Int) := by omega
    obtain rfl : n' = 0 := by omega
    clear h
    go_enter Try.func6, Try.ntmps6
    go_wp2_with fail
    refine HA.out.mono ?_
    rintro e w1 ⟨rfl, g⟩
    have G := Lib.hid g
    clear g
    go_wp2_with fail
    go_ret
    exact ⟨rfl, below_g G.out⟩
theorem cnt_zero {L : List P10} (h : ∀ m ∈ L, 1 ≤ m.2.2) : cntL L 0 = L.length := by
  unfold cntL
  rw [List.filter_eq_self.2 (fun m hm => by have := h m hm; simp; omega)]
theorem clamp_up (z : Int) : clampH (clampH z) ≤ clampH (clampH z + 1) ∧ wrap64 (clampH z + 1) = clampH z + 1 := by
  have h := clampH_in z
  refine ⟨?_, IntWalk.wrap64_in _ (by omega)⟩
  generalize clampH z = y at *
  unfold clampH
  split <;> split <;> (try split) <;> (try split) <;> omega

set_option maxRecDepth 100000 in
set_option maxHeartbeats 8000000 in
theorem skiplanes_some (A : Option Addr) (n c : Nat) (ss : List ByteArray) (A' : Option Addr) (n' c' : Nat) (zs : List Int) (w : World) (I : StrsIn w A n ss) (I' : IntsIn w A' n' zs) (hn : n ≤ 100) (hn' : 0 < n') (hm : n' ≤ 17592186043904) :
    Calls Try.prog 6 #[.slice A n c, .slice A' n' c'] w fun e w' => e = .returned (.bool true) ∧ Below w.heap.size w w' := by
  have g1 : ¬ (100 : Int) < (n : Int) := by omega
  have g2 : ((n' : Int) == 0) = false := beq_eq_false_iff_ne.2 (by omega)
  have HI := Lib.hid I
  have HA := fun W => Lib.hid (alive10_any W)
  have C0 := fun W => Lib.hid (sknew_any W)
  have Hn := Lib.hid hn
  have Hm := Lib.hid hm
  obtain ⟨b', off', rfl, hlt', hc'⟩ := I'.some hn'
  have HC' := Lib.hid hc'
  clear I hn hc' I' hlt'
  go_enter Try.func6, Try.ntmps6
  go_wp2_with fail
  refine (C0 w).out.mono ?_
  rintro e w1 ⟨rfl, rfl⟩
  go_wp2_with fail
  refine (C0 _).out.mono ?_
  rintro e w1 ⟨rfl, rfl⟩
  have T0 := Lib.hid (two_new w)
  have G0 := Lib.hid (gnone (World.grownBy_alloc w (.cells newC 54) none) (World.grownBy_alloc _ (.cells newC 54) none))
  rw [World.size_alloc]
  generalize (w.alloc (.cells newC 54)).alloc (.cells newC 54) = w1 at *
  obtain ⟨p, hp⟩ : ∃ p, w.heap.size = p := ⟨_, rfl⟩
  rw [hp] at T0 ⊢
  have Hp := Lib.hid hp
  clear hp C0
  go_wp2_with fail
  go_loopw [7, 8] (fun i _ wr => ∃ (k : Nat) (sa sb : S10) (Za Zb : List Z10), k ≤ n ∧ i = .int .i64 (k : Int) ∧ Hid (Two p p (p + 1) wr sa sb Za Zb) ∧ Hid (Und sa.L sb.L ∧ sa.frozen = false ∧ sb.frozen = false ∧ sa.L.length ≤ k) ∧ Hid (w.grownBy wr none)) (fun i _ _ => n - (intOf i).toNat)
  case atStart => exact ⟨0, _, _, _, _, by omega, rfl, T0, Lib.hid ⟨trivial, rfl, rfl, Nat.le_refl _⟩, G0⟩
  case round =>
    obtain ⟨k, sa, sb, Za, Zb, hk, rfl, HT, HU, HG⟩ := hrel
    clear T0 G0
    by_cases hl : k < n
    · obtain ⟨b, off, rfl, hlt, hc⟩ := HI.out.some (by omega)
      have x0 := hc k hl
      have X0 : wr.cell? ⟨b, off + k, none⟩ = some (.string (ss.getD k ByteArray.empty)) := HG.out.cell x0 (by simp)
      have hkm : k % n' < n' := Nat.mod_lt _ hn'
      have X1 : wr.cell? ⟨b', off' + k % n', none⟩ = some (.int .i64 (zs.getD (k % n') 0)) := HG.out.cell (HC'.out _ hkm) (by simp)
      have g3 : (k : Int) < (n : Int) := by omega
      have g4 : (0 : Int) ≤ (k : Int) := by omega
      have em : (k : Int).tmod (n' : Int) = ((k % n' : Nat) : Int) := (Int.ofNat_tmod k n').symm
      have g6 : ((k % n' : Nat) : Int) < (n' : Int) := by omega
      generalize ss.getD k ByteArray.empty = y at *
      generalize zs.getD (k % n') 0 = z at *
      clear hc x0
      by_cases hs : 300 < y.size
      · have g5 : (300 : Int) < (y.size : Int) := by omega
        clear hs
        go_wp2_with fail
        refine (HA wr).out.mono ?_
        rintro e w2 ⟨rfl, g⟩
        have G := Lib.hid (gnone HG.out g)
        clear g
        go_wp2_with fail
        go_ret
        exact ⟨rfl, below_g G.out⟩
      · have g5 : ¬ (300 : Int) < (y.size : Int) := by omega
        obtain ⟨x1, hx1⟩ : ∃ x1, (if z < 1 then 1 else z) = x1 := ⟨_, rfl⟩
        have hmax := run_cap1 z
        have hmin := run_cup12 x1
        rw [hx1] at hmax
        have hx2 : (if 12 < x1 then 12 else x1) = clampH z := by rw [← hx1, clamp_eq]
        rw [hx2] at hmin
        clear hx1 hx2
        generalize k % n' = km at *
        obtain ⟨cu1, cu2⟩ := clamp_up z
        obtain ⟨u1, u2, u3, u4⟩ := HU.out
        have ulen := u1.len
        have hn2 := Hn.out
        have CP := Lib.hid (skput_any HT.out.a y ⟨#[]⟩ (clampH z) (by rw [← Hp.out]; exact HG.out.size) (by omega))
        have hlow := Lib.hid (fun q hq => (show w.heap.size ≤ q by rw [Hp.out]; exact HT.out.low q hq))
        obtain ⟨v1, v2, v3⟩ := u1.put u2 u3 HT.out.a.rise HT.out.b.rise y ⟨#[]⟩ ⟨#[]⟩ (clampH z) (clampH z + 1) (by omega) (by decide) (by decide) cu1
        have v4 := (put_spec sa y ⟨#[]⟩ (clampH z) HT.out.a.rise u2 (by omega) (by decide)).2.1
        have HV : Hid (Und (putL sa y ⟨#[]⟩ (clampH z)).2.L (putL sb y ⟨#[]⟩ (clampH z + 1)).2.L ∧ (putL sa y ⟨#[]⟩ (clampH z)).2.frozen = false ∧ (putL sb y ⟨#[]⟩ (clampH z + 1)).2.frozen = false ∧ (putL sa y ⟨#[]⟩ (clampH z)).2.L.length ≤ k + 1) := ⟨v1, v2, v3, by omega⟩
        have Hul : Hid (sb.L.length ≤ 100000) := by show sb.L.length ≤ 100000; omega
        clear u1 u2 u3 u4 ulen hn2 v1 v2 v3 v4 cu1 hs HU
        go_wp2_with fail
        refine CP.out.mono ?_
        rintro e w2 ⟨rfl, Za2, h1, h2, h3⟩
        have HG2 := Lib.hid (tu_new HG.out h2 (fun q hq => hlow.out q (Or.inl hq)))
        have HT2 := Lib.hid (HT.out.setA h1 h2 h3)
        have X2 : w2.cell? ⟨b, off + k, none⟩ = some (.string y) := (h2.below (B := w.heap.size) HG.out.size (fun q hq => hlow.out q (Or.inl hq))).cell (p := ⟨b, off + k, none⟩) hlt |>.trans X0
        have CQ := Lib.hid (skput_any HT2.out.b y ⟨#[]⟩ (clampH z + 1) (by rw [← Hp.out]; exact HG2.out.size) Hul.out)
        have hlow2 := Lib.hid (fun q hq => (show w.heap.size ≤ q by rw [Hp.out]; exact HT2.out.low q hq))
        clear h1 h2 h3 HG HT CP hlow X0 X1
        go_wp2_with fail
        refine CQ.out.mono ?_
        rintro e w3 ⟨rfl, Zb2, h1, h2, h3⟩
        have HG3 := Lib.hid (tu_new HG2.out h2 (fun q hq => hlow2.out q (Or.inr hq)))
        have HT3 := Lib.hid (HT2.out.setB h1 h2 h3)
        clear h1 h2 h3 HG2 HT2 CQ hlow2 X2
        go_wp2_with fail
        go_roundw
        case rel => exact ⟨k + 1, _, _, Za2, Zb2, by omega, by go_num, HT3, HV, HG3⟩
        case measure => simp [intOf]; omega
    · obtain rfl : k = n := by omega
      have K1 := Lib.hid (sklanes_any HT.out.a)
      clear hl
      go_wp2_with fail
      refine K1.out.mono ?_
      rintro e w2 ⟨v, rfl, hv, g2⟩
      obtain ⟨av, cv, rfl⟩ := hv.slice
      rw [lanesTo_length]
      have HV := Lib.hid hv
      have HT2 := Lib.hid (HT.out.up g2)
      have HG2 := Lib.hid (gnone HG.out g2)
      have K2 := Lib.hid (sklanes_any HT2.out.b)
      clear hv g2 K1 HT HG
      go_wp2_with fail
      refine K2.out.mono ?_
      rintro e w3 ⟨v, rfl, hv, g3⟩
      obtain ⟨au, cu, rfl⟩ := hv.slice
      rw [lanesTo_length]
      have HX := Lib.hid (HV.out.below (below_g g3))
      have HY := Lib.hid hv
      have HT3 := Lib.hid (HT2.out.up g3)
      have HG3 := Lib.hid (gnone HG2.out g3)
      clear hv g3 K2 HT2 HG2 HV
      obtain ⟨u1, u2, u3, u4⟩ := HU.out
      have hx12 := hiL_le sa.L
      have hy12 := hiL_le sb.L
      have hspec := (hiL_spec sa.L).1
      have hcnt0 : cntL sa.L 0 = sa.L.length := cnt_zero (fun m hm => (HT3.out.a.ok m hm).2.2.1)
      have hle := fun t => Nat.le_trans (cntL_le sa.L t) u4
      have hxy : ∀ t, t < hiL sa.L → t < hiL sb.L := fun t ht => by
        rcases Nat.lt_or_ge t (hiL sb.L) with h1 | h1
        · exact h1
        · have h2 := hiL_zero h1 (by omega)
          have h3 := u1.cnt t
          have h4 := hspec t ht
          omega
      have hx0 : hiL sa.L = 0 ↔ sa.L.length = 0 := by
        rw [← hcnt0]
        constructor
        · intro h0
          exact hiL_zero (by omega) (by omega)
        · intro h0
          rcases Nat.eq_zero_or_pos (hiL sa.L) with h1 | h1
          · exact h1
          · have := hspec 0 h1
            omega
      have HP := Lib.hid (And.intro hspec (And.intro hle (And.intro hxy (And.intro hx0 (And.intro hcnt0 (And.intro u1.cnt (fun t t' => cntL_anti sa.L (h := t) (h' := t'))))))))
      have HXr := Lib.hid (fun a (ha : au = some a) j (hj : j < hiL sb.L) => (own_reads HY.out).2.2 a ha j (.int .i64 (cntL sb.L j : Int)) (by rw [row_ints, lanesTo_at _ _ _ hj]; rfl))
      have HYr := Lib.hid (fun a (ha : av = some a) j (hj : j < hiL sa.L) => (own_reads HX.out).2.2 a ha j (.int .i64 (cntL sa.L j : Int)) (by rw [row_ints, lanesTo_at _ _ _ hj]; rfl))
      have Hsx := Lib.hid (fun (h : 0 < hiL sa.L) => Own.some_ HX.out (by rw [lanesTo_length]; exact h))
      have Hsy := Lib.hid (fun (h : 0 < hiL sb.L) => Own.some_ HY.out (by rw [lanesTo_length]; exact h))
      have HC := fun W (hW : w3.grownBy W none) => Lib.hid (skcount_any (HT3.out.a.up hW))
      have H12 := Lib.hid (And.intro hx12 hy12)
      generalize hiL sa.L = hx at *
      generalize hiL sb.L = hy at *
      generalize sa.L.length = la at *
      clear hspec hcnt0 hle hxy hx0 u1 u2 u3 u4 HU HX HY HT3 hx12 hy12
      go_wp2_with fail
      go_loopw [11] (fun s11 wi => ∃ j : Nat, j ≤ hx ∧ s11 = .int .i64 (j : Int) ∧ Hid (w3.grownBy wi none)) (fun s11 _ => hx - (intOf s11).toNat)
      case atStart => exact ⟨0, by omega, rfl, grefl _ _⟩
      case round =>
        obtain ⟨j, hj, rfl, HW⟩ := hrel
        obtain ⟨p1, p2, p3, p4, p5, p6, p7⟩ := HP.out
        by_cases hl : j < hx
        · obtain ⟨gx, cx, cux, ex, _, _⟩ := Hsx.out (by omega)
          injection ex with ex1 ex2 ex3
          subst ex1
          obtain ⟨gy, cy, cuy, ey, _, _⟩ := Hsy.out (by have := p3 j hl; omega)
          injection ey with ey1 ey2 ey3
          subst ey1
          have y0 := HYr.out _ rfl j hl
          rw [Addr.add_lit, Nat.zero_add] at y0
          have y1 := HXr.out _ rfl j (p3 j hl)
          rw [Addr.add_lit, Nat.zero_add] at y1
          have g3 : (j : Int) < (hx : Int) := by omega
          have g4 : (0 : Int) ≤ (j : Int) := by omega
          have g5 : (j : Int) < (hy : Int) := by have := p3 j hl; omega
          have g6 : decide ((hy : Int) ≤ (j : Int)) = false := decide_eq_false (by omega)
          have t1 : decide ((cntL sa.L j : Int) < 1) = false := decide_eq_false (by have := p1 j hl; omega)
          have t2 : decide ((cntL sb.L j : Int) < (cntL sa.L j : Int)) = false := decide_eq_false (by have := p6 j; omega)
          have t2n : decide (cntL sb.L j < cntL sa.L j) = false := decide_eq_false (by have := p6 j; omega)
          have hxl : hx ≤ 12 := H12.out.1
          by_cases hj0 : j = 0
          · have g8 : decide ((0 : Int) < (j : Int)) = false := decide_eq_false (by omega)
            have g8n : decide (0 < j) = false := decide_eq_false (by omega)
            have g6n : decide (hy ≤ j) = false := decide_eq_false (by omega)
            clear p1 p2 p3 p4 p5 p6 p7 ex2 ex3 ey2 ey3 hj0
            generalize cntL sa.L j = d0 at *
            generalize cntL sb.L j = d1 at *
            go_wp2_with fail
            refine wp_region_wq (fun W => w3.grownBy W none) (by kernel_rfl) (by kernel_rfl) (only_drew HW.out) ?_
            repeat' (first
              | (refine wq_skip (by rfl) ?_; try simp only [Act.put, List.setIfInBounds_toArray, List.set_cons_zero, List.set_cons_succ])
              | (refine wq_take (by rfl) ?_ (fun W hW => ?_) ?_
                 rotate_left
                 focus
                   have z0 : W.cell? ⟨gx, j, none⟩ = _ := hW.cell y0 (by simp)
                   have z1 : W.cell? ⟨gy, j, none⟩ = _ := hW.cell y1 (by simp)
                   go_simp
                   first
                     | done
                     | with_reducible rfl
                 try simp only [Act.put, List.setIfInBounds_toArray, List.set_cons_zero, List.set_cons_succ]))
            refine wq_nil (fun w9 S9 => ?_)
            go_wp2_with fail
            go_roundw
            case rel => exact ⟨j + 1, by omega, by go_num, S9⟩
            case measure => simp [intOf]; omega
          · obtain ⟨i, hi⟩ : ∃ i, i + 1 = j := ⟨j - 1, by omega⟩
            have y2 := HYr.out _ rfl i (by omega)
            rw [Addr.add_lit, Nat.zero_add] at y2
            have t3 : decide ((cntL sa.L i : Int) < (cntL sa.L j : Int)) = false := decide_eq_false (by have := p7 i j (by omega); omega)
            have t3n : decide (cntL sa.L i < cntL sa.L j) = false := decide_eq_false (by have := p7 i j (by omega); omega)
            have g7 : wrap64 ((j : Int) - 1) = (i : Int) := (IntWalk.wrap64_in _ (by omega)).trans (by omega)
            have g8 : decide ((0 : Int) < (j : Int)) = true := decide_eq_true (by omega)
            have g8n : decide (0 < j) = true := decide_eq_true (by omega)
            have g6n : decide (hy ≤ j) = false := decide_eq_false (by omega)
            have g9 : (i : Int) < (hx : Int) := by omega
            have g9n : i < hx := by omega
            have g7w : IntKind.i64.wrap ((j : Int) - 1) = (i : Int) := by rw [IntKind.wrap_i64]; omega
            have g10 : (0 : Int) ≤ (i : Int) := by omega
            clear p1 p2 p3 p4 p5 p6 p7 ex2 ex3 ey2 ey3 hj0 hi
            generalize cntL sa.L i = d2 at *
            generalize cntL sa.L j = d0 at *
            generalize cntL sb.L j = d1 at *
            go_wp2_with fail
            refine wp_region_wq (fun W => w3.grownBy W none) (by kernel_rfl) (by kernel_rfl) (only_drew HW.out) ?_
            repeat' (first
              | (refine wq_skip (by rfl) ?_; try simp only [Act.put, List.setIfInBounds_toArray, List.set_cons_zero, List.set_cons_succ])
              | (refine wq_take (by rfl) ?_ (fun W hW => ?_) ?_
                 rotate_left
                 focus
                   have z0 : W.cell? ⟨gx, j, none⟩ = _ := hW.cell y0 (by simp)
                   have z1 : W.cell? ⟨gy, j, none⟩ = _ := hW.cell y1 (by simp)
                   have z2 : W.cell? ⟨gx, i, none⟩ = _ := hW.cell y2 (by simp)
                   go_simp
                   first
                     | done
                     | with_reducible rfl
                 try simp only [Act.put, List.setIfInBounds_toArray, List.set_cons_zero, List.set_cons_succ]))
            refine wq_nil (fun w9 S9 => ?_)
            go_wp2_with fail
            go_roundw
            case rel => exact ⟨j + 1, by omega, by go_num, S9⟩
            case measure => simp [intOf]; omega
        · obtain rfl : j = hx := by omega
          have hxl : j ≤ 12 := H12.out.1
          have g12 : decide ((j : Int) ≤ 12) = true := decide_eq_true (by omega)
          have g12n : decide (j ≤ 12) = true := decide_eq_true hxl
          have CA := fun W (hW : w3.grownBy W none) => Lib.hid ((HA W).out.mono (R' := fun e w' => e = .returned (.bool true) ∧ w3.grownBy w' none) (fun e w' h => ⟨h.1, gnone hW h.2⟩))
          have CC := fun W (hW : w3.grownBy W none) => Lib.hid ((HC W hW).out.mono (R' := fun e w' => e = .returned (.int .i64 (la : Int)) ∧ w3.grownBy w' none) (fun e w' h => ⟨h.1, by rw [h.2]; exact hW⟩))
          by_cases hj0 : j = 0
          · have hla : la = 0 := p4.1 hj0
            subst hla
            subst hj0
            clear p1 p2 p3 p4 p5 p6 p7 g12 g12n hxl HC
            go_wp2_with fail
            refine wp_region_wq (fun W => w3.grownBy W none) (by kernel_rfl) (by kernel_rfl) (only_drew HW.out) ?_
            repeat' (first
              | (refine wq_skip (by rfl) ?_; try simp only [Act.put, List.setIfInBounds_toArray, List.set_cons_zero, List.set_cons_succ])
              | (refine wq_take (by rfl) ?_ (fun W hW => ?_) ?_
                 rotate_left
                 focus
                   go_simp
                   first
                     | done
                     | with_reducible rfl
                     | (go_at_call 11; exact (CA _ hW).out)
                     | (go_at_call 14; exact (CC _ hW).out)
                 try simp only [Act.put, List.setIfInBounds_toArray, List.set_cons_zero, List.set_cons_succ]))
            refine wq_nil (fun w9 S9 => ?_)
            go_wp2_with fail
            go_ret
            exact ⟨rfl, below_g (gnone HG3.out S9)⟩
          · obtain ⟨gx, cx, cux, ex, _, _⟩ := Hsx.out (by omega)
            injection ex with ex1 ex2 ex3
            subst ex1
            have y0 := HYr.out _ rfl 0 (by omega)
            rw [Addr.add_lit, Nat.zero_add] at y0
            rw [p5] at y0
            have e1 : ((j : Int) == 0) = false := beq_eq_false_iff_ne.2 (by omega)
            have e1n : (j == 0) = false := beq_eq_false_iff_ne.2 hj0
            have e1d : decide (j = 0) = false := decide_eq_false hj0
            have e2 : ((la : Int) == 0) = false := beq_eq_false_iff_ne.2 (fun h => hj0 (p4.2 (by omega)))
            have e2n : (la == 0) = false := beq_eq_false_iff_ne.2 (fun h => hj0 (p4.2 h))
            have g3 : (0 : Int) < (j : Int) := by omega
            have g3n : 0 < j := by omega
            clear p1 p2 p3 p4 p5 p6 p7 ex2 ex3 hj0 hxl HC
            go_wp2_with fail
            refine wp_region_wq (fun W => w3.grownBy W none) (by kernel_rfl) (by kernel_rfl) (only_drew HW.out) ?_
            repeat' (first
              | (refine wq_skip (by rfl) ?_; try simp only [Act.put, List.setIfInBounds_toArray, List.set_cons_zero, List.set_cons_succ])
              | (refine wq_take (by rfl) ?_ (fun W hW => ?_) ?_
                 rotate_left
                 focus
                   have z0 : W.cell? ⟨gx, 0, none⟩ = _ := hW.cell y0 (by simp)
                   go_simp
                   first
                     | done
                     | with_reducible rfl
                     | (go_at_call 11; exact (CA _ hW).out)
                     | (go_at_call 14; exact (CC _ hW).out)
                 try simp only [Act.put, List.setIfInBounds_toArray, List.set_cons_zero, List.set_cons_succ]))
            refine wq_nil (fun w9 S9 => ?_)
            go_wp2_with fail
            go_ret
            exact ⟨rfl, below_g (gnone HG3.out S9)⟩

theorem lawSkipLanes (A : Option Addr) (n c : Nat) (ss : List ByteArray) (A' : Option Addr) (n' c' : Nat) (zs : List Int) (w : World) (I : StrsIn w A n ss) (I' : IntsIn w A' n' zs) (hm : n' ≤ 17592186043904) :
    Calls Try.prog 6 #[.slice A n c, .slice A' n' c'] w fun e w' => e = .returned (.bool true) ∧ Below w.heap.size w w' := by
  by_cases h : 100 < n ∨ n' = 0
  · exact skiplanes_long A n c A' n' c' w h
  · exact skiplanes_some A n c ss A' n' c' zs w I I' (by omega) (by omega) hm
end Go.Proofs.Ytpkoiacenamccaa
