/-
  SkipHeights: what is told but by Lanes and Steps does not hang on heights, nor on the order of the Puts.
-/
import Derived.Test.YtpkoiacenamccaaSpT
import Derived.Test.YtpkoiacenamccaaSpH
import Derived.Test.YtpkoiacenamccaaView
import Derived.Test.YtpkoiacenamccaaBkKeys1
import Derived.LoopTactic
import Derived.StillTailTactics
import Derived.Test.YtpkoiacenamccaaWq
namespace Go.Proofs.Ytpkoiacenamccaa
open Go.RowKit

theorem putL_len (s : S10) (key v : ByteArray) (t : Int) : (putL s key v t).2.L.length ≤ s.L.length + 1 := by
  unfold putL
  split
  · exact Nat.le_succ _
  · split
    · exact Nat.le_succ _
    · split
      · exact Nat.le_succ _
      · show (insL _ _ _).length ≤ _
        rw [insL_length (placeL_le _ _)]
        exact Nat.le_refl _
theorem turn_at (z : Int) (n : Nat) (hn : 0 < n) : ∃ K : Nat, K < n ∧ ((0 ≤ z.tmod (n : Int) ∧ z.tmod (n : Int) = (K : Int)) ∨ (z.tmod (n : Int) < 0 ∧ z.tmod (n : Int) = (K : Int) - (n : Int))) := by
  have h1 := Int.tmod_lt_of_pos z (b := (n : Int)) (by omega)
  have h2 : -(n : Int) < z.tmod (n : Int) := by
    have := Int.lt_tmod_of_pos z (b := (n : Int)) (by omega)
    omega
  by_cases h : 0 ≤ z.tmod (n : Int)
  · exact ⟨(z.tmod (n : Int)).toNat, by omega, Or.inl ⟨h, by omega⟩⟩
  · exact ⟨(z.tmod (n : Int) + (n : Int)).toNat, by omega, Or.inr ⟨by omega, by omega⟩⟩

set_option maxRecDepth 100000 in
set_option maxHeartbeats 2000000 in
theorem skipheights_long (A : Option Addr) (n c : Nat) (A' : Option Addr) (n' c' : Nat) (z : Int) (w : World) (h : 120 < n ∨ n = 0 ∨ n' = 0) :
    Calls Try.prog 4 #[.slice A n c, .slice A' n' c', .int .i64 z] w fun e w' => e = .returned (.bool true) ∧ Below w.heap.size w w' := by
  have HA := Lib.hid (alive10_any w)
  by_cases h1 : 120 < n
  · have g1 : (120 : Int) < (n : Int) := by omega
    clear h
    go_enter Try.func4, Try.ntmps4
    go_wp2_with fail
    refine HA.out.mono ?_
    rintro e w1 ⟨rfl, g⟩
    have G := Lib.hid g
    clear g
    go_wp2_with fail
    go_ret
    exact ⟨rfl, below_g G.out⟩
  · have g1 : ¬ (120 : Int) < (n : Int) := by omega
    by_cases h2 : n = 0
    · subst h2
      clear h
      go_enter Try.func4, Try.ntmps4
      go_wp2_with fail
      refine HA.out.mono ?_
      rintro e w1 ⟨rfl, g⟩
      have G := Lib.hid g
      clear g
      go_wp2_with fail
      go_ret
      exact ⟨rfl, below_g G.out⟩
    · have g2 : ((n : Int) == 0) = false := beq_eq_false_iff_ne.2 (by omega)
      obtain rfl : n' = 0 := by omega
      clear h
      go_enter Try.func4, Try.ntmps4
      go_wp2_with fail
      refine HA.out.mono ?_
      rintro e w1 ⟨rfl, g⟩
      have G := Lib.hid g
      clear g
      go_wp2_with fail
      go_ret
      exact ⟨rfl, below_g G.out⟩

set_option maxRecDepth 100000 in
set_option maxHeartbeats 8000000 in
theorem skipheights_some (A : Option Addr) (n c : Nat) (ss : List ByteArray) (A' : Option Addr) (n' c' : Nat) (zs : List Int) (z : Int) (w : World) (I : StrsIn w A n ss) (I' : IntsIn w A' n' zs) (hn : n ≤ 120) (hn0 : 0 < n) (hn' : 0 < n') (hm : n' ≤ 17592186043904) :
    Calls Try.prog 4 #[.slice A n c, .slice A' n' c', .int .i64 z] w fun e w' => e = .returned (.bool true) ∧ Below w.heap.size w w' := by
  have g1 : ¬ (120 : Int) < (n : Int) := by omega
  have g2 : ((n' : Int) == 0) = false := beq_eq_false_iff_ne.2 (by omega)
  have g2n : ((n : Int) == 0) = false := beq_eq_false_iff_ne.2 (by omega)
  have g2m : ¬ n = 0 := by omega
  have g2m' : ¬ n' = 0 := by omega
  have HA := fun W => Lib.hid (alive10_any W)
  have C0 := fun W => Lib.hid (sknew_any W)
  have Hn := Lib.hid hn
  have Hm := Lib.hid hm
  obtain ⟨b', off', rfl, hlt', hc'⟩ := I'.some hn'
  obtain ⟨b, off, rfl, hlt, hc⟩ := I.some hn0
  have HC' := Lib.hid hc'
  have HC := Lib.hid hc
  have Hb := Lib.hid hlt
  have Hb' := Lib.hid hlt'
  obtain ⟨r, hr, hcase⟩ := turn_at z n hn0
  have hz1 : wrap64 (r : Int) = (r : Int) := IntWalk.wrap64_in _ (by omega)
  have hz2 : wrap64 ((r : Int) - (n : Int)) = (r : Int) - (n : Int) := IntWalk.wrap64_in _ (by omega)
  have hz3 : wrap64 ((r : Int) - (n : Int) + (n : Int)) = (r : Int) := (IntWalk.wrap64_in _ (by omega)).trans (by omega)
  have hz1w : IntKind.i64.wrap (r : Int) = (r : Int) := by rw [IntKind.wrap_i64]; omega
  have hz2w : IntKind.i64.wrap ((r : Int) - (n : Int)) = (r : Int) - (n : Int) := by rw [IntKind.wrap_i64]; omega
  have hz3w : IntKind.i64.wrap ((r : Int) - (n : Int) + (n : Int)) = (r : Int) := by rw [IntKind.wrap_i64]; omega
  have Hr := Lib.hid hr
  clear I hn hc' I' hlt' hc hlt hm
  go_enter Try.func4, Try.ntmps4
  go_wp2_with fail
  refine (C0 w).out.mono ?_
  rintro e w1 ⟨rfl, rfl⟩
  go_wp2_with fail
  refine (C0 _).out.mono ?_
  rintro e w1 ⟨rfl, rfl⟩
  have T0 := Lib.hid (two_new w)
  have G0 := Lib.hid (gnone (World.grownBy_alloc w (.cells newC 54) none) (World.grownBy_alloc _ (.cells newC 54) none))
  rw [World.size_alloc]
  generalize (w.alloc (.cells newC 54)).alloc (.cells newC 54) = w1 at *
  obtain ⟨p, hp⟩ : ∃ p, w.heap.size = p := ⟨_, rfl⟩
  rw [hp] at T0 ⊢
  have Hp := Lib.hid hp
  clear hp C0
  have hneg : ¬ (r : Int) < 0 := by omega
  have hnegn : ¬ r < 0 := by omega
  rcases hcase with ⟨hc1, hzt⟩ | ⟨hc1, hzt⟩
  rotate_left
  have hneg2 : (r : Int) - (n : Int) < 0 := by omega
  all_goals
    go_wp2_with fail
  all_goals
    clear hz1 hz2 hz3 hz1w hz2w hz3w hc1 g1 hzt hneg hnegn
    go_loopw [10] (fun i wr => ∃ (k : Nat) (sa sb : S10) (Za Zb : List Z10), k ≤ n ∧ i = .int .i64 (k : Int) ∧ Hid (Two p p (p + 1) wr sa sb Za Zb) ∧ Hid (InvK (fun j => ss.getD j ByteArray.empty) k sa ∧ (∀ m ∈ sa.L, m.2.2 = 1) ∧ (∀ j, j < k → (ss.getD j ByteArray.empty).size ≤ 500) ∧ sb.L.length ≤ k ∧ ((∀ j, j < n → (ss.getD j ByteArray.empty).size ≤ 500) → InvK (fun j => ss.getD ((j + r) % n) ByteArray.empty) k sb)) ∧ Hid (w.grownBy wr none)) (fun i _ => n - (intOf i).toNat)
    case atStart => exact ⟨0, _, _, _, _, by omega, rfl, T0, Lib.hid ⟨⟨rfl, Nat.le_refl _, fun j hj => by omega, fun m hm => by simp at hm⟩, fun m hm => by simp at hm, fun j hj => by omega, Nat.le_refl _, fun _ => ⟨rfl, Nat.le_refl _, fun j hj => by omega, fun m hm => by simp at hm⟩⟩, G0⟩
    case round =>
      obtain ⟨k, sa, sb, Za, Zb, hk, rfl, HT, HV, HG⟩ := hrel
      clear T0 G0
      by_cases hl : k < n
      · have hrn := Hr.out
        have hnn := Hn.out
        have hmm := Hm.out
        have X0 : wr.cell? ⟨b, off + k, none⟩ = some (.string (ss.getD k ByteArray.empty)) := HG.out.cell (HC.out k hl) (by simp)
        have hkr : (k + r) % n < n := Nat.mod_lt _ (by omega)
        have hkm : k % n' < n' := Nat.mod_lt _ (by omega)
        have X2 : wr.cell? ⟨b', off' + k % n', none⟩ = some (.int .i64 (zs.getD (k % n') 0)) := HG.out.cell (HC'.out _ hkm) (by simp)
        have X1 : wr.cell? ⟨b, off + (k + r) % n, none⟩ = some (.string (ss.getD ((k + r) % n) ByteArray.empty)) := HG.out.cell (HC.out _ hkr) (by simp)
        have g3 : (k : Int) < (n : Int) := by omega
        have g4 : (0 : Int) ≤ (k : Int) := by omega
        have em : (k : Int).tmod (n' : Int) = ((k % n' : Nat) : Int) := (Int.ofNat_tmod k n').symm
        have em2 : ((k : Int) + (r : Int)).tmod (n : Int) = (((k + r) % n : Nat) : Int) := by rw [← Int.natCast_add]; exact (Int.ofNat_tmod (k + r) n).symm
        have hw : wrap64 ((k : Int) + (r : Int)) = (k : Int) + (r : Int) := IntWalk.wrap64_in _ (by omega)
        have hw2 : IntKind.i64.wrap ((k : Int) + (r : Int)) = (k : Int) + (r : Int) := by rw [IntKind.wrap_i64]; omega
        have g8 : (0 : Int) ≤ ((k % n' : Nat) : Int) := by omega
        have g9 : (0 : Int) ≤ (((k + r) % n : Nat) : Int) := by omega
        have g6 : ((k % n' : Nat) : Int) < (n' : Int) := by omega
        have g7 : (((k + r) % n : Nat) : Int) < (n : Int) := by omega
        generalize ey : ss.getD k ByteArray.empty = y at *
        generalize ey2 : ss.getD ((k + r) % n) ByteArray.empty = y2 at *
        generalize zs.getD (k % n') 0 = z at *
        by_cases hs : 500 < y.size
        · have g5 : (500 : Int) < (y.size : Int) := by omega
          clear hs
          go_wp2_with fail
          refine (HA wr).out.mono ?_
          rintro e w2 ⟨rfl, g⟩
          have G := Lib.hid (gnone HG.out g)
          clear g
          go_wp2_with fail
          go_ret
          exact ⟨rfl, below_g G.out⟩
        · have g5 : ¬ (500 : Int) < (y.size : Int) := by omega
          obtain ⟨v1, v2, v3, v4, v5⟩ := HV.out
          have CP := fun W (hW : wr.grownBy W none) => Lib.hid (skput_any (HT.out.up hW).a y y 1 (by rw [← Hp.out]; exact (gnone HG.out hW).size) (by have := v1.len; omega))
          have hlow := Lib.hid (fun q hq => (show w.heap.size ≤ q by rw [Hp.out]; exact HT.out.low q hq))
          have w1 := ey ▸ v1.put HT.out.a.rise 1 (by show (ss.getD k ByteArray.empty).size ≤ 65536; rw [ey]; omega)
          have w2 := ones_put v2 HT.out.a.rise v1.fz y y (by omega) (by omega)
          have w3 : ∀ j, j < k + 1 → (ss.getD j ByteArray.empty).size ≤ 500 := fun j hj => by
            by_cases e : j = k
            · subst e; rw [ey]; omega
            · exact v3 j (by omega)
          have w4 := putL_len sb y2 y2 z
          have w5 := fun (ha : ∀ j, j < n → (ss.getD j ByteArray.empty).size ≤ 500) => ey2 ▸ (v5 ha).put HT.out.b.rise z (by show (ss.getD ((k + r) % n) ByteArray.empty).size ≤ 65536; have := ha _ hkr; omega)
          have HV2 := Lib.hid (And.intro w1 (And.intro w2 (And.intro w3 (And.intro (show (putL sb y2 y2 z).2.L.length ≤ k + 1 by omega) w5))))
          have Hul := Lib.hid (show sb.L.length ≤ 100000 by omega)
          generalize k % n' = km at *
          generalize hmr : (k + r) % n = kr at *
          clear w1 w2 w3 w4 w5 v1 v2 v3 v4 v5 hs HV ey ey2 hmr
          go_upto_region 12 with fail
          go_still_tail 9, (by kernel_rfl)
          have CQ := (CP _ (only_drew (grefl wr none))).out
          clear CP
          go_wp2_with fail
          refine CQ.mono ?_
          rintro e w2 ⟨rfl, Za2, h1, h2, h3⟩
          have HG2 := Lib.hid (tu_new (gnone HG.out (only_drew (grefl wr none))) h2 (fun q hq => hlow.out q (Or.inl hq)))
          have HT2 := Lib.hid ((HT.out.up (only_drew (grefl wr none))).setA h1 h2 h3)
          have X1' : w2.cell? ⟨b, off + kr, none⟩ = some (.string y2) := (h2.below (B := w.heap.size) HG.out.size (fun q hq => hlow.out q (Or.inl hq))).cell (p := ⟨b, off + kr, none⟩) Hb.out |>.trans X1
          have X2' : w2.cell? ⟨b', off' + km, none⟩ = some (.int .i64 z) := (h2.below (B := w.heap.size) HG.out.size (fun q hq => hlow.out q (Or.inl hq))).cell (p := ⟨b', off' + km, none⟩) Hb'.out |>.trans X2
          have CQ := Lib.hid (skput_any (HT2.out.up (only_drew (grefl w2 none))).b y2 y2 z (by rw [← Hp.out]; exact (gnone HG2.out (only_drew (grefl w2 none))).size) Hul.out)
          have hlow2 := Lib.hid (fun q hq => (show w.heap.size ≤ q by rw [Hp.out]; exact HT2.out.low q hq))
          clear h1 h2 h3 HG HT hlow X0 X1 X2
          go_upto_region 13 with fail
          go_still_tail 26, (by kernel_rfl)
          have CQ2 := CQ.out
          clear CQ
          go_wp2_with fail
          refine CQ2.mono ?_
          rintro e w3 ⟨rfl, Zb2, h1, h2, h3⟩
          have HG3 := Lib.hid (tu_new (gnone HG2.out (only_drew (grefl w2 none))) h2 (fun q hq => hlow2.out q (Or.inr hq)))
          have HT3 := Lib.hid ((HT2.out.up (only_drew (grefl w2 none))).setB h1 h2 h3)
          clear h1 h2 h3 HG2 HT2 hlow2 X1' X2'
          go_wp2_with fail
          go_roundw
          case rel => exact ⟨k + 1, _, _, Za2, Zb2, by omega, by go_num, HT3, HV2, HG3⟩
          case measure => simp [intOf]; omega
      · obtain rfl : k = n := by omega
        obtain ⟨v1, v2, v3, -, v5⟩ := HV.out
        obtain ⟨rows, lens, byts⟩ := two_orders v1 (v5 v3) (fun i hi => by
          obtain ⟨j, hj, e⟩ := turn_to Hr.out i hi
          exact ⟨j, hj, by show ss.getD i _ = ss.getD ((j + r) % k) _; rw [e]⟩) (fun i hi => ⟨(i + r) % k, Nat.mod_lt _ (by omega), rfl⟩) HT.out.a.rise HT.out.b.rise
        have hla := v1.len
        have hnn := Hn.out
        have hbig := fun m (hm : m ∈ sb.L) => HT.out.b.ok m hm
        have K1 := Lib.hid (skfrom_any HT.out.a ⟨#[]⟩ (-1) (by omega))
        rw [from_all, rows] at K1
        clear hl HV v5 v3
        go_wp2_with fail
        refine K1.out.mono ?_
        rintro e w2 ⟨v, rfl, hv, g⟩
        obtain ⟨av, cv, rfl⟩ := hv.slice
        have HO := Lib.hid hv
        have HT2 := Lib.hid (HT.out.up g)
        have HG2 := Lib.hid (gnone HG.out g)
        have K2 := Lib.hid (skfrom_any HT2.out.b ⟨#[]⟩ (-1) (by omega))
        rw [from_all] at K2
        clear hv g K1 HT HG
        go_wp2_with fail
        refine K2.out.mono ?_
        rintro e w3 ⟨v, rfl, hv, g⟩
        obtain ⟨au, cu, rfl⟩ := hv.slice
        have HX := Lib.hid (HO.out.below (below_g g))
        have HY := Lib.hid hv
        have HT3 := Lib.hid (HT2.out.up g)
        have HG3 := Lib.hid (gnone HG2.out g)
        clear hv g K2 HT2 HG2 HO
        rw [List.length_map]
        obtain ⟨ny, hny⟩ : ∃ ny, ny = sb.L.length := ⟨_, rfl⟩
        rw [← hny]
        have HS := Lib.hid (fun j m (hm : sb.L[j]? = some m) => (show stepsL sa.L m.1 = j ∧ stepsL sb.L m.1 ≤ j from by
          have hm2 : (sb.L.map fun m => (m.1, m.2.1))[j]? = some (m.1, m.2.1) := by rw [List.getElem?_map, hm]; rfl
          rw [← rows, List.getElem?_map] at hm2
          obtain ⟨x, hx, e⟩ := Option.map_eq_some_iff.1 hm2
          have e1 : x.1 = m.1 := (Prod.mk.inj e).1
          refine ⟨?_, ?_⟩
          · rw [steps_one v2, ← e1]
            exact place_mem HT3.out.a.rise hx
          · have := steps_le HT3.out.b.rise m.1
            rw [place_mem HT3.out.b.rise hm] at this
            exact this))
        have HR := Lib.hid HT3.out.b.rise
        have Hny := Lib.hid hny
        have Hbig := Lib.hid hbig
        have Hlens := Lib.hid lens
        have Hbyts := Lib.hid byts
        have HF := Lib.hid (fun (h : 0 < ny) => Own.some_ HY.out (by rw [List.length_map, ← hny]; exact h))
        have hny120 : ny ≤ 120 := by omega
        clear rows lens byts v1 v2 hbig hla hny
        go_wp2_with fail
        go_loopw [13, 14] (fun s13 _ wi => ∃ j : Nat, j ≤ ny ∧ s13 = .int .i64 (j : Int) ∧ Hid (w3.grownBy wi none)) (fun s13 _ _ => ny - (intOf s13).toNat)
        case atStart => exact ⟨0, by omega, rfl, grefl _ _⟩
        case round =>
          obtain ⟨j, hj, rfl, HW⟩ := hrel
          by_cases hl : j < ny
          · obtain ⟨gy, cy, cuy, ey, _, _⟩ := HF.out (by omega)
            injection ey with ey1 ey2 ey3
            subst ey1
            obtain ⟨m, hm⟩ : ∃ m, sb.L[j]? = some m := ⟨_, List.getElem?_eq_getElem (by rw [← Hny.out]; exact hl)⟩
            obtain ⟨s1, s2⟩ := HS.out j m hm
            have y0 := Own.cells (j := 0) HY.out (show (sb.L.map fun m => (m.1, m.2.1))[j]? = some (m.1, m.2.1) from by rw [List.getElem?_map, hm]; rfl) (by decide) rfl
            rw [show j * elKeys.sz + 0 = j * 2 from by show j * 2 + 0 = _; omega] at y0
            have CB := fun W (hW : w3.grownBy W none) => Lib.hid (sksteps_any (HT3.out.b.up hW) m.1 (by rw [← Hny.out]; omega))
            have CA := fun W (hW : w3.grownBy W none) => Lib.hid ((sksteps_any (HT3.out.a.up hW) m.1 (by rw [Hlens.out, ← Hny.out]; omega)).mono (R' := fun e w' => e = .returned (.int .i64 (j : Int)) ∧ w3.grownBy w' none) (fun e w' h => ⟨by rw [h.1, s1], gnone hW h.2⟩))
            have g3 : (j : Int) < (ny : Int) := by omega
            have g4 : (0 : Int) ≤ (j : Int) := by omega
            have z0 : wr.cell? ⟨gy, j * 2, none⟩ = _ := HW.out.cell y0 (by simp)
            have CS := CB _ HW.out
            obtain ⟨st, hst⟩ : ∃ st, stepsL sb.L m.1 = st := ⟨_, rfl⟩
            rw [hst] at CS s2
            obtain ⟨key, hkey⟩ : ∃ key, m.1 = key := ⟨_, rfl⟩
            rw [hkey] at CS y0 z0
            simp only [hkey] at CA
            have t1 : decide ((j : Int) < (st : Int)) = false := decide_eq_false (by omega)
            have t1n : decide (j < st) = false := decide_eq_false (by omega)
            clear CB s1 s2 ey2 ey3
            by_cases hj0 : j = 0
            · have g8 : decide ((0 : Int) < (j : Int)) = false := decide_eq_false (by omega)
              have g8n : decide (0 < j) = false := decide_eq_false (by omega)
              clear hj0
              go_wp2_with fail
              refine CS.out.mono ?_
              rintro e w4 ⟨rfl, g⟩
              have HW2 := Lib.hid (gnone HW.out g)
              clear g
              go_wp2_with fail
              refine wp_region_wq (fun W => w3.grownBy W none) (by kernel_rfl) (by kernel_rfl) (only_drew HW2.out) ?_
              repeat' (first
                | (refine wq_skip (by rfl) ?_; try simp only [Act.put, List.setIfInBounds_toArray, List.set_cons_zero, List.set_cons_succ])
                | (refine wq_take (by rfl) ?_ (fun W hW => ?_) ?_
                   rotate_left
                   focus
                     have z0 : W.cell? ⟨gy, j * 2, none⟩ = _ := hW.cell y0 (by simp)
                     go_simp
                     first
                       | done
                       | with_reducible rfl
                       | (go_at_call 17; exact (CA _ hW).out)
                   try simp only [Act.put, List.setIfInBounds_toArray, List.set_cons_zero, List.set_cons_succ]))
              refine wq_nil (fun w9 S9 => ?_)
              go_wp2_with fail
              go_roundw
              case rel => exact ⟨j + 1, by omega, by go_num, S9⟩
              case measure => simp [intOf]; omega
            · obtain ⟨i, hi⟩ : ∃ i, i + 1 = j := ⟨j - 1, by omega⟩
              obtain ⟨m', hm'⟩ : ∃ m', sb.L[i]? = some m' := ⟨_, List.getElem?_eq_getElem (by rw [← Hny.out]; omega)⟩
              have y1 := Own.cells (j := 0) HY.out (show (sb.L.map fun m => (m.1, m.2.1))[i]? = some (m'.1, m'.2.1) from by rw [List.getElem?_map, hm']; rfl) (by decide) rfl
              rw [show i * elKeys.sz + 0 = i * 2 from by show i * 2 + 0 = _; omega] at y1
              have t3 : Op.bytesLess m'.1.toList key.toList = true := by
                rw [sl_text, ← hkey]
                exact decide_eq_true (HR.out i j m' m (by omega) hm' hm)
              have g7 : wrap64 ((j : Int) - 1) = (i : Int) := (IntWalk.wrap64_in _ (by omega)).trans (by omega)
              have g7w : IntKind.i64.wrap ((j : Int) - 1) = (i : Int) := by rw [IntKind.wrap_i64]; omega
              have g8 : decide ((0 : Int) < (j : Int)) = true := decide_eq_true (by omega)
              have g8n : decide (0 < j) = true := decide_eq_true (by omega)
              have g9 : (i : Int) < (ny : Int) := by omega
              have g9n : i < ny := by omega
              have g10 : (0 : Int) ≤ (i : Int) := by omega
              clear hj0 hi
              obtain ⟨key', hkey'⟩ : ∃ key', m'.1 = key' := ⟨_, rfl⟩
              rw [hkey'] at y1 t3
              clear hm hm' hkey hkey'
              go_wp2_with fail
              refine CS.out.mono ?_
              rintro e w4 ⟨rfl, g⟩
              have HW2 := Lib.hid (gnone HW.out g)
              clear g
              go_wp2_with fail
              refine wp_region_wq (fun W => w3.grownBy W none) (by kernel_rfl) (by kernel_rfl) (only_drew HW2.out) ?_
              repeat' (first
                | (refine wq_skip (by rfl) ?_; try simp only [Act.put, List.setIfInBounds_toArray, List.set_cons_zero, List.set_cons_succ])
                | (refine wq_take (by rfl) ?_ (fun W hW => ?_) ?_
                   rotate_left
                   focus
                     have z0 : W.cell? ⟨gy, j * 2, none⟩ = _ := hW.cell y0 (by simp)
                     have z1 : W.cell? ⟨gy, i * 2, none⟩ = _ := hW.cell y1 (by simp)
                     go_simp
                     first
                       | done
                       | with_reducible rfl
                       | (go_at_call 17; exact (CA _ hW).out)
                   try simp only [Act.put, List.setIfInBounds_toArray, List.set_cons_zero, List.set_cons_succ]))
              refine wq_nil (fun w9 S9 => ?_)
              go_wp2_with fail
              go_roundw
              case rel => exact ⟨j + 1, by omega, by go_num, S9⟩
              case measure => simp [intOf]; omega
          · obtain rfl : j = ny := by omega
            have HCk := fun W (hW : w3.grownBy W none) => Lib.hid ((HA W).out.mono (R' := fun e w' => e = .returned (.bool true) ∧ w3.grownBy w' none) (fun e w' h => ⟨h.1, gnone hW h.2⟩))
            have HCa := fun W (hW : w3.grownBy W none) => Lib.hid ((skcount_any (HT3.out.a.up hW)).mono (R' := fun e w' => e = .returned (.int .i64 (j : Int)) ∧ w3.grownBy w' none) (fun e w' h => ⟨by rw [h.1, Hlens.out, ← Hny.out], by rw [h.2]; exact hW⟩))
            have HCb := fun W (hW : w3.grownBy W none) => Lib.hid ((skcount_any (HT3.out.b.up hW)).mono (R' := fun e w' => e = .returned (.int .i64 (j : Int)) ∧ w3.grownBy w' none) (fun e w' h => ⟨by rw [h.1, ← Hny.out], by rw [h.2]; exact hW⟩))
            have HBa := fun W (hW : w3.grownBy W none) => Lib.hid ((skbytes_any (HT3.out.a.up hW)).mono (R' := fun e w' => e = .returned (.int .i64 (bytesL sb.L : Int)) ∧ w3.grownBy w' none) (fun e w' h => ⟨by rw [h.1, Hbyts.out], by rw [h.2]; exact hW⟩))
            have HBb := fun W (hW : w3.grownBy W none) => Lib.hid ((skbytes_any (HT3.out.b.up hW)).mono (R' := fun e w' => e = .returned (.int .i64 (bytesL sb.L : Int)) ∧ w3.grownBy w' none) (fun e w' h => ⟨h.1, by rw [h.2]; exact hW⟩))
            have HSk := fun W (hW : w3.grownBy W none) => Lib.hid ((sameKeys_any av au _ _ cv cu _ _ _ W (HX.out.below (below_g hW)) (HY.out.below (below_g hW)) (by rw [List.length_map, ← Hny.out]; omega) (fun x hx => by
              obtain ⟨m, hm, rfl⟩ := List.mem_map.1 hx
              obtain ⟨q1, q2, _⟩ := Hbig.out m hm
              exact ⟨by show m.1.size ≤ _; omega, by show m.2.1.size ≤ _; omega⟩)).mono (R' := fun e w' => e = .returned (.bool true) ∧ w3.grownBy w' none) (fun e w' h => ⟨h.1, by obtain ⟨q, e2⟩ := h.2; rw [e2]; exact only_drewN hW q⟩))
            simp only [List.length_map, ← Hny.out] at HSk
            generalize bytesL sb.L = bb at *
            clear hl
            go_wp2_with fail
            refine (HCk _ HW.out).out.mono ?_
            rintro e w10 ⟨rfl, g⟩
            have S0 := Lib.hid g
            clear g
            go_wp2_with fail
            refine (HSk _ S0.out).out.mono ?_
            rintro e w11 ⟨rfl, g⟩
            have S1 := Lib.hid g
            clear g
            go_wp2_with fail
            refine (HCa _ S1.out).out.mono ?_
            rintro e w12 ⟨rfl, g⟩
            have S2 := Lib.hid g
            clear g
            go_wp2_with fail
            refine (HCb _ S2.out).out.mono ?_
            rintro e w13 ⟨rfl, g⟩
            have S3 := Lib.hid g
            clear g
            go_wp2_with fail
            refine (HBa _ S3.out).out.mono ?_
            rintro e w14 ⟨rfl, g⟩
            have S4 := Lib.hid g
            clear g
            go_wp2_with fail
            refine (HBb _ S4.out).out.mono ?_
            rintro e w15 ⟨rfl, g⟩
            have S5 := Lib.hid g
            clear g
            go_wp2_with fail
            go_ret
            exact ⟨rfl, below_g (gnone HG3.out S5.out)⟩

theorem lawSkipHeights (A : Option Addr) (n c : Nat) (ss : List ByteArray) (A' : Option Addr) (n' c' : Nat) (zs : List Int) (z : Int) (_ : (Lit.int .i64 z).wf = true) (w : World) (I : StrsIn w A n ss) (I' : IntsIn w A' n' zs) (hm : n' ≤ 17592186043904) :
    Calls Try.prog 4 #[.slice A n c, .slice A' n' c', .int .i64 z] w fun e w' => e = .returned (.bool true) ∧ Below w.heap.size w w' := by
  by_cases h : 120 < n ∨ n = 0 ∨ n' = 0
  · exact skipheights_long A n c A' n' c' z w h
  · exact skipheights_some A n c ss A' n' c' zs z w I I' (by omega) (by omega) (by omega) hm
end Go.Proofs.Ytpkoiacenamccaa
