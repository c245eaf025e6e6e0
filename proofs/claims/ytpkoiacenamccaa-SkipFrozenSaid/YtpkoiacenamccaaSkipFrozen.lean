/-
  SkipFrozen: a frozen list tells what it told, and takes nothing more.
-/
import Derived.Test.YtpkoiacenamccaaSp13
import Derived.Test.YtpkoiacenamccaaSpP
import Derived.Test.YtpkoiacenamccaaView
import Derived.LoopTactic
import Derived.Deep.RegionWith
namespace Go.Proofs.Ytpkoiacenamccaa
open Go.RowKit

/-- Each of the first k keys is there, with itself as its value. -/
structure InvF (ss : List ByteArray) (k : Nat) (s : S10) : Prop where
  fz : s.frozen = false
  len : s.L.length ≤ k
  all : ∀ j, j < k → ∃ m ∈ s.L, m.1 = ss.getD j ByteArray.empty
  val : ∀ m ∈ s.L, m.2.1 = m.1
theorem InvF.put {ss : List ByteArray} {k : Nat} {s : S10} (h : InvF ss k s) (hR : Rising s.L) (t : Int) (hk : (ss.getD k ByteArray.empty).size ≤ 65536) : InvF ss (k + 1) (putL s (ss.getD k ByteArray.empty) (ss.getD k ByteArray.empty) t).2 := by
  obtain ⟨h1, h2, h3, h4⟩ := put_spec s (ss.getD k ByteArray.empty) (ss.getD k ByteArray.empty) t hR h.fz hk hk
  refine ⟨h1, Nat.le_trans h2 (by have := h.len; omega), fun j hj => ?_, fun m hm => ?_⟩
  · by_cases e : j = k
    · subst e
      rcases h4 with ⟨a, _, b⟩ | ⟨a, _, b, c⟩
      · rw [b]; exact (hasL_iff hR _).1 a
      · rw [b]; exact ⟨_, mem_insL.2 (Or.inr rfl), rfl⟩
    · obtain ⟨m, hm, e2⟩ := h.all j (by omega)
      exact ⟨m, h3 m hm, e2⟩
  · rcases h4 with ⟨a, _, b⟩ | ⟨a, _, b, c⟩
    · rw [b] at hm; exact h.val m hm
    · rw [b] at hm
      rcases mem_insL.1 hm with hm | rfl
      · exact h.val m hm
      · rfl
theorem putL_froz (s : S10) (key value : ByteArray) (t : Int) (h : s.frozen = true) : putL s key value t = (30, s) := by unfold putL; rw [h]; rfl

set_option maxRecDepth 100000 in
set_option maxHeartbeats 2000000 in
theorem skipfrozen_long (A : Option Addr) (n c : Nat) (more : ByteArray) (w : World) (h : 100 < n ∨ 300 < more.size) :
    Calls Try.prog 7 #[.slice A n c, .string more] w fun e w' => e = .returned (.bool true) ∧ Below w.heap.size w w' := by
  have HA := Lib.hid (alive10_any w)
  by_cases h1 : 100 < n
  · have g1 : (100 : Int) < (n : Int) := by omega
    clear h
    go_enter Try.func7, Try.ntmps7
    go_wp2_with fail
    refine HA.out.mono ?_
    rintro e w1 ⟨rfl, g⟩
    have G := Lib.hid g
    clear g
    go_wp2_with fail
    go_ret
    exact ⟨rfl, below_g G.out⟩
  · have g1 : ¬ (100 : Int) < (n : Int) := by omega
    have g2 : (300 : Int) < (more.size : Int) := by omega
    clear h
    go_enter Try.func7, Try.ntmps7
    go_wp2_with fail
    refine HA.out.mono ?_
    rintro e w1 ⟨rfl, g⟩
    have G := Lib.hid g
    clear g
    go_wp2_with fail
    go_ret
    exact ⟨rfl, below_g G.out⟩

set_option maxRecDepth 100000 in
set_option maxHeartbeats 8000000 in
theorem skipfrozen_some (A : Option Addr) (n c : Nat) (ss : List ByteArray) (more : ByteArray) (w : World) (I : StrsIn w A n ss) (hn : n ≤ 100) (hm : more.size ≤ 300) :
    Calls Try.prog 7 #[.slice A n c, .string more] w fun e w' => e = .returned (.bool true) ∧ Below w.heap.size w w' := by
  have g1 : ¬ (100 : Int) < (n : Int) := by omega
  have g2 : ¬ (300 : Int) < (more.size : Int) := by omega
  have HI := Lib.hid I
  have HA := fun W => Lib.hid (alive10_any W)
  have C0 := Lib.hid (sknew_any w)
  have Hn := Lib.hid hn
  clear I hm hn
  go_enter Try.func7, Try.ntmps7
  go_wp2_with fail
  refine C0.out.mono ?_
  rintro e w1 ⟨rfl, rfl⟩
  have Z0 := Lib.hid (skz_new (B := w.heap.size) (Blk.new w 54 newC) (Nat.le_refl _))
  have G0 := Lib.hid (World.grownBy_alloc w (.cells newC 54) none)
  have V0 : Hid (InvF ss 0 ⟨[], false⟩) := ⟨rfl, Nat.le_refl _, fun j hj => by omega, fun m hm => by simp at hm⟩
  generalize w.alloc (.cells newC 54) = w1 at *
  generalize hp : w.heap.size = p at *
  have Hp := Lib.hid hp
  clear hp C0
  go_wp2_with fail
  go_loopw [6] (fun i wr => ∃ (k : Nat) (s : S10) (Z : List Z10), k ≤ n ∧ i = .int .i64 (k : Int) ∧ Hid (InvF ss k s) ∧ Hid (SkZ p p wr s Z) ∧ Hid (w.grownBy wr none)) (fun i _ => n - (intOf i).toNat)
  case atStart => exact ⟨0, _, _, by omega, rfl, V0, Z0, G0⟩
  case round =>
    obtain ⟨k, s, Z, hk, rfl, V, HZ, HG⟩ := hrel
    clear V0 Z0 G0
    by_cases hl : k < n
    · obtain ⟨b, off, rfl, hlt, hc⟩ := HI.out.some (by omega)
      have x0 := hc k hl
      have X0 : wr.cell? ⟨b, off + k, none⟩ = some (.string (ss.getD k ByteArray.empty)) := HG.out.cell x0 (by simp)
      have g3 : (k : Int) < (n : Int) := by omega
      have g4 : (0 : Int) ≤ (k : Int) := by omega
      have HV := Lib.hid (fun t (hs : (ss.getD k ByteArray.empty).size ≤ 65536) => V.out.put HZ.out.rise t hs)
      generalize ss.getD k ByteArray.empty = y at *
      clear hc x0
      by_cases hs : 300 < y.size
      · have g5 : (300 : Int) < (y.size : Int) := by omega
        clear hs
        go_wp2_with fail
        refine (HA wr).out.mono ?_
        rintro e w2 ⟨rfl, g⟩
        have G := Lib.hid (gnone HG.out g)
        clear g
        go_wp2_with fail
        go_ret
        exact ⟨rfl, below_g G.out⟩
      · have g5 : ¬ (300 : Int) < (y.size : Int) := by omega
        have CP := fun t W (hW : wr.grownBy W none) => Lib.hid (skput_any (HZ.out.up hW) y y t (by rw [← Hp.out]; exact (gnone HG.out hW).size) (by have := V.out.len; have := Hn.out; omega))
        go_upto_region 9 with fail
        go_region_with (go_at_call 12; refine (CP _ _ (only_drew (grefl wr none))).out.mono ?_; rintro e w2 ⟨rfl, Z2, h1, h2, -⟩)
        all_goals
          have hf := fun q (hq : Foot p Z q) => (HZ.out.foot_lt hq).1
          have HG2 := Lib.hid (tu_new (gnone HG.out (only_drew (grefl wr none))) h2 (fun q hq => by rw [Hp.out]; exact hf q hq))
          have HV2 := Lib.hid (HV.out (bits .and .i64 (k : Int) 3) (by omega))
          have HZ2 := Lib.hid h1
          clear h1 h2 hf HZ HG V HV CP X0 hs
          go_wp2_with fail
          go_roundw
          case rel => exact ⟨k + 1, _, Z2, by omega, by go_num, HV2, HZ2, HG2⟩
          case measure => simp [intOf]; omega
    · obtain rfl : k = n := by omega
      have hlen := V.out.len
      have hsn := Hn.out
      have K1 := Lib.hid (skcount_any HZ.out)
      have K2 := Lib.hid (skbytes_any HZ.out)
      have K3 := Lib.hid (skfreeze_any HZ.out)
      have hf := Lib.hid (fun q (hq : Foot p Z q) => (show w.heap.size ≤ q by rw [Hp.out]; exact (HZ.out.foot_lt hq).1))
      go_wp2_with fail
      refine K1.out.mono ?_
      rintro e w' ⟨rfl, rfl⟩
      go_wp2_with fail
      refine K2.out.mono ?_
      rintro e w' ⟨rfl, rfl⟩
      go_wp2_with fail
      refine K3.out.mono ?_
      rintro e w2 ⟨rfl, hz, hT⟩
      have HG2 := Lib.hid (tu_new HG.out hT hf.out)
      have HZ2 := Lib.hid hz
      obtain ⟨sf, hsf⟩ : ∃ sf, sf = { s with frozen := true } := ⟨_, rfl⟩
      have hsL : sf.L = s.L := by rw [hsf]
      have hsF : sf.frozen = true := by rw [hsf]
      rw [← hsf] at HZ2
      have CP := skput_any HZ2.out more tX 1 (by rw [← Hp.out]; exact HG2.out.size) (by rw [hsL]; omega)
      rw [putL_froz _ _ _ _ hsF] at CP
      have HP := Lib.hid CP
      clear hz hT K1 K2 K3 HG CP hsf HZ
      go_wp2_with fail
      refine HP.out.mono ?_
      rintro e w3 ⟨rfl, Z3, hz, hT, -⟩
      have HG3 := Lib.hid (tu_new HG2.out hT hf.out)
      have HZ3 := Lib.hid hz
      have K1 := skfrozen_any HZ3.out
      rw [hsF] at K1
      have K2 := skcount_any HZ3.out
      rw [hsL] at K2
      have K3 := skbytes_any HZ3.out
      rw [hsL] at K3
      have K4 := skfrom_any HZ3.out ⟨#[]⟩ (-1) (by rw [hsL]; omega)
      rw [hsL, from_all] at K4
      have H1 := Lib.hid K1
      have H2 := Lib.hid K2
      have H3 := Lib.hid K3
      have H4 := Lib.hid K4
      clear K1 K2 K3 K4 hz hT HP HG2 HZ2 hf
      go_wp2_with fail
      refine H1.out.mono ?_
      rintro e w' ⟨rfl, rfl⟩
      go_wp2_with fail
      refine H2.out.mono ?_
      rintro e w' ⟨rfl, rfl⟩
      go_wp2_with fail
      refine H3.out.mono ?_
      rintro e w' ⟨rfl, rfl⟩
      go_wp2_with fail
      refine H4.out.mono ?_
      rintro e w4 ⟨v, rfl, hv, g4⟩
      obtain ⟨av, cv, rfl⟩ := hv.slice
      have HG4 := Lib.hid (gnone HG3.out g4)
      have HZ4 := Lib.hid (HZ3.out.up g4)
      rw [List.length_map]
      clear hv g4 H1 H2 H3 H4 HG3 HZ3
      have HGet := Lib.hid (fun j (hj : j < k) => (show getL sf.L (ss.getD j ByteArray.empty) = (ss.getD j ByteArray.empty, 0) from by
        obtain ⟨m, hm, e⟩ := V.out.all j hj
        rw [← e, hsL, getL_mem (by have := HZ4.out.rise; rwa [hsL] at this) hm, V.out.val m hm]))
      have HL := Lib.hid (show sf.L.length ≤ 100000 by rw [hsL]; omega)
      clear V
      go_wp2_with fail
      go_loopw [9, 10, 11] (fun s9 _ _ wi => ∃ j : Nat, j ≤ k ∧ s9 = .int .i64 (j : Int) ∧ Hid (SkZ p p wi sf Z3) ∧ Hid (w.grownBy wi none)) (fun s9 _ _ _ => k - (intOf s9).toNat)
      case atStart => exact ⟨0, by omega, rfl, HZ4, HG4⟩
      case round =>
        clear HZ4 HG4
        obtain ⟨j, hj, rfl, HZ, HG⟩ := hrel
        by_cases hl : j < k
        · obtain ⟨b, off, rfl, hlt, hc⟩ := HI.out.some (by omega)
          have x0 := hc j hl
          have X0 : wr.cell? ⟨b, off + j, none⟩ = some (.string (ss.getD j ByteArray.empty)) := HG.out.cell x0 (by simp)
          have g3 : (j : Int) < (k : Int) := by omega
          have g4 : (0 : Int) ≤ (j : Int) := by omega
          have HY := HGet.out j hl
          have CG := skget_any HZ.out (ss.getD j ByteArray.empty) HL.out
          rw [HY] at CG
          have HCG := Lib.hid CG
          generalize ss.getD j ByteArray.empty = y at *
          have et : (y.toList == y.toList) = true := by rw [teq9]; exact decide_eq_true rfl
          clear hc x0 HY CG
          go_wp2_with fail
          refine HCG.out.mono ?_
          rintro e w5 ⟨rfl, g5⟩
          have X1 := g5.cell X0 (by simp)
          have HG5 := Lib.hid (gnone HG.out g5)
          have HZ5 := Lib.hid (HZ.out.up g5)
          clear g5 HG HZ HCG
          go_wp2_with fail
          go_roundw
          case rel => exact ⟨j + 1, by omega, by go_num, HZ5, HG5⟩
          case measure => simp [intOf]; omega
        · obtain rfl : j = k := by omega
          go_wp2_with fail
          refine (HA _).out.mono ?_
          rintro e w5 ⟨rfl, g5⟩
          have HG5 := Lib.hid (gnone HG.out g5)
          clear g5 HG HZ
          go_wp2_with fail
          go_ret
          exact ⟨rfl, below_g HG5.out⟩

theorem lawSkipFrozen (A : Option Addr) (n c : Nat) (ss : List ByteArray) (more : ByteArray) (_ : more.size ≤ 140737488351232) (w : World) (I : StrsIn w A n ss) :
    Calls Try.prog 7 #[.slice A n c, .string more] w fun e w' => e = .returned (.bool true) ∧ Below w.heap.size w w' := by
  by_cases h : 100 < n ∨ 300 < more.size
  · exact skipfrozen_long A n c more w h
  · exact skipfrozen_some A n c ss more w I (by omega) (by omega)
end Go.Proofs.Ytpkoiacenamccaa
