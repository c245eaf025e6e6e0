/-
  The book of lists, vectors: do all bear their marks?
-/
import Derived.Test.YtalacionlbmcpaaGreatDoorBook7
namespace Go.Proofs.YtalacionlbmcpaaGreatDoor
open Go.RowKit

theorem cell_lt {w : World} {g o : Nat} {v : Value} (h : w.cell? ⟨g, o, none⟩ = some v) : g < w.heap.size := by
  unfold World.cell? at h
  refine Nat.lt_of_not_le fun hge => ?_
  rw [Array.getElem?_eq_none hge] at h
  simp at h

set_option maxRecDepth 100000 in
set_option maxHeartbeats 1000000 in
theorem markedVecs_any (B B2 m c : Nat) (al : Option Addr) (xs : List Value) (a : Nat → Value) (n : Nat → Nat) (w : World) (hown : w.ownsRow B2 22 1 (.slice al m c) m xs) (hA : ∀ i, i < m → xs[i]? = some (a i)) (hR : ∀ i, i < m → Nums w B 3 (a i) (markV i 0 (n i))) (hn : ∀ i, i < m → n i ≤ 200000) (hm : m ≤ 250) :
    Calls Tryz.prog 97 #[.slice al m c] w fun e w' => e = .returned (.bool true) ∧ Below w.heap.size w w' := by
  have HO := Lib.hid hown
  have HR := Lib.hid hR
  have HA := Lib.hid hA
  have Hn := Lib.hid hn
  have hm' : (m : Int) ≤ 250 := by omega
  clear hown hR hA hn
  go_enter Tryz.func97, Tryz.ntmps97
  go_wp2_with fail
  go_loopw [3] (fun i wr => ∃ k : Nat, k ≤ m ∧ i = .int .i64 (k : Int) ∧ Hid (Below w.heap.size w wr)) (fun i _ => m - (intOf i).toNat)
  case atStart => exact ⟨0, by omega, rfl, Below.refl _ _⟩
  case round =>
    obtain ⟨k, hk, rfl, HB1⟩ := hrel
    by_cases hl : k < m
    · obtain ⟨g1, o1, q1, f1, _, r1⟩ := own_cells (own_below HO.out HB1.out (Nat.le_refl _)) (by omega)
      have s1 := r1 k _ (HA.out k hl)
      injection f1 with f11 f12 f13
      subst f11
      obtain ⟨nk, hnk⟩ : ∃ x, n k = x := ⟨_, rfl⟩
      have hnk2 := Hn.out k hl
      rw [hnk] at hnk2
      have hrow := HR.out k hl
      rw [hnk] at hrow
      obtain ⟨ak, ck, ek, ik, _⟩ := hrow.ints (markV_wf k 0 nk (by omega) (by omega))
      rw [markV_length] at ek ik
      rw [ek] at s1
      have hg1 := cell_lt s1
      have Hs1 : Hid (∀ W, Below wr.heap.size wr W → W.cell? ⟨g1, o1 + k, none⟩ = some (.slice ak nk ck)) := fun W hW => by
        unfold World.cell? at s1 ⊢
        rw [hW.block g1 hg1]
        exact s1
      have M : Hid (∀ W, Below wr.heap.size wr W → Calls Tryz.prog 137 #[.int .i64 (k : Int), .int .i64 0, .int .i64 (nk : Int)] W fun e W1 => ∃ av cv, e = .returned (.slice av nk cv) ∧ W1.cell? ⟨g1, o1 + k, none⟩ = some (.slice ak nk ck) ∧ Hid (Below wr.heap.size wr W1 ∧ ∀ W2, Below W1.heap.size W1 W2 → Calls Tryz.prog 117 #[.slice ak nk ck, .slice av nk cv] W2 fun e W3 => e = .returned (.bool true) ∧ Hid (Below wr.heap.size wr W3))) := by
        intro W hW
        refine (markVecs_any k 0 nk W (by omega) (by omega)).mono ?_
        rintro e W1 ⟨v, rfl, hN, hb⟩
        have hb1 : Below wr.heap.size wr W1 := hW.trans (hb.mono hW.size)
        obtain ⟨av, cv, ev, iv, _⟩ := hN.ints (markV_wf k 0 nk (by omega) (by omega))
        rw [markV_length] at ev iv
        subst ev
        refine ⟨av, cv, rfl, Hs1.out W1 hb1, hb1, fun W2 h2 => ?_⟩
        refine (sameVecs_any ak nk ck (markV k 0 nk) av nk cv (markV k 0 nk) W2 ?_ (iv.below h2)).mono ?_
        · exact (ik.below HB1.out).below (hb1.trans (h2.mono hb1.size))
        · rintro e W3 ⟨rfl, q, rfl⟩
          exact ⟨by simp, below_drewN (hb1.trans (h2.mono hb1.size)) q⟩
      have hl1 : (k : Int) < (m : Int) := by omega
      have hnk3 : (nk : Int) ≤ 200000 := by omega
      clear r1 f12 f13 hnk ek ik hrow
      go_wp2_with fail
      go_region_with (first
        | (go_at_call 137; refine (M.out _ (by first | exact Below.refl _ _ | exact (Below.refl _ _).drew)).mono ?_; rintro e W1 ⟨av, cv, rfl, hs2, H2⟩)
        | (go_at_call 117; refine (H2.out.2 _ (by first | exact Below.refl _ _ | exact (Below.refl _ _).drew)).mono ?_; rintro e W3 ⟨rfl, H3⟩))
      all_goals go_wp2_with fail
      all_goals go_roundw
      all_goals first
        | exact ⟨k + 1, by omega, by go_num, HB1.out.trans (H3.out.mono HB1.out.size)⟩
        | exact ⟨k + 1, by omega, by go_num, (HB1.out.trans (H3.out.mono HB1.out.size)).drew⟩
        | (simp [intOf]; omega)
    · obtain rfl : k = m := by omega
      go_wp2_with fail
      go_ret
      exact ⟨rfl, HB1.out⟩
end Go.Proofs.YtalacionlbmcpaaGreatDoor
