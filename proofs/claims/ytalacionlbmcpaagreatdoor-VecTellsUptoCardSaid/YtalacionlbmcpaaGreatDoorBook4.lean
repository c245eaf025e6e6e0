/-
  The book of lists, vectors: are they as they were?
-/
import Derived.Test.YtalacionlbmcpaaGreatDoorBook3
namespace Go.Proofs.YtalacionlbmcpaaGreatDoor
open Go.RowKit

/-- The lists L can be read, as Z. -/
def Seen (w : World) (L : List Value) (Z : List (List Int)) : Prop := L.length = Z.length ∧ ∀ i, i < L.length → ∃ A n c, L[i]? = some (.slice A n c) ∧ IntsIn w A n (Z.getD i [])
theorem Seen.drewN {w : World} {L : List Value} {Z : List (List Int)} (h : Seen w L Z) (q : Nat) : Seen (w.drewN q) L Z :=
  ⟨h.1, fun i hi => by obtain ⟨A, n, c, h1, h2⟩ := h.2 i hi; exact ⟨A, n, c, h1, h2.drewN q⟩⟩
theorem VBook.drewN {w : World} {B bk : Nat} {v1 v2 : Value} {L C : List Value} (h : VBook w B bk v1 v2 L C) (q : Nat) : VBook (w.drewN q) B bk v1 v2 L C := ⟨h.low, h.blk, h.r1, h.r2, h.off⟩
theorem own_slice {w : World} {B : Nat} {e : TypeId} {v : Value} {n : Nat} {xs : List Value} (h : w.ownsRow B e 1 v n xs) : ∃ a c, v = .slice a n c := by
  rcases h.2 with ⟨rfl, rfl⟩ | ⟨g, cap, cur, rfl, _⟩ <;> exact ⟨_, _, rfl⟩
theorem own_cells {w : World} {B : Nat} {e : TypeId} {v : Value} {n : Nat} {xs : List Value} (h : w.ownsRow B e 1 v n xs) (hn : 0 < n) : ∃ g o c, v = .slice (some ⟨g, o, none⟩) n c ∧ B ≤ g ∧ ∀ j u, xs[j]? = some u → w.cell? ⟨g, o + j, none⟩ = some u := by
  rcases h.2 with ⟨rfl, h0⟩ | ⟨g, cap, cur, rfl, hb, _⟩
  · omega
  · exact ⟨g, 0, cap, rfl, hb, fun j u hj => by have := World.ownsRow.cells h (g := g) rfl j u hj; rwa [Addr.add_lit] at this⟩

set_option maxRecDepth 100000 in
set_option maxHeartbeats 1000000 in
theorem stillVecs_any (B bk : Nat) (v1 v2 : Value) (L C : List Value) (Z : List (List Int)) (w : World) (hV : VBook w B bk v1 v2 L C) (hL : Seen w L Z) (hC : Seen w C Z) (hm : L.length ≤ 1000) :
    Calls Tryz.prog 52 #[.pointer (some ⟨bk, 0, none⟩)] w fun e w' => e = .returned (.bool true) ∧ ∃ q, w' = w.drewN q := by
  have HV := Lib.hid hV
  have HL := Lib.hid hL
  have HC := Lib.hid hC
  obtain ⟨m, hmL⟩ : ∃ m, L.length = m := ⟨_, rfl⟩
  have hmC : C.length = m := by rw [hC.1, ← hL.1, hmL]
  obtain ⟨a1, p1, e1⟩ := own_slice hV.r1
  obtain ⟨a2, p2, e2⟩ := own_slice hV.r2
  rw [hmL] at e1 hm
  rw [hmC] at e2
  have c4 := hV.blk.cell 4
  have c5 := hV.blk.cell 5
  simp [bookV, e1, e2] at c4 c5
  have HmL := Lib.hid hmL
  have HmC := Lib.hid hmC
  have E1 := Lib.hid e1
  have E2 := Lib.hid e2
  have hm' : (m : Int) ≤ 1000 := by omega
  clear hV hL hC hmL hmC e1 e2
  go_enter Tryz.func52, Tryz.ntmps52
  go_wp2_with fail
  go_loopw [3] (fun i wr => ∃ k q : Nat, k ≤ m ∧ i = .int .i64 (k : Int) ∧ Hid (wr = w.drewN q)) (fun i _ => m - (intOf i).toNat)
  case atStart => exact ⟨0, 0, by omega, rfl, rfl⟩
  case round =>
    obtain ⟨k, q, hk, rfl, Hw⟩ := hrel
    have d4 : wr.cell? ⟨bk, 4, none⟩ = some (.slice a1 m p1) := by rw [Hw.out]; exact c4
    have d5 : wr.cell? ⟨bk, 5, none⟩ = some (.slice a2 m p2) := by rw [Hw.out]; exact c5
    by_cases hl : k < m
    · obtain ⟨g1, o1, q1, f1, _, r1⟩ := own_cells (HV.out.drewN q).r1 (by rw [HmL.out]; omega)
      obtain ⟨g2, o2, q2, f2, _, r2⟩ := own_cells (HV.out.drewN q).r2 (by rw [HmC.out]; omega)
      obtain ⟨A1, n1, b1, t1, i1⟩ := (HL.out.drewN q).2 k (by rw [HmL.out]; exact hl)
      obtain ⟨A2, n2, b2, t2, i2⟩ := (HC.out.drewN q).2 k (by rw [HmC.out]; exact hl)
      have s1 := r1 k _ t1
      have s2 := r2 k _ t2
      rw [← Hw.out] at s1 s2 i1 i2
      rw [E1.out] at f1
      rw [E2.out] at f2
      injection f1 with f11 f12 f13
      injection f2 with f21 f22 f23
      subst f11
      subst f21
      have K : Hid (∀ q, Calls Tryz.prog 117 #[.slice A1 n1 b1, .slice A2 n2 b2] (wr.drewN q) fun e w' => e = .returned (.bool true) ∧ ∃ m, w' = (wr.drewN q).drewN m) := fun q =>
        (sameVecs_any A1 n1 b1 _ A2 n2 b2 _ (wr.drewN q) (i1.drewN q) (i2.drewN q)).mono fun e w' h => ⟨by rw [h.1]; simp, h.2⟩
      have hl1 : (k : Int) < (m : Int) := by omega
      clear r1 r2 t1 t2 i1 i2 f12 f13 f22 f23
      go_wp2_with fail
      go_quiet (first | (go_at_call 117; refine Calls.quiet_of (K.out _)))
      go_wp2_with fail
      go_roundw
      case rel => exact ⟨k + 1, _, by omega, by go_num, (by rw [Hw.out, World.drewN_drewN]; rfl)⟩
      case measure => simp [intOf]; omega
    · obtain rfl : k = m := by omega
      go_wp2_with fail
      go_ret
      exact ⟨rfl, q, Hw.out⟩
end Go.Proofs.YtalacionlbmcpaaGreatDoor
