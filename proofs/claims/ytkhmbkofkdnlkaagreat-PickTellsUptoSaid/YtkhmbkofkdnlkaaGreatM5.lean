/-
  Several texts in one: The book of lists, Ints: one more is kept; the bound behind it as low as one likes. (XBkInts4 with S' in place of the heap's size.)
  The book of lists: of a kind of which nothing was kept. (Written by wip/gen/gen_booknil.py.)
  The book of lists, where Ints, Reals alone were kept: each is as it was, and none shares memory with another. (Written by wip/gen/gen_bkapart.py.)
  The last step of a law's row: the call leaves all that was there as it was.
  'There is an input that fits' for a row with a condition and listed variables, at a world whose shape is shown as one likes. No program is named.
-/
import Derived.Test.YtkhmbkofkdnlkaaGreatM4
import Derived.Test.YtkhmbkofkdnlkaaGreatRows
import Derived.Test.YtkhmbkofkdnlkaaGreatM1
import Derived.WalkKit
import Derived.WalkSpells
import Derived.WalkLawsBesides
import Derived.Below
import Derived.ChangeSame
import Derived.ProofKit
import Derived.Deep.DeepHandedRow
import Derived.Test.YtkhmbkofkdnlkaaGreatM2
import Derived.Test.YtkhmbkofkdnlkaaGreatM3
namespace Go.Proofs.YtkhmbkofkdnlkaaGreat
open Go.RowKit

set_option maxRecDepth 100000 in
set_option maxHeartbeats 4000000 in
theorem keepIntsS_any (B bk S S' lo : Nat) (bcs : Array Value) (Z : List (List (Int))) (A : Option Addr) (n c : Nat) (L : List (Int)) (w : World) (hb : Blk w bk 41 bcs) (h : KStInts w B bcs Z S) (hx : Own elInts w lo 3 (.slice A n c) L) (hSl : S ≤ lo) (hBl : B ≤ lo) (hBk : B ≤ bk) (hB : B ≤ w.heap.size) (_hS0 : S ≤ w.heap.size) (hL : L.length ≤ 100000 ∧ ∀ y ∈ L, okInts y) (hS' : S ≤ S') (hxS : ∀ g, (Value.slice A n c).ownBlock = some g → g < S') :
    Calls Tryz.prog 18 #[.pointer (some ⟨bk, 0, none⟩), .slice A n c] w fun e w' => e = .returned (.tuple #[]) ∧ ∃ bcs' Z', Blk w' bk 41 bcs' ∧ KStInts w' B bcs' Z' S' ∧ (∀ j, j ≠ 2 → j ≠ 3 → bcs'[j]? = bcs[j]?) ∧ Tn B (twoT 45 41) w w' ∧ (Z' = Z ++ [L] ∨ Z' = Z) := by
  have h0 := h
  obtain ⟨v1, v2, a, c', f1, f2, r1, r2, o, ra, rc, hz, hs, hm2⟩ := h
  obtain ⟨A1, p1, rfl⟩ := srow_slice r1
  obtain ⟨A2, p2, rfl⟩ := srow_slice r2
  have d1 : w.cell? ⟨bk, 2, none⟩ = some (.slice A1 Z.length p1) := by rw [hb.cell 2, f1]
  by_cases hm : Z.length < 250
  · obtain ⟨A3, d3, w1, hr1, hb1, hb2, q1, q2, qo, hT⟩ := keep_row (P := Tryz.prog) (f := 2) sunderInts sinfoInts (show 45 ≠ 41 by decide) (u := .slice A n c) hb hB hBk r1 r2 o (by omega) rfl
    have hsz : 3 < bcs.size := (Array.getElem?_eq_some_iff.1 f2).1
    have g1 : w1.cell? ⟨bk, 2, none⟩ = some (.slice A1 Z.length p1) := by rw [hb1.cell 2, f1]
    have g1f := hb1.frozen 2
    have eT : ∀ cs fr, twoT 45 41 (.cells cs 3 fr) = false := fun cs fr => twoT_ne (by decide) (by decide) _ _
    have hx2 := hx.tn hT eT
    have ra2 := ra.tn hT eT
    have rc2 := fun i hi => (rc i hi).tn hT eT
    have hB2 := Nat.le_trans hB hT.size
    have HR1 := fun ty => Lib.hid (hr1 ty)
    obtain ⟨w2, hw2⟩ : ∃ w2, w1.setCell ⟨bk, 2, none⟩ (.slice A3 (Z.length + 1) d3) = w2 := ⟨_, rfl⟩
    rw [hw2] at hb2 q1 q2 hT hx2 ra2 rc2 hB2
    have d2 : w2.cell? ⟨bk, 3, none⟩ = some (.slice A2 Z.length p2) := by
      rw [hb2.cell 3, Array.getElem?_setIfInBounds_ne (by decide), f2]
    have CP : Hid (Calls Tryz.prog 36 #[.slice A n c] w2.drew fun e w' => ∃ a3 c3, e = .returned (.slice a3 n c3) ∧ Own elInts w' w2.heap.size 3 (.slice a3 n c3) L ∧ w2.drew.grownBy w' none) :=
      copyInts_any A n c lo L w2.drew (hx2.below ⟨rfl, rfl, rfl, Nat.le_refl _, fun _ _ => rfl⟩) (by omega)
    have KP : ∀ w3 a3 c3, Own elInts w3 w2.heap.size 3 (.slice a3 n c3) L → w2.drew.grownBy w3 none → Hid (∃ A5 d5 w5, (∀ ty, (Builtin.append_ #[27, 27] ty #[.slice A2 Z.length p2, .slice (some ⟨w3.heap.size, 0, none⟩) 1 1]).run Tryz.prog (w3.alloc (.cells #[.slice a3 n c3] 45)) = .ok (.slice A5 (Z.length + 1) d5) w5) ∧
        w5.cell? ⟨bk, 3, none⟩ = some (.slice A2 Z.length p2) ∧ w5.frozen? ⟨bk, 3, none⟩ = false ∧ Hid (∃ bcs' Z', Blk (w5.setCell ⟨bk, 3, none⟩ (.slice A5 (Z.length + 1) d5)) bk 41 bcs' ∧ KStInts (w5.setCell ⟨bk, 3, none⟩ (.slice A5 (Z.length + 1) d5)) B bcs' Z' S' ∧ (∀ j, j ≠ 2 → j ≠ 3 → bcs'[j]? = bcs[j]?) ∧ Tn B (twoT 45 41) w (w5.setCell ⟨bk, 3, none⟩ (.slice A5 (Z.length + 1) d5)) ∧ (Z' = Z ++ [L] ∨ Z' = Z))) := by
      intro w3 a3 c3 hO hg
      have hg2 : w2.grownBy w3 none := ⟨hg.os, hg.tape, hg.output, hg.size, hg.block⟩
      have T3 : Tn B (twoT 45 41) w2 w3 := Tn.of_grown hg2
      have b3 : Blk w3 bk 41 (bcs.setIfInBounds 2 (.slice A3 (Z.length + 1) d3)) := hb2.grown hg2 (by simp)
      have g3 := below_g hg2
      have q13 := (Tn.of_below (B := 0) (T := fun _ => false) g3).own q1 (fun _ _ => rfl)
      have q23 := (Tn.of_below (B := 0) (T := fun _ => false) g3).own q2 (fun _ _ => rfl)
      obtain ⟨A5, d5, w5, hr5, hb5, hb6, s1, s2, so, hT5⟩ := keep_row (P := Tryz.prog) (f := 3) sunderInts sinfoInts (show 45 ≠ 41 by decide) (u := .slice a3 n c3) b3 (Nat.le_trans hB2 hg2.size) hBk q23 q13 qo.symm (by omega) rfl
      have T6 := (hT.trans T3).trans hT5
      refine ⟨A5, d5, w5, hr5, ?_, hb5.frozen _, (bcs.setIfInBounds 2 (.slice A3 (Z.length + 1) d3)).setIfInBounds 3 (.slice A5 (Z.length + 1) d5), Z ++ [L], hb6, ?_, fun j h1 h2 => ?_, T6, Or.inl rfl⟩
      · rw [hb5.cell 3, Array.getElem?_setIfInBounds_ne (by decide), f2]
      · refine KSt.add (S := S) (lo := lo) (v1 := .slice A3 (Z.length + 1) d3) (v2 := .slice A5 (Z.length + 1) d5) (x := .slice A n c) (cp := .slice a3 n c3) (a := a) (c := c') ?_ ?_ s2 s1 so.symm (ra.tn T6 eT) (fun i hi => (rc i hi).tn T6 eT) hz hs hm (hx.tn T6 eT) ((hO.tn hT5 eT).low hB2) hSl hBl hL hxS hS'
        · rw [Array.getElem?_setIfInBounds_ne (by decide), Array.getElem?_setIfInBounds_self_of_lt (by omega)]
        · rw [Array.getElem?_setIfInBounds_self_of_lt (by simp; omega)]
      · rw [Array.getElem?_setIfInBounds_ne (fun h => h2 h.symm), Array.getElem?_setIfInBounds_ne (fun h => h1 h.symm)]
    have m1 : (Z.length : Int) < 250 := by omega
    have D2 : w2.drew.cell? ⟨bk, 3, none⟩ = some (.slice A2 Z.length p2) := d2
    have HW2 := Lib.hid hw2
    clear h0 r1 r2 o ra rc hz hs hb1 hb2 q1 q2 qo hT hx hx2 ra2 rc2 hr1 f1 f2 hb hm2 hw2
    generalize Z.length = m at *
    go_enter Tryz.func18, Tryz.ntmps18
    go_wp2_with (at_builtin; refine wpList_append_k _ w1 rfl (.tmp 14) (.tmp 16) 27 rfl _ _ (.slice A3 (m + 1) d3) rfl rfl (fun ty => (HR1 ty).out) ?_)
    rw [HW2.out]
    go_region_law (first
      | (go_simp; go_at_call 36; refine CP.out.mono ?_; rintro e w3 ⟨a3, c3, rfl, hO3, hg3⟩; obtain ⟨A5, d5, w5, hr5, c5, z5, KF⟩ := (KP w3 a3 c3 hO3 hg3).out; have c3' : w3.cell? ⟨bk, 3, none⟩ = some (.slice A2 m p2) := hg3.cell D2 (by simp); have c4' : (w3.alloc (.cells #[.slice a3 n c3] 45)).cell? ⟨bk, 3, none⟩ = some (.slice A2 m p2) := (World.grownBy_alloc w3 _ none).cell c3' (by simp))
      | (refine step_append_k rfl (.tmp 24) (.tmp 27) 27 rfl _ _ (.slice A5 (m + 1) d5) (by simp [Act.eval]) (by simp [Act.eval]) (hr5 _) ?_))
    all_goals
      go_wp2_with fail
      go_end0
      obtain ⟨b9, Z9, k1, k2, k3, k4, k5⟩ := KF.out
      first | exact ⟨rfl, b9, Z9, k1, k2, k3, k4, k5⟩ | exact ⟨rfl, b9, k1, Z9, k2, k3, k4, k5⟩
  · have m1 : ¬ (Z.length : Int) < 250 := by omega
    have H0 := Lib.hid h0
    have HB := Lib.hid hb
    clear h0 r1 r2 o ra rc hz hs f1 f2 hb hx
    go_enter Tryz.func18, Tryz.ntmps18
    go_wp2_with fail
    go_end0
    exact ⟨rfl, bcs, HB.out, Z, H0.out.up hS', fun _ _ _ => rfl, Tn.refl _ _ _, Or.inr rfl⟩
end Go.Proofs.YtkhmbkofkdnlkaaGreat

namespace Go.Proofs.YtkhmbkofkdnlkaaGreat
open Go.RowKit

def nilS : Value := .slice none 0 0


theorem stillTexts_nil (bk : Nat) (w : World) (h : w.cell? ⟨bk, 0, none⟩ = some (.slice none 0 0)) :
    Calls Tryz.prog 37 #[.pointer (some ⟨bk, 0, none⟩)] w fun e w' => e = .returned (.bool true) ∧ w = w' := by
  go_enter Tryz.func37, Tryz.ntmps37
  go_wp2_with fail
  go_loop [3] (fun i => i = .int .i64 0) (fun _ => 0)
  case atStart => rfl
  case round =>
    subst hrel
    go_wp2_with fail
    go_ret
    exact ⟨rfl, rfl⟩
theorem putTexts_nil (bk : Nat) (w : World) (h : w.cell? ⟨bk, 0, none⟩ = some (.slice none 0 0)) :
    Calls Tryz.prog 57 #[.pointer (some ⟨bk, 0, none⟩)] w fun e w' => e = .returned (.tuple #[]) ∧ w = w' := by
  go_enter Tryz.func57, Tryz.ntmps57
  go_wp2_with fail
  go_loop [2] (fun i => i = .int .i64 0) (fun _ => 0)
  case atStart => rfl
  case round =>
    subst hrel
    go_wp2_with fail
    go_end0
    exact ⟨rfl, rfl⟩
theorem growTexts_nil (bk : Nat) (w : World) (h : w.cell? ⟨bk, 0, none⟩ = some (.slice none 0 0)) :
    Calls Tryz.prog 67 #[.pointer (some ⟨bk, 0, none⟩)] w fun e w' => e = .returned (.slice none 0 0) ∧ w = w' := by
  go_enter Tryz.func67, Tryz.ntmps67
  go_wp2_with fail
  go_loop [3, 4] (fun o i => o = .slice none 0 0 ∧ i = .int .i64 0) (fun _ _ => 0)
  case atStart => exact ⟨rfl, rfl⟩
  case round =>
    obtain ⟨rfl, rfl⟩ := hrel
    go_wp2_with fail
    go_ret
    exact ⟨rfl, rfl⟩
theorem markedTexts_nil (w : World) :
    Calls Tryz.prog 82 #[.slice none 0 0] w fun e w' => e = .returned (.bool true) ∧ w = w' := by
  go_enter Tryz.func82, Tryz.ntmps82
  go_wp2_with fail
  go_loop [3] (fun i => i = .int .i64 0) (fun _ => 0)
  case atStart => rfl
  case round =>
    subst hrel
    go_wp2_with fail
    go_ret
    exact ⟨rfl, rfl⟩

theorem stillInts_nil (bk : Nat) (w : World) (h : w.cell? ⟨bk, 2, none⟩ = some (.slice none 0 0)) :
    Calls Tryz.prog 38 #[.pointer (some ⟨bk, 0, none⟩)] w fun e w' => e = .returned (.bool true) ∧ w = w' := by
  go_enter Tryz.func38, Tryz.ntmps38
  go_wp2_with fail
  go_loop [3] (fun i => i = .int .i64 0) (fun _ => 0)
  case atStart => rfl
  case round =>
    subst hrel
    go_wp2_with fail
    go_ret
    exact ⟨rfl, rfl⟩
theorem putInts_nil (bk : Nat) (w : World) (h : w.cell? ⟨bk, 2, none⟩ = some (.slice none 0 0)) :
    Calls Tryz.prog 58 #[.pointer (some ⟨bk, 0, none⟩)] w fun e w' => e = .returned (.tuple #[]) ∧ w = w' := by
  go_enter Tryz.func58, Tryz.ntmps58
  go_wp2_with fail
  go_loop [2] (fun i => i = .int .i64 0) (fun _ => 0)
  case atStart => rfl
  case round =>
    subst hrel
    go_wp2_with fail
    go_end0
    exact ⟨rfl, rfl⟩
theorem growInts_nil (bk : Nat) (w : World) (h : w.cell? ⟨bk, 2, none⟩ = some (.slice none 0 0)) :
    Calls Tryz.prog 68 #[.pointer (some ⟨bk, 0, none⟩)] w fun e w' => e = .returned (.slice none 0 0) ∧ w = w' := by
  go_enter Tryz.func68, Tryz.ntmps68
  go_wp2_with fail
  go_loop [3, 4] (fun o i => o = .slice none 0 0 ∧ i = .int .i64 0) (fun _ _ => 0)
  case atStart => exact ⟨rfl, rfl⟩
  case round =>
    obtain ⟨rfl, rfl⟩ := hrel
    go_wp2_with fail
    go_ret
    exact ⟨rfl, rfl⟩
theorem markedInts_nil (w : World) :
    Calls Tryz.prog 83 #[.slice none 0 0] w fun e w' => e = .returned (.bool true) ∧ w = w' := by
  go_enter Tryz.func83, Tryz.ntmps83
  go_wp2_with fail
  go_loop [3] (fun i => i = .int .i64 0) (fun _ => 0)
  case atStart => rfl
  case round =>
    subst hrel
    go_wp2_with fail
    go_ret
    exact ⟨rfl, rfl⟩

theorem stillVecs_nil (bk : Nat) (w : World) (h : w.cell? ⟨bk, 4, none⟩ = some (.slice none 0 0)) :
    Calls Tryz.prog 39 #[.pointer (some ⟨bk, 0, none⟩)] w fun e w' => e = .returned (.bool true) ∧ w = w' := by
  go_enter Tryz.func39, Tryz.ntmps39
  go_wp2_with fail
  go_loop [3] (fun i => i = .int .i64 0) (fun _ => 0)
  case atStart => rfl
  case round =>
    subst hrel
    go_wp2_with fail
    go_ret
    exact ⟨rfl, rfl⟩
theorem putVecs_nil (bk : Nat) (w : World) (h : w.cell? ⟨bk, 4, none⟩ = some (.slice none 0 0)) :
    Calls Tryz.prog 59 #[.pointer (some ⟨bk, 0, none⟩)] w fun e w' => e = .returned (.tuple #[]) ∧ w = w' := by
  go_enter Tryz.func59, Tryz.ntmps59
  go_wp2_with fail
  go_loop [2] (fun i => i = .int .i64 0) (fun _ => 0)
  case atStart => rfl
  case round =>
    subst hrel
    go_wp2_with fail
    go_end0
    exact ⟨rfl, rfl⟩
theorem growVecs_nil (bk : Nat) (w : World) (h : w.cell? ⟨bk, 4, none⟩ = some (.slice none 0 0)) :
    Calls Tryz.prog 69 #[.pointer (some ⟨bk, 0, none⟩)] w fun e w' => e = .returned (.slice none 0 0) ∧ w = w' := by
  go_enter Tryz.func69, Tryz.ntmps69
  go_wp2_with fail
  go_loop [3, 4] (fun o i => o = .slice none 0 0 ∧ i = .int .i64 0) (fun _ _ => 0)
  case atStart => exact ⟨rfl, rfl⟩
  case round =>
    obtain ⟨rfl, rfl⟩ := hrel
    go_wp2_with fail
    go_ret
    exact ⟨rfl, rfl⟩
theorem markedVecs_nil (w : World) :
    Calls Tryz.prog 84 #[.slice none 0 0] w fun e w' => e = .returned (.bool true) ∧ w = w' := by
  go_enter Tryz.func84, Tryz.ntmps84
  go_wp2_with fail
  go_loop [3] (fun i => i = .int .i64 0) (fun _ => 0)
  case atStart => rfl
  case round =>
    subst hrel
    go_wp2_with fail
    go_ret
    exact ⟨rfl, rfl⟩

theorem stillKeys_nil (bk : Nat) (w : World) (h : w.cell? ⟨bk, 6, none⟩ = some (.slice none 0 0)) :
    Calls Tryz.prog 40 #[.pointer (some ⟨bk, 0, none⟩)] w fun e w' => e = .returned (.bool true) ∧ w = w' := by
  go_enter Tryz.func40, Tryz.ntmps40
  go_wp2_with fail
  go_loop [3] (fun i => i = .int .i64 0) (fun _ => 0)
  case atStart => rfl
  case round =>
    subst hrel
    go_wp2_with fail
    go_ret
    exact ⟨rfl, rfl⟩
theorem putKeys_nil (bk : Nat) (w : World) (h : w.cell? ⟨bk, 6, none⟩ = some (.slice none 0 0)) :
    Calls Tryz.prog 60 #[.pointer (some ⟨bk, 0, none⟩)] w fun e w' => e = .returned (.tuple #[]) ∧ w = w' := by
  go_enter Tryz.func60, Tryz.ntmps60
  go_wp2_with fail
  go_loop [2] (fun i => i = .int .i64 0) (fun _ => 0)
  case atStart => rfl
  case round =>
    subst hrel
    go_wp2_with fail
    go_end0
    exact ⟨rfl, rfl⟩
theorem growKeys_nil (bk : Nat) (w : World) (h : w.cell? ⟨bk, 6, none⟩ = some (.slice none 0 0)) :
    Calls Tryz.prog 70 #[.pointer (some ⟨bk, 0, none⟩)] w fun e w' => e = .returned (.slice none 0 0) ∧ w = w' := by
  go_enter Tryz.func70, Tryz.ntmps70
  go_wp2_with fail
  go_loop [3, 4] (fun o i => o = .slice none 0 0 ∧ i = .int .i64 0) (fun _ _ => 0)
  case atStart => exact ⟨rfl, rfl⟩
  case round =>
    obtain ⟨rfl, rfl⟩ := hrel
    go_wp2_with fail
    go_ret
    exact ⟨rfl, rfl⟩
theorem markedKeys_nil (w : World) :
    Calls Tryz.prog 85 #[.slice none 0 0] w fun e w' => e = .returned (.bool true) ∧ w = w' := by
  go_enter Tryz.func85, Tryz.ntmps85
  go_wp2_with fail
  go_loop [3] (fun i => i = .int .i64 0) (fun _ => 0)
  case atStart => rfl
  case round =>
    subst hrel
    go_wp2_with fail
    go_ret
    exact ⟨rfl, rfl⟩

theorem stillPairs_nil (bk : Nat) (w : World) (h : w.cell? ⟨bk, 8, none⟩ = some (.slice none 0 0)) :
    Calls Tryz.prog 41 #[.pointer (some ⟨bk, 0, none⟩)] w fun e w' => e = .returned (.bool true) ∧ w = w' := by
  go_enter Tryz.func41, Tryz.ntmps41
  go_wp2_with fail
  go_loop [3] (fun i => i = .int .i64 0) (fun _ => 0)
  case atStart => rfl
  case round =>
    subst hrel
    go_wp2_with fail
    go_ret
    exact ⟨rfl, rfl⟩
theorem putPairs_nil (bk : Nat) (w : World) (h : w.cell? ⟨bk, 8, none⟩ = some (.slice none 0 0)) :
    Calls Tryz.prog 61 #[.pointer (some ⟨bk, 0, none⟩)] w fun e w' => e = .returned (.tuple #[]) ∧ w = w' := by
  go_enter Tryz.func61, Tryz.ntmps61
  go_wp2_with fail
  go_loop [2] (fun i => i = .int .i64 0) (fun _ => 0)
  case atStart => rfl
  case round =>
    subst hrel
    go_wp2_with fail
    go_end0
    exact ⟨rfl, rfl⟩
theorem growPairs_nil (bk : Nat) (w : World) (h : w.cell? ⟨bk, 8, none⟩ = some (.slice none 0 0)) :
    Calls Tryz.prog 71 #[.pointer (some ⟨bk, 0, none⟩)] w fun e w' => e = .returned (.slice none 0 0) ∧ w = w' := by
  go_enter Tryz.func71, Tryz.ntmps71
  go_wp2_with fail
  go_loop [3, 4] (fun o i => o = .slice none 0 0 ∧ i = .int .i64 0) (fun _ _ => 0)
  case atStart => exact ⟨rfl, rfl⟩
  case round =>
    obtain ⟨rfl, rfl⟩ := hrel
    go_wp2_with fail
    go_ret
    exact ⟨rfl, rfl⟩
theorem markedPairs_nil (w : World) :
    Calls Tryz.prog 86 #[.slice none 0 0] w fun e w' => e = .returned (.bool true) ∧ w = w' := by
  go_enter Tryz.func86, Tryz.ntmps86
  go_wp2_with fail
  go_loop [3] (fun i => i = .int .i64 0) (fun _ => 0)
  case atStart => rfl
  case round =>
    subst hrel
    go_wp2_with fail
    go_ret
    exact ⟨rfl, rfl⟩

theorem stillVersions_nil (bk : Nat) (w : World) (h : w.cell? ⟨bk, 10, none⟩ = some (.slice none 0 0)) :
    Calls Tryz.prog 42 #[.pointer (some ⟨bk, 0, none⟩)] w fun e w' => e = .returned (.bool true) ∧ w = w' := by
  go_enter Tryz.func42, Tryz.ntmps42
  go_wp2_with fail
  go_loop [3] (fun i => i = .int .i64 0) (fun _ => 0)
  case atStart => rfl
  case round =>
    subst hrel
    go_wp2_with fail
    go_ret
    exact ⟨rfl, rfl⟩
theorem putVersions_nil (bk : Nat) (w : World) (h : w.cell? ⟨bk, 10, none⟩ = some (.slice none 0 0)) :
    Calls Tryz.prog 52 #[.pointer (some ⟨bk, 0, none⟩)] w fun e w' => e = .returned (.tuple #[]) ∧ w = w' := by
  go_enter Tryz.func52, Tryz.ntmps52
  go_wp2_with fail
  go_loop [2] (fun i => i = .int .i64 0) (fun _ => 0)
  case atStart => rfl
  case round =>
    subst hrel
    go_wp2_with fail
    go_end0
    exact ⟨rfl, rfl⟩
theorem growVersions_nil (bk : Nat) (w : World) (h : w.cell? ⟨bk, 10, none⟩ = some (.slice none 0 0)) :
    Calls Tryz.prog 72 #[.pointer (some ⟨bk, 0, none⟩)] w fun e w' => e = .returned (.slice none 0 0) ∧ w = w' := by
  go_enter Tryz.func72, Tryz.ntmps72
  go_wp2_with fail
  go_loop [3, 4] (fun o i => o = .slice none 0 0 ∧ i = .int .i64 0) (fun _ _ => 0)
  case atStart => exact ⟨rfl, rfl⟩
  case round =>
    obtain ⟨rfl, rfl⟩ := hrel
    go_wp2_with fail
    go_ret
    exact ⟨rfl, rfl⟩
theorem markedVersions_nil (w : World) :
    Calls Tryz.prog 87 #[.slice none 0 0] w fun e w' => e = .returned (.bool true) ∧ w = w' := by
  go_enter Tryz.func87, Tryz.ntmps87
  go_wp2_with fail
  go_loop [3] (fun i => i = .int .i64 0) (fun _ => 0)
  case atStart => rfl
  case round =>
    subst hrel
    go_wp2_with fail
    go_ret
    exact ⟨rfl, rfl⟩

theorem stillWrites_nil (bk : Nat) (w : World) (h : w.cell? ⟨bk, 12, none⟩ = some (.slice none 0 0)) :
    Calls Tryz.prog 43 #[.pointer (some ⟨bk, 0, none⟩)] w fun e w' => e = .returned (.bool true) ∧ w = w' := by
  go_enter Tryz.func43, Tryz.ntmps43
  go_wp2_with fail
  go_loop [3] (fun i => i = .int .i64 0) (fun _ => 0)
  case atStart => rfl
  case round =>
    subst hrel
    go_wp2_with fail
    go_ret
    exact ⟨rfl, rfl⟩
theorem putWrites_nil (bk : Nat) (w : World) (h : w.cell? ⟨bk, 12, none⟩ = some (.slice none 0 0)) :
    Calls Tryz.prog 62 #[.pointer (some ⟨bk, 0, none⟩)] w fun e w' => e = .returned (.tuple #[]) ∧ w = w' := by
  go_enter Tryz.func62, Tryz.ntmps62
  go_wp2_with fail
  go_loop [2] (fun i => i = .int .i64 0) (fun _ => 0)
  case atStart => rfl
  case round =>
    subst hrel
    go_wp2_with fail
    go_end0
    exact ⟨rfl, rfl⟩
theorem growWrites_nil (bk : Nat) (w : World) (h : w.cell? ⟨bk, 12, none⟩ = some (.slice none 0 0)) :
    Calls Tryz.prog 73 #[.pointer (some ⟨bk, 0, none⟩)] w fun e w' => e = .returned (.slice none 0 0) ∧ w = w' := by
  go_enter Tryz.func73, Tryz.ntmps73
  go_wp2_with fail
  go_loop [3, 4] (fun o i => o = .slice none 0 0 ∧ i = .int .i64 0) (fun _ _ => 0)
  case atStart => exact ⟨rfl, rfl⟩
  case round =>
    obtain ⟨rfl, rfl⟩ := hrel
    go_wp2_with fail
    go_ret
    exact ⟨rfl, rfl⟩
theorem markedWrites_nil (w : World) :
    Calls Tryz.prog 88 #[.slice none 0 0] w fun e w' => e = .returned (.bool true) ∧ w = w' := by
  go_enter Tryz.func88, Tryz.ntmps88
  go_wp2_with fail
  go_loop [3] (fun i => i = .int .i64 0) (fun _ => 0)
  case atStart => rfl
  case round =>
    subst hrel
    go_wp2_with fail
    go_ret
    exact ⟨rfl, rfl⟩

theorem stillTxns_nil (bk : Nat) (w : World) (h : w.cell? ⟨bk, 14, none⟩ = some (.slice none 0 0)) :
    Calls Tryz.prog 44 #[.pointer (some ⟨bk, 0, none⟩)] w fun e w' => e = .returned (.bool true) ∧ w = w' := by
  go_enter Tryz.func44, Tryz.ntmps44
  go_wp2_with fail
  go_loop [3] (fun i => i = .int .i64 0) (fun _ => 0)
  case atStart => rfl
  case round =>
    subst hrel
    go_wp2_with fail
    go_ret
    exact ⟨rfl, rfl⟩
theorem putTxns_nil (bk : Nat) (w : World) (h : w.cell? ⟨bk, 14, none⟩ = some (.slice none 0 0)) :
    Calls Tryz.prog 53 #[.pointer (some ⟨bk, 0, none⟩)] w fun e w' => e = .returned (.tuple #[]) ∧ w = w' := by
  go_enter Tryz.func53, Tryz.ntmps53
  go_wp2_with fail
  go_loop [2] (fun i => i = .int .i64 0) (fun _ => 0)
  case atStart => rfl
  case round =>
    subst hrel
    go_wp2_with fail
    go_end0
    exact ⟨rfl, rfl⟩
theorem growTxns_nil (bk : Nat) (w : World) (h : w.cell? ⟨bk, 14, none⟩ = some (.slice none 0 0)) :
    Calls Tryz.prog 74 #[.pointer (some ⟨bk, 0, none⟩)] w fun e w' => e = .returned (.slice none 0 0) ∧ w = w' := by
  go_enter Tryz.func74, Tryz.ntmps74
  go_wp2_with fail
  go_loop [3, 4] (fun o i => o = .slice none 0 0 ∧ i = .int .i64 0) (fun _ _ => 0)
  case atStart => exact ⟨rfl, rfl⟩
  case round =>
    obtain ⟨rfl, rfl⟩ := hrel
    go_wp2_with fail
    go_ret
    exact ⟨rfl, rfl⟩
theorem markedTxns_nil (w : World) :
    Calls Tryz.prog 89 #[.slice none 0 0] w fun e w' => e = .returned (.bool true) ∧ w = w' := by
  go_enter Tryz.func89, Tryz.ntmps89
  go_wp2_with fail
  go_loop [3] (fun i => i = .int .i64 0) (fun _ => 0)
  case atStart => rfl
  case round =>
    subst hrel
    go_wp2_with fail
    go_ret
    exact ⟨rfl, rfl⟩

theorem stillFiles_nil (bk : Nat) (w : World) (h : w.cell? ⟨bk, 16, none⟩ = some (.slice none 0 0)) :
    Calls Tryz.prog 45 #[.pointer (some ⟨bk, 0, none⟩)] w fun e w' => e = .returned (.bool true) ∧ w = w' := by
  go_enter Tryz.func45, Tryz.ntmps45
  go_wp2_with fail
  go_loop [3] (fun i => i = .int .i64 0) (fun _ => 0)
  case atStart => rfl
  case round =>
    subst hrel
    go_wp2_with fail
    go_ret
    exact ⟨rfl, rfl⟩
theorem putFiles_nil (bk : Nat) (w : World) (h : w.cell? ⟨bk, 16, none⟩ = some (.slice none 0 0)) :
    Calls Tryz.prog 63 #[.pointer (some ⟨bk, 0, none⟩)] w fun e w' => e = .returned (.tuple #[]) ∧ w = w' := by
  go_enter Tryz.func63, Tryz.ntmps63
  go_wp2_with fail
  go_loop [2] (fun i => i = .int .i64 0) (fun _ => 0)
  case atStart => rfl
  case round =>
    subst hrel
    go_wp2_with fail
    go_end0
    exact ⟨rfl, rfl⟩
theorem growFiles_nil (bk : Nat) (w : World) (h : w.cell? ⟨bk, 16, none⟩ = some (.slice none 0 0)) :
    Calls Tryz.prog 75 #[.pointer (some ⟨bk, 0, none⟩)] w fun e w' => e = .returned (.slice none 0 0) ∧ w = w' := by
  go_enter Tryz.func75, Tryz.ntmps75
  go_wp2_with fail
  go_loop [3, 4] (fun o i => o = .slice none 0 0 ∧ i = .int .i64 0) (fun _ _ => 0)
  case atStart => exact ⟨rfl, rfl⟩
  case round =>
    obtain ⟨rfl, rfl⟩ := hrel
    go_wp2_with fail
    go_ret
    exact ⟨rfl, rfl⟩
theorem markedFiles_nil (w : World) :
    Calls Tryz.prog 90 #[.slice none 0 0] w fun e w' => e = .returned (.bool true) ∧ w = w' := by
  go_enter Tryz.func90, Tryz.ntmps90
  go_wp2_with fail
  go_loop [3] (fun i => i = .int .i64 0) (fun _ => 0)
  case atStart => rfl
  case round =>
    subst hrel
    go_wp2_with fail
    go_ret
    exact ⟨rfl, rfl⟩

theorem stillNotes_nil (bk : Nat) (w : World) (h : w.cell? ⟨bk, 18, none⟩ = some (.slice none 0 0)) :
    Calls Tryz.prog 46 #[.pointer (some ⟨bk, 0, none⟩)] w fun e w' => e = .returned (.bool true) ∧ w = w' := by
  go_enter Tryz.func46, Tryz.ntmps46
  go_wp2_with fail
  go_loop [3] (fun i => i = .int .i64 0) (fun _ => 0)
  case atStart => rfl
  case round =>
    subst hrel
    go_wp2_with fail
    go_ret
    exact ⟨rfl, rfl⟩
theorem putNotes_nil (bk : Nat) (w : World) (h : w.cell? ⟨bk, 18, none⟩ = some (.slice none 0 0)) :
    Calls Tryz.prog 64 #[.pointer (some ⟨bk, 0, none⟩)] w fun e w' => e = .returned (.tuple #[]) ∧ w = w' := by
  go_enter Tryz.func64, Tryz.ntmps64
  go_wp2_with fail
  go_loop [2] (fun i => i = .int .i64 0) (fun _ => 0)
  case atStart => rfl
  case round =>
    subst hrel
    go_wp2_with fail
    go_end0
    exact ⟨rfl, rfl⟩
theorem growNotes_nil (bk : Nat) (w : World) (h : w.cell? ⟨bk, 18, none⟩ = some (.slice none 0 0)) :
    Calls Tryz.prog 76 #[.pointer (some ⟨bk, 0, none⟩)] w fun e w' => e = .returned (.slice none 0 0) ∧ w = w' := by
  go_enter Tryz.func76, Tryz.ntmps76
  go_wp2_with fail
  go_loop [3, 4] (fun o i => o = .slice none 0 0 ∧ i = .int .i64 0) (fun _ _ => 0)
  case atStart => exact ⟨rfl, rfl⟩
  case round =>
    obtain ⟨rfl, rfl⟩ := hrel
    go_wp2_with fail
    go_ret
    exact ⟨rfl, rfl⟩
theorem markedNotes_nil (w : World) :
    Calls Tryz.prog 91 #[.slice none 0 0] w fun e w' => e = .returned (.bool true) ∧ w = w' := by
  go_enter Tryz.func91, Tryz.ntmps91
  go_wp2_with fail
  go_loop [3] (fun i => i = .int .i64 0) (fun _ => 0)
  case atStart => rfl
  case round =>
    subst hrel
    go_wp2_with fail
    go_ret
    exact ⟨rfl, rfl⟩

theorem stillLeases_nil (bk : Nat) (w : World) (h : w.cell? ⟨bk, 20, none⟩ = some (.slice none 0 0)) :
    Calls Tryz.prog 47 #[.pointer (some ⟨bk, 0, none⟩)] w fun e w' => e = .returned (.bool true) ∧ w = w' := by
  go_enter Tryz.func47, Tryz.ntmps47
  go_wp2_with fail
  go_loop [3] (fun i => i = .int .i64 0) (fun _ => 0)
  case atStart => rfl
  case round =>
    subst hrel
    go_wp2_with fail
    go_ret
    exact ⟨rfl, rfl⟩
theorem putLeases_nil (bk : Nat) (w : World) (h : w.cell? ⟨bk, 20, none⟩ = some (.slice none 0 0)) :
    Calls Tryz.prog 54 #[.pointer (some ⟨bk, 0, none⟩)] w fun e w' => e = .returned (.tuple #[]) ∧ w = w' := by
  go_enter Tryz.func54, Tryz.ntmps54
  go_wp2_with fail
  go_loop [2] (fun i => i = .int .i64 0) (fun _ => 0)
  case atStart => rfl
  case round =>
    subst hrel
    go_wp2_with fail
    go_end0
    exact ⟨rfl, rfl⟩
theorem growLeases_nil (bk : Nat) (w : World) (h : w.cell? ⟨bk, 20, none⟩ = some (.slice none 0 0)) :
    Calls Tryz.prog 77 #[.pointer (some ⟨bk, 0, none⟩)] w fun e w' => e = .returned (.slice none 0 0) ∧ w = w' := by
  go_enter Tryz.func77, Tryz.ntmps77
  go_wp2_with fail
  go_loop [3, 4] (fun o i => o = .slice none 0 0 ∧ i = .int .i64 0) (fun _ _ => 0)
  case atStart => exact ⟨rfl, rfl⟩
  case round =>
    obtain ⟨rfl, rfl⟩ := hrel
    go_wp2_with fail
    go_ret
    exact ⟨rfl, rfl⟩
theorem markedLeases_nil (w : World) :
    Calls Tryz.prog 92 #[.slice none 0 0] w fun e w' => e = .returned (.bool true) ∧ w = w' := by
  go_enter Tryz.func92, Tryz.ntmps92
  go_wp2_with fail
  go_loop [3] (fun i => i = .int .i64 0) (fun _ => 0)
  case atStart => rfl
  case round =>
    subst hrel
    go_wp2_with fail
    go_ret
    exact ⟨rfl, rfl⟩

theorem stillLetters_nil (bk : Nat) (w : World) (h : w.cell? ⟨bk, 22, none⟩ = some (.slice none 0 0)) :
    Calls Tryz.prog 48 #[.pointer (some ⟨bk, 0, none⟩)] w fun e w' => e = .returned (.bool true) ∧ w = w' := by
  go_enter Tryz.func48, Tryz.ntmps48
  go_wp2_with fail
  go_loop [3] (fun i => i = .int .i64 0) (fun _ => 0)
  case atStart => rfl
  case round =>
    subst hrel
    go_wp2_with fail
    go_ret
    exact ⟨rfl, rfl⟩
theorem putLetters_nil (bk : Nat) (w : World) (h : w.cell? ⟨bk, 22, none⟩ = some (.slice none 0 0)) :
    Calls Tryz.prog 65 #[.pointer (some ⟨bk, 0, none⟩)] w fun e w' => e = .returned (.tuple #[]) ∧ w = w' := by
  go_enter Tryz.func65, Tryz.ntmps65
  go_wp2_with fail
  go_loop [2] (fun i => i = .int .i64 0) (fun _ => 0)
  case atStart => rfl
  case round =>
    subst hrel
    go_wp2_with fail
    go_end0
    exact ⟨rfl, rfl⟩
theorem growLetters_nil (bk : Nat) (w : World) (h : w.cell? ⟨bk, 22, none⟩ = some (.slice none 0 0)) :
    Calls Tryz.prog 78 #[.pointer (some ⟨bk, 0, none⟩)] w fun e w' => e = .returned (.slice none 0 0) ∧ w = w' := by
  go_enter Tryz.func78, Tryz.ntmps78
  go_wp2_with fail
  go_loop [3, 4] (fun o i => o = .slice none 0 0 ∧ i = .int .i64 0) (fun _ _ => 0)
  case atStart => exact ⟨rfl, rfl⟩
  case round =>
    obtain ⟨rfl, rfl⟩ := hrel
    go_wp2_with fail
    go_ret
    exact ⟨rfl, rfl⟩
theorem markedLetters_nil (w : World) :
    Calls Tryz.prog 93 #[.slice none 0 0] w fun e w' => e = .returned (.bool true) ∧ w = w' := by
  go_enter Tryz.func93, Tryz.ntmps93
  go_wp2_with fail
  go_loop [3] (fun i => i = .int .i64 0) (fun _ => 0)
  case atStart => rfl
  case round =>
    subst hrel
    go_wp2_with fail
    go_ret
    exact ⟨rfl, rfl⟩

theorem stillSteps_nil (bk : Nat) (w : World) (h : w.cell? ⟨bk, 24, none⟩ = some (.slice none 0 0)) :
    Calls Tryz.prog 49 #[.pointer (some ⟨bk, 0, none⟩)] w fun e w' => e = .returned (.bool true) ∧ w = w' := by
  go_enter Tryz.func49, Tryz.ntmps49
  go_wp2_with fail
  go_loop [3] (fun i => i = .int .i64 0) (fun _ => 0)
  case atStart => rfl
  case round =>
    subst hrel
    go_wp2_with fail
    go_ret
    exact ⟨rfl, rfl⟩
theorem putSteps_nil (bk : Nat) (w : World) (h : w.cell? ⟨bk, 24, none⟩ = some (.slice none 0 0)) :
    Calls Tryz.prog 55 #[.pointer (some ⟨bk, 0, none⟩)] w fun e w' => e = .returned (.tuple #[]) ∧ w = w' := by
  go_enter Tryz.func55, Tryz.ntmps55
  go_wp2_with fail
  go_loop [2] (fun i => i = .int .i64 0) (fun _ => 0)
  case atStart => rfl
  case round =>
    subst hrel
    go_wp2_with fail
    go_end0
    exact ⟨rfl, rfl⟩
theorem growSteps_nil (bk : Nat) (w : World) (h : w.cell? ⟨bk, 24, none⟩ = some (.slice none 0 0)) :
    Calls Tryz.prog 79 #[.pointer (some ⟨bk, 0, none⟩)] w fun e w' => e = .returned (.slice none 0 0) ∧ w = w' := by
  go_enter Tryz.func79, Tryz.ntmps79
  go_wp2_with fail
  go_loop [3, 4] (fun o i => o = .slice none 0 0 ∧ i = .int .i64 0) (fun _ _ => 0)
  case atStart => exact ⟨rfl, rfl⟩
  case round =>
    obtain ⟨rfl, rfl⟩ := hrel
    go_wp2_with fail
    go_ret
    exact ⟨rfl, rfl⟩
theorem markedSteps_nil (w : World) :
    Calls Tryz.prog 94 #[.slice none 0 0] w fun e w' => e = .returned (.bool true) ∧ w = w' := by
  go_enter Tryz.func94, Tryz.ntmps94
  go_wp2_with fail
  go_loop [3] (fun i => i = .int .i64 0) (fun _ => 0)
  case atStart => rfl
  case round =>
    subst hrel
    go_wp2_with fail
    go_ret
    exact ⟨rfl, rfl⟩

theorem stillReals_nil (bk : Nat) (w : World) (h : w.cell? ⟨bk, 26, none⟩ = some (.slice none 0 0)) :
    Calls Tryz.prog 50 #[.pointer (some ⟨bk, 0, none⟩)] w fun e w' => e = .returned (.bool true) ∧ w = w' := by
  go_enter Tryz.func50, Tryz.ntmps50
  go_wp2_with fail
  go_loop [3] (fun i => i = .int .i64 0) (fun _ => 0)
  case atStart => rfl
  case round =>
    subst hrel
    go_wp2_with fail
    go_ret
    exact ⟨rfl, rfl⟩
theorem putReals_nil (bk : Nat) (w : World) (h : w.cell? ⟨bk, 26, none⟩ = some (.slice none 0 0)) :
    Calls Tryz.prog 66 #[.pointer (some ⟨bk, 0, none⟩)] w fun e w' => e = .returned (.tuple #[]) ∧ w = w' := by
  go_enter Tryz.func66, Tryz.ntmps66
  go_wp2_with fail
  go_loop [2] (fun i => i = .int .i64 0) (fun _ => 0)
  case atStart => rfl
  case round =>
    subst hrel
    go_wp2_with fail
    go_end0
    exact ⟨rfl, rfl⟩
theorem growReals_nil (bk : Nat) (w : World) (h : w.cell? ⟨bk, 26, none⟩ = some (.slice none 0 0)) :
    Calls Tryz.prog 80 #[.pointer (some ⟨bk, 0, none⟩)] w fun e w' => e = .returned (.slice none 0 0) ∧ w = w' := by
  go_enter Tryz.func80, Tryz.ntmps80
  go_wp2_with fail
  go_loop [3, 4] (fun o i => o = .slice none 0 0 ∧ i = .int .i64 0) (fun _ _ => 0)
  case atStart => exact ⟨rfl, rfl⟩
  case round =>
    obtain ⟨rfl, rfl⟩ := hrel
    go_wp2_with fail
    go_ret
    exact ⟨rfl, rfl⟩
theorem markedReals_nil (w : World) :
    Calls Tryz.prog 95 #[.slice none 0 0] w fun e w' => e = .returned (.bool true) ∧ w = w' := by
  go_enter Tryz.func95, Tryz.ntmps95
  go_wp2_with fail
  go_loop [3] (fun i => i = .int .i64 0) (fun _ => 0)
  case atStart => rfl
  case round =>
    subst hrel
    go_wp2_with fail
    go_ret
    exact ⟨rfl, rfl⟩

theorem stillLists_nil (bk : Nat) (w : World) (h : w.cell? ⟨bk, 28, none⟩ = some (.slice none 0 0)) :
    Calls Tryz.prog 51 #[.pointer (some ⟨bk, 0, none⟩)] w fun e w' => e = .returned (.bool true) ∧ w = w' := by
  go_enter Tryz.func51, Tryz.ntmps51
  go_wp2_with fail
  go_loop [3] (fun i => i = .int .i64 0) (fun _ => 0)
  case atStart => rfl
  case round =>
    subst hrel
    go_wp2_with fail
    go_ret
    exact ⟨rfl, rfl⟩
theorem putLists_nil (bk : Nat) (w : World) (h : w.cell? ⟨bk, 28, none⟩ = some (.slice none 0 0)) :
    Calls Tryz.prog 56 #[.pointer (some ⟨bk, 0, none⟩)] w fun e w' => e = .returned (.tuple #[]) ∧ w = w' := by
  go_enter Tryz.func56, Tryz.ntmps56
  go_wp2_with fail
  go_loop [2] (fun i => i = .int .i64 0) (fun _ => 0)
  case atStart => rfl
  case round =>
    subst hrel
    go_wp2_with fail
    go_end0
    exact ⟨rfl, rfl⟩
theorem growLists_nil (bk : Nat) (w : World) (h : w.cell? ⟨bk, 28, none⟩ = some (.slice none 0 0)) :
    Calls Tryz.prog 81 #[.pointer (some ⟨bk, 0, none⟩)] w fun e w' => e = .returned (.slice none 0 0) ∧ w = w' := by
  go_enter Tryz.func81, Tryz.ntmps81
  go_wp2_with fail
  go_loop [3, 4] (fun o i => o = .slice none 0 0 ∧ i = .int .i64 0) (fun _ _ => 0)
  case atStart => exact ⟨rfl, rfl⟩
  case round =>
    obtain ⟨rfl, rfl⟩ := hrel
    go_wp2_with fail
    go_ret
    exact ⟨rfl, rfl⟩
theorem markedLists_nil (w : World) :
    Calls Tryz.prog 96 #[.slice none 0 0] w fun e w' => e = .returned (.bool true) ∧ w = w' := by
  go_enter Tryz.func96, Tryz.ntmps96
  go_wp2_with fail
  go_loop [3] (fun i => i = .int .i64 0) (fun _ => 0)
  case atStart => rfl
  case round =>
    subst hrel
    go_wp2_with fail
    go_ret
    exact ⟨rfl, rfl⟩

end Go.Proofs.YtkhmbkofkdnlkaaGreat

namespace Go.Proofs.YtkhmbkofkdnlkaaGreat
open Go.RowKit

set_option maxRecDepth 100000 in
set_option maxHeartbeats 16000000 in
theorem apartIntsReals (B bk : Nat) (bcs : Array Value) (ZInts : List (List (Int))) (SInts : Nat) (ZReals : List (List (Nat))) (SReals : Nat) (w : World) (hb : Blk w bk 41 bcs) (hInts : KStInts w B bcs ZInts SInts) (hReals : KStReals w B bcs ZReals SReals) (hnil : ∀ j, j < 30 → j ≠ 2 → j ≠ 3 → j ≠ 26 → j ≠ 27 → bcs[j]? = some (.slice none 0 0)) (hB : B ≤ w.heap.size) :
    Calls Tryz.prog 19 #[.pointer (some ⟨bk, 0, none⟩)] w fun e w' => e = .returned (.bool true) ∧ Below B w w' := by
  have HB := Lib.hid hb
  have HN := Lib.hid hnil
  obtain ⟨v1Ints, v2Ints, aInts, cInts, f1Ints, f2Ints, x1, x2, _, x3, x4, x5, _, hmInts⟩ := hInts
  obtain ⟨vaInts, vcInts, rfl⟩ := srow_slice x1
  have hzInts : Hid (∀ i, i < ZInts.length → (ZInts.getD i []).length ≤ 1000000 ∧ ∀ x ∈ ZInts.getD i [], okInts x) := fun i hi => ⟨Nat.le_trans (x5 i hi).1 (by decide), (x5 i hi).2⟩
  have hlInts : Hid (∀ i, i < ZInts.length → (ZInts.getD i []).length ≤ 100000) := fun i hi => (x5 i hi).1
  have PInts : Hid (PSt elInts 3 45 w B (.slice vaInts ZInts.length vcInts) aInts ZInts.length (fun i => ZInts.getD i [])) := ⟨x1, x3⟩
  have r2Ints := Lib.hid x2
  have rcInts := Lib.hid x4
  clear x1 x2 x3 x4 x5
  obtain ⟨mInts, hmmInts⟩ : ∃ m, m = ZInts.length := ⟨_, rfl⟩
  rw [← hmmInts] at hmInts hzInts hlInts PInts r2Ints rcInts f1Ints
  clear hmmInts
  obtain ⟨v1Reals, v2Reals, aReals, cReals, f1Reals, f2Reals, x1, x2, _, x3, x4, x5, _, hmReals⟩ := hReals
  obtain ⟨vaReals, vcReals, rfl⟩ := srow_slice x1
  have hzReals : Hid (∀ i, i < ZReals.length → (ZReals.getD i []).length ≤ 1000000 ∧ ∀ x ∈ ZReals.getD i [], okReals x) := fun i hi => ⟨Nat.le_trans (x5 i hi).1 (by decide), (x5 i hi).2⟩
  have hlReals : Hid (∀ i, i < ZReals.length → (ZReals.getD i []).length ≤ 100000) := fun i hi => (x5 i hi).1
  have PReals : Hid (PSt elReals 23 43 w B (.slice vaReals ZReals.length vcReals) aReals ZReals.length (fun i => ZReals.getD i [])) := ⟨x1, x3⟩
  have r2Reals := Lib.hid x2
  have rcReals := Lib.hid x4
  clear x1 x2 x3 x4 x5
  obtain ⟨mReals, hmmReals⟩ : ∃ m, m = ZReals.length := ⟨_, rfl⟩
  rw [← hmmReals] at hmReals hzReals hlReals PReals r2Reals rcReals f1Reals
  clear hmmReals
  clear hb hnil
  go_enter Tryz.func19, Tryz.ntmps19
  go_wp2_with fail
  refine (stillTexts_nil bk _ (by rw [HB.out.cell 0]; exact HN.out 0 (by decide) (by decide) (by decide) (by decide) (by decide))).mono ?_
  rintro e w2 ⟨rfl, rfl⟩
  go_wp2_with fail
  refine (stillInts_any B bk mInts (.slice vaInts mInts vcInts) v2Ints aInts cInts _ w (by rw [HB.out.cell 2]; exact f1Ints) (by rw [HB.out.cell 3]; exact f2Ints) PInts.out.r1 r2Ints.out PInts.out.ra.each rcInts.out hzInts.out hmInts).mono ?_
  rintro e W1 ⟨rfl, q1, hq1⟩
  have T1 : Tn B (fun _ => false) w W1 := by rw [hq1]; exact (Tn.refl _ _ _).drewN _
  replace HB := Lib.hid (T1.blk HB.out rfl)
  have L1 := Lib.hid (T1.below (hB))
  replace PInts := Lib.hid (PInts.out.tn T1 (fun _ _ => rfl) (fun _ _ => rfl))
  replace PReals := Lib.hid (PReals.out.tn T1 (fun _ _ => rfl) (fun _ _ => rfl))
  replace r2Ints := Lib.hid (T1.own r2Ints.out (fun _ _ => rfl))
  replace r2Reals := Lib.hid (T1.own r2Reals.out (fun _ _ => rfl))
  replace rcInts := Lib.hid (fun i hi => (rcInts.out i hi).tn T1 (fun _ _ => rfl))
  replace rcReals := Lib.hid (fun i hi => (rcReals.out i hi).tn T1 (fun _ _ => rfl))
  clear hq1 T1
  go_wp2_with fail
  refine (stillVecs_nil bk _ (by rw [HB.out.cell 4]; exact HN.out 4 (by decide) (by decide) (by decide) (by decide) (by decide))).mono ?_
  rintro e w2 ⟨rfl, rfl⟩
  go_wp2_with fail
  refine (stillKeys_nil bk _ (by rw [HB.out.cell 6]; exact HN.out 6 (by decide) (by decide) (by decide) (by decide) (by decide))).mono ?_
  rintro e w2 ⟨rfl, rfl⟩
  go_wp2_with fail
  refine (stillPairs_nil bk _ (by rw [HB.out.cell 8]; exact HN.out 8 (by decide) (by decide) (by decide) (by decide) (by decide))).mono ?_
  rintro e w2 ⟨rfl, rfl⟩
  go_wp2_with fail
  refine (stillVersions_nil bk _ (by rw [HB.out.cell 10]; exact HN.out 10 (by decide) (by decide) (by decide) (by decide) (by decide))).mono ?_
  rintro e w2 ⟨rfl, rfl⟩
  go_wp2_with fail
  refine (stillWrites_nil bk _ (by rw [HB.out.cell 12]; exact HN.out 12 (by decide) (by decide) (by decide) (by decide) (by decide))).mono ?_
  rintro e w2 ⟨rfl, rfl⟩
  go_wp2_with fail
  refine (stillTxns_nil bk _ (by rw [HB.out.cell 14]; exact HN.out 14 (by decide) (by decide) (by decide) (by decide) (by decide))).mono ?_
  rintro e w2 ⟨rfl, rfl⟩
  go_wp2_with fail
  refine (stillFiles_nil bk _ (by rw [HB.out.cell 16]; exact HN.out 16 (by decide) (by decide) (by decide) (by decide) (by decide))).mono ?_
  rintro e w2 ⟨rfl, rfl⟩
  go_wp2_with fail
  refine (stillNotes_nil bk _ (by rw [HB.out.cell 18]; exact HN.out 18 (by decide) (by decide) (by decide) (by decide) (by decide))).mono ?_
  rintro e w2 ⟨rfl, rfl⟩
  go_wp2_with fail
  refine (stillLeases_nil bk _ (by rw [HB.out.cell 20]; exact HN.out 20 (by decide) (by decide) (by decide) (by decide) (by decide))).mono ?_
  rintro e w2 ⟨rfl, rfl⟩
  go_wp2_with fail
  refine (stillLetters_nil bk _ (by rw [HB.out.cell 22]; exact HN.out 22 (by decide) (by decide) (by decide) (by decide) (by decide))).mono ?_
  rintro e w2 ⟨rfl, rfl⟩
  go_wp2_with fail
  refine (stillSteps_nil bk _ (by rw [HB.out.cell 24]; exact HN.out 24 (by decide) (by decide) (by decide) (by decide) (by decide))).mono ?_
  rintro e w2 ⟨rfl, rfl⟩
  go_wp2_with fail
  refine (stillReals_any B bk mReals (.slice vaReals mReals vcReals) v2Reals aReals cReals _ W1 (by rw [HB.out.cell 26]; exact f1Reals) (by rw [HB.out.cell 27]; exact f2Reals) PReals.out.r1 r2Reals.out PReals.out.ra.each rcReals.out hzReals.out hmReals).mono ?_
  rintro e W2 ⟨rfl, q2, hq2⟩
  have T2 : Tn B (fun _ => false) W1 W2 := by rw [hq2]; exact (Tn.refl _ _ _).drewN _
  replace HB := Lib.hid (T2.blk HB.out rfl)
  have L2 := Lib.hid (L1.out.trans (T2.below (Nat.le_trans hB L1.out.size)))
  replace PInts := Lib.hid (PInts.out.tn T2 (fun _ _ => rfl) (fun _ _ => rfl))
  replace PReals := Lib.hid (PReals.out.tn T2 (fun _ _ => rfl) (fun _ _ => rfl))
  replace r2Ints := Lib.hid (T2.own r2Ints.out (fun _ _ => rfl))
  replace r2Reals := Lib.hid (T2.own r2Reals.out (fun _ _ => rfl))
  replace rcInts := Lib.hid (fun i hi => (rcInts.out i hi).tn T2 (fun _ _ => rfl))
  replace rcReals := Lib.hid (fun i hi => (rcReals.out i hi).tn T2 (fun _ _ => rfl))
  clear hq2 T2
  go_wp2_with fail
  refine (stillLists_nil bk _ (by rw [HB.out.cell 28]; exact HN.out 28 (by decide) (by decide) (by decide) (by decide) (by decide))).mono ?_
  rintro e w2 ⟨rfl, rfl⟩
  go_wp2_with fail
  refine (putVersions_nil bk _ (by rw [HB.out.cell 10]; exact HN.out 10 (by decide) (by decide) (by decide) (by decide) (by decide))).mono ?_
  rintro e w2 ⟨rfl, rfl⟩
  go_wp2_with fail
  refine (putTxns_nil bk _ (by rw [HB.out.cell 14]; exact HN.out 14 (by decide) (by decide) (by decide) (by decide) (by decide))).mono ?_
  rintro e w2 ⟨rfl, rfl⟩
  go_wp2_with fail
  refine (putLeases_nil bk _ (by rw [HB.out.cell 20]; exact HN.out 20 (by decide) (by decide) (by decide) (by decide) (by decide))).mono ?_
  rintro e w2 ⟨rfl, rfl⟩
  go_wp2_with fail
  refine (putSteps_nil bk _ (by rw [HB.out.cell 24]; exact HN.out 24 (by decide) (by decide) (by decide) (by decide) (by decide))).mono ?_
  rintro e w2 ⟨rfl, rfl⟩
  go_wp2_with fail
  refine (putLists_nil bk _ (by rw [HB.out.cell 28]; exact HN.out 28 (by decide) (by decide) (by decide) (by decide) (by decide))).mono ?_
  rintro e w2 ⟨rfl, rfl⟩
  go_wp2_with fail
  refine (putTexts_nil bk _ (by rw [HB.out.cell 0]; exact HN.out 0 (by decide) (by decide) (by decide) (by decide) (by decide))).mono ?_
  rintro e w2 ⟨rfl, rfl⟩
  go_wp2_with fail
  refine (putInts_any B bk mInts bcs (.slice vaInts mInts vcInts) aInts _ W2 HB.out f1Ints PInts.out.r1 PInts.out.ra (fun i hi => (hlInts.out i hi)) hmInts (Nat.le_trans hB L2.out.size)).mono ?_
  rintro e W3 ⟨rfl, hR3, T3⟩
  replace HB := Lib.hid (T3.blk HB.out (cellsT_ne (by decide) _ _))
  have L3 := Lib.hid (L2.out.trans (T3.below (Nat.le_trans hB L2.out.size)))
  replace PInts : Hid (PSt elInts 3 45 W3 B (.slice vaInts mInts vcInts) aInts mInts (fun i => elInts.marks i 0 (ZInts.getD i []).length)) := ⟨T3.own PInts.out.r1 (fun cs fr => cellsT_ne (by decide) _ _), hR3⟩
  replace PReals := Lib.hid (PReals.out.tn T3 (fun cs fr => cellsT_ne (by decide) _ _) (fun cs fr => cellsT_ne (by decide) _ _))
  clear hR3 T3
  go_wp2_with fail
  refine (putVecs_nil bk _ (by rw [HB.out.cell 4]; exact HN.out 4 (by decide) (by decide) (by decide) (by decide) (by decide))).mono ?_
  rintro e w2 ⟨rfl, rfl⟩
  go_wp2_with fail
  refine (putKeys_nil bk _ (by rw [HB.out.cell 6]; exact HN.out 6 (by decide) (by decide) (by decide) (by decide) (by decide))).mono ?_
  rintro e w2 ⟨rfl, rfl⟩
  go_wp2_with fail
  refine (putPairs_nil bk _ (by rw [HB.out.cell 8]; exact HN.out 8 (by decide) (by decide) (by decide) (by decide) (by decide))).mono ?_
  rintro e w2 ⟨rfl, rfl⟩
  go_wp2_with fail
  refine (putWrites_nil bk _ (by rw [HB.out.cell 12]; exact HN.out 12 (by decide) (by decide) (by decide) (by decide) (by decide))).mono ?_
  rintro e w2 ⟨rfl, rfl⟩
  go_wp2_with fail
  refine (putFiles_nil bk _ (by rw [HB.out.cell 16]; exact HN.out 16 (by decide) (by decide) (by decide) (by decide) (by decide))).mono ?_
  rintro e w2 ⟨rfl, rfl⟩
  go_wp2_with fail
  refine (putNotes_nil bk _ (by rw [HB.out.cell 18]; exact HN.out 18 (by decide) (by decide) (by decide) (by decide) (by decide))).mono ?_
  rintro e w2 ⟨rfl, rfl⟩
  go_wp2_with fail
  refine (putLetters_nil bk _ (by rw [HB.out.cell 22]; exact HN.out 22 (by decide) (by decide) (by decide) (by decide) (by decide))).mono ?_
  rintro e w2 ⟨rfl, rfl⟩
  go_wp2_with fail
  refine (putReals_any B bk mReals bcs (.slice vaReals mReals vcReals) aReals _ W3 HB.out f1Reals PReals.out.r1 PReals.out.ra (fun i hi => (hlReals.out i hi)) hmReals (Nat.le_trans hB L3.out.size)).mono ?_
  rintro e W4 ⟨rfl, hR4, T4⟩
  replace HB := Lib.hid (T4.blk HB.out (cellsT_ne (by decide) _ _))
  have L4 := Lib.hid (L3.out.trans (T4.below (Nat.le_trans hB L3.out.size)))
  replace PReals : Hid (PSt elReals 23 43 W4 B (.slice vaReals mReals vcReals) aReals mReals (fun i => elReals.marks i 0 (ZReals.getD i []).length)) := ⟨T4.own PReals.out.r1 (fun cs fr => cellsT_ne (by decide) _ _), hR4⟩
  replace PInts := Lib.hid (PInts.out.tn T4 (fun cs fr => cellsT_ne (by decide) _ _) (fun cs fr => cellsT_ne (by decide) _ _))
  clear hR4 T4
  go_wp2_with fail
  refine (growTexts_nil bk _ (by rw [HB.out.cell 0]; exact HN.out 0 (by decide) (by decide) (by decide) (by decide) (by decide))).mono ?_
  rintro e w2 ⟨rfl, rfl⟩
  go_wp2_with fail
  refine (growInts_any B bk mInts bcs (.slice vaInts mInts vcInts) aInts (fun i => (ZInts.getD i []).length) W4 HB.out f1Ints PInts.out.r1 PInts.out.ra (fun i hi => (hlInts.out i hi)) hmInts (Nat.le_trans hB L4.out.size)).mono ?_
  rintro e W5 ⟨gInts, bInts, rfl, hO5, hF5, T5⟩
  replace HB := Lib.hid (T5.blk HB.out (cellsT_ne (by decide) _ _))
  have L5 := Lib.hid (L4.out.trans (T5.below (Nat.le_trans hB L4.out.size)))
  obtain ⟨gaInts, gcInts, rfl⟩ := srow_slice hO5
  have r1Ints := Lib.hid (T5.own PInts.out.r1 (fun cs fr => cellsT_ne (by decide) _ _))
  have fmInts := Lib.hid hF5
  have ogInts := Lib.hid hO5
  clear PInts
  replace PReals := Lib.hid (PReals.out.tn T5 (fun cs fr => cellsT_ne (by decide) _ _) (fun cs fr => cellsT_ne (by decide) _ _))
  clear hO5 hF5 T5
  go_wp2_with fail
  refine (growVecs_nil bk _ (by rw [HB.out.cell 4]; exact HN.out 4 (by decide) (by decide) (by decide) (by decide) (by decide))).mono ?_
  rintro e w2 ⟨rfl, rfl⟩
  go_wp2_with fail
  refine (growKeys_nil bk _ (by rw [HB.out.cell 6]; exact HN.out 6 (by decide) (by decide) (by decide) (by decide) (by decide))).mono ?_
  rintro e w2 ⟨rfl, rfl⟩
  go_wp2_with fail
  refine (growPairs_nil bk _ (by rw [HB.out.cell 8]; exact HN.out 8 (by decide) (by decide) (by decide) (by decide) (by decide))).mono ?_
  rintro e w2 ⟨rfl, rfl⟩
  go_wp2_with fail
  refine (growVersions_nil bk _ (by rw [HB.out.cell 10]; exact HN.out 10 (by decide) (by decide) (by decide) (by decide) (by decide))).mono ?_
  rintro e w2 ⟨rfl, rfl⟩
  go_wp2_with fail
  refine (growWrites_nil bk _ (by rw [HB.out.cell 12]; exact HN.out 12 (by decide) (by decide) (by decide) (by decide) (by decide))).mono ?_
  rintro e w2 ⟨rfl, rfl⟩
  go_wp2_with fail
  refine (growTxns_nil bk _ (by rw [HB.out.cell 14]; exact HN.out 14 (by decide) (by decide) (by decide) (by decide) (by decide))).mono ?_
  rintro e w2 ⟨rfl, rfl⟩
  go_wp2_with fail
  refine (growFiles_nil bk _ (by rw [HB.out.cell 16]; exact HN.out 16 (by decide) (by decide) (by decide) (by decide) (by decide))).mono ?_
  rintro e w2 ⟨rfl, rfl⟩
  go_wp2_with fail
  refine (growNotes_nil bk _ (by rw [HB.out.cell 18]; exact HN.out 18 (by decide) (by decide) (by decide) (by decide) (by decide))).mono ?_
  rintro e w2 ⟨rfl, rfl⟩
  go_wp2_with fail
  refine (growLeases_nil bk _ (by rw [HB.out.cell 20]; exact HN.out 20 (by decide) (by decide) (by decide) (by decide) (by decide))).mono ?_
  rintro e w2 ⟨rfl, rfl⟩
  go_wp2_with fail
  refine (growLetters_nil bk _ (by rw [HB.out.cell 22]; exact HN.out 22 (by decide) (by decide) (by decide) (by decide) (by decide))).mono ?_
  rintro e w2 ⟨rfl, rfl⟩
  go_wp2_with fail
  refine (growSteps_nil bk _ (by rw [HB.out.cell 24]; exact HN.out 24 (by decide) (by decide) (by decide) (by decide) (by decide))).mono ?_
  rintro e w2 ⟨rfl, rfl⟩
  go_wp2_with fail
  refine (growReals_any B bk mReals bcs (.slice vaReals mReals vcReals) aReals (fun i => (ZReals.getD i []).length) W5 HB.out f1Reals PReals.out.r1 PReals.out.ra (fun i hi => (hlReals.out i hi)) hmReals (Nat.le_trans hB L5.out.size)).mono ?_
  rintro e W6 ⟨gReals, bReals, rfl, hO6, hF6, T6⟩
  replace HB := Lib.hid (T6.blk HB.out (cellsT_ne (by decide) _ _))
  have L6 := Lib.hid (L5.out.trans (T6.below (Nat.le_trans hB L5.out.size)))
  obtain ⟨gaReals, gcReals, rfl⟩ := srow_slice hO6
  have r1Reals := Lib.hid (T6.own PReals.out.r1 (fun cs fr => cellsT_ne (by decide) _ _))
  have fmReals := Lib.hid hF6
  have ogReals := Lib.hid hO6
  clear PReals
  replace r1Ints := Lib.hid (T6.own r1Ints.out (fun cs fr => cellsT_ne (by decide) _ _))
  replace fmInts := Lib.hid (fmInts.out.tn T6 (fun cs fr => cellsT_ne (by decide) _ _))
  replace ogInts := Lib.hid (T6.own ogInts.out (fun cs fr => cellsT_ne (by decide) _ _))
  clear hO6 hF6 T6
  go_wp2_with fail
  refine (growLists_nil bk _ (by rw [HB.out.cell 28]; exact HN.out 28 (by decide) (by decide) (by decide) (by decide) (by decide))).mono ?_
  rintro e w2 ⟨rfl, rfl⟩
  have cTexts : W6.cell? ⟨bk, 0, none⟩ = some (.slice none 0 0) := by rw [HB.out.cell 0]; exact HN.out 0 (by decide) (by decide) (by decide) (by decide) (by decide)
  have cInts : W6.cell? ⟨bk, 2, none⟩ = some (.slice vaInts mInts vcInts) := by rw [HB.out.cell 2]; exact f1Ints
  have cVecs : W6.cell? ⟨bk, 4, none⟩ = some (.slice none 0 0) := by rw [HB.out.cell 4]; exact HN.out 4 (by decide) (by decide) (by decide) (by decide) (by decide)
  have cKeys : W6.cell? ⟨bk, 6, none⟩ = some (.slice none 0 0) := by rw [HB.out.cell 6]; exact HN.out 6 (by decide) (by decide) (by decide) (by decide) (by decide)
  have cPairs : W6.cell? ⟨bk, 8, none⟩ = some (.slice none 0 0) := by rw [HB.out.cell 8]; exact HN.out 8 (by decide) (by decide) (by decide) (by decide) (by decide)
  have cVersions : W6.cell? ⟨bk, 10, none⟩ = some (.slice none 0 0) := by rw [HB.out.cell 10]; exact HN.out 10 (by decide) (by decide) (by decide) (by decide) (by decide)
  have cWrites : W6.cell? ⟨bk, 12, none⟩ = some (.slice none 0 0) := by rw [HB.out.cell 12]; exact HN.out 12 (by decide) (by decide) (by decide) (by decide) (by decide)
  have cTxns : W6.cell? ⟨bk, 14, none⟩ = some (.slice none 0 0) := by rw [HB.out.cell 14]; exact HN.out 14 (by decide) (by decide) (by decide) (by decide) (by decide)
  have cFiles : W6.cell? ⟨bk, 16, none⟩ = some (.slice none 0 0) := by rw [HB.out.cell 16]; exact HN.out 16 (by decide) (by decide) (by decide) (by decide) (by decide)
  have cNotes : W6.cell? ⟨bk, 18, none⟩ = some (.slice none 0 0) := by rw [HB.out.cell 18]; exact HN.out 18 (by decide) (by decide) (by decide) (by decide) (by decide)
  have cLeases : W6.cell? ⟨bk, 20, none⟩ = some (.slice none 0 0) := by rw [HB.out.cell 20]; exact HN.out 20 (by decide) (by decide) (by decide) (by decide) (by decide)
  have cLetters : W6.cell? ⟨bk, 22, none⟩ = some (.slice none 0 0) := by rw [HB.out.cell 22]; exact HN.out 22 (by decide) (by decide) (by decide) (by decide) (by decide)
  have cSteps : W6.cell? ⟨bk, 24, none⟩ = some (.slice none 0 0) := by rw [HB.out.cell 24]; exact HN.out 24 (by decide) (by decide) (by decide) (by decide) (by decide)
  have cReals : W6.cell? ⟨bk, 26, none⟩ = some (.slice vaReals mReals vcReals) := by rw [HB.out.cell 26]; exact f1Reals
  have cLists : W6.cell? ⟨bk, 28, none⟩ = some (.slice none 0 0) := by rw [HB.out.cell 28]; exact HN.out 28 (by decide) (by decide) (by decide) (by decide) (by decide)
  go_wp2_with fail
  refine (markedTexts_nil W6).mono ?_
  rintro e w2 ⟨rfl, rfl⟩
  go_wp2_with fail
  refine (markedTexts_nil W6).mono ?_
  rintro e w2 ⟨rfl, rfl⟩
  go_wp2_with fail
  refine (markedInts_any B _ mInts _ bInts (fun i => (ZInts.getD i []).length + 72) W6 ogInts.out (fun i hi => fmInts.out.rb i hi) (fun i hi => by have := hlInts.out i hi; omega) hmInts).mono ?_
  rintro e W7 ⟨rfl, hg7⟩
  have T7 : Tn B (fun _ => false) W6 W7 := Tn.of_grown hg7
  replace HB := Lib.hid (T7.blk HB.out rfl)
  have L7 := Lib.hid (L6.out.trans (T7.below (Nat.le_trans hB L6.out.size)))
  replace r1Ints := Lib.hid (T7.own r1Ints.out (fun _ _ => rfl))
  replace r1Reals := Lib.hid (T7.own r1Reals.out (fun _ _ => rfl))
  replace fmInts := Lib.hid (fmInts.out.tn T7 (fun _ _ => rfl))
  replace fmReals := Lib.hid (fmReals.out.tn T7 (fun _ _ => rfl))
  replace ogInts := Lib.hid (T7.own ogInts.out (fun _ _ => rfl))
  replace ogReals := Lib.hid (T7.own ogReals.out (fun _ _ => rfl))
  clear hg7 T7 cInts cVecs cKeys cPairs cVersions cWrites cTxns cFiles cNotes cLeases cLetters cSteps cReals cLists
  have cInts : W7.cell? ⟨bk, 2, none⟩ = some (.slice vaInts mInts vcInts) := by rw [HB.out.cell 2]; exact f1Ints
  have cVecs : W7.cell? ⟨bk, 4, none⟩ = some (.slice none 0 0) := by rw [HB.out.cell 4]; exact HN.out 4 (by decide) (by decide) (by decide) (by decide) (by decide)
  have cKeys : W7.cell? ⟨bk, 6, none⟩ = some (.slice none 0 0) := by rw [HB.out.cell 6]; exact HN.out 6 (by decide) (by decide) (by decide) (by decide) (by decide)
  have cPairs : W7.cell? ⟨bk, 8, none⟩ = some (.slice none 0 0) := by rw [HB.out.cell 8]; exact HN.out 8 (by decide) (by decide) (by decide) (by decide) (by decide)
  have cVersions : W7.cell? ⟨bk, 10, none⟩ = some (.slice none 0 0) := by rw [HB.out.cell 10]; exact HN.out 10 (by decide) (by decide) (by decide) (by decide) (by decide)
  have cWrites : W7.cell? ⟨bk, 12, none⟩ = some (.slice none 0 0) := by rw [HB.out.cell 12]; exact HN.out 12 (by decide) (by decide) (by decide) (by decide) (by decide)
  have cTxns : W7.cell? ⟨bk, 14, none⟩ = some (.slice none 0 0) := by rw [HB.out.cell 14]; exact HN.out 14 (by decide) (by decide) (by decide) (by decide) (by decide)
  have cFiles : W7.cell? ⟨bk, 16, none⟩ = some (.slice none 0 0) := by rw [HB.out.cell 16]; exact HN.out 16 (by decide) (by decide) (by decide) (by decide) (by decide)
  have cNotes : W7.cell? ⟨bk, 18, none⟩ = some (.slice none 0 0) := by rw [HB.out.cell 18]; exact HN.out 18 (by decide) (by decide) (by decide) (by decide) (by decide)
  have cLeases : W7.cell? ⟨bk, 20, none⟩ = some (.slice none 0 0) := by rw [HB.out.cell 20]; exact HN.out 20 (by decide) (by decide) (by decide) (by decide) (by decide)
  have cLetters : W7.cell? ⟨bk, 22, none⟩ = some (.slice none 0 0) := by rw [HB.out.cell 22]; exact HN.out 22 (by decide) (by decide) (by decide) (by decide) (by decide)
  have cSteps : W7.cell? ⟨bk, 24, none⟩ = some (.slice none 0 0) := by rw [HB.out.cell 24]; exact HN.out 24 (by decide) (by decide) (by decide) (by decide) (by decide)
  have cReals : W7.cell? ⟨bk, 26, none⟩ = some (.slice vaReals mReals vcReals) := by rw [HB.out.cell 26]; exact f1Reals
  have cLists : W7.cell? ⟨bk, 28, none⟩ = some (.slice none 0 0) := by rw [HB.out.cell 28]; exact HN.out 28 (by decide) (by decide) (by decide) (by decide) (by decide)
  go_wp2_with fail
  refine (markedInts_any B B mInts _ aInts (fun i => (ZInts.getD i []).length) W7 r1Ints.out (fun i hi => fmInts.out.ra i hi) (fun i hi => by have := hlInts.out i hi; omega) hmInts).mono ?_
  rintro e W8 ⟨rfl, hg8⟩
  have T8 : Tn B (fun _ => false) W7 W8 := Tn.of_grown hg8
  replace HB := Lib.hid (T8.blk HB.out rfl)
  have L8 := Lib.hid (L7.out.trans (T8.below (Nat.le_trans hB L7.out.size)))
  replace r1Ints := Lib.hid (T8.own r1Ints.out (fun _ _ => rfl))
  replace r1Reals := Lib.hid (T8.own r1Reals.out (fun _ _ => rfl))
  replace fmInts := Lib.hid (fmInts.out.tn T8 (fun _ _ => rfl))
  replace fmReals := Lib.hid (fmReals.out.tn T8 (fun _ _ => rfl))
  replace ogInts := Lib.hid (T8.own ogInts.out (fun _ _ => rfl))
  replace ogReals := Lib.hid (T8.own ogReals.out (fun _ _ => rfl))
  clear hg8 T8 cInts cVecs cKeys cPairs cVersions cWrites cTxns cFiles cNotes cLeases cLetters cSteps cReals cLists
  have cInts : W8.cell? ⟨bk, 2, none⟩ = some (.slice vaInts mInts vcInts) := by rw [HB.out.cell 2]; exact f1Ints
  have cVecs : W8.cell? ⟨bk, 4, none⟩ = some (.slice none 0 0) := by rw [HB.out.cell 4]; exact HN.out 4 (by decide) (by decide) (by decide) (by decide) (by decide)
  have cKeys : W8.cell? ⟨bk, 6, none⟩ = some (.slice none 0 0) := by rw [HB.out.cell 6]; exact HN.out 6 (by decide) (by decide) (by decide) (by decide) (by decide)
  have cPairs : W8.cell? ⟨bk, 8, none⟩ = some (.slice none 0 0) := by rw [HB.out.cell 8]; exact HN.out 8 (by decide) (by decide) (by decide) (by decide) (by decide)
  have cVersions : W8.cell? ⟨bk, 10, none⟩ = some (.slice none 0 0) := by rw [HB.out.cell 10]; exact HN.out 10 (by decide) (by decide) (by decide) (by decide) (by decide)
  have cWrites : W8.cell? ⟨bk, 12, none⟩ = some (.slice none 0 0) := by rw [HB.out.cell 12]; exact HN.out 12 (by decide) (by decide) (by decide) (by decide) (by decide)
  have cTxns : W8.cell? ⟨bk, 14, none⟩ = some (.slice none 0 0) := by rw [HB.out.cell 14]; exact HN.out 14 (by decide) (by decide) (by decide) (by decide) (by decide)
  have cFiles : W8.cell? ⟨bk, 16, none⟩ = some (.slice none 0 0) := by rw [HB.out.cell 16]; exact HN.out 16 (by decide) (by decide) (by decide) (by decide) (by decide)
  have cNotes : W8.cell? ⟨bk, 18, none⟩ = some (.slice none 0 0) := by rw [HB.out.cell 18]; exact HN.out 18 (by decide) (by decide) (by decide) (by decide) (by decide)
  have cLeases : W8.cell? ⟨bk, 20, none⟩ = some (.slice none 0 0) := by rw [HB.out.cell 20]; exact HN.out 20 (by decide) (by decide) (by decide) (by decide) (by decide)
  have cLetters : W8.cell? ⟨bk, 22, none⟩ = some (.slice none 0 0) := by rw [HB.out.cell 22]; exact HN.out 22 (by decide) (by decide) (by decide) (by decide) (by decide)
  have cSteps : W8.cell? ⟨bk, 24, none⟩ = some (.slice none 0 0) := by rw [HB.out.cell 24]; exact HN.out 24 (by decide) (by decide) (by decide) (by decide) (by decide)
  have cReals : W8.cell? ⟨bk, 26, none⟩ = some (.slice vaReals mReals vcReals) := by rw [HB.out.cell 26]; exact f1Reals
  have cLists : W8.cell? ⟨bk, 28, none⟩ = some (.slice none 0 0) := by rw [HB.out.cell 28]; exact HN.out 28 (by decide) (by decide) (by decide) (by decide) (by decide)
  go_wp2_with fail
  refine (markedVecs_nil W8).mono ?_
  rintro e w2 ⟨rfl, rfl⟩
  go_wp2_with fail
  refine (markedVecs_nil W8).mono ?_
  rintro e w2 ⟨rfl, rfl⟩
  go_wp2_with fail
  refine (markedKeys_nil W8).mono ?_
  rintro e w2 ⟨rfl, rfl⟩
  go_wp2_with fail
  refine (markedKeys_nil W8).mono ?_
  rintro e w2 ⟨rfl, rfl⟩
  go_wp2_with fail
  refine (markedPairs_nil W8).mono ?_
  rintro e w2 ⟨rfl, rfl⟩
  go_wp2_with fail
  refine (markedPairs_nil W8).mono ?_
  rintro e w2 ⟨rfl, rfl⟩
  go_wp2_with fail
  refine (markedVersions_nil W8).mono ?_
  rintro e w2 ⟨rfl, rfl⟩
  go_wp2_with fail
  refine (markedVersions_nil W8).mono ?_
  rintro e w2 ⟨rfl, rfl⟩
  go_wp2_with fail
  refine (markedWrites_nil W8).mono ?_
  rintro e w2 ⟨rfl, rfl⟩
  go_wp2_with fail
  refine (markedWrites_nil W8).mono ?_
  rintro e w2 ⟨rfl, rfl⟩
  go_wp2_with fail
  refine (markedTxns_nil W8).mono ?_
  rintro e w2 ⟨rfl, rfl⟩
  go_wp2_with fail
  refine (markedTxns_nil W8).mono ?_
  rintro e w2 ⟨rfl, rfl⟩
  go_wp2_with fail
  refine (markedFiles_nil W8).mono ?_
  rintro e w2 ⟨rfl, rfl⟩
  go_wp2_with fail
  refine (markedFiles_nil W8).mono ?_
  rintro e w2 ⟨rfl, rfl⟩
  go_wp2_with fail
  refine (markedNotes_nil W8).mono ?_
  rintro e w2 ⟨rfl, rfl⟩
  go_wp2_with fail
  refine (markedNotes_nil W8).mono ?_
  rintro e w2 ⟨rfl, rfl⟩
  go_wp2_with fail
  refine (markedLeases_nil W8).mono ?_
  rintro e w2 ⟨rfl, rfl⟩
  go_wp2_with fail
  refine (markedLeases_nil W8).mono ?_
  rintro e w2 ⟨rfl, rfl⟩
  go_wp2_with fail
  refine (markedLetters_nil W8).mono ?_
  rintro e w2 ⟨rfl, rfl⟩
  go_wp2_with fail
  refine (markedLetters_nil W8).mono ?_
  rintro e w2 ⟨rfl, rfl⟩
  go_wp2_with fail
  refine (markedSteps_nil W8).mono ?_
  rintro e w2 ⟨rfl, rfl⟩
  go_wp2_with fail
  refine (markedSteps_nil W8).mono ?_
  rintro e w2 ⟨rfl, rfl⟩
  go_wp2_with fail
  refine (markedReals_any B _ mReals _ bReals (fun i => (ZReals.getD i []).length + 72) W8 ogReals.out (fun i hi => fmReals.out.rb i hi) (fun i hi => by have := hlReals.out i hi; omega) hmReals).mono ?_
  rintro e W9 ⟨rfl, hg9⟩
  have T9 : Tn B (fun _ => false) W8 W9 := Tn.of_grown hg9
  replace HB := Lib.hid (T9.blk HB.out rfl)
  have L9 := Lib.hid (L8.out.trans (T9.below (Nat.le_trans hB L8.out.size)))
  replace r1Ints := Lib.hid (T9.own r1Ints.out (fun _ _ => rfl))
  replace r1Reals := Lib.hid (T9.own r1Reals.out (fun _ _ => rfl))
  replace fmInts := Lib.hid (fmInts.out.tn T9 (fun _ _ => rfl))
  replace fmReals := Lib.hid (fmReals.out.tn T9 (fun _ _ => rfl))
  replace ogInts := Lib.hid (T9.own ogInts.out (fun _ _ => rfl))
  replace ogReals := Lib.hid (T9.own ogReals.out (fun _ _ => rfl))
  clear hg9 T9 cReals cLists
  have cReals : W9.cell? ⟨bk, 26, none⟩ = some (.slice vaReals mReals vcReals) := by rw [HB.out.cell 26]; exact f1Reals
  have cLists : W9.cell? ⟨bk, 28, none⟩ = some (.slice none 0 0) := by rw [HB.out.cell 28]; exact HN.out 28 (by decide) (by decide) (by decide) (by decide) (by decide)
  go_wp2_with fail
  refine (markedReals_any B B mReals _ aReals (fun i => (ZReals.getD i []).length) W9 r1Reals.out (fun i hi => fmReals.out.ra i hi) (fun i hi => by have := hlReals.out i hi; omega) hmReals).mono ?_
  rintro e W10 ⟨rfl, hg10⟩
  have T10 : Tn B (fun _ => false) W9 W10 := Tn.of_grown hg10
  replace HB := Lib.hid (T10.blk HB.out rfl)
  have L10 := Lib.hid (L9.out.trans (T10.below (Nat.le_trans hB L9.out.size)))
  replace r1Ints := Lib.hid (T10.own r1Ints.out (fun _ _ => rfl))
  replace r1Reals := Lib.hid (T10.own r1Reals.out (fun _ _ => rfl))
  replace fmInts := Lib.hid (fmInts.out.tn T10 (fun _ _ => rfl))
  replace fmReals := Lib.hid (fmReals.out.tn T10 (fun _ _ => rfl))
  replace ogInts := Lib.hid (T10.own ogInts.out (fun _ _ => rfl))
  replace ogReals := Lib.hid (T10.own ogReals.out (fun _ _ => rfl))
  clear hg10 T10 cReals cLists
  have cReals : W10.cell? ⟨bk, 26, none⟩ = some (.slice vaReals mReals vcReals) := by rw [HB.out.cell 26]; exact f1Reals
  have cLists : W10.cell? ⟨bk, 28, none⟩ = some (.slice none 0 0) := by rw [HB.out.cell 28]; exact HN.out 28 (by decide) (by decide) (by decide) (by decide) (by decide)
  go_wp2_with fail
  refine (markedLists_nil W10).mono ?_
  rintro e w2 ⟨rfl, rfl⟩
  go_wp2_with fail
  refine (markedLists_nil W10).mono ?_
  rintro e w2 ⟨rfl, rfl⟩
  go_wp2_with fail
  go_ret
  exact ⟨rfl, L10.out⟩
end Go.Proofs.YtkhmbkofkdnlkaaGreat

namespace Go.Proofs.YtkhmbkofkdnlkaaGreat
open Go.RowKit Go.WideShapes Go.ChangeShapes
section
variable {H : Type} {enc : TypeId × Value → H} {P : Program}
theorem post_of_below {f : Func} {s : ChangeSpec} {apart fresh handsOn again : Bool} {W W' : World} {args : Array Value} {v : Value} {ds gs : List (DataW H)} {before pa pv : List MemPlace}
    (hW : DataW.Whole enc P f.params.toList s.vars apart W args.toList ds gs before)
    (hres : ∀ (b : Nat) (sp : Nat → Bool) (hd : Bool), DataW.TrodAll enc P W' b sp hd f.resultTypes.toList (v.resultList f.resultTypes.size) (s.fn H (ds ++ gs)).results [])
    (hargs : ∀ sp : Nat → Bool, (∀ p ∈ before, sp p.block = true) → DataW.TrodAll enc P W' 0 sp true f.params.toList args.toList (s.fn H (ds ++ gs)).args pa)
    (hvars : ∀ sp : Nat → Bool, (∀ p ∈ before, sp p.block = true) → DataW.TrodVars enc P W' sp s.vars (s.fn H (ds ++ gs)).vars pv)
    (hps : before = pa ++ pv) (hb : Below W.heap.size W W')
    (hok : ∀ (j : Nat) (t : TypeId) (r : Value), f.resultTypes[j]? = some t → (v.resultList f.resultTypes.size)[j]? = some r → Value.okWide P W' .any 0 t r) :
    s.post enc P f apart fresh handsOn again W args v W' := by
  have hlt : ∀ p ∈ before, p.block < W.heap.size := fun p hp => hW.lt p hp
  have hold : ∀ p ∈ before, (fun b => decide (b < W.heap.size)) p.block = true := fun p hp => by simpa using hlt p hp
  refine ⟨ds, gs, before, [], pa, pv, hW, hres _ _ _, hargs _ hold, hvars _ hold, World.keptBut_mono (fun p hp => ⟨hp, ?_⟩) (hb.frame (· ∈ before)), fun _ => ?_⟩
  · rw [hps, List.mem_append] at hp
    exact Or.inr hp
  · obtain ⟨_, _, _, _, _, hz, hn⟩ := hW
    refine ⟨hok, _, _, ([] ++ pa) ++ pv, ⟨[] ++ pa, pv, trodAll_append (hargs _ (fun _ _ => rfl)) (hres _ _ _), hvars _ (fun _ _ => rfl), rfl, ?_, ?_⟩, ?_⟩
    · intro b off hp
      have hin : MemPlace.cell b off ∈ before := by rw [hps]; simpa using hp
      rw [hb.frozen (hlt _ hin)]
      exact hz b off hin
    · intro ha
      have := hn ha
      rw [hps] at this
      simpa using this
    · intro p hp _
      rw [hps]
      simpa using hp
end
end Go.Proofs.YtkhmbkofkdnlkaaGreat

namespace Go.Proofs.YtkhmbkofkdnlkaaGreat
section
variable {H : Type} {enc : TypeId × Value → H}
theorem witness_row_shaped {C : Checked} {os : Os} {f : FuncId} {fn : Func} {s : OpenSpec} {conds : List PathCond} {apart : Bool} {laid : List (String × DataW Unit)} (modest : Bool) (w0 : World) (args : Array Value) (hos : w0.os = os)
    (hsh : (w0.forCall (fun _ _ => 0) ⟨#[], args, []⟩).Shaped C.prog)
    (hok : Input.okWideB C.prog (w0.forCall (fun _ _ => 0) ⟨#[], args, []⟩) f ⟨#[], args, []⟩ = true)
    (hrow : s.preRow enc C.prog fn conds apart laid (w0.forCall (fun _ _ => 0) ⟨#[], args, []⟩).memory args) :
    ∃ (w : World) (tape : Tape) (i : Input), w.os = os ∧ (w.forCall tape i).Shaped C.prog ∧ i.vars = [] ∧ Input.okWide C.prog (w.forCall tape i) .any w.heap.size f i ∧
      s.preRow enc C.prog fn conds apart laid (w.forCall tape i).memory i.args ∧ ({ modest := modest } : Assume).holds C.prog (lone (Frame.enter C.prog f i.args .normal) [] (w.forCall tape i)) :=
  ⟨w0, fun _ _ => 0, ⟨#[], args, []⟩, hos, hsh, (Input.okWide_of_okWideB (base := 0) hok).1, (Input.okWide_of_okWideB hok).2, hrow, by
    simp only [Assume.holds]
    exact ⟨by simp, by simp, fun _ => Modest.zero, by simp, by simp⟩⟩
end
end Go.Proofs.YtkhmbkofkdnlkaaGreat
