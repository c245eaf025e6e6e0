/-
  The landed package ikey: what its reader takes off.
-/
import Derived.Test.YthjphiniljopgaaDoorIkV
import Derived.Test.YthjphiniljopgaaDoorRaw12
import Derived.Test.YthjphiniljopgaaDoorRaw3
namespace Go.Proofs.YthjphiniljopgaaDoor
open Go.RowKit

/-- The reader holds what is left. -/
abbrev RdAt (w : World) (p : Nat) (s : ByteArray) : Prop := Blk w p 51 #[.string s]
/-- A step gave up. -/
abbrev gaveUp : Ending := .panicked [{ v := .iface 29 (.int .i64 4), recovered := false }]

set_option maxRecDepth 100000 in
set_option maxHeartbeats 2000000 in
theorem ktake_ok (p : Nat) (s : ByteArray) (k : Nat) (w : World) (B : RdAt w p s) (hk : k ≤ s.size) (hs : s.size ≤ 140737488351232) :
    Calls Tryd.prog 40 #[.pointer (some ⟨p, 0, none⟩), .int .i64 (k : Int)] w fun e w' => e = .returned (.string (s.extract 0 k)) ∧ RdAt w' p (s.extract k s.size) ∧ w.grownBy w' (some p) := by
  have c0 : w.cell? ⟨p, 0, none⟩ = some (.string s) := B.cell 0
  have f0 := B.frozen 0
  have hk1 : ¬ (s.size : Int) < (k : Int) := by omega
  have hk2 : (k : Int) ≤ (s.size : Int) := by omega
  have B := Lib.hid B
  clear hk
  go_enter Tryd.func40, Tryd.ntmps40
  go_wp2_with fail
  go_ret
  exact ⟨rfl, B.out.set_ 0 _, only_setCell (kgrow_refl w (some p)) (Or.inl rfl) _⟩

set_option maxRecDepth 100000 in
set_option maxHeartbeats 2000000 in
theorem ktake_short (p : Nat) (s : ByteArray) (k : Nat) (w : World) (B : RdAt w p s) (hk : s.size < k) :
    Calls Tryd.prog 40 #[.pointer (some ⟨p, 0, none⟩), .int .i64 (k : Int)] w fun e w' => e = gaveUp ∧ w' = w := by
  have c0 : w.cell? ⟨p, 0, none⟩ = some (.string s) := B.cell 0
  have hk1 : (s.size : Int) < (k : Int) := by omega
  clear hk
  go_enter Tryd.func40, Tryd.ntmps40
  go_wp2_with fail
  exact ⟨rfl, rfl, rfl⟩

set_option maxRecDepth 100000 in
set_option maxHeartbeats 2000000 in
theorem knum_ok (p : Nat) (s : ByteArray) (k : Nat) (w : World) (B : RdAt w p s) (hk : k ≤ s.size) (h1 : 1 ≤ k) (h7 : k ≤ 7) (hs : s.size ≤ 140737488351232) :
    Calls Tryd.prog 33 #[.pointer (some ⟨p, 0, none⟩), .int .i64 (k : Int)] w fun e w' => e = .returned (.int .i64 (getL (s.data.toList.take k) : Int)) ∧ RdAt w' p (s.extract k s.size) ∧ w.grownBy w' (some p) := by
  have T := Lib.hid (ktake_ok p s k w B hk hs)
  have hz : (s.extract 0 k).size = k := by simp; omega
  have G := fun W => Lib.hid (get_ok (s.extract 0 k) W (by omega) (by omega))
  rw [str_take] at G
  clear hz
  go_enter Tryd.func33, Tryd.ntmps33
  go_wp2_with fail
  refine T.out.mono ?_
  rintro e w1 ⟨rfl, B1, g1⟩
  go_wp2_with fail
  refine (G _).out.mono ?_
  rintro e w2 ⟨rfl, rfl⟩
  go_wp2_with fail
  go_ret
  exact ⟨rfl, B1, g1⟩

set_option maxRecDepth 100000 in
set_option maxHeartbeats 2000000 in
theorem knum_short (p : Nat) (s : ByteArray) (k : Nat) (w : World) (B : RdAt w p s) (hk : s.size < k) :
    Calls Tryd.prog 33 #[.pointer (some ⟨p, 0, none⟩), .int .i64 (k : Int)] w fun e w' => e = gaveUp ∧ w' = w := by
  have T := Lib.hid (ktake_short p s k w B hk)
  go_enter Tryd.func33, Tryd.ntmps33
  go_wp2_with fail
  refine T.out.mono ?_
  rintro e w1 ⟨rfl, rfl⟩
  go_wp2_with fail
  exact ⟨rfl, rfl, rfl⟩

theorem getT_room {s : ByteArray} {xs : List Int} {n er : Int} (h : getT s = (xs, n, er)) (h0 : er = 0) : ∃ k : Nat, n = (k : Int) ∧ k ≤ s.size := by
  subst h0
  unfold getT at h
  split at h
  · exact absurd (Prod.mk.inj (Prod.mk.inj h).2).2 (by decide)
  · split at h
    · exact absurd (Prod.mk.inj (Prod.mk.inj h).2).2 (by decide)
    · split at h
      · exact absurd (Prod.mk.inj (Prod.mk.inj h).2).2 (by decide)
      · rename_i h2
        refine ⟨1 + 6 * getL (s.data.toList.take 1), ?_, by omega⟩
        rw [← (Prod.mk.inj (Prod.mk.inj h).2).1]
        push_cast
        rfl

set_option maxRecDepth 100000 in
set_option maxHeartbeats 2000000 in
theorem kvec_ok (p : Nat) (s : ByteArray) (xs : List Int) (k : Nat) (w : World) (B : RdAt w p s) (hs : s.size ≤ 140737488351232) (h : getT s = (xs, (k : Int), 0)) (hk : k ≤ s.size) :
    Calls Tryd.prog 34 #[.pointer (some ⟨p, 0, none⟩)] w fun e w' => (∃ v, e = .returned v ∧ Nums w' w.heap.size 3 v xs) ∧ RdAt w' p (s.extract k s.size) ∧ w.grownBy w' (some p) := by
  have c0 : w.cell? ⟨p, 0, none⟩ = some (.string s) := B.cell 0
  have G := gvget_any s w hs
  rw [h] at G
  have G := Lib.hid G
  have B := Lib.hid B
  have T := fun W (h : RdAt W p s) => Lib.hid (ktake_ok p s k W h hk hs)
  clear h
  go_enter Tryd.func34, Tryd.ntmps34
  go_wp2_with fail
  refine G.out.mono ?_
  rintro e w1 ⟨v, rfl, hN, hb1⟩
  have B1 := Lib.hid (B.out.below hb1 B.out.lt)
  have hp : p < w.heap.size := B.out.lt
  have HN := Lib.hid hN
  have HB := Lib.hid hb1
  clear hN hb1
  go_wp2_with fail
  refine (T _ B1.out).out.mono ?_
  rintro e w2 ⟨rfl, B2, g2⟩
  have HN2 : Hid (Nums w2 w.heap.size 3 v xs) := by
    refine ⟨HN.out.1, ?_⟩
    rcases HN.out.2 with hn | ⟨g, cap, cur, hv, hg, hh, r⟩
    · exact Or.inl hn
    · exact Or.inr ⟨g, cap, cur, hv, hg, (g2.block g (Array.getElem?_eq_some_iff.1 hh).1 (fun e => by injection e with e; omega)).trans hh, r⟩
  have g3 := Lib.hid (kgrow_trans (kgrow_of_below HB.out (some p)) g2)
  clear g2
  have B2 := Lib.hid B2
  go_wp2_with fail
  go_ret
  exact ⟨⟨v, rfl, HN2.out⟩, B2.out, g3.out⟩

set_option maxRecDepth 100000 in
set_option maxHeartbeats 2000000 in
theorem kvec_bad (p : Nat) (s : ByteArray) (xs : List Int) (n er : Int) (w : World) (B : RdAt w p s) (hs : s.size ≤ 140737488351232) (h : getT s = (xs, n, er)) (h0 : er ≠ 0) :
    Calls Tryd.prog 34 #[.pointer (some ⟨p, 0, none⟩)] w fun e w' => e = gaveUp ∧ Below w.heap.size w w' := by
  have c0 : w.cell? ⟨p, 0, none⟩ = some (.string s) := B.cell 0
  have G := gvget_any s w hs
  rw [h] at G
  have G := Lib.hid G
  have h0' : (er == 0) = false := by rw [beq_eq_false_iff_ne]; exact h0
  have h1' : (er != 0) = true := by rw [bne_iff_ne]; exact h0
  clear h h0
  go_enter Tryd.func34, Tryd.ntmps34
  go_wp2_with fail
  refine G.out.mono ?_
  rintro e w1 ⟨v, rfl, hN, hb1⟩
  have HB := Lib.hid hb1
  clear hN hb1
  go_wp2_with fail
  exact ⟨rfl, rfl, HB.out⟩
end Go.Proofs.YthjphiniljopgaaDoor
