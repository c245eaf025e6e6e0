/-
  VecTells: the law.
-/
import Derived.Test.YtalacionlbmcpaaGreatDoorBook18
namespace Go.Proofs.YtalacionlbmcpaaGreatDoor
open Go.RowKit

/-- What is known at a world within a round. -/
structure Mem (w W : World) (bk : Nat) (Z : List (List Int)) (S : Nat) (A0 : Option Addr) (n0 : Nat) (xs : List Int) (A1 : Option Addr) (n1 : Nat) (ys : List Int) (E : List (Nat × Value × List Int)) (P : List (Nat × Nat × Value × List Int)) : Prop where
  i0 : IntsIn W A0 n0 xs
  i1 : IntsIn W A1 n1 ys
  kept : Kept W w.heap.size bk Z S
  lent : ∀ r ∈ E, LentV W r.1 r.2.1 r.2.2
  pend : ∀ r ∈ P, Pend W r.1 r.2.1 r.2.2.1 r.2.2.2
  base : Below w.heap.size w W
  laid : LaidV W
section
variable {w W W' : World} {bk : Nat} {Z : List (List Int)} {S : Nat} {A0 : Option Addr} {n0 : Nat} {xs : List Int} {A1 : Option Addr} {n1 : Nat} {ys : List Int} {E : List (Nat × Value × List Int)} {P : List (Nat × Nat × Value × List Int)}
theorem Mem.below (h : Mem w W bk Z S A0 n0 xs A1 n1 ys E P) (hb : Below W.heap.size W W') : Mem w W' bk Z S A0 n0 xs A1 n1 ys E P :=
  ⟨h.i0.below hb, h.i1.below hb, h.kept.below hb (Nat.le_refl _), fun r hr => (h.lent r hr).below hb (Nat.le_refl _), fun r hr => (h.pend r hr).keep (KeepT.of_below hb (Nat.le_refl _)), h.base.trans (hb.mono h.base.size), h.laid.on hb⟩
theorem Mem.addLent (h : Mem w W bk Z S A0 n0 xs A1 n1 ys E P) {B : Nat} {v : Value} {zs : List Int} (hv : LentV W B v zs) : Mem w W bk Z S A0 n0 xs A1 n1 ys ((B, v, zs) :: E) P :=
  ⟨h.i0, h.i1, h.kept, fun r hr => by rcases List.mem_cons.1 hr with rfl | hr; exact hv; exact h.lent r hr, h.pend, h.base, h.laid⟩
theorem Mem.addPend (h : Mem w W bk Z S A0 n0 xs A1 n1 ys E P) {B : Nat} {v : Value} {zs : List Int} (hv : Nums W B 3 v zs) : Mem w W bk Z S A0 n0 xs A1 n1 ys E ((B, W.heap.size, v, zs) :: P) :=
  ⟨h.i0, h.i1, h.kept, h.lent, fun r hr => by rcases List.mem_cons.1 hr with rfl | hr; exact Pend.mk' hv; exact h.pend r hr, h.base, h.laid⟩
end
theorem lent_shape {w : World} {B : Nat} {v : Value} {zs : List Int} (h : LentV w B v zs) : ∃ a c, v = .slice a zs.length c := own_slice h.nums
theorem nums_ints {w : World} {B n c : Nat} {A : Option Addr} {zs : List Int} (h : Nums w B 3 (.slice A n c) zs) (hwf : ∀ z ∈ zs, (Lit.int .i64 z).wf = true) : IntsIn w A n zs := by
  obtain ⟨A', c', e, I, _⟩ := h.ints hwf
  injection e with e1 e2 _
  subst e1
  subst e2
  exact I
theorem lent_ints {w : World} {r : Nat × Value × List Int} {A : Option Addr} {n c : Nat} {zs : List Int} (h : LentV w r.1 r.2.1 r.2.2) (hwf : ∀ z ∈ zs, (Lit.int .i64 z).wf = true) (e1 : r.2.1 = .slice A n c := by rfl) (e2 : r.2.2 = zs := by rfl) : IntsIn w A n zs := by
  rw [e1, e2] at h
  exact nums_ints h.nums hwf
theorem pend_ints {w : World} {r : Nat × Nat × Value × List Int} {A : Option Addr} {n c : Nat} {zs : List Int} (h : Pend w r.1 r.2.1 r.2.2.1 r.2.2.2) (hwf : ∀ z ∈ zs, (Lit.int .i64 z).wf = true) (e1 : r.2.2.1 = .slice A n c := by rfl) (e2 : r.2.2.2 = zs := by rfl) : IntsIn w A n zs := by
  rw [e1, e2] at h
  exact nums_ints h.1 hwf
theorem kept_now {w : World} {B bk S : Nat} {Z : List (List Int)} (h : Kept w B bk Z S) : Kept w B bk Z w.heap.size := by
  obtain ⟨v1, v2, L, C, hV, hL, hC, hR, hN, hW, hS⟩ := h
  exact ⟨v1, v2, L, C, hV, hL, hC, hR, hN, hW, fun i hi g hg => ((hR.each i hi).lt_ hg).2⟩
theorem pend_low {w : World} {lo lo' hi : Nat} {v : Value} {zs : List Int} (h : Pend w lo hi v zs) (hl : lo' ≤ lo) : Pend w lo' hi v zs := ⟨h.1.low hl, h.2⟩
theorem drewN_below {w w' : World} {q : Nat} (h : w' = w.drewN q) : Below w.heap.size w w' := by rw [h]; exact below_drewN (Below.refl _ _) q
theorem rsame_self (A1 : Option Addr) (n1 c1 : Nat) (A2 : Option Addr) (n2 c2 : Nat) (xs : List Int) (w : World) (I1 : IntsIn w A1 n1 xs) (I2 : IntsIn w A2 n2 xs) :
    Calls Tryz.prog 15 #[.slice A1 n1 c1, .slice A2 n2 c2] w fun e w' => e = .returned (.bool true) ∧ ∃ q, w' = w.drewN q := by
  have := rsame_any A1 n1 c1 xs A2 n2 c2 xs w I1 I2
  rwa [decide_eq_true (rfl : xs = xs)] at this
theorem stays_self (B : Nat) (v : Value) (zs : List Int) (A2 : Option Addr) (n2 c2 : Nat) (w : World) (H1 : LentV w B v zs) (hwf : ∀ z ∈ zs, (Lit.int .i64 z).wf = true) (hn : zs.length ≤ 100000) (I2 : IntsIn w A2 n2 zs) :
    Calls Tryz.prog 27 #[v, .slice A2 n2 c2] w fun e w' => e = .returned (.bool true) ∧ ∃ q, w' = w.drewN q := by
  have := stays_any B v zs A2 n2 c2 zs w H1 hwf hn I2
  rwa [decide_eq_true (rfl : zs = zs)] at this
theorem mem_start (w : World) {A0 : Option Addr} {n0 : Nat} {xs : List Int} {A1 : Option Addr} {n1 : Nat} {ys : List Int} (I0 : IntsIn w A0 n0 xs) (I1 : IntsIn w A1 n1 ys) (hL : LaidV w) :
    Mem w (w.alloc (.cells (bookV (.slice none 0 0) (.slice none 0 0)) 42)) w.heap.size [] (w.alloc (.cells (bookV (.slice none 0 0) (.slice none 0 0)) 42)).heap.size A0 n0 xs A1 n1 ys [] [] := by
  have hb0 := below_alloc (Below.refl w.heap.size w) (Nat.le_refl _) (.cells (bookV (.slice none 0 0) (.slice none 0 0)) 42)
  refine ⟨I0.below hb0, I1.below hb0, ⟨.slice none 0 0, .slice none 0 0, [], [], ⟨Nat.le_refl _, heap_alloc_new w _, World.ownsRow_nil _ _ _ _, World.ownsRow_nil _ _ _ _, fun g hg => by simp [Value.ownBlock] at hg⟩, rfl, rfl, ⟨fun i hi => absurd hi (by simp), fun i j hi => absurd hi (by simp)⟩, fun i hi => absurd hi (by simp), fun i hi => absurd hi (by simp), fun i hi => absurd hi (by simp)⟩, fun r hr => by simp at hr, fun r hr => by simp at hr, hb0, hL.on hb0⟩
section
variable {α : Type} (a b c d e f : α)
theorem mem_at0 : a ∈ [a, b, c, d, e, f] := by simp
theorem mem_at1 : b ∈ [a, b, c, d, e, f] := by simp
theorem mem_at2 : c ∈ [a, b, c, d, e, f] := by simp
theorem mem_at3 : d ∈ [a, b, c, d, e, f] := by simp
theorem mem_at4 : e ∈ [a, b, c, d, e, f] := by simp
theorem mem_at5 : f ∈ [a, b, c, d, e, f] := by simp
end

set_option maxRecDepth 100000 in
set_option maxHeartbeats 16000000 in
theorem lawVecTells (A0 : Option Addr) (n0 c0 : Nat) (xs : List Int) (A1 : Option Addr) (n1 c1 : Nat) (ys : List Int) (i : Int) (hi : (Lit.int .i64 i).wf = true) (t : Int) (ht : (Lit.int .i64 t).wf = true) (s : ByteArray) (hs : s.size ≤ 140737488351232) (w : World) (I0 : IntsIn w A0 n0 xs) (m0 : n0 ≤ 17592186043904) (I1 : IntsIn w A1 n1 ys) (m1 : n1 ≤ 17592186043904) (hL : LaidV w) :
    Calls Tryz.prog 3 #[.slice A0 n0 c0, .slice A1 n1 c1, .int .i64 i, .int .i64 t, .string s] w fun e w' => e = .returned (.bool true) ∧ Below w.heap.size w w' := by
  have J0 := Lib.hid I0
  have J1 := Lib.hid I1
  have HL := Lib.hid hL
  have H0 := Lib.hid I0.wf
  have H1 := Lib.hid I1.wf
  obtain rfl := I0.len
  obtain rfl := I1.len
  have Al := Lib.hid (aliveV_any w hL)
  clear I0 I1 hL
  by_cases hlt : xs.length ≤ 60 ∧ ys.length ≤ 60
  · have OJ := Lib.hid (joinL_ok H0.out H1.out hlt.1)
    have OM := Lib.hid (meetL_ok H0.out H1.out hlt.1)
    have OW := Lib.hid (withL_ok (i := i) (t := t) H0.out ht hlt.1)
    have OZ := Lib.hid (zeroL_ok i)
    have OG := Lib.hid (getT_ok s)
    obtain ⟨hl0, hl1⟩ := hlt
    go_enter Tryz.func3, Tryz.ntmps3
    go_wp2_with fail
    refine (light_any A0 xs.length c0 A1 ys.length c1 w).mono ?_
    rw [decide_eq_true (show xs.length ≤ 60 ∧ ys.length ≤ 60 from ⟨hl0, hl1⟩)]
    rintro e w' ⟨rfl, rfl⟩
    go_wp2_with fail
    have M0 := Lib.hid (mem_start w J0.out J1.out HL.out)
    obtain ⟨Wb, hWb⟩ : ∃ Wb, w.alloc (.cells (bookV (.slice none 0 0) (.slice none 0 0)) 42) = Wb := ⟨_, rfl⟩
    rw [hWb] at M0
    have hsz0 : Hid (w.heap.size ≤ Wb.heap.size) := M0.out.base.size
    unfold bookV at hWb
    rw [hWb]
    clear hWb
    go_loopw [12] (fun c W0 => ∃ (j : Nat) (Z : List (List Int)) (S : Nat), j ≤ 2 ∧ c = .int .i64 (j : Int) ∧ Hid (Mem w W0 w.heap.size Z S A0 xs.length xs A1 ys.length ys [] []) ∧ Hid (Z.length = 5 * j) ∧ Hid (w.heap.size ≤ S ∧ S ≤ W0.heap.size)) (fun c _ => 2 - (intOf c).toNat)
    case atStart => exact ⟨0, [], _, by omega, rfl, M0.out, rfl, hsz0.out, Nat.le_refl _⟩
    case round =>
      obtain ⟨j, Z, S, hj, rfl, M, HZ, HS⟩ := hrel
      by_cases hj2 : j < 2
      · have hj3 : (j : Int) < 2 := by omega
        go_wp2_with fail
        refine (lent_any A0 xs.length c0 xs wr M.out.i0 (by omega)).mono ?_
        rintro e W1 ⟨v, rfl, hX, hb⟩
        replace M := Lib.hid (M.out.below hb)
        obtain ⟨ax, cx, rfl⟩ := lent_shape hX
        replace M := Lib.hid (M.out.addLent hX)
        have S1 : Hid (wr.heap.size ≤ W1.heap.size) := hb.size
        clear hX
        clear hb
        go_wp2_with fail
        refine (lent_any A1 ys.length c1 ys W1 M.out.i1 (by omega)).mono ?_
        rintro e W2 ⟨v, rfl, hY, hb⟩
        replace M := Lib.hid (M.out.below hb)
        obtain ⟨ay, cy, rfl⟩ := lent_shape hY
        replace M := Lib.hid (M.out.addLent hY)
        have S2 : Hid (W1.heap.size ≤ W2.heap.size) := hb.size
        clear hY
        have hx : (wr.heap.size, Value.slice ax xs.length cx, xs) ∈ [(W1.heap.size, Value.slice ay ys.length cy, ys), (wr.heap.size, Value.slice ax xs.length cx, xs)] := by simp
        have hy : (W1.heap.size, Value.slice ay ys.length cy, ys) ∈ [(W1.heap.size, Value.slice ay ys.length cy, ys), (wr.heap.size, Value.slice ax xs.length cx, xs)] := by simp
        clear hb
        have Lj : Hid (w.heap.size ≤ W2.heap.size) := M.out.base.size
        go_wp2_with fail
        refine (join_any ax xs.length cx xs ay ys.length cy ys W2 (lent_ints (M.out.lent _ hx) H0.out) (lent_ints (M.out.lent _ hy) H1.out) (by omega)).mono ?_
        rintro e W3 ⟨v, rfl, hN, hb⟩
        replace M := Lib.hid (M.out.below hb)
        obtain ⟨aj, cj, rfl⟩ := own_slice hN
        replace M := Lib.hid (M.out.addPend hN)
        clear hN
        have hsj : Hid (W2.heap.size ≤ W3.heap.size) := hb.size
        clear hb
        have Lm : Hid (w.heap.size ≤ W3.heap.size) := M.out.base.size
        go_wp2_with fail
        refine (meet_any ax xs.length cx xs ay ys.length cy ys W3 (lent_ints (M.out.lent _ hx) H0.out) (lent_ints (M.out.lent _ hy) H1.out) (by omega)).mono ?_
        rintro e W4 ⟨v, rfl, hN, hb⟩
        replace M := Lib.hid (M.out.below hb)
        obtain ⟨am, cm, rfl⟩ := own_slice hN
        replace M := Lib.hid (M.out.addPend hN)
        clear hN
        have hsm : Hid (W3.heap.size ≤ W4.heap.size) := hb.size
        clear hb
        have Lw : Hid (w.heap.size ≤ W4.heap.size) := M.out.base.size
        go_wp2_with fail
        refine (with_any ax xs.length cx xs i t W4 (lent_ints (M.out.lent _ hx) H0.out) (by omega)).mono ?_
        rintro e W5 ⟨v, rfl, hN, hb⟩
        replace M := Lib.hid (M.out.below hb)
        obtain ⟨aw, cw, rfl⟩ := own_slice hN
        replace M := Lib.hid (M.out.addPend hN)
        clear hN
        have hsw : Hid (W4.heap.size ≤ W5.heap.size) := hb.size
        clear hb
        have Lz : Hid (w.heap.size ≤ W5.heap.size) := M.out.base.size
        go_wp2_with fail
        refine (zero_any i W5).mono ?_
        rintro e W6 ⟨v, rfl, hN, hb⟩
        replace M := Lib.hid (M.out.below hb)
        obtain ⟨az, cz, rfl⟩ := own_slice hN
        replace M := Lib.hid (M.out.addPend hN)
        clear hN
        have hsz : Hid (W5.heap.size ≤ W6.heap.size) := hb.size
        clear hb
        have Lg : Hid (w.heap.size ≤ W6.heap.size) := M.out.base.size
        go_wp2_with fail
        refine (gvget_any s W6 hs).mono ?_
        rintro e W7 ⟨v, rfl, hN, hb⟩
        replace M := Lib.hid (M.out.below hb)
        obtain ⟨ag, cg, rfl⟩ := own_slice hN
        replace M := Lib.hid (M.out.addPend hN)
        clear hN
        have hsg : Hid (W6.heap.size ≤ W7.heap.size) := hb.size
        clear hb
        go_wp2_with fail
        refine (grget_any s W7 hs).mono ?_
        rintro e W8 ⟨v, rfl, hN, hb⟩
        replace M := Lib.hid (M.out.below hb)
        obtain ⟨ah, ch, rfl⟩ := own_slice hN
        replace M := Lib.hid (M.out.addPend hN)
        clear hN
        clear hb
        go_wp2_with fail
        refine (gvput_any ax xs.length cx xs W8 (lent_ints (M.out.lent _ hx) H0.out)).mono ?_
        rintro e W9 ⟨rfl, hb⟩
        replace M := Lib.hid (M.out.below hb)
        clear hb
        go_wp2_with fail
        refine (grput_any A0 xs.length c0 xs W9 M.out.i0).mono ?_
        rintro e W10 ⟨rfl, hb⟩
        replace M := Lib.hid (M.out.below hb)
        clear hb
        go_wp2_with fail
        refine (rjoin_any A0 xs.length c0 xs A1 ys.length c1 ys W10 M.out.i0 M.out.i1 (by omega)).mono ?_
        rintro e W11 ⟨v, rfl, hN, hb⟩
        replace M := Lib.hid (M.out.below hb)
        obtain ⟨ar, cr, rfl⟩ := own_slice hN
        have IR := Lib.hid (nums_ints hN OJ.out.2)
        clear hN
        clear hb
        go_wp2_with fail
        refine (rsame_self aj _ cj ar _ cr (joinL xs ys) W11 (pend_ints (M.out.pend _ (mem_at5 _ _ _ _ _ _)) OJ.out.2) IR.out).mono ?_
        rintro e W12 ⟨rfl, q, hq⟩
        have hb := drewN_below hq
        replace M := Lib.hid (M.out.below hb)
        clear hq IR
        clear hb
        go_wp2_with fail
        refine (rmeet_any A0 xs.length c0 xs A1 ys.length c1 ys W12 M.out.i0 M.out.i1 (by omega)).mono ?_
        rintro e W13 ⟨v, rfl, hN, hb⟩
        replace M := Lib.hid (M.out.below hb)
        obtain ⟨ar, cr, rfl⟩ := own_slice hN
        have IR := Lib.hid (nums_ints hN OM.out.2)
        clear hN
        clear hb
        go_wp2_with fail
        refine (rsame_self am _ cm ar _ cr (meetL xs ys) W13 (pend_ints (M.out.pend _ (mem_at4 _ _ _ _ _ _)) OM.out.2) IR.out).mono ?_
        rintro e W14 ⟨rfl, q, hq⟩
        have hb := drewN_below hq
        replace M := Lib.hid (M.out.below hb)
        clear hq IR
        clear hb
        go_wp2_with fail
        refine (rwith_any A0 xs.length c0 xs i t W14 M.out.i0 (by omega)).mono ?_
        rintro e W15 ⟨v, rfl, hN, hb⟩
        replace M := Lib.hid (M.out.below hb)
        obtain ⟨ar, cr, rfl⟩ := own_slice hN
        have IR := Lib.hid (nums_ints hN OW.out.2)
        clear hN
        clear hb
        go_wp2_with fail
        refine (rsame_self aw _ cw ar _ cr (withL xs i t) W15 (pend_ints (M.out.pend _ (mem_at3 _ _ _ _ _ _)) OW.out.2) IR.out).mono ?_
        rintro e W16 ⟨rfl, q, hq⟩
        have hb := drewN_below hq
        replace M := Lib.hid (M.out.below hb)
        clear hq IR
        clear hb
        go_wp2_with fail
        refine (rzero_any i W16).mono ?_
        rintro e W17 ⟨v, rfl, hN, hb⟩
        replace M := Lib.hid (M.out.below hb)
        obtain ⟨ar, cr, rfl⟩ := own_slice hN
        have IR := Lib.hid (nums_ints hN OZ.out.2)
        clear hN
        clear hb
        go_wp2_with fail
        refine (rsame_self az _ cz ar _ cr (zeroL i) W17 (pend_ints (M.out.pend _ (mem_at2 _ _ _ _ _ _)) OZ.out.2) IR.out).mono ?_
        rintro e W18 ⟨rfl, q, hq⟩
        have hb := drewN_below hq
        replace M := Lib.hid (M.out.below hb)
        clear hq IR
        clear hb
        go_wp2_with fail
        refine (rsame_self ag _ cg ah _ ch ((getT s).1) W18 (pend_ints (M.out.pend _ (mem_at1 _ _ _ _ _ _)) OG.out.2) (pend_ints (M.out.pend _ (mem_at0 _ _ _ _ _ _)) OG.out.2)).mono ?_
        rintro e W19 ⟨rfl, q, hq⟩
        have hb := drewN_below hq
        replace M := Lib.hid (M.out.below hb)
        clear hq
        clear hb
        go_wp2_with fail
        refine (valid_any ax xs.length cx xs W19 (lent_ints (M.out.lent _ hx) H0.out)).mono ?_
        rintro e w2 ⟨rfl, rfl⟩
        go_wp2_with fail
        refine (rvalid_any A0 xs.length c0 xs W19 M.out.i0).mono ?_
        rintro e w2 ⟨rfl, rfl⟩
        go_wp2_with fail
        refine (leq_any ax xs.length cx xs ay ys.length cy ys W19 (lent_ints (M.out.lent _ hx) H0.out) (lent_ints (M.out.lent _ hy) H1.out)).mono ?_
        rintro e W20 ⟨rfl, q, hq⟩
        have hb := drewN_below hq
        replace M := Lib.hid (M.out.below hb)
        clear hq
        clear hb
        go_wp2_with fail
        refine (rleq_any A0 xs.length c0 xs A1 ys.length c1 ys W20 M.out.i0 M.out.i1).mono ?_
        rintro e W21 ⟨rfl, q, hq⟩
        have hb := drewN_below hq
        replace M := Lib.hid (M.out.below hb)
        clear hq
        clear hb
        go_wp2_with fail
        refine (same_any ax xs.length cx xs ay ys.length cy ys W21 (lent_ints (M.out.lent _ hx) H0.out) (lent_ints (M.out.lent _ hy) H1.out)).mono ?_
        rintro e W22 ⟨rfl, q, hq⟩
        have hb := drewN_below hq
        replace M := Lib.hid (M.out.below hb)
        clear hq
        clear hb
        go_wp2_with fail
        refine (rsame_any A0 xs.length c0 xs A1 ys.length c1 ys W22 M.out.i0 M.out.i1).mono ?_
        rintro e W23 ⟨rfl, q, hq⟩
        have hb := drewN_below hq
        replace M := Lib.hid (M.out.below hb)
        clear hq
        clear hb
        go_wp2_with fail
        refine (vtext_any ax xs.length cx xs W23 (lent_ints (M.out.lent _ hx) H0.out) (by omega) M.out.laid.pow10).mono ?_
        rintro e W24 ⟨rfl, hb⟩
        replace M := Lib.hid (M.out.below hb)
        clear hb
        go_wp2_with fail
        refine (rtext_any A0 xs.length c0 xs W24 M.out.i0 (by omega)).mono ?_
        rintro e W25 ⟨rfl, hb⟩
        replace M := Lib.hid (M.out.below hb)
        clear hb
        go_wp2_with fail
        refine (stays_self _ _ xs A0 _ c0 W25 (M.out.lent _ hx) H0.out (by omega) M.out.i0).mono ?_
        rintro e W26 ⟨rfl, q, hq⟩
        have hb := drewN_below hq
        replace M := Lib.hid (M.out.below hb)
        clear hq
        clear hb
        go_wp2_with fail
        refine (stays_self _ _ ys A1 _ c1 W26 (M.out.lent _ hy) H1.out (by omega) M.out.i1).mono ?_
        rintro e W27 ⟨rfl, q, hq⟩
        have hb := drewN_below hq
        replace M := Lib.hid (M.out.below hb)
        clear hq
        clear hb
        have K := Lib.hid M.out.kept
        have Pj := Lib.hid (M.out.pend _ (mem_at5 _ _ _ _ _ _))
        have Pm := Lib.hid (M.out.pend _ (mem_at4 _ _ _ _ _ _))
        have Pw := Lib.hid (M.out.pend _ (mem_at3 _ _ _ _ _ _))
        have Pz := Lib.hid (M.out.pend _ (mem_at2 _ _ _ _ _ _))
        have Pg := Lib.hid (M.out.pend _ (mem_at1 _ _ _ _ _ _))
        have B := Lib.hid M.out.base
        replace Pj := Lib.hid (pend_low Pj.out (Nat.le_trans HS.out.2 (Nat.le_trans S1.out S2.out)))
        have Lj2 : Hid (w.heap.size ≤ S) := HS.out.1
        have hsj2 : Hid (S ≤ W3.heap.size) := Nat.le_trans HS.out.2 (Nat.le_trans S1.out (Nat.le_trans S2.out hsj.out))
        clear M hx hy Lj hsj
        go_wp2_with fail
        refine (kept_add K.out Pj.out Lj2.out hsj2.out (by have := HZ.out; simp; omega) OJ.out.1 OJ.out.2 B.out.size).mono ?_
        rintro e W28 ⟨rfl, hK, hk, hb⟩
        replace K := Lib.hid hK
        replace Pm := Lib.hid (Pm.out.keep hk)
        replace Pw := Lib.hid (Pw.out.keep hk)
        replace Pz := Lib.hid (Pz.out.keep hk)
        replace Pg := Lib.hid (Pg.out.keep hk)
        replace B := Lib.hid (B.out.trans hb)
        clear hK hk hb
        go_wp2_with fail
        refine (kept_add K.out Pm.out Lm.out hsm.out (by have := HZ.out; simp; omega) OM.out.1 OM.out.2 B.out.size).mono ?_
        rintro e W29 ⟨rfl, hK, hk, hb⟩
        replace K := Lib.hid hK
        replace Pw := Lib.hid (Pw.out.keep hk)
        replace Pz := Lib.hid (Pz.out.keep hk)
        replace Pg := Lib.hid (Pg.out.keep hk)
        replace B := Lib.hid (B.out.trans hb)
        clear hK hk hb
        go_wp2_with fail
        refine (kept_add K.out Pw.out Lw.out hsw.out (by have := HZ.out; simp; omega) OW.out.1 OW.out.2 B.out.size).mono ?_
        rintro e W30 ⟨rfl, hK, hk, hb⟩
        replace K := Lib.hid hK
        replace Pz := Lib.hid (Pz.out.keep hk)
        replace Pg := Lib.hid (Pg.out.keep hk)
        replace B := Lib.hid (B.out.trans hb)
        clear hK hk hb
        go_wp2_with fail
        refine (kept_add K.out Pz.out Lz.out hsz.out (by have := HZ.out; simp; omega) OZ.out.1 OZ.out.2 B.out.size).mono ?_
        rintro e W31 ⟨rfl, hK, hk, hb⟩
        replace K := Lib.hid hK
        replace Pg := Lib.hid (Pg.out.keep hk)
        replace B := Lib.hid (B.out.trans hb)
        clear hK hk hb
        go_wp2_with fail
        refine (kept_add K.out Pg.out Lg.out hsg.out (by have := HZ.out; simp; omega) OG.out.1 OG.out.2 B.out.size).mono ?_
        rintro e W32 ⟨rfl, hK, hk, hb⟩
        replace K := Lib.hid hK
        replace B := Lib.hid (B.out.trans hb)
        clear hK hk hb
        go_wp2_with fail
        go_roundw
        case rel => exact ⟨j + 1, _, _, by omega, by go_num, ⟨J0.out.below B.out, J1.out.below B.out, kept_now K.out, fun r hr => by simp at hr, fun r hr => by simp at hr, B.out, HL.out.on B.out⟩, (by have := HZ.out; unfold Hid; simp; omega), ⟨B.out.size, Nat.le_refl _⟩⟩
        case measure => simp [intOf]; omega
      · obtain rfl : j = 2 := by omega
        have Al := Lib.hid (aliveV_any wr M.out.laid)
        go_wp2_with fail
        refine Al.out.mono ?_
        rintro e W1 ⟨rfl, hb⟩
        have KA := Lib.hid (kept_apart (M.out.kept.below hb (Nat.le_refl _)) (by have := HZ.out; omega) (Nat.le_trans M.out.base.size hb.size))
        have HB := Lib.hid (M.out.base.trans (hb.mono M.out.base.size))
        clear hb
        go_wp2_with fail
        refine KA.out.mono ?_
        rintro e W2 ⟨rfl, hb⟩
        go_wp2_with fail
        go_ret
        exact ⟨rfl, HB.out.trans hb⟩
  · go_enter Tryz.func3, Tryz.ntmps3
    go_wp2_with fail
    refine (light_any A0 xs.length c0 A1 ys.length c1 w).mono ?_
    rw [decide_eq_false hlt]
    rintro e w' ⟨rfl, rfl⟩
    go_wp2_with fail
    refine Al.out.mono ?_
    rintro e w1 ⟨rfl, hb1⟩
    go_wp2_with fail
    go_ret
    exact ⟨rfl, hb1⟩
end Go.Proofs.YtalacionlbmcpaaGreatDoor
