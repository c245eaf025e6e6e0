/-
  Several texts in one: The landed package block: its reader takes a pair.
  The landed package block: its reader takes the first pair.
  The landed package block: its reader takes a pair behind others.
  The landed package block: read.
  The landed package block: Parse, with its deferred closure.
  The document's own answer to chapter 11, part 1: do the keys rise?
  The document's own answer to chapter 11, part 4: Seek, out of what Parse answers.
  The landed package block: Seek.
  Slices of structs of two whole numbers and two texts that came in: what a walk asks of them, out of how they read. No program is named.
  Slices of pairs of texts that came in: what a walk asks of them, out of how they read. No program is named.
  The laws of chapter 11: are pairs few and short enough; their first call.
  Are two lists of pairs alike? (of rows that can be read)
  Lists of pairs that are lent with a mark behind them: LentKeys, StaysKeys.
  A region that draws its order, walked in the order of the text, within a class of worlds: one operation at a time. No program is named.
  As XQuiet, what is left of the region behind a structure: else each step would unfold it whole, where many operations that a guard passes over follow each other. No program is named.
  Walks over the document's own answer to chapter 1: Get, PutVar, Put.
  Walks over the document's own answer to chapter 1: Sum, Compare.
-/
import Derived.Test.YtmoffcgbjmeiaaaGreatDoorM2
import Derived.RegionDies
import Derived.Test.YtmoffcgbjmeiaaaGreatDoorM1
import Derived.Defers
import Derived.Recover
import Derived.LoopTactic
import Derived.Deep.RegionHeld3
import Derived.Deep.Cut
import Derived.BigQuiet
import Derived.Lib.SmallJoins
import Derived.Deep.Slices
import Derived.Deep.Strs
import Derived.SizedLaws
import Derived.Laws.IdiomArrays
import Derived.Deep.QuietTactic
namespace Go.Proofs.YtmoffcgbjmeiaaaGreatDoor
open Go.RowKit

/-- The reader, and the pairs that it holds. -/
structure RdSt (w : World) (B p : Nat) (s : ByteArray) (v : Value) (a : ByteArray) (L : List KV) : Prop where
  blk : RdB w p s v a
  own : Own elKeys w B 53 v L
  low : B ≤ p
theorem RdSt.off {w : World} {B p : Nat} {s : ByteArray} {v : Value} {a : ByteArray} {L : List KV} (h : RdSt w B p s v a L) : v.ownBlock = none ∨ v.ownBlock ≠ some p := by
  rcases h.own.2 with ⟨rfl, _⟩ | ⟨g, cap, cur, rfl, hg, hh, _⟩
  · exact Or.inl rfl
  · refine Or.inr fun e => ?_
    have e : g = p := Option.some.inj e
    subst e
    have := h.blk
    unfold RdB Blk at this
    rw [hh] at this
    injection this with this
    injection this with _ h2
    exact absurd h2 (by decide)
theorem RdSt.next {w w' : World} {B p : Nat} {s s' : ByteArray} {v : Value} {a : ByteArray} {L : List KV} (h : RdSt w B p s v a L) (hb : RdB w' p s' v a) (hg : w.grownBy w' (some p)) : RdSt w' B p s' v a L :=
  ⟨hb, World.ownsRow.kept h.own hg h.off, h.low⟩
theorem RdSt.drewN {w : World} {B p : Nat} {s : ByteArray} {v : Value} {a : ByteArray} {L : List KV} (h : RdSt w B p s v a L) (j : Nat) : RdSt (w.drewN j) B p s v a L := ⟨h.blk.drewN j, h.own, h.low⟩
theorem RdSt.drew {w : World} {B p : Nat} {s : ByteArray} {v : Value} {a : ByteArray} {L : List KV} (h : RdSt w B p s v a L) : RdSt w.drew B p s v a L := ⟨h.blk.drew, h.own, h.low⟩
theorem below_rd {w0 w w' : World} {B p : Nat} (h : Below B w0 w) (hg : w.grownBy w' (some p)) (hB : B ≤ w0.heap.size) (hp : B ≤ p) : Below B w0 w' :=
  h.grown hg (Nat.le_trans hB h.size) (fun k hk => by injection hk with hk; omega)

theorem rd_num {w : World} {B p : Nat} {s : ByteArray} {v : Value} {a : ByteArray} {L : List KV} (h : RdSt w B p s v a L) (hs : s.size ≤ 1000000) (w0 : World) (h0 : Below B w0 w) (hB : B ≤ w0.heap.size) :
    Calls Tryz.prog 136 #[.pointer (some ⟨p, 0, none⟩)] w fun e w' => Below B w0 w' ∧ match gv (bl s) 0 0 with
      | .err _ => e = gaveB
      | .ok x n => e = .returned (.int .i64 (x : Int)) ∧ ∃ s', bl s' = (bl s).drop n ∧ s'.size ≤ s.size ∧ RdSt w' B p s' v a L := by
  cases hg : gv (bl s) 0 0 with
  | err er => exact (bnum_bad p s v a er w h.blk (by omega) hg).mono fun e w' ⟨h1, h2⟩ => ⟨below_rd h0 h2 hB h.low, h1⟩
  | ok x n => exact (bnum_ok p s v a x n w h.blk (by omega) hg).mono fun e w' ⟨h1, h2, h3⟩ => ⟨below_rd h0 h3 hB h.low, h1, _, bl_drop s n, by simp, h.next h2 h3⟩
theorem rd_take {w : World} {B p : Nat} {s : ByteArray} {v : Value} {a : ByteArray} {L : List KV} (h : RdSt w B p s v a L) (k : Nat) (w0 : World) (h0 : Below B w0 w) (hB : B ≤ w0.heap.size) :
    Calls Tryz.prog 137 #[.pointer (some ⟨p, 0, none⟩), .int .i64 (k : Int)] w fun e w' => Below B w0 w' ∧ ((s.size < k ∧ e = gaveB) ∨
      (k ≤ s.size ∧ e = .returned (.string (s.extract 0 k)) ∧ ∃ s', bl s' = (bl s).drop k ∧ RdSt w' B p s' v a L)) := by
  by_cases hk : k ≤ s.size
  · exact (btake_ok p s v a k w h.blk hk).mono fun e w' ⟨h1, h2, h3⟩ => ⟨below_rd h0 h3 hB h.low, Or.inr ⟨hk, h1, _, bl_drop s k, h.next h2 h3⟩⟩
  · exact (btake_short p s v a k w h.blk (by omega)).mono fun e w' ⟨h1, h2⟩ => ⟨by rw [h2]; exact h0, Or.inl ⟨by omega, h1⟩⟩

theorem step_err1 {i : Nat} {last rest : List UInt8} {e : Int} (h : gv rest 0 0 = .err e) : stepP i last rest = none := by unfold stepP; rw [h]
theorem step_err2 {i : Nat} {last rest : List UInt8} {x n1 : Nat} {e : Int} (h1 : gv rest 0 0 = .ok x n1) (h : gv (rest.drop n1) 0 0 = .err e) : stepP i last rest = none := by unfold stepP; rw [h1]; dsimp only; rw [h]
theorem step_err3 {i : Nat} {last rest : List UInt8} {x n1 y n2 : Nat} {e : Int} (h1 : gv rest 0 0 = .ok x n1) (h2 : gv (rest.drop n1) 0 0 = .ok y n2) (h : gv ((rest.drop n1).drop n2) 0 0 = .err e) : stepP i last rest = none := by unfold stepP; rw [h1]; dsimp only; rw [h2]; dsimp only; rw [h]
/-- What a pair's three numbers make of the bytes behind them. -/
def stepT (i : Nat) (last : List UInt8) (x y z : Nat) (t : List UInt8) : Option (KV × List UInt8) :=
  if x ≤ last.length ∧ y ≤ t.length ∧ z ≤ (t.drop y).length ∧ (last.take x ++ t.take y).length ≤ 65536 ∧ z ≤ 65536 ∧ (i = 0 ∨ Lib.compareBytes last (last.take x ++ t.take y) < 0) ∧ x = comI i last (last.take x ++ t.take y) then
    some ((⟨(last.take x ++ t.take y).toArray⟩, ⟨((t.drop y).take z).toArray⟩), (t.drop y).drop z)
  else none
theorem step_ok3 {i : Nat} {last rest : List UInt8} {x n1 y n2 z n3 : Nat} (h1 : gv rest 0 0 = .ok x n1) (h2 : gv (rest.drop n1) 0 0 = .ok y n2) (h3 : gv ((rest.drop n1).drop n2) 0 0 = .ok z n3) :
    stepP i last rest = stepT i last x y z (((rest.drop n1).drop n2).drop n3) := by unfold stepP; rw [h1]; dsimp only; rw [h2]; dsimp only; rw [h3]; rfl

theorem stepT_in {i x y z : Nat} {last t : List UInt8} {kk vv : ByteArray} (h1 : x ≤ last.length) (h2 : y ≤ t.length) (h3 : z ≤ (t.drop y).length) (hk : bl kk = last.take x ++ t.take y) (hv : bl vv = (t.drop y).take z) :
    stepT i last x y z t = if kk.size ≤ 65536 ∧ vv.size ≤ 65536 ∧ (i = 0 ∨ Lib.compareBytes last (bl kk) < 0) ∧ x = comI i last (bl kk) then some ((kk, vv), (t.drop y).drop z) else none := by
  have e1 : (⟨(last.take x ++ t.take y).toArray⟩ : ByteArray) = kk := bl_inj (by rw [bl_mk, hk])
  have e2 : (⟨((t.drop y).take z).toArray⟩ : ByteArray) = vv := bl_inj (by rw [bl_mk, hv])
  have e3 : (last.take x ++ t.take y).length = kk.size := by rw [← hk]; rfl
  have e4 : z = vv.size := by
    have := congrArg List.length hv
    rw [List.length_take, Nat.min_eq_left h3] at this
    exact this.symm
  unfold stepT
  rw [e1, e2, e3, ← hk, ← e4]
  by_cases hc : kk.size ≤ 65536 ∧ z ≤ 65536 ∧ (i = 0 ∨ Lib.compareBytes last (bl kk) < 0) ∧ x = comI i last (bl kk)
  · rw [if_pos ⟨h1, h2, h3, hc⟩, if_pos hc]
  · rw [if_neg (fun hh => hc hh.2.2.2), if_neg hc]
theorem own_slice {w : World} {B n sz : Nat} {e : TypeId} {v : Value} {xs : List Value} (h : w.ownsRow B e sz v n xs) : ∃ A m c, v = .slice A m c := by
  rcases h.2 with ⟨rfl, _⟩ | ⟨g, cap, cur, rfl, _⟩
  · exact ⟨_, _, _, rfl⟩
  · exact ⟨_, _, _, rfl⟩
theorem off_ne {v : Value} {p : Nat} (h : v.ownBlock = none ∨ v.ownBlock ≠ some p) : some p ≠ v.ownBlock := by
  rcases h with h | h
  · rw [h]; intro e; cases e
  · exact fun e => h e.symm
theorem own_set {w : World} {B p i n : Nat} {e : TypeId} {v : Value} {xs : List Value} {sz : Nat} (h : w.ownsRow B e sz v n xs) (hp : v.ownBlock = none ∨ v.ownBlock ≠ some p) (u : Value) : (w.setCell ⟨p, i, none⟩ u).ownsRow B e sz v n xs :=
  World.ownsRow.kept (row := some p) h (only_setCell (World.grownBy.refl _ _) (Or.inl rfl) u) hp
theorem own_off {w : World} {B p n : Nat} {s : ByteArray} {v0 v : Value} {a : ByteArray} {xs : List Value} {sz : Nat} (h : w.ownsRow B 53 sz v n xs) (hb : RdB w p s v0 a) : v.ownBlock = none ∨ v.ownBlock ≠ some p := by
  rcases h.2 with ⟨rfl, _⟩ | ⟨g, cap, cur, rfl, hg, hh, _⟩
  · exact Or.inl rfl
  · refine Or.inr fun e => ?_
    have e : g = p := Option.some.inj e
    subst e
    unfold RdB Blk at hb
    rw [hh] at hb
    injection hb with hb
    injection hb with _ h2
    exact absurd h2 (by decide)
/-- What a pair leaves behind. -/
def PairPost (w0 : World) (B p : Nat) (L : List KV) : Option (KV × List UInt8) → Ending → World → Prop
  | none, e, w' => e = gaveB ∧ Below B w0 w'
  | some (m, r), e, w' => e = .returned (.tuple #[]) ∧ Below B w0 w' ∧ ∃ s' v', bl s' = r ∧ RdSt w' B p s' v' m.1 (L ++ [m])

end Go.Proofs.YtmoffcgbjmeiaaaGreatDoor

namespace Go.Proofs.YtmoffcgbjmeiaaaGreatDoor
open Go.RowKit

set_option maxRecDepth 100000 in
set_option maxHeartbeats 4000000 in
theorem bpair_zero {w : World} {B p : Nat} {s : ByteArray} {v : Value} {a : ByteArray} {L : List KV} (h : RdSt w B p s v a L) (hs : s.size ≤ 1000000) (ha : a.size ≤ 65536) (hL : L.length ≤ 1000000) (hn : L.length = 0) (w0 : World) (h0 : Below B w0 w) (hB : B ≤ w0.heap.size) :
    Calls Tryz.prog 103 #[.pointer (some ⟨p, 0, none⟩)] w fun e w' => PairPost w0 B p L (stepP L.length (bl a) (bl s)) e w' := by
  obtain ⟨R, hR⟩ : ∃ R, stepP L.length (bl a) (bl s) = R := ⟨_, rfl⟩
  rw [hR]
  have HR := Lib.hid hR
  have C1 := Lib.hid (rd_num h hs w0 h0 hB)
  have Hn := Lib.hid hn
  clear h h0 hR hn
  go_enter Tryz.func103, Tryz.ntmps103
  go_wp2_with fail
  refine C1.out.mono ?_
  rintro e w1 ⟨b1, hc⟩
  cases hg1 : gv (bl s) 0 0 with
  | err er =>
    rw [hg1] at hc
    obtain rfl : R = none := by rw [← HR.out]; exact step_err1 hg1
    obtain rfl : e = gaveB := hc
    have b1 := Lib.hid b1
    clear hg1 C1
    go_wp2_with fail
    exact ⟨rfl, rfl, b1.out⟩
  | ok x n1 =>
    rw [hg1] at hc
    obtain ⟨rfl, s1, hs1, hz1, R1⟩ := hc
    have C2 := Lib.hid (rd_num R1 (by omega) w0 b1 hB)
    clear R1 b1 C1
    go_wp2_with fail
    refine C2.out.mono ?_
    rintro e w2 ⟨b2, hc⟩
    rw [hs1] at hc
    cases hg2 : gv ((bl s).drop n1) 0 0 with
    | err er =>
      rw [hg2] at hc
      obtain rfl : R = none := by rw [← HR.out]; exact step_err2 hg1 hg2
      obtain rfl : e = gaveB := hc
      have b2 := Lib.hid b2
      clear hg1 hg2 C2 hs1
      go_wp2_with fail
      exact ⟨rfl, rfl, b2.out⟩
    | ok y n2 =>
      rw [hg2] at hc
      obtain ⟨rfl, s2, hs2, hz2, R2⟩ := hc
      have C3 := Lib.hid (rd_num R2 (by omega) w0 b2 hB)
      clear R2 b2 C2
      go_wp2_with fail
      refine C3.out.mono ?_
      rintro e w3 ⟨b3, hc⟩
      rw [hs2] at hc
      cases hg3 : gv (((bl s).drop n1).drop n2) 0 0 with
      | err er =>
        rw [hg3] at hc
        obtain rfl : R = none := by rw [← HR.out]; exact step_err3 hg1 hg2 hg3
        obtain rfl : e = gaveB := hc
        have b3 := Lib.hid b3
        clear hg1 hg2 hg3 C3 hs1 hs2
        go_wp2_with fail
        exact ⟨rfl, rfl, b3.out⟩
      | ok z n3 =>
        rw [hg3] at hc
        obtain ⟨rfl, t, ht, hz3, R3⟩ := hc
        have hst := HR.out
        rw [step_ok3 hg1 hg2 hg3, ← ht] at hst
        have Hst := Lib.hid hst
        have hz := Nat.le_trans hz3 (Nat.le_trans hz2 (Nat.le_trans hz1 hs))
        have S3 := Lib.hid R3
        have b3 := Lib.hid b3
        clear hst hg1 hg2 hg3 C3 hs1 hs2 ht hz1 hz2 hz3 HR R3
        have c0 : w3.cell? ⟨p, 2, none⟩ = some (.string a) := S3.out.blk.cell 2
        have c1 : w3.cell? ⟨p, 1, none⟩ = some v := S3.out.blk.cell 1
        have Y := fun W => Lib.hid (must_yes W)
        have N := fun W => Lib.hid (must_no W)
        by_cases hx : x ≤ a.size
        · have x1 : (x : Int) ≤ (a.size : Int) := by omega
          have x2 : (0 : Int) ≤ (x : Int) := by omega
          go_wp2_with fail
          refine (Y _).out.mono ?_
          rintro e w4 ⟨rfl, rfl⟩
          by_cases hy : y ≤ t.size
          · have T2 := Lib.hid (btake_ok p t v a y w4.drew S3.out.blk.drew hy)
            have hk1 : bl (a.extract 0 x) = (bl a).take x := bl_take a x hx
            have hk2 : bl (t.extract 0 y) = (bl t).take y := bl_take t y hy
            have hk3 : (a.extract 0 x).size ≤ 65536 := by simp; omega
            have hk4 : (t.extract 0 y).size ≤ 1000000 := by simp; omega
            have ht1 : bl (t.extract y t.size) = (bl t).drop y := bl_drop t y
            have ht2 : (t.extract y t.size).size ≤ 1000000 := by simp; omega
            obtain ⟨kk, hkk⟩ : ∃ kk, a.extract 0 x ++ t.extract 0 y = kk := ⟨_, rfl⟩
            have hkl : bl kk = (bl a).take x ++ (bl t).take y := by
              rw [← hkk, ← hk1, ← hk2]; exact cat_list _ _
            have hkz : kk.size ≤ 1065536 := by rw [← hkk, cat_size]; omega
            have CA := fun W => cat_is (P := Tryz.prog) (a.extract 0 x) (t.extract 0 y) kk hkk (by omega) W
            obtain ⟨t1, ht⟩ : ∃ t1, t.extract y t.size = t1 := ⟨_, rfl⟩
            rw [ht] at T2 ht1 ht2
            have Hkl := Lib.hid hkl
            have Ht1 := Lib.hid ht1
            clear hkk hkl ht ht1 hk1 hk2
            go_upto_region 2 with fail
            go_region_held3 (fun W => W.cell? ⟨p, 2, none⟩ = some (.string a))
              (first | exact c0 | assumption)
              ((go_at_call 137; refine T2.out.mono ?_; rintro e w5 ⟨rfl, B5, g5⟩; have d5 : w5.cell? ⟨p, 2, none⟩ = some (.string a) := B5.cell 2))
            have S5 := Lib.hid (S3.out.drew.next B5 g5)
            have b5 := Lib.hid (below_rd b3.out.drew g5 hB S3.out.low)
            clear B5 g5 d5 T2 c0 c1 S3 b3 CA hk3 hk4
            by_cases hz1 : z ≤ t1.size
            · have T3 := Lib.hid (btake_ok p t1 v a z w5 S5.out.blk hz1)
              have hv1 : bl (t1.extract 0 z) = (bl t1).take z := bl_take t1 z hz1
              have hv2 : bl (t1.extract z t1.size) = (bl t1).drop z := bl_drop t1 z
              have hv3 : (t1.extract 0 z).size ≤ 1000000 := by simp; omega
              rw [Ht1.out] at hv1 hv2
              have hst := Hst.out
              rw [stepT_in (kk := kk) (vv := t1.extract 0 z) (by rw [bl_len]; exact hx) (by rw [bl_len]; exact hy) (by rw [← Ht1.out, bl_len]; exact hz1) Hkl.out hv1, ← hv2] at hst
              obtain ⟨vv, hvv⟩ : ∃ vv, t1.extract 0 z = vv := ⟨_, rfl⟩
              obtain ⟨t2, ht2⟩ : ∃ t2, t1.extract z t1.size = t2 := ⟨_, rfl⟩
              rw [hvv, ht2] at T3
              rw [hvv] at hv3 hst
              rw [ht2] at hst
              have HR2 := Lib.hid hst
              clear hst hvv ht2 hv1 hv2 Hst Ht1 Hkl
              go_wp2_with fail
              refine T3.out.mono ?_
              rintro e w6 ⟨rfl, B6, g6⟩
              have S6 := Lib.hid (S5.out.next B6 g6)
              have b6 := Lib.hid (below_rd b5.out g6 hB S5.out.low)
              clear B6 g6 T3 S5 b5
              by_cases hm : kk.size ≤ 65536 ∧ vv.size ≤ 65536
              · have m1 : decide ((kk.size : Int) ≤ 65536) = true := decide_eq_true (by omega)
                have m2 : decide ((vv.size : Int) ≤ 65536) = true := decide_eq_true (by omega)
                have m3 : (kk.size : Int) ≤ 65536 := by omega
                have m4 : (vv.size : Int) ≤ 65536 := by omega
                go_wp2_with fail
                refine (Y _).out.mono ?_
                rintro e w7 ⟨rfl, rfl⟩
                obtain ⟨ao, co, rfl⟩ := S6.out.own.slice
                have hlt : L.length = 0 ∨ Lib.compareBytes (bl a) (bl kk) < 0 := Or.inl Hn.out
                have n1 : ((L.length : Int) == 0) = true := by rw [beq_iff_eq]; have := Hn.out; omega
                have c1 : w7.cell? ⟨p, 1, none⟩ = some (.slice ao L.length co) := S6.out.blk.cell 1
                go_wp2_with fail
                refine (Y _).out.mono ?_
                rintro e wa ⟨rfl, rfl⟩
                clear c1 n1
                have CC := fun W => Lib.hid (common_any L.length a kk W (by omega) (by omega) (by omega))
                have c1 : wa.cell? ⟨p, 1, none⟩ = some (.slice ao L.length co) := S6.out.blk.cell 1
                have c2 : wa.cell? ⟨p, 2, none⟩ = some (.string a) := S6.out.blk.cell 2
                generalize hcx : comI L.length (bl a) (bl kk) = cx at *
                by_cases hxc : x = cx
                · subst hxc
                  have hst := HR2.out
                  rw [if_pos ⟨hm.1, hm.2, hlt, rfl⟩] at hst
                  subst hst
                  have W8 : ∀ j, Hid (RdSt (wa.drewN (1 + j)) B p t2 (.slice ao L.length co) a L ∧ Below B w0 (wa.drewN (1 + j))) := fun j => Lib.hid ⟨S6.out.drewN (1 + j), below_drewN b6.out (1 + j)⟩
                  clear b6 S6 HR2
                  go_upto_region 6 with fail
                  go_region_held3 (fun W => W.cell? ⟨p, 1, none⟩ = some (.slice ao L.length co) ∧ W.cell? ⟨p, 2, none⟩ = some (.string a))
                    (first | exact ⟨c1, c2⟩ | assumption)
                    (first
                      | (go_at_call 101; refine (Y _).out.mono ?_; rintro e w9 ⟨rfl, rfl⟩)
                      | (go_at_call 25; refine (CC _).out.mono ?_; rintro e w7 ⟨rfl, j, rfl⟩))
                  obtain ⟨S8, b8⟩ := (W8 j).out
                  have c3 : (wa.drewN (1 + j)).cell? ⟨p, 1, none⟩ = some (.slice ao L.length co) := c1
                  have f3 : (wa.drewN (1 + j)).frozen? ⟨p, 1, none⟩ = false := S8.blk.frozen 1
                  clear W8 CC c1 c2
                  generalize wa.drewN (1 + j) = w8 at *
                  obtain ⟨v', w9, hr, hown, hgr, _, _⟩ := app_own (P := Tryz.prog) elKeys 22 53 (.agg #[.string ⟨#[]⟩, .string ⟨#[]⟩]) 32 underKeys infoKeys rfl (w8.alloc (.cells #[.string kk, .string vv] 53)) B (.slice ao L.length co) L [(kk, vv)] (World.ownsRow.alloc S8.own _) (some ⟨w8.heap.size, 0, none⟩) 1 (fun h => by cases h) (fun a ha j' u hu => by
                    cases ha
                    rw [El.row_one] at hu
                    exact cells_new w8 53 [.string kk, .string vv] j' u hu) (by unfold maxLen; simp; omega) (by simp; omega) (by have := b8.size; simp; omega) 1 rfl
                  obtain ⟨A9, n9, cc9, rfl⟩ := own_slice hown
                  have hoff := S8.off
                  have B9 : RdB w9 p t2 (.slice ao L.length co) a := (S8.blk.alloc _).grown hgr (off_ne hoff)
                  have b9 : Hid (Below B w0 w9) := Lib.hid ((b8.alloc (Nat.le_trans hB b8.size) _).grown hgr (by have := b8.size; simp; omega) (fun k hk => ((World.ownsRow.alloc S8.own _ : (w8.alloc (.cells #[.string kk, .string vv] 53)).ownsRow B 53 _ _ _ _).lt k hk).1))
                  have HR9 := fun ty => Lib.hid (hr ty)
                  have c9 : w9.cell? ⟨p, 1, none⟩ = some (.slice ao L.length co) := B9.cell 1
                  have f9 : w9.frozen? ⟨p, 1, none⟩ = false := B9.frozen 1
                  have g9 : w9.frozen? ⟨p, 2, none⟩ = false := B9.frozen 2
                  have d9 : w9.cell? ⟨p, 2, none⟩ = some (.string a) := B9.cell 2
                  have e9 : (w9.setCell ⟨p, 1, none⟩ (Value.slice A9 n9 cc9)).frozen? ⟨p, 2, none⟩ = false := (Blk.set_ B9 1 (Value.slice A9 n9 cc9)).frozen 2
                  have h9 : (w9.setCell ⟨p, 1, none⟩ (Value.slice A9 n9 cc9)).cell? ⟨p, 2, none⟩ = some (.string a) := (Blk.set_ B9 1 (Value.slice A9 n9 cc9)).cell 2
                  have hst9 : Hid (RdSt ((w9.setCell ⟨p, 1, none⟩ (Value.slice A9 n9 cc9)).setCell ⟨p, 2, none⟩ (.string kk)) B p t2 (Value.slice A9 n9 cc9) kk (L ++ [(kk, vv)])) := Lib.hid (by
                    have hv9 : (Value.slice A9 n9 cc9).ownBlock = none ∨ (Value.slice A9 n9 cc9).ownBlock ≠ some p := own_off hown B9
                    exact ⟨(Blk.set_ (Blk.set_ B9 1 (Value.slice A9 n9 cc9)) 2 (.string kk)), own_set (own_set hown hv9 _) hv9 _, S8.low⟩)
                  have bst9 : Hid (Below B w0 ((w9.setCell ⟨p, 1, none⟩ (Value.slice A9 n9 cc9)).setCell ⟨p, 2, none⟩ (.string kk))) := Lib.hid (below_setCell (below_setCell b9.out S8.low _) S8.low _)
                  have B9 := Lib.hid B9
                  clear hr hown hgr b9 S8 b8 c3 f3 hoff
                  go_wp2_with (at_builtin; refine wpList_append_k _ w9 rfl (.tmp 77) (.tmp 81) 22 rfl _ _ (Value.slice A9 n9 cc9) rfl rfl (fun ty => (HR9 ty).out) ?_)
                  go_end0
                  exact ⟨rfl, bst9.out, _, _, rfl, hst9.out⟩
                · obtain rfl : R = none := by
                    rw [← HR2.out]
                    exact if_neg (fun hh => hxc hh.2.2.2)
                  have hxc' : ((x : Int) == (cx : Int)) = false := by rw [beq_eq_false_iff_ne]; omega
                  have Hb := fun j => Lib.hid (below_drewN b6.out j)
                  clear b6 S6 HR2
                  go_upto_region 6 with fail
                  go_region_dies
                  all_goals
                    rename_i K hK
                    refine (CC _).out.mono ?_
                    rintro e w5 ⟨rfl, j, rfl⟩
                    refine hK _ _ ?_
                    refine wpAny_ready (rs := [12]) (by kernel_rfl) (by simp) ?_
                    refine AllReady.cons rfl (fun K2 hK2 => ?_) AllReady.nil
                    go_simp
                    refine hK2 _ _ ?_
                    refine wpAny_ready (rs := [13]) (by kernel_rfl) (by simp) ?_
                    refine AllReady.cons rfl (fun K3 hK3 => ?_) AllReady.nil
                    go_simp
                    refine (N _).out.mono ?_
                    rintro e w6 ⟨rfl, rfl⟩
                    go_wp2_with fail
                    exact ⟨rfl, rfl, (Hb (1 + j)).out⟩
              · obtain rfl : R = none := by
                  rw [← HR2.out]
                  exact if_neg (fun hh => hm ⟨hh.1, hh.2.1⟩)
                by_cases hm1 : kk.size ≤ 65536
                · have m2 : decide ((vv.size : Int) ≤ 65536) = false := decide_eq_false (by omega)
                  have m3 : (kk.size : Int) ≤ 65536 := by omega
                  go_wp2_with fail
                  refine (N _).out.mono ?_
                  rintro e w7 ⟨rfl, rfl⟩
                  go_wp2_with fail
                  exact ⟨rfl, rfl, b6.out⟩
                · have m3 : ¬ (kk.size : Int) ≤ 65536 := by omega
                  go_wp2_with fail
                  refine (N _).out.mono ?_
                  rintro e w7 ⟨rfl, rfl⟩
                  go_wp2_with fail
                  exact ⟨rfl, rfl, b6.out⟩
            · obtain rfl : R = none := by
                rw [← Hst.out]
                exact if_neg (fun hh => hz1 (by have := hh.2.2.1; rw [← Ht1.out, bl_len] at this; exact this))
              have T3 := Lib.hid (btake_short p t1 v a z w5 S5.out.blk (by omega))
              go_wp2_with fail
              refine T3.out.mono ?_
              rintro e w6 ⟨rfl, rfl⟩
              go_wp2_with fail
              exact ⟨rfl, rfl, b5.out⟩
          · obtain rfl : R = none := by
              rw [← Hst.out]
              exact if_neg (fun hh => hy hh.2.1)
            have T2 := Lib.hid (btake_short p t v a y w4.drew S3.out.blk.drew (by omega))
            go_upto_region 2 with fail
            go_region_dies
            all_goals
              refine T2.out.mono ?_
              rintro e w5 ⟨rfl, rfl⟩
              go_wp2_with fail
              exact ⟨rfl, rfl, b3.out.drew⟩
        · obtain rfl : R = none := by
            rw [← Hst.out]
            exact if_neg (fun hh => hx hh.1)
          have x1 : ¬ (x : Int) ≤ (a.size : Int) := by omega
          go_wp2_with fail
          refine (N _).out.mono ?_
          rintro e w4 ⟨rfl, rfl⟩
          go_wp2_with fail
          exact ⟨rfl, rfl, b3.out⟩
end Go.Proofs.YtmoffcgbjmeiaaaGreatDoor

namespace Go.Proofs.YtmoffcgbjmeiaaaGreatDoor
open Go.RowKit

set_option maxRecDepth 100000 in
set_option maxHeartbeats 4000000 in
theorem bpair_more {w : World} {B p : Nat} {s : ByteArray} {v : Value} {a : ByteArray} {L : List KV} (h : RdSt w B p s v a L) (hs : s.size ≤ 1000000) (ha : a.size ≤ 65536) (hL : L.length ≤ 1000000) (hn : ¬ L.length = 0) (w0 : World) (h0 : Below B w0 w) (hB : B ≤ w0.heap.size) :
    Calls Tryz.prog 103 #[.pointer (some ⟨p, 0, none⟩)] w fun e w' => PairPost w0 B p L (stepP L.length (bl a) (bl s)) e w' := by
  obtain ⟨R, hR⟩ : ∃ R, stepP L.length (bl a) (bl s) = R := ⟨_, rfl⟩
  rw [hR]
  have HR := Lib.hid hR
  have C1 := Lib.hid (rd_num h hs w0 h0 hB)
  have Hn := Lib.hid hn
  clear h h0 hR hn
  go_enter Tryz.func103, Tryz.ntmps103
  go_wp2_with fail
  refine C1.out.mono ?_
  rintro e w1 ⟨b1, hc⟩
  cases hg1 : gv (bl s) 0 0 with
  | err er =>
    rw [hg1] at hc
    obtain rfl : R = none := by rw [← HR.out]; exact step_err1 hg1
    obtain rfl : e = gaveB := hc
    have b1 := Lib.hid b1
    clear hg1 C1
    go_wp2_with fail
    exact ⟨rfl, rfl, b1.out⟩
  | ok x n1 =>
    rw [hg1] at hc
    obtain ⟨rfl, s1, hs1, hz1, R1⟩ := hc
    have C2 := Lib.hid (rd_num R1 (by omega) w0 b1 hB)
    clear R1 b1 C1
    go_wp2_with fail
    refine C2.out.mono ?_
    rintro e w2 ⟨b2, hc⟩
    rw [hs1] at hc
    cases hg2 : gv ((bl s).drop n1) 0 0 with
    | err er =>
      rw [hg2] at hc
      obtain rfl : R = none := by rw [← HR.out]; exact step_err2 hg1 hg2
      obtain rfl : e = gaveB := hc
      have b2 := Lib.hid b2
      clear hg1 hg2 C2 hs1
      go_wp2_with fail
      exact ⟨rfl, rfl, b2.out⟩
    | ok y n2 =>
      rw [hg2] at hc
      obtain ⟨rfl, s2, hs2, hz2, R2⟩ := hc
      have C3 := Lib.hid (rd_num R2 (by omega) w0 b2 hB)
      clear R2 b2 C2
      go_wp2_with fail
      refine C3.out.mono ?_
      rintro e w3 ⟨b3, hc⟩
      rw [hs2] at hc
      cases hg3 : gv (((bl s).drop n1).drop n2) 0 0 with
      | err er =>
        rw [hg3] at hc
        obtain rfl : R = none := by rw [← HR.out]; exact step_err3 hg1 hg2 hg3
        obtain rfl : e = gaveB := hc
        have b3 := Lib.hid b3
        clear hg1 hg2 hg3 C3 hs1 hs2
        go_wp2_with fail
        exact ⟨rfl, rfl, b3.out⟩
      | ok z n3 =>
        rw [hg3] at hc
        obtain ⟨rfl, t, ht, hz3, R3⟩ := hc
        have hst := HR.out
        rw [step_ok3 hg1 hg2 hg3, ← ht] at hst
        have Hst := Lib.hid hst
        have hz := Nat.le_trans hz3 (Nat.le_trans hz2 (Nat.le_trans hz1 hs))
        have S3 := Lib.hid R3
        have b3 := Lib.hid b3
        clear hst hg1 hg2 hg3 C3 hs1 hs2 ht hz1 hz2 hz3 HR R3
        have c0 : w3.cell? ⟨p, 2, none⟩ = some (.string a) := S3.out.blk.cell 2
        have c1 : w3.cell? ⟨p, 1, none⟩ = some v := S3.out.blk.cell 1
        have Y := fun W => Lib.hid (must_yes W)
        have N := fun W => Lib.hid (must_no W)
        by_cases hx : x ≤ a.size
        · have x1 : (x : Int) ≤ (a.size : Int) := by omega
          have x2 : (0 : Int) ≤ (x : Int) := by omega
          go_wp2_with fail
          refine (Y _).out.mono ?_
          rintro e w4 ⟨rfl, rfl⟩
          by_cases hy : y ≤ t.size
          · have T2 := Lib.hid (btake_ok p t v a y w4.drew S3.out.blk.drew hy)
            have hk1 : bl (a.extract 0 x) = (bl a).take x := bl_take a x hx
            have hk2 : bl (t.extract 0 y) = (bl t).take y := bl_take t y hy
            have hk3 : (a.extract 0 x).size ≤ 65536 := by simp; omega
            have hk4 : (t.extract 0 y).size ≤ 1000000 := by simp; omega
            have ht1 : bl (t.extract y t.size) = (bl t).drop y := bl_drop t y
            have ht2 : (t.extract y t.size).size ≤ 1000000 := by simp; omega
            obtain ⟨kk, hkk⟩ : ∃ kk, a.extract 0 x ++ t.extract 0 y = kk := ⟨_, rfl⟩
            have hkl : bl kk = (bl a).take x ++ (bl t).take y := by
              rw [← hkk, ← hk1, ← hk2]; exact cat_list _ _
            have hkz : kk.size ≤ 1065536 := by rw [← hkk, cat_size]; omega
            have CA := fun W => cat_is (P := Tryz.prog) (a.extract 0 x) (t.extract 0 y) kk hkk (by omega) W
            obtain ⟨t1, ht⟩ : ∃ t1, t.extract y t.size = t1 := ⟨_, rfl⟩
            rw [ht] at T2 ht1 ht2
            have Hkl := Lib.hid hkl
            have Ht1 := Lib.hid ht1
            clear hkk hkl ht ht1 hk1 hk2
            go_upto_region 2 with fail
            go_region_held3 (fun W => W.cell? ⟨p, 2, none⟩ = some (.string a))
              (first | exact c0 | assumption)
              ((go_at_call 137; refine T2.out.mono ?_; rintro e w5 ⟨rfl, B5, g5⟩; have d5 : w5.cell? ⟨p, 2, none⟩ = some (.string a) := B5.cell 2))
            have S5 := Lib.hid (S3.out.drew.next B5 g5)
            have b5 := Lib.hid (below_rd b3.out.drew g5 hB S3.out.low)
            clear B5 g5 d5 T2 c0 c1 S3 b3 CA hk3 hk4
            by_cases hz1 : z ≤ t1.size
            · have T3 := Lib.hid (btake_ok p t1 v a z w5 S5.out.blk hz1)
              have hv1 : bl (t1.extract 0 z) = (bl t1).take z := bl_take t1 z hz1
              have hv2 : bl (t1.extract z t1.size) = (bl t1).drop z := bl_drop t1 z
              have hv3 : (t1.extract 0 z).size ≤ 1000000 := by simp; omega
              rw [Ht1.out] at hv1 hv2
              have hst := Hst.out
              rw [stepT_in (kk := kk) (vv := t1.extract 0 z) (by rw [bl_len]; exact hx) (by rw [bl_len]; exact hy) (by rw [← Ht1.out, bl_len]; exact hz1) Hkl.out hv1, ← hv2] at hst
              obtain ⟨vv, hvv⟩ : ∃ vv, t1.extract 0 z = vv := ⟨_, rfl⟩
              obtain ⟨t2, ht2⟩ : ∃ t2, t1.extract z t1.size = t2 := ⟨_, rfl⟩
              rw [hvv, ht2] at T3
              rw [hvv] at hv3 hst
              rw [ht2] at hst
              have HR2 := Lib.hid hst
              clear hst hvv ht2 hv1 hv2 Hst Ht1 Hkl
              go_wp2_with fail
              refine T3.out.mono ?_
              rintro e w6 ⟨rfl, B6, g6⟩
              have S6 := Lib.hid (S5.out.next B6 g6)
              have b6 := Lib.hid (below_rd b5.out g6 hB S5.out.low)
              clear B6 g6 T3 S5 b5
              by_cases hm : kk.size ≤ 65536 ∧ vv.size ≤ 65536
              · have m1 : decide ((kk.size : Int) ≤ 65536) = true := decide_eq_true (by omega)
                have m2 : decide ((vv.size : Int) ≤ 65536) = true := decide_eq_true (by omega)
                have m3 : (kk.size : Int) ≤ 65536 := by omega
                have m4 : (vv.size : Int) ≤ 65536 := by omega
                go_wp2_with fail
                refine (Y _).out.mono ?_
                rintro e w7 ⟨rfl, rfl⟩
                obtain ⟨ao, co, rfl⟩ := S6.out.own.slice
                have Cc := Lib.hid (compare_T a kk w7)
                have n1 : ((L.length : Int) == 0) = false := by rw [beq_eq_false_iff_ne]; have := Hn.out; omega
                have c1 : w7.cell? ⟨p, 1, none⟩ = some (.slice ao L.length co) := S6.out.blk.cell 1
                have c2 : w7.cell? ⟨p, 2, none⟩ = some (.string a) := S6.out.blk.cell 2
                by_cases hlt0 : cmpT a kk < 0
                · have hlt : L.length = 0 ∨ Lib.compareBytes (bl a) (bl kk) < 0 := Or.inr hlt0
                  have n2 : decide (cmpT a kk < 0) = true := decide_eq_true hlt0
                  generalize cmpT a kk = cm at *
                  go_wp2_with fail
                  refine Cc.out.mono ?_
                  rintro e w8 ⟨rfl, rfl⟩
                  go_wp2_with fail
                  refine (Y _).out.mono ?_
                  rintro e wa ⟨rfl, rfl⟩
                  clear c1 c2 n1 n2 hlt0 Cc
                  have CC := fun W => Lib.hid (common_any L.length a kk W (by omega) (by omega) (by omega))
                  have c1 : wa.cell? ⟨p, 1, none⟩ = some (.slice ao L.length co) := S6.out.blk.cell 1
                  have c2 : wa.cell? ⟨p, 2, none⟩ = some (.string a) := S6.out.blk.cell 2
                  generalize hcx : comI L.length (bl a) (bl kk) = cx at *
                  by_cases hxc : x = cx
                  · subst hxc
                    have hst := HR2.out
                    rw [if_pos ⟨hm.1, hm.2, hlt, rfl⟩] at hst
                    subst hst
                    have W8 : ∀ j, Hid (RdSt (wa.drewN (1 + j)) B p t2 (.slice ao L.length co) a L ∧ Below B w0 (wa.drewN (1 + j))) := fun j => Lib.hid ⟨S6.out.drewN (1 + j), below_drewN b6.out (1 + j)⟩
                    clear b6 S6 HR2
                    go_upto_region 6 with fail
                    go_region_held3 (fun W => W.cell? ⟨p, 1, none⟩ = some (.slice ao L.length co) ∧ W.cell? ⟨p, 2, none⟩ = some (.string a))
                      (first | exact ⟨c1, c2⟩ | assumption)
                      (first
                        | (go_at_call 101; refine (Y _).out.mono ?_; rintro e w9 ⟨rfl, rfl⟩)
                        | (go_at_call 25; refine (CC _).out.mono ?_; rintro e w7 ⟨rfl, j, rfl⟩))
                    obtain ⟨S8, b8⟩ := (W8 j).out
                    have c3 : (wa.drewN (1 + j)).cell? ⟨p, 1, none⟩ = some (.slice ao L.length co) := c1
                    have f3 : (wa.drewN (1 + j)).frozen? ⟨p, 1, none⟩ = false := S8.blk.frozen 1
                    clear W8 CC c1 c2
                    generalize wa.drewN (1 + j) = w8 at *
                    obtain ⟨v', w9, hr, hown, hgr, _, _⟩ := app_own (P := Tryz.prog) elKeys 22 53 (.agg #[.string ⟨#[]⟩, .string ⟨#[]⟩]) 32 underKeys infoKeys rfl (w8.alloc (.cells #[.string kk, .string vv] 53)) B (.slice ao L.length co) L [(kk, vv)] (World.ownsRow.alloc S8.own _) (some ⟨w8.heap.size, 0, none⟩) 1 (fun h => by cases h) (fun a ha j' u hu => by
                      cases ha
                      rw [El.row_one] at hu
                      exact cells_new w8 53 [.string kk, .string vv] j' u hu) (by unfold maxLen; simp; omega) (by simp; omega) (by have := b8.size; simp; omega) 1 rfl
                    obtain ⟨A9, n9, cc9, rfl⟩ := own_slice hown
                    have hoff := S8.off
                    have B9 : RdB w9 p t2 (.slice ao L.length co) a := (S8.blk.alloc _).grown hgr (off_ne hoff)
                    have b9 : Hid (Below B w0 w9) := Lib.hid ((b8.alloc (Nat.le_trans hB b8.size) _).grown hgr (by have := b8.size; simp; omega) (fun k hk => ((World.ownsRow.alloc S8.own _ : (w8.alloc (.cells #[.string kk, .string vv] 53)).ownsRow B 53 _ _ _ _).lt k hk).1))
                    have HR9 := fun ty => Lib.hid (hr ty)
                    have c9 : w9.cell? ⟨p, 1, none⟩ = some (.slice ao L.length co) := B9.cell 1
                    have f9 : w9.frozen? ⟨p, 1, none⟩ = false := B9.frozen 1
                    have g9 : w9.frozen? ⟨p, 2, none⟩ = false := B9.frozen 2
                    have d9 : w9.cell? ⟨p, 2, none⟩ = some (.string a) := B9.cell 2
                    have e9 : (w9.setCell ⟨p, 1, none⟩ (Value.slice A9 n9 cc9)).frozen? ⟨p, 2, none⟩ = false := (Blk.set_ B9 1 (Value.slice A9 n9 cc9)).frozen 2
                    have h9 : (w9.setCell ⟨p, 1, none⟩ (Value.slice A9 n9 cc9)).cell? ⟨p, 2, none⟩ = some (.string a) := (Blk.set_ B9 1 (Value.slice A9 n9 cc9)).cell 2
                    have hst9 : Hid (RdSt ((w9.setCell ⟨p, 1, none⟩ (Value.slice A9 n9 cc9)).setCell ⟨p, 2, none⟩ (.string kk)) B p t2 (Value.slice A9 n9 cc9) kk (L ++ [(kk, vv)])) := Lib.hid (by
                      have hv9 : (Value.slice A9 n9 cc9).ownBlock = none ∨ (Value.slice A9 n9 cc9).ownBlock ≠ some p := own_off hown B9
                      exact ⟨(Blk.set_ (Blk.set_ B9 1 (Value.slice A9 n9 cc9)) 2 (.string kk)), own_set (own_set hown hv9 _) hv9 _, S8.low⟩)
                    have bst9 : Hid (Below B w0 ((w9.setCell ⟨p, 1, none⟩ (Value.slice A9 n9 cc9)).setCell ⟨p, 2, none⟩ (.string kk))) := Lib.hid (below_setCell (below_setCell b9.out S8.low _) S8.low _)
                    have B9 := Lib.hid B9
                    clear hr hown hgr b9 S8 b8 c3 f3 hoff
                    go_wp2_with (at_builtin; refine wpList_append_k _ w9 rfl (.tmp 77) (.tmp 81) 22 rfl _ _ (Value.slice A9 n9 cc9) rfl rfl (fun ty => (HR9 ty).out) ?_)
                    go_end0
                    exact ⟨rfl, bst9.out, _, _, rfl, hst9.out⟩
                  · obtain rfl : R = none := by
                      rw [← HR2.out]
                      exact if_neg (fun hh => hxc hh.2.2.2)
                    have hxc' : ((x : Int) == (cx : Int)) = false := by rw [beq_eq_false_iff_ne]; omega
                    have Hb := fun j => Lib.hid (below_drewN b6.out j)
                    clear b6 S6 HR2
                    go_upto_region 6 with fail
                    go_region_dies
                    all_goals
                      rename_i K hK
                      refine (CC _).out.mono ?_
                      rintro e w5 ⟨rfl, j, rfl⟩
                      refine hK _ _ ?_
                      refine wpAny_ready (rs := [12]) (by kernel_rfl) (by simp) ?_
                      refine AllReady.cons rfl (fun K2 hK2 => ?_) AllReady.nil
                      go_simp
                      refine hK2 _ _ ?_
                      refine wpAny_ready (rs := [13]) (by kernel_rfl) (by simp) ?_
                      refine AllReady.cons rfl (fun K3 hK3 => ?_) AllReady.nil
                      go_simp
                      refine (N _).out.mono ?_
                      rintro e w6 ⟨rfl, rfl⟩
                      go_wp2_with fail
                      exact ⟨rfl, rfl, (Hb (1 + j)).out⟩
                · obtain rfl : R = none := by
                    rw [← HR2.out]
                    refine if_neg (fun hh => ?_)
                    rcases hh.2.2.1 with h | h
                    · exact Hn.out h
                    · exact hlt0 h
                  have n2 : decide (cmpT a kk < 0) = false := decide_eq_false hlt0
                  generalize cmpT a kk = cm at *
                  go_wp2_with fail
                  refine Cc.out.mono ?_
                  rintro e w8 ⟨rfl, rfl⟩
                  go_wp2_with fail
                  refine (N _).out.mono ?_
                  rintro e wa ⟨rfl, rfl⟩
                  go_wp2_with fail
                  exact ⟨rfl, rfl, b6.out⟩
              · obtain rfl : R = none := by
                  rw [← HR2.out]
                  exact if_neg (fun hh => hm ⟨hh.1, hh.2.1⟩)
                by_cases hm1 : kk.size ≤ 65536
                · have m2 : decide ((vv.size : Int) ≤ 65536) = false := decide_eq_false (by omega)
                  have m3 : (kk.size : Int) ≤ 65536 := by omega
                  go_wp2_with fail
                  refine (N _).out.mono ?_
                  rintro e w7 ⟨rfl, rfl⟩
                  go_wp2_with fail
                  exact ⟨rfl, rfl, b6.out⟩
                · have m3 : ¬ (kk.size : Int) ≤ 65536 := by omega
                  go_wp2_with fail
                  refine (N _).out.mono ?_
                  rintro e w7 ⟨rfl, rfl⟩
                  go_wp2_with fail
                  exact ⟨rfl, rfl, b6.out⟩
            · obtain rfl : R = none := by
                rw [← Hst.out]
                exact if_neg (fun hh => hz1 (by have := hh.2.2.1; rw [← Ht1.out, bl_len] at this; exact this))
              have T3 := Lib.hid (btake_short p t1 v a z w5 S5.out.blk (by omega))
              go_wp2_with fail
              refine T3.out.mono ?_
              rintro e w6 ⟨rfl, rfl⟩
              go_wp2_with fail
              exact ⟨rfl, rfl, b5.out⟩
          · obtain rfl : R = none := by
              rw [← Hst.out]
              exact if_neg (fun hh => hy hh.2.1)
            have T2 := Lib.hid (btake_short p t v a y w4.drew S3.out.blk.drew (by omega))
            go_upto_region 2 with fail
            go_region_dies
            all_goals
              refine T2.out.mono ?_
              rintro e w5 ⟨rfl, rfl⟩
              go_wp2_with fail
              exact ⟨rfl, rfl, b3.out.drew⟩
        · obtain rfl : R = none := by
            rw [← Hst.out]
            exact if_neg (fun hh => hx hh.1)
          have x1 : ¬ (x : Int) ≤ (a.size : Int) := by omega
          go_wp2_with fail
          refine (N _).out.mono ?_
          rintro e w4 ⟨rfl, rfl⟩
          go_wp2_with fail
          exact ⟨rfl, rfl, b3.out⟩
end Go.Proofs.YtmoffcgbjmeiaaaGreatDoor

namespace Go.Proofs.YtmoffcgbjmeiaaaGreatDoor
open Go.RowKit

theorem bpair_any {w : World} {B p : Nat} {s : ByteArray} {v : Value} {a : ByteArray} {L : List KV} (h : RdSt w B p s v a L) (hs : s.size ≤ 1000000) (ha : a.size ≤ 65536) (hL : L.length ≤ 1000000) (w0 : World) (h0 : Below B w0 w) (hB : B ≤ w0.heap.size) :
    Calls Tryz.prog 103 #[.pointer (some ⟨p, 0, none⟩)] w fun e w' => PairPost w0 B p L (stepP L.length (bl a) (bl s)) e w' := by
  by_cases hn : L.length = 0
  · exact bpair_zero h hs ha hL hn w0 h0 hB
  · exact bpair_more h hs ha hL hn w0 h0 hB

set_option maxRecDepth 100000 in
set_option maxHeartbeats 2000000 in
theorem unfixed_any (s : ByteArray) (w : World) (h : s.size = 4) :
    Calls Tryz.prog 102 #[.string s] w fun e w' => e = .returned (.int .i64 (getL (bl s) : Int)) ∧ w' = w := by
  have C := Lib.hid (get_ok s w (by omega) (by omega))
  have Y := fun W => Lib.hid (must_yes W)
  clear h
  go_enter Tryz.func102, Tryz.ntmps102
  go_wp2_with fail
  refine C.out.mono ?_
  rintro e w1 ⟨rfl, rfl⟩
  go_wp2_with fail
  refine (Y _).out.mono ?_
  rintro e w1 ⟨rfl, rfl⟩
  go_wp2_with fail
  go_ret
  exact ⟨rfl, rfl⟩

/-- How many bytes are left to the reader in block p. -/
def restLen (p : Nat) (w : World) : Nat := match w.cell? ⟨p, 0, none⟩ with
  | some (.string s) => s.size
  | _ => 0
theorem restLen_is {p : Nat} {w : World} {s : ByteArray} {v : Value} {a : ByteArray} (h : RdB w p s v a) : restLen p w = s.size := by
  unfold restLen
  rw [show w.cell? ⟨p, 0, none⟩ = some (.string s) from h.cell 0]
theorem step_less {i : Nat} {last rest r' : List UInt8} {m : KV} (h : stepP i last rest = some (m, r')) : r'.length < rest.length := by
  rw [(step_some h).1, List.length_append, onePair, List.length_append]
  have := pv_pos (comI i last (bl m.1))
  omega
/-- What read answers. -/
def ReadPost (w : World) : Option (List KV) → Ending → World → Prop
  | none, e, w' => e = gaveB ∧ Below w.heap.size w w'
  | some l, e, w' => Below w.heap.size w w' ∧ ∃ v, e = .returned v ∧ Own elKeys w' w.heap.size 53 v l
theorem sP_none1 {b : ByteArray} (h : b.size < 8 ∨ 524288 < b.size) : sParse b = none := by unfold sParse; rw [if_pos h]
theorem sP_none2 {b : ByteArray} (h : getL ((bl b).drop (b.size - 4)) ≠ crc ((bl b).take (b.size - 4))) : sParse b = none := by
  unfold sParse
  by_cases h1 : b.size < 8 ∨ 524288 < b.size
  · rw [if_pos h1]
  · rw [if_neg h1, if_pos h]
theorem sP_is {b : ByteArray} (h1 : ¬ (b.size < 8 ∨ 524288 < b.size)) (h2 : getL ((bl b).drop (b.size - 4)) = crc ((bl b).take (b.size - 4))) :
    sParse b = match strictP b.size 0 [] ((bl b).take (b.size - 8)) with
    | none => none
    | some l => if getL (((bl b).take (b.size - 4)).drop (b.size - 8)) = l.length then some l else none := by
  unfold sParse
  rw [if_neg h1, if_neg (fun h => h h2)]
  rfl

set_option maxRecDepth 100000 in
set_option maxHeartbeats 4000000 in
theorem read_any (b : ByteArray) (w : World) (hs : b.size ≤ 1000000) (hT : LaidB w) :
    Calls Tryz.prog 33 #[.string b] w fun e w' => ReadPost w (sParse b) e w' := by
  obtain ⟨R, hR⟩ : ∃ R, sParse b = R := ⟨_, rfl⟩
  rw [hR]
  have Y := fun W => Lib.hid (must_yes W)
  have N := fun W => Lib.hid (must_no W)
  by_cases h1 : b.size < 8 ∨ 524288 < b.size
  · obtain rfl : R = none := by rw [← hR]; exact sP_none1 h1
    clear hR
    by_cases h8 : b.size < 8
    · have g1 : ¬ (8 : Int) ≤ (b.size : Int) := by omega
      clear h1 h8
      go_enter Tryz.func33, Tryz.ntmps33
      go_wp2_with fail
      refine (N _).out.mono ?_
      rintro e w1 ⟨rfl, rfl⟩
      go_wp2_with fail
      exact ⟨rfl, rfl, Below.refl _ _⟩
    · have g1 : (8 : Int) ≤ (b.size : Int) := by omega
      have g2 : decide ((b.size : Int) ≤ 524288) = false := decide_eq_false (by omega)
      clear h1 h8
      go_enter Tryz.func33, Tryz.ntmps33
      go_wp2_with fail
      refine (N _).out.mono ?_
      rintro e w1 ⟨rfl, rfl⟩
      go_wp2_with fail
      exact ⟨rfl, rfl, Below.refl _ _⟩
  · have HR := Lib.hid hR
    have g1 : (8 : Int) ≤ (b.size : Int) := by omega
    have g2 : (b.size : Int) ≤ 524288 := by omega
    obtain ⟨m4, hm4⟩ : ∃ m, b.size - 4 = m := ⟨_, rfl⟩
    obtain ⟨m8, hm8⟩ : ∃ m, b.size - 8 = m := ⟨_, rfl⟩
    have g3 : wrap64 ((b.size : Int) - 4) = (m4 : Int) := by unfold wrap64; omega
    have g4 : IntKind.i64.wrap ((b.size : Int) - 4) = (m4 : Int) := by rw [IntKind.wrap_i64]; omega
    have g5 : (m4 : Int) ≤ (b.size : Int) := by omega
    have g6 : (0 : Int) ≤ (m4 : Int) := by omega
    have g7 : wrap64 ((b.size : Int) - 8) = (m8 : Int) := by unfold wrap64; omega
    have g8 : IntKind.i64.wrap ((b.size : Int) - 8) = (m8 : Int) := by rw [IntKind.wrap_i64]; omega
    have HT := Lib.hid hT
    have H1 := Lib.hid h1
    have Hm4 := Lib.hid hm4
    have Hm8 := Lib.hid hm8
    have b4 : bl (b.extract m4 b.size) = (bl b).drop m4 := bl_drop b m4
    have z4 : (b.extract m4 b.size).size = 4 := by simp; omega
    have c4 : bl (b.extract 0 m4) = (bl b).take m4 := bl_take b m4 (by omega)
    have y4 : (b.extract 0 m4).size = m4 := by simp; omega
    clear hR h1 hT hm4 hm8
    go_enter Tryz.func33, Tryz.ntmps33
    go_wp2_with fail
    refine (Y _).out.mono ?_
    rintro e w1 ⟨rfl, rfl⟩
    go_wp2_with fail
    go_quiet (fail)
    have hb2 : Hid (Below w1.heap.size w1 (w1.drewN nq)) := Lib.hid (below_drewN (Below.refl _ _) nq)
    have L2 := HT.out.on hb2.out
    generalize w1.drewN nq = w2 at *
    generalize b.extract m4 b.size = sm at *
    generalize b.extract 0 m4 = sd at *
    have CU := Lib.hid (unfixed_any sm w2 z4)
    have CS : Hid (Calls Tryz.prog 29 #[.string sd] w2 fun e w' => e = .returned (.int .i64 (crc (bl sd) : Int)) ∧ w2 = w') := Lib.hid (sum_any sd w2 (by omega) L2.halves)
    obtain ⟨x, hx⟩ : ∃ x, getL (bl sm) = x := ⟨_, rfl⟩
    obtain ⟨y, hy⟩ : ∃ y, crc (bl sd) = y := ⟨_, rfl⟩
    rw [hx] at CU
    rw [hy] at CS
    by_cases hxy : x = y
    · subst hxy
      have hst := HR.out
      rw [sP_is H1.out (by rw [Hm4.out, ← b4, ← c4, hx, hy]), Hm4.out, Hm8.out, ← c4] at hst
      have hd8 : (bl b).take m8 = (bl sd).take m8 := by
        rw [c4, List.take_take, Nat.min_eq_left (by have := Hm8.out; have := Hm4.out; omega)]
      rw [hd8] at hst
      have q5 : (m8 : Int) ≤ (sd.size : Int) := by have := Hm8.out; have := Hm4.out; omega
      have q6 : (0 : Int) ≤ (m8 : Int) := by omega
      have p8 : bl (sd.extract 0 m8) = (bl sd).take m8 := bl_take sd m8 (by omega)
      have k8 : bl (sd.extract m8 m4) = (bl sd).drop m8 := by have := bl_drop sd m8; rw [y4] at this; exact this
      have x8 : (sd.extract m8 m4).size = 4 := by have := Hm8.out; have := Hm4.out; simp; omega
      have v8 : (sd.extract 0 m8).size ≤ b.size := by simp; omega
      rw [← p8, ← k8] at hst
      have HR2 := Lib.hid hst
      clear hst hd8 p8 k8 hx hy b4 c4 z4 HR H1 L2
      go_wp2_with fail
      refine CU.out.mono ?_
      rintro e w3 ⟨rfl, rfl⟩
      go_wp2_with fail
      refine CS.out.mono ?_
      rintro e w4 ⟨rfl, rfl⟩
      go_wp2_with fail
      refine (Y _).out.mono ?_
      rintro e w5 ⟨rfl, rfl⟩
      go_wp2_with fail
      go_quiet (fail)
      have hb6 : Hid (Below w1.heap.size w1 (w5.drewN nq)) := Lib.hid (below_drewN hb2.out nq)
      generalize sd.extract 0 m8 = sp at *
      generalize sd.extract m8 m4 = ct at *
      generalize w5.drewN nq = w6 at *
      obtain ⟨O, hO⟩ : ∃ O, strictP b.size 0 [] (bl sp) = O := ⟨_, rfl⟩
      have hr2 := HR2.out
      rw [hO] at hr2
      have HR3 := Lib.hid hr2
      have HO := Lib.hid hO
      have CU2 := fun W => Lib.hid (unfixed_any ct W x8)
      have R0 : Hid (RdSt (w6.alloc (.cells #[.string sp, .slice none 0 0, .string ⟨#[]⟩] 114)) w1.heap.size w6.heap.size sp (.slice none 0 0) ⟨#[]⟩ []) := Lib.hid ⟨Blk.new _ _ _, World.ownsRow_nil _ _ _ _, hb6.out.size⟩
      have B0 : Hid (Below w1.heap.size w1 (w6.alloc (.cells #[.string sp, .slice none 0 0, .string ⟨#[]⟩] 114))) := Lib.hid (below_alloc hb6.out (Nat.le_refl _) _)
      clear hr2 hO HR2 CU CS hb2 hb6
      go_wp2_with fail
      generalize w6.alloc (.cells #[.string sp, .slice none 0 0, .string ⟨#[]⟩] 114) = w7 at *
      generalize w6.heap.size = p at *
      go_loopw [] (fun wr => ∃ (s : ByteArray) (v : Value) (a : ByteArray) (l : List KV) (f : Nat), Hid (RdSt wr w1.heap.size p s v a l) ∧ Hid (goOn l (strictP f l.length (bl a) (bl s)) = O) ∧ s.size ≤ f ∧ s.size + l.length ≤ 1000000 ∧ a.size ≤ 65536 ∧ Hid (Below w1.heap.size w1 wr)) (fun wr => restLen p wr)
      case atStart => exact ⟨sp, _, _, [], b.size, R0, Lib.hid (by rw [goOn_nil]; exact HO.out), by omega, by simp; omega, by decide, B0⟩
      case round =>
        obtain ⟨s, v, a, l, f, HS, HG, hf, hsl, ha, HB⟩ := hrel
        have c0 : wr.cell? ⟨p, 0, none⟩ = some (.string s) := HS.out.blk.cell 0
        by_cases hs0 : bl s = []
        · have e0 : s.toList.isEmpty = true := by rw [Lib.toList_data, show s.data.toList = [] from hs0]; rfl
          have hg := HG.out
          rw [hs0, strict_nil, goOn, List.append_nil] at hg
          subst hg
          obtain ⟨ao, co, rfl⟩ := HS.out.own.slice
          have c1 : wr.cell? ⟨p, 1, none⟩ = some (.slice ao l.length co) := HS.out.blk.cell 1
          have hr3 := HR3.out
          have HO2 := Lib.hid HS.out.own
          clear hs0 HG HR3
          obtain ⟨y, hy⟩ : ∃ y, getL (bl ct) = y := ⟨_, rfl⟩
          rw [hy] at CU2
          dsimp only at hr3
          rw [hy] at hr3
          clear hy
          go_wp2_with fail
          by_cases hyl : y = l.length
          · subst hyl
            rw [if_pos rfl] at hr3
            subst hr3
            go_upto_region 8 with fail
            go_region_held3 (fun W => W.cell? ⟨p, 1, none⟩ = some (.slice ao l.length co))
              (first | exact c1 | assumption)
              (first
                | (go_at_call 101; refine (Y _).out.mono ?_; rintro e w9 ⟨rfl, rfl⟩)
                | (go_at_call 102; refine (CU2 _).out.mono ?_; rintro e w8 ⟨rfl, rfl⟩))
            clear CU2
            have c2 : wr.drew.cell? ⟨p, 1, none⟩ = some (.slice ao l.length co) := c1
            go_wp2_with fail
            go_ret
            exact ⟨Below.drew HB.out, _, rfl, HO2.out⟩
          · rw [if_neg hyl] at hr3
            subst hr3
            have HBd := Lib.hid (Below.drew HB.out)
            have hyl' : ((y : Int) == (l.length : Int)) = false := by rw [beq_eq_false_iff_ne]; omega
            go_upto_region 8 with fail
            go_region_dies
            · rename_i K hK
              refine (CU2 _).out.mono ?_
              rintro e w8 ⟨rfl, rfl⟩
              refine hK _ _ ?_
              refine wpAny_ready (rs := [3]) (by kernel_rfl) (by simp) ?_
              refine AllReady.cons rfl (fun K3 hK3 => ?_) AllReady.nil
              go_simp
              refine hK3 _ _ ?_
              refine wpAny_ready (rs := [4]) (by kernel_rfl) (by simp) ?_
              refine AllReady.cons rfl (fun K4 hK4 => ?_) AllReady.nil
              go_simp
              refine hK4 _ _ ?_
              refine wpAny_ready (rs := [5]) (by kernel_rfl) (by simp) ?_
              refine AllReady.cons rfl (fun K5 hK5 => ?_) AllReady.nil
              go_simp
              refine hK5 _ _ ?_
              refine wpAny_ready (rs := [6]) (by kernel_rfl) (by simp) ?_
              refine AllReady.cons rfl (fun K6 hK6 => ?_) AllReady.nil
              go_simp
              refine (N _).out.mono ?_
              rintro e w9 ⟨rfl, rfl⟩
              go_wp2_with fail
              exact ⟨rfl, rfl, HBd.out⟩
            · rename_i K hK
              refine (CU2 _).out.mono ?_
              rintro e w8 ⟨rfl, rfl⟩
              refine hK _ _ ?_
              refine wpAny_ready (rs := [4]) (by kernel_rfl) (by simp) ?_
              refine AllReady.cons rfl (fun K4 hK4 => ?_) AllReady.nil
              go_simp
              refine hK4 _ _ ?_
              refine wpAny_ready (rs := [5]) (by kernel_rfl) (by simp) ?_
              refine AllReady.cons rfl (fun K5 hK5 => ?_) AllReady.nil
              go_simp
              refine hK5 _ _ ?_
              refine wpAny_ready (rs := [6]) (by kernel_rfl) (by simp) ?_
              refine AllReady.cons rfl (fun K6 hK6 => ?_) AllReady.nil
              go_simp
              refine (N _).out.mono ?_
              rintro e w9 ⟨rfl, rfl⟩
              go_wp2_with fail
              exact ⟨rfl, rfl, HBd.out⟩
            · rename_i K hK
              refine (CU2 _).out.mono ?_
              rintro e w8 ⟨rfl, rfl⟩
              refine hK _ _ ?_
              refine wpAny_ready (rs := [5]) (by kernel_rfl) (by simp) ?_
              refine AllReady.cons rfl (fun K5 hK5 => ?_) AllReady.nil
              go_simp
              refine hK5 _ _ ?_
              refine wpAny_ready (rs := [6]) (by kernel_rfl) (by simp) ?_
              refine AllReady.cons rfl (fun K6 hK6 => ?_) AllReady.nil
              go_simp
              refine (N _).out.mono ?_
              rintro e w9 ⟨rfl, rfl⟩
              go_wp2_with fail
              exact ⟨rfl, rfl, HBd.out⟩
        · have e0 : s.toList.isEmpty = false := by
            rw [Lib.toList_data]
            cases h : s.data.toList with
            | nil => exact absurd h hs0
            | cons x r => rfl
          have CP := Lib.hid (bpair_any HS.out (by omega) ha (by omega) w1 HB.out (Nat.le_refl _))
          cases hst : stepP l.length (bl a) (bl s) with
          | none =>
            rw [hst] at CP
            have hg := HG.out
            rw [strict_none hs0 hst, goOn] at hg
            subst hg
            have hr3 := HR3.out
            dsimp only at hr3
            subst hr3
            clear hst hs0 HG HR3
            go_wp2_with fail
            refine CP.out.mono ?_
            rintro e w8 ⟨rfl, hb⟩
            go_wp2_with fail
            exact ⟨rfl, rfl, hb⟩
          | some q =>
            obtain ⟨m, r'⟩ := q
            rw [hst] at CP
            have hless := step_less hst
            have hok := (step_some hst).2
            have hg := HG.out
            obtain ⟨f, rfl⟩ : ∃ g, f = g + 1 := ⟨f - 1, by
              have : s.size ≠ 0 := fun h => hs0 (List.eq_nil_of_length_eq_zero h)
              omega⟩
            rw [strict_some hs0 hst, goOn_cons] at hg
            have HG2 := Lib.hid hg
            have hk := hok.1
            have hln : (bl s).length = s.size := rfl
            have hrl := restLen_is HS.out.blk
            clear hst hs0 HG hg hok
            go_wp2_with fail
            refine CP.out.mono ?_
            rintro e w8 ⟨rfl, hb, s', v', hs', hR8⟩
            have hln' : (bl s').length = s'.size := rfl
            have hrl' := restLen_is hR8.blk
            rw [hs'] at hln'
            have HR8 := Lib.hid hR8
            have HB8 := Lib.hid hb
            have Hs' := Lib.hid hs'
            clear hs' hR8 hb
            go_wp2_with fail
            go_roundw
            case rel => exact ⟨s', v', m.1, l ++ [m], f, HR8, Lib.hid (by rw [Hs'.out, List.length_append]; exact HG2.out), by omega, by rw [List.length_append]; simp; omega, hk, HB8⟩
            case measure => rw [hrl, hrl']; omega
    · obtain rfl : R = none := by
        rw [← HR.out]
        exact sP_none2 (by rw [Hm4.out, ← b4, ← c4, hx, hy]; exact hxy)
      have hxy' : ((x : Int) == (y : Int)) = false := by rw [beq_eq_false_iff_ne]; omega
      clear hx hy b4 c4 z4 HR H1 L2
      go_wp2_with fail
      refine CU.out.mono ?_
      rintro e w3 ⟨rfl, rfl⟩
      go_wp2_with fail
      refine CS.out.mono ?_
      rintro e w4 ⟨rfl, rfl⟩
      go_wp2_with fail
      refine (N _).out.mono ?_
      rintro e w5 ⟨rfl, rfl⟩
      go_wp2_with fail
      exact ⟨rfl, rfl, hb2.out⟩
end Go.Proofs.YtmoffcgbjmeiaaaGreatDoor

namespace Go.Proofs.YtmoffcgbjmeiaaaGreatDoor
open Go.RowKit

set_option maxHeartbeats 400000 in
theorem parse_catch (a b : Nat) (x y : Value) (er : Int) (older : List PanicEntry) (w : World) (ha : w.cell? ⟨a, 0, none⟩ = some x) (hb : w.cell? ⟨b, 0, none⟩ = some y)
    (fa : w.frozen? ⟨a, 0, none⟩ = false) (fb : w.frozen? ⟨b, 0, none⟩ = false) (hab : a ≠ b) :
    CallsD Tryz.prog 31 #[.pointer (some ⟨a, 0, none⟩), .pointer (some ⟨b, 0, none⟩)] (.panicking ({ v := .iface 42 (.int .i64 er), recovered := false } :: older)) w fun e u' w' =>
      e = .returned (.tuple #[]) ∧ u' = .panicking ({ v := .iface 42 (.int .i64 er), recovered := true } :: older) ∧
        w' = (w.setCell ⟨a, 0, none⟩ (.slice none 0 0)).setCell ⟨b, 0, none⟩ (.int .i64 er) := by
  refine callsD_of_wpS Tryz.func31 rfl fun c₀ cs hu => ?_
  apply wpS_seq
  apply wpS_region
  simp [wpOpsS, go_sem, recoverD, hu, Tryz.ntmps31, Exit.thenS]
  refine wpS_of_wp ?_
  simp [Array.replicate]
  go_wp2_with fail
  refine (told_errno _ _).mono ?_
  rintro e w' ⟨rfl, rfl⟩
  go_wp2
  simp [bodyPostS, results, Tryz.results31]

set_option maxHeartbeats 400000 in
theorem parse_idle (a b : Value) (w : World) :
    CallsD Tryz.prog 31 #[a, b] .returning w fun e u' w' => e = .returned (.tuple #[]) ∧ u' = .returning ∧ w' = w := by
  refine callsD_of_wpS Tryz.func31 rfl fun c₀ cs hu => ?_
  apply wpS_seq
  apply wpS_region
  simp [wpOpsS, go_sem, recoverD, hu, Tryz.ntmps31, Exit.thenS]
  refine wpS_of_wp ?_
  simp [Array.replicate]
  go_wp2
  cases c₀
  simp_all [bodyPostS, results, Tryz.results31]

/-- What gave up is recovered: the results are set anew. -/
theorem pend_err (w2 : World) (p : Nat) (t : Array Value) (er : Int) (x y : Value) {R : Ending → World → Prop} (Ba : Blk w2 p 22 #[x]) (Bb : Blk w2 (p + 1) 42 #[y])
    (t2 : t[2]?.getD undef = .pointer (some ⟨p, 0, none⟩)) (t3 : t[3]?.getD undef = .pointer (some ⟨p + 1, 0, none⟩)) (h : R (.returned (.tuple #[.slice none 0 0, .int .i64 er])) ((w2.setCell ⟨p, 0, none⟩ (.slice none 0 0)).setCell ⟨p + 1, 0, none⟩ (.int .i64 er))) :
    bodyPostD Tryz.prog Tryz.f11 R (Exit.panic [{ v := .iface 42 (.int .i64 er), recovered := false }])
      { tmps := t, defers := [{ target := Target.fn (Fn.func 31) #[.pointer (some ⟨p, 0, none⟩), .pointer (some ⟨p + 1, 0, none⟩)], args := #[] }] } w2 := by
  have E0 := (Ba.set_ 0 (.slice none 0 0)).far (p := ⟨p + 1, 0, none⟩) (by dsimp only; omega) (.int .i64 er)
  have E1 := (Bb.far (p := ⟨p, 0, none⟩) (by dsimp only; omega) (.slice none 0 0)).set_ 0 (.int .i64 er)
  refine leaves_cons (f := 31) (args := #[.pointer (some ⟨p, 0, none⟩), .pointer (some ⟨p + 1, 0, none⟩)]) (by simp) (by simp [go_sem]) ?_
  refine (parse_catch p (p + 1) x y er [] _ (Ba.cell 0) (Bb.cell 0) (Ba.frozen 0) (Bb.frozen 0) (by omega)).mono ?_
  rintro e u' w'' ⟨rfl, rfl, rfl⟩
  generalize (w2.setCell ⟨p, 0, none⟩ (.slice none 0 0)).setCell ⟨p + 1, 0, none⟩ (.int .i64 er) = w3 at *
  have c0 : w3.cell? ⟨p, 0, none⟩ = some (.slice none 0 0) := E0.cell 0
  have e1 : w3.cell? ⟨p + 1, 0, none⟩ = some (.int .i64 er) := E1.cell 0
  simp [Leaves, settle, results, Tryz.results11, go_sem, c0, e1, t2, t3]
  exact h
/-- What is read stands in the results. -/
theorem pend_ok (w2 : World) (p : Nat) (t : Array Value) (A : Option Addr) (n c : Nat) {R : Ending → World → Prop} (Ba : Blk w2 p 22 #[.slice A n c]) (Bb : Blk w2 (p + 1) 42 #[.int .i64 0])
    (t2 : t[2]?.getD undef = .pointer (some ⟨p, 0, none⟩)) (t3 : t[3]?.getD undef = .pointer (some ⟨p + 1, 0, none⟩)) (h : R (.returned (.tuple #[.slice A n c, .int .i64 0])) w2) :
    bodyPostD Tryz.prog Tryz.f11 R Exit.ret
      { tmps := t, defers := [{ target := Target.fn (Fn.func 31) #[.pointer (some ⟨p, 0, none⟩), .pointer (some ⟨p + 1, 0, none⟩)], args := #[] }] } w2 := by
  have c0 : w2.cell? ⟨p, 0, none⟩ = some (.slice A n c) := Ba.cell 0
  have e1 : w2.cell? ⟨p + 1, 0, none⟩ = some (.int .i64 0) := Bb.cell 0
  refine leaves_cons (f := 31) (args := #[.pointer (some ⟨p, 0, none⟩), .pointer (some ⟨p + 1, 0, none⟩)]) (by simp) (by simp [go_sem]) ?_
  refine (parse_idle _ _ _).mono ?_
  rintro e u' w'' ⟨rfl, rfl, rfl⟩
  simp [Leaves, settle, results, Tryz.results11, go_sem, c0, e1, t2, t3]
  exact h

set_option maxRecDepth 100000 in
set_option maxHeartbeats 4000000 in
theorem parse_any (b : ByteArray) (w : World) (hs : b.size ≤ 1000000) (hT : LaidB w) :
    Calls Tryz.prog 11 #[.string b] w fun e w' => ∃ v, e = .returned (.tuple #[v, .int .i64 (parseP b).2]) ∧ Own elKeys w' w.heap.size 53 v (parseP b).1 ∧ Below w.heap.size w w' := by
  have hmf : ∀ (fn : Fn) (first cap : Array Value) (w : World), (Instr.makeFunc fn first cap).run Tryz.prog w = .ok (.func fn first cap) w := fun _ _ _ _ => rfl
  obtain ⟨PL, PE, hp⟩ : ∃ PL PE, parseP b = (PL, PE) := ⟨_, _, rfl⟩
  have hpp := sParse_is b
  rw [hp] at hpp ⊢
  dsimp only
  obtain ⟨R, hR⟩ : ∃ R, sParse b = R := ⟨_, rfl⟩
  rw [hR] at hpp
  have CR := fun W (h : LaidB W) => Lib.hid (read_any b W hs h)
  rw [hR] at CR
  have Hpp := Lib.hid hpp
  have HT := Lib.hid hT
  clear hp hpp hR hT
  go_enter_defers Tryz.func11, Tryz.ntmps11
  go_wp2_with fail
  have b0 : Blk ((w.alloc (.cells #[.slice none 0 0] 22)).alloc (.cells #[.int .i64 0] 42)) w.heap.size 22 #[.slice none 0 0] := (Blk.new _ _ _).alloc _
  have b1 : Blk ((w.alloc (.cells #[.slice none 0 0] 22)).alloc (.cells #[.int .i64 0] 42)) (w.heap.size + 1) 42 #[.int .i64 0] := Blk.new' (by simp) _ _
  have hb : Below w.heap.size w ((w.alloc (.cells #[.slice none 0 0] 22)).alloc (.cells #[.int .i64 0] 42)) := below_alloc (below_alloc (Below.refl _ _) (Nat.le_refl _) _) (Nat.le_refl _) _
  generalize (w.alloc (.cells #[.slice none 0 0] 22)).alloc (.cells #[.int .i64 0] 42) = w1 at *
  have L1 := HT.out.on hb
  have CR1 := CR w1 L1
  clear CR
  have hsz : w.heap.size + 1 < w1.heap.size := b1.lt
  have P0 := Lib.hid b0
  have P1 := Lib.hid b1
  have HB := Lib.hid hb
  clear b0 b1 hb L1
  refine CR1.out.mono ?_
  cases R with
  | none =>
    obtain ⟨rfl, rfl⟩ : PL = [] ∧ PE = 31 := ⟨congrArg Prod.fst Hpp.out, congrArg Prod.snd Hpp.out⟩
    rintro e w2 ⟨rfl, hb2⟩
    have Q0 := P0.out.below hb2 (by omega)
    have Q1 := P1.out.below hb2 (by omega)
    have HB2 := HB.out.trans (hb2.mono HB.out.size)
    unfold gaveB
    go_wp2_with fail
    exact pend_err w2 w.heap.size _ 31 _ _ Q0 Q1 rfl rfl ⟨_, rfl, World.ownsRow_nil _ _ _ _, below_setCell (below_setCell HB2 (Nat.le_refl _) _) (by dsimp only; omega) _⟩
  | some l =>
    obtain ⟨rfl, rfl⟩ : PL = l ∧ PE = 0 := ⟨congrArg Prod.fst Hpp.out, congrArg Prod.snd Hpp.out⟩
    rintro e w2 ⟨hb2, v, rfl, ho⟩
    obtain ⟨ao, co, rfl⟩ := ho.slice
    have Q0 := P0.out.below hb2 (by omega)
    have Q1 := P1.out.below hb2 (by omega)
    have HB2 := HB.out.trans (hb2.mono HB.out.size)
    have c0 : w2.cell? ⟨w.heap.size, 0, none⟩ = some (.slice none 0 0) := Q0.cell 0
    have c1 : w2.cell? ⟨w.heap.size + 1, 0, none⟩ = some (.int .i64 0) := Q1.cell 0
    have f0 := Q0.frozen 0
    have f1 := Q1.frozen 0
    have X0 := Lib.hid ((Q0.set_ 0 (.slice ao PL.length co)).far (p := ⟨w.heap.size + 1, 0, none⟩) (by dsimp only; omega) (.int .i64 0))
    have X1 := Lib.hid ((Q1.far (p := ⟨w.heap.size, 0, none⟩) (by dsimp only; omega) (.slice ao PL.length co)).set_ 0 (.int .i64 0))
    have XB := Lib.hid (below_setCell (below_setCell HB2 (p := ⟨w.heap.size, 0, none⟩) (Nat.le_refl _) (.slice ao PL.length co)) (p := ⟨w.heap.size + 1, 0, none⟩) (by dsimp only; omega) (.int .i64 0))
    have hoo : ∀ q, q < w1.heap.size → (Value.slice ao PL.length co).ownBlock = none ∨ (Value.slice ao PL.length co).ownBlock ≠ some q := by
      intro q hq
      cases h : (Value.slice ao PL.length co).ownBlock with
      | none => exact Or.inl rfl
      | some g => exact Or.inr (fun e => by have := (ho.lt h).1; injection e with e; omega)
    have XO := Lib.hid ((own_set (own_set ho (hoo w.heap.size (by omega)) (i := 0) (.slice ao PL.length co)) (hoo (w.heap.size + 1) (by omega)) (i := 0) (.int .i64 0)))
    clear Q0 Q1 HB2 hb2 ho hoo
    go_wp2_with fail
    exact pend_ok _ w.heap.size _ _ _ _ X0.out X1.out rfl rfl ⟨_, rfl, Own.low XO.out (by omega), XB.out⟩
end Go.Proofs.YtmoffcgbjmeiaaaGreatDoor

namespace Go.Proofs.YtmoffcgbjmeiaaaGreatDoor
open Go.RowKit

set_option maxRecDepth 100000 in
set_option maxHeartbeats 4000000 in
theorem rrising (A : Option Addr) (n c : Nat) (L : List KV) (w : World) (h : KeysAt w A n L) (hok : okP L) (hn : n ≤ 1000000) :
    Calls Tryz.prog 17 #[.slice A n c] w fun e w' => e = .returned (.bool (risesK L)) ∧ Below w.heap.size w w' := by
  have HK := Lib.hid h
  have Hok := Lib.hid hok
  have Hlen := Lib.hid h.len
  obtain ⟨r, hr⟩ : ∃ r, risesK L = r := ⟨_, rfl⟩
  rw [hr]
  have Hr := Lib.hid hr
  clear h hok hr
  go_enter Tryz.func17, Tryz.ntmps17
  go_wp2_with fail
  go_loopw [3] (fun i wr => ∃ k m : Nat, Hid (k = m + 1) ∧ i = .int .i64 (k : Int) ∧ Hid (∀ (i : Nat) (a b : KV), i + 1 < k → L[i]? = some a → L[i + 1]? = some b → cmpT a.1 b.1 < 0) ∧ Hid (Below w.heap.size w wr)) (fun i _ => n + 1 - (intOf i).toNat)
  case atStart => exact ⟨1, 0, rfl, rfl, Lib.hid (fun i a b hi => by omega), Lib.hid (Below.refl _ _)⟩
  case round =>
    obtain ⟨k, m, Hk, rfl, Hf, HB⟩ := hrel
    by_cases hl : k < n
    · have hkm := Hk.out
      have hmL : m < L.length := by have := Hlen.out; omega
      have hkL : k < L.length := by have := Hlen.out; omega
      have ha : L[m]? = some L[m] := List.getElem?_eq_getElem hmL
      have hb : L[k]? = some L[k] := List.getElem?_eq_getElem hkL
      have oa := (Hok.out L[m] (List.getElem_mem hmL)).1
      have ob := (Hok.out L[k] (List.getElem_mem hkL)).1
      generalize L[m] = a at *
      generalize L[k] = b at *
      obtain ⟨g, off, rfl, hg, x0, -, y0, -⟩ := (HK.out.below HB.out).two ha hb
      have CC := fun W => Lib.hid (rcompare9 a.1 b.1 W (by omega) (by omega))
      have g1 : (k : Int) < (n : Int) := by omega
      have g2 : (0 : Int) ≤ (k : Int) := by omega
      have g3 : (m : Int) < (n : Int) := by omega
      have g4 : (0 : Int) ≤ (m : Int) := by omega
      have g5 : wrap64 ((k : Int) - 1) = (m : Int) := by unfold wrap64; omega
      have g6 : IntKind.i64.wrap ((k : Int) - 1) = (m : Int) := by rw [IntKind.wrap_i64]; omega
      have Ha := Lib.hid ha
      have Hb := Lib.hid hb
      by_cases he : cmpT a.1 b.1 < 0
      · have e1 : ¬ (0 : Int) ≤ cmpT a.1 b.1 := by omega
        have e2 : decide ((0 : Int) ≤ cmpT a.1 b.1) = false := decide_eq_false e1
        have Hf2 : Hid (∀ (i : Nat) (a b : KV), i + 1 < k + 1 → L[i]? = some a → L[i + 1]? = some b → cmpT a.1 b.1 < 0) := Lib.hid (by
          intro i a' b' hi ha' hb'
          by_cases e : i = m
          · subst e
            rw [← hkm, Hb.out] at hb'
            rw [Ha.out] at ha'
            cases ha'
            cases hb'
            exact he
          · exact Hf.out i a' b' (by omega) ha' hb')
        generalize cmpT a.1 b.1 = cm at *
        clear he ha hb hkm hmL hkL oa ob Hf
        go_upto_region 4 with fail
        go_region_held3 (fun W => W.cell? ⟨g, off + m * 2, none⟩ = some (.string a.1) ∧ W.cell? ⟨g, off + k * 2, none⟩ = some (.string b.1)) (first | exact ⟨x0, y0⟩ | assumption)
          ((go_at_call 22; refine (CC _).out.mono ?_; rintro e w5 ⟨rfl, j, rfl⟩))
        go_wp2_with fail
        go_roundw
        case rel => exact ⟨k + 1, k, rfl, by go_num, Hf2, Lib.hid (HB.out.trans ((Tn.refl w.heap.size (fun _ => false) wr).drewN (1 + j) |>.below HB.out.size))⟩
        case measure => simp [intOf]; omega
      · have e1 : (0 : Int) ≤ cmpT a.1 b.1 := by omega
        have e2 : decide ((0 : Int) ≤ cmpT a.1 b.1) = true := decide_eq_true e1
        have e3 : risesK L = false := rises_not ha (by rw [← hkm]; exact hb) he
        obtain rfl : r = false := by rw [← Hr.out, e3]
        generalize cmpT a.1 b.1 = cm at *
        clear he ha hb hkm hmL hkL oa ob Hf e3
        go_upto_region 4 with fail
        go_region_held3 (fun W => W.cell? ⟨g, off + m * 2, none⟩ = some (.string a.1) ∧ W.cell? ⟨g, off + k * 2, none⟩ = some (.string b.1)) (first | exact ⟨x0, y0⟩ | assumption)
          ((go_at_call 22; refine (CC _).out.mono ?_; rintro e w5 ⟨rfl, j, rfl⟩))
        go_wp2_with fail
        go_ret
        exact ⟨rfl, HB.out.trans ((Tn.refl w.heap.size (fun _ => false) wr).drewN (1 + j) |>.below HB.out.size)⟩
    · have g1 : ¬ (k : Int) < (n : Int) := by omega
      have e3 : risesK L = true := rises_iff L fun i a b ha hb => Hf.out i a b (by
        have h1 := (List.getElem?_eq_some_iff.1 hb).1
        have := Hlen.out
        omega) ha hb
      obtain rfl : r = true := by rw [← Hr.out, e3]
      clear e3 Hf
      go_wp2_with fail
      go_ret
      exact ⟨rfl, HB.out⟩
end Go.Proofs.YtmoffcgbjmeiaaaGreatDoor

namespace Go.Proofs.YtmoffcgbjmeiaaaGreatDoor
open Go.RowKit

/-- A row of the call's own, as it can be read. -/
theorem Own.keysAt {w : World} {B : Nat} {e : TypeId} {A : Option Addr} {n c : Nat} {L : List KV} (h : Own elKeys w B e (.slice A n c) L) : KeysAt w A n L := by
  obtain ⟨h1, _, _⟩ := own_reads h
  refine ⟨h1, fun i m hm => ?_⟩
  obtain ⟨g, c', cur, hv, hg, hh⟩ := Own.some_ h (by have := (List.getElem?_eq_some_iff.1 hm).1; omega)
  cases hv
  have y0 := Own.cells (j := 0) h hm (by decide) rfl
  have y1 := Own.cells (j := 1) h hm (by decide) rfl
  refine ⟨g, 0, rfl, (Array.getElem?_eq_some_iff.1 hh).1, ?_, ?_⟩
  · rw [Nat.zero_add]; exact y0
  · rw [Nat.zero_add]; exact y1

set_option maxRecDepth 100000 in
set_option maxHeartbeats 4000000 in
theorem rseek_of (b key : ByteArray) (w : World) (PP : Calls Tryz.prog 7 #[.string b] w fun e w' => ∃ v, e = .returned (.tuple #[v, .int .i64 (parseP b).2]) ∧ Own elKeys w' w.heap.size 53 v (parseP b).1 ∧ Below w.heap.size w w')
    (hn : (parseP b).1.length ≤ 1000000) (hok : okP (parseP b).1) (hkey : key.size < 9223372036854775808) :
    Calls Tryz.prog 8 #[.string b, .string key] w fun e w' => e = .returned (.tuple #[.string (seekP b key).1, .string (seekP b key).2.1, .int .i64 (seekP b key).2.2]) ∧ Below w.heap.size w w' := by
  obtain ⟨L, er, hp⟩ : ∃ L er, parseP b = (L, er) := ⟨_, _, rfl⟩
  have her : er = 0 ∨ er = 31 := by rcases parse_ok hp with ⟨h, _⟩ | ⟨h, _⟩ <;> simp [h]
  obtain ⟨ra, rb, re, hr⟩ : ∃ ra rb re, seekP b key = (ra, rb, re) := ⟨_, _, _, rfl⟩
  have Hr : Hid ((ra, rb, re) = if er = 0 then seekL L key else (ByteArray.empty, ByteArray.empty, er)) := Lib.hid (by rw [← hr]; unfold seekP; rw [hp])
  rw [hr]
  rw [hp] at PP hn hok
  dsimp only at PP hn hok ⊢
  have HP := Lib.hid PP
  have Hok := Lib.hid hok
  clear PP hok hp hr
  rcases her with rfl | rfl
  · go_enter Tryz.func8, Tryz.ntmps8
    go_wp2_with fail
    refine HP.out.mono ?_
    rintro e w1 ⟨v, rfl, ho, hb⟩
    obtain ⟨A, c, rfl⟩ := ho.slice
    have HK := Lib.hid ho.keysAt
    have HB1 := Lib.hid hb
    obtain ⟨n, hnn⟩ : ∃ n, L.length = n := ⟨_, rfl⟩
    rw [hnn] at HK hn ⊢
    have Hlen := Lib.hid hnn
    clear ho hb HP hnn
    go_wp2_with fail
    go_loopw [9] (fun i wr => ∃ k : Nat, k ≤ n ∧ i = .int .i64 (k : Int) ∧ Hid (∀ (j : Nat) (m : KV), j < k → L[j]? = some m → cmpT m.1 key < 0) ∧ Hid (Below w1.heap.size w1 wr)) (fun i _ => n - (intOf i).toNat)
    case atStart => exact ⟨0, Nat.zero_le _, rfl, Lib.hid (fun j m hj => by omega), Lib.hid (Below.refl _ _)⟩
    case round =>
      obtain ⟨k, hk, rfl, Hf, HB⟩ := hrel
      by_cases hl : k < n
      · have hkL : k < L.length := by rw [Hlen.out]; exact hl
        have hm : L[k]? = some L[k] := List.getElem?_eq_getElem hkL
        have om := Hok.out L[k] (List.getElem_mem hkL)
        generalize L[k] = mm at *
        obtain ⟨mk, mv⟩ := mm
        dsimp only at om
        obtain ⟨g, off, hA, hg, x0, x1⟩ := (HK.out.below HB.out).at_ k _ hm
        subst hA
        dsimp only at x0 x1
        have CC := fun W => Lib.hid (rcompare9 mk key W (by omega) (by omega))
        have g1 : (k : Int) < (n : Int) := by omega
        have g2 : (0 : Int) ≤ (k : Int) := by omega
        by_cases he : cmpT mk key < 0
        · have e1 : ¬ (0 : Int) ≤ cmpT mk key := by omega
          have e2 : decide ((0 : Int) ≤ cmpT mk key) = false := decide_eq_false e1
          have Hf2 : Hid (∀ (j : Nat) (m : KV), j < k + 1 → L[j]? = some m → cmpT m.1 key < 0) := Lib.hid (by
            intro j m hj hjm
            by_cases e : j = k
            · subst e
              rw [hm] at hjm
              cases hjm
              exact he
            · exact Hf.out j m (by omega) hjm)
          generalize cmpT mk key = cm at *
          clear he hm hkL om Hf
          go_wp2_with fail
          refine (CC _).out.mono ?_
          rintro e w5 ⟨rfl, j, rfl⟩
          have HB5 := Lib.hid (HB.out.trans ((Tn.refl w1.heap.size (fun _ => false) wr).drewN j |>.below HB.out.size))
          go_wp2_with fail
          go_roundw
          case rel => exact ⟨k + 1, by omega, by go_num, Hf2, HB5⟩
          case measure => simp [intOf]; omega
        · have e1 : (0 : Int) ≤ cmpT mk key := by omega
          have e2 : decide ((0 : Int) ≤ cmpT mk key) = true := decide_eq_true e1
          obtain ⟨rfl, rfl, rfl⟩ : ra = mk ∧ rb = mv ∧ re = 0 := by
            have h1 := Hr.out
            rw [if_pos (by trivial), seek_at hm (fun j m hj hjm => Hf.out j m hj hjm) he] at h1
            simp only [Prod.mk.injEq] at h1
            exact h1
          generalize cmpT ra key = cm at *
          clear he hm hkL om Hf
          go_wp2_with fail
          refine (CC _).out.mono ?_
          rintro e w5 ⟨rfl, j, rfl⟩
          have HB5 := Lib.hid (HB1.out.trans ((HB.out.trans ((Tn.refl w1.heap.size (fun _ => false) wr).drewN j |>.below HB.out.size)).mono HB1.out.size))
          have z0 : (wr.drewN j).cell? ⟨g, off + k * 2, none⟩ = some (.string ra) := x0
          have z1 : (wr.drewN j).cell? ⟨g, off + k * 2 + 1, none⟩ = some (.string rb) := x1
          clear x0 x1
          generalize wr.drewN j = w6 at *
          go_upto_region 8 with fail
          go_region
          all_goals
            go_wp2_with fail
            go_ret3
            exact ⟨rfl, below_drewN HB5.out _⟩
      · have g1 : ¬ (k : Int) < (n : Int) := by omega
        obtain ⟨rfl, rfl, rfl⟩ : ra = ByteArray.empty ∧ rb = ByteArray.empty ∧ re = 22 := by
          have h1 := Hr.out
          rw [if_pos (by trivial), seek_none (fun m hm => by
            obtain ⟨j, hj⟩ := List.mem_iff_getElem?.1 hm
            have hjl := (List.getElem?_eq_some_iff.1 hj).1
            exact Hf.out j m (by rw [Hlen.out] at hjl; omega) hj)] at h1
          simp only [Prod.mk.injEq] at h1
          exact h1
        clear Hf
        go_wp2_with fail
        go_ret3
        exact ⟨rfl, HB1.out.trans (HB.out.mono HB1.out.size)⟩
  · obtain ⟨rfl, rfl, rfl⟩ : ra = ByteArray.empty ∧ rb = ByteArray.empty ∧ re = 31 := by
      have h1 := Hr.out
      rw [if_neg (by decide)] at h1
      simp only [Prod.mk.injEq] at h1
      exact h1
    go_enter Tryz.func8, Tryz.ntmps8
    go_wp2_with fail
    refine HP.out.mono ?_
    rintro e w1 ⟨v, rfl, ho, hb⟩
    have HB := Lib.hid hb
    clear ho hb HP
    go_wp2_with fail
    go_ret3
    exact ⟨rfl, HB.out⟩
end Go.Proofs.YtmoffcgbjmeiaaaGreatDoor

namespace Go.Proofs.YtmoffcgbjmeiaaaGreatDoor
open Go.RowKit

set_option maxRecDepth 100000 in
set_option maxHeartbeats 1000000 in
theorem seek1_any (mk mv key : ByteArray) (w : World) :
    Calls Tryz.prog 35 #[.agg #[.string mk, .string mv], .string key] w fun e w' => e = .returned (.int .i64 (cmpT mk key)) ∧ Below w.heap.size w w' := by
  have C := fun W => Lib.hid (compare_T mk key W)
  go_enter Tryz.func35, Tryz.ntmps35
  go_wp2_with fail
  have hb := below_alloc (Below.refl w.heap.size w) (Nat.le_refl _) (.cells #[.string mk, .string mv] 53)
  refine (C _).out.mono ?_
  rintro e w1 ⟨rfl, rfl⟩
  go_wp2_with fail
  go_ret
  exact ⟨rfl, hb⟩

/-- Where a key stands among rising ones. -/
def Place (L : List KV) (key : ByteArray) (pl : Nat) : Prop := pl ≤ L.length ∧ (∀ (j : Nat) (m : KV), j < pl → L[j]? = some m → cmpT m.1 key < 0) ∧ ∀ m, L[pl]? = some m → ¬ cmpT m.1 key < 0
/-- A search has come to the place. -/
def SeekAt (L : List KV) (key : ByteArray) (e : Ending) : Prop := ∃ (pl : Nat) (f : Bool), e = .returned (.tuple #[.int .i64 (pl : Int), .bool f]) ∧ Place L key pl
theorem seek_place {L : List KV} {key : ByteArray} {pl : Nat} (h : Place L key pl) : seekL L key = match L[pl]? with
    | some m => (m.1, m.2, 0)
    | none => (ByteArray.empty, ByteArray.empty, 22) := by
  cases hm : L[pl]? with
  | some m => exact seek_at hm h.2.1 (h.2.2 m hm)
  | none =>
    refine seek_none fun m hm' => ?_
    obtain ⟨j, hj⟩ := List.mem_iff_getElem?.1 hm'
    have h1 := (List.getElem?_eq_some_iff.1 hj).1
    have h2 := List.getElem?_eq_none_iff.1 hm
    exact h.2.1 j m (by omega) hj

set_option maxRecDepth 100000 in
set_option maxHeartbeats 4000000 in
theorem search_any (A : Option Addr) (n c : Nat) (L : List KV) (key : ByteArray) (w : World) (h : KeysAt w A n L) (hr : risesK L = true) (hn : n ≤ 1000000) :
    Calls Tryz.prog 34 #[.slice A n c, .string key, .func (.func 35) #[] #[]] w fun e w' => SeekAt L key e ∧ Below w.heap.size w w' := by
  have HK := Lib.hid h
  have Hlen := Lib.hid h.len
  have Hr := Lib.hid hr
  have C := fun mk mv W => Lib.hid (seek1_any mk mv key W)
  clear h hr
  go_enter Tryz.func34, Tryz.ntmps34
  go_wp2_with fail
  go_loopw [9, 10] (fun x y wr => ∃ i j : Nat, x = .int .i64 (i : Int) ∧ y = .int .i64 (j : Int) ∧ i ≤ j ∧ j ≤ n ∧ Hid (∀ (t : Nat) (m : KV), t < i → L[t]? = some m → cmpT m.1 key < 0) ∧ Hid (∀ (t : Nat) (m : KV), j ≤ t → L[t]? = some m → 0 ≤ cmpT m.1 key) ∧ Hid (Below w.heap.size w wr)) (fun x y _ => (intOf y - intOf x).toNat)
  case atStart => exact ⟨0, n, rfl, rfl, by omega, by omega, Lib.hid (fun t m ht => by omega), Lib.hid (fun t m ht hm => by
    have h1 := (List.getElem?_eq_some_iff.1 hm).1
    have := Hlen.out
    omega), Lib.hid (Below.refl _ _)⟩
  case round =>
    obtain ⟨i, j, rfl, rfl, hij, hjn, HI, HJ, HB⟩ := hrel
    by_cases hl : i < j
    · have g1 : (i : Int) < (j : Int) := by omega
      obtain ⟨d, hd⟩ : ∃ d, (i + j) / 2 = d := ⟨_, rfl⟩
      have hdn : d < n := by omega
      have hdL : d < L.length := by have := Hlen.out; omega
      have hm : L[d]? = some L[d] := List.getElem?_eq_getElem hdL
      generalize L[d] = mm at *
      obtain ⟨mk, mv⟩ := mm
      obtain ⟨g, off, hA, hg, x0, x1⟩ := (HK.out.below HB.out).at_ d _ hm
      subst hA
      dsimp only at x0 x1
      have g2 : ((i : Int) + (j : Int)) / 2 = (d : Int) := by omega
      have g3 : (d : Int) < (n : Int) := by omega
      have g4 : (0 : Int) ≤ (d : Int) := by omega
      have Hm := Lib.hid hm
      have Hd := Lib.hid hd
      clear hm hdL hd
      have Cd := Lib.hid (seek1_any mk mv key wr)
      by_cases he : cmpT mk key < 0
      · have e1 : decide (cmpT mk key < 0) = true := decide_eq_true he
        have HI2 : Hid (∀ (t : Nat) (m : KV), t < d + 1 → L[t]? = some m → cmpT m.1 key < 0) := Lib.hid (by
          intro t m ht hm
          rcases Nat.lt_or_ge t d with h | h
          · exact cmpT_trans (rises_get Hr.out h hm Hm.out) he
          · obtain rfl : t = d := by omega
            rw [Hm.out] at hm
            cases hm
            exact he)
        generalize cmpT mk key = cm at *
        go_wp2_with fail
        refine Cd.out.mono ?_
        rintro e w2 ⟨rfl, hb⟩
        have HB2 := Lib.hid (HB.out.trans (hb.mono HB.out.size))
        clear hb
        go_wp2_with fail
        go_roundw
        case rel => exact ⟨d + 1, j, by go_num, rfl, by omega, hjn, HI2, HJ, HB2⟩
        case measure => simp [intOf]; omega
      · have e1 : decide (cmpT mk key < 0) = false := decide_eq_false he
        have HJ2 : Hid (∀ (t : Nat) (m : KV), d ≤ t → L[t]? = some m → 0 ≤ cmpT m.1 key) := Lib.hid (by
          intro t m ht hm
          refine Int.not_lt.1 fun hc => ?_
          rcases Nat.lt_or_ge d t with h | h
          · exact he (cmpT_trans (rises_get Hr.out h Hm.out hm) hc)
          · obtain rfl : t = d := by omega
            rw [Hm.out] at hm
            cases hm
            exact he hc)
        generalize cmpT mk key = cm at *
        go_wp2_with fail
        refine Cd.out.mono ?_
        rintro e w2 ⟨rfl, hb⟩
        have HB2 := Lib.hid (HB.out.trans (hb.mono HB.out.size))
        clear hb
        go_wp2_with fail
        go_roundw
        case rel => exact ⟨i, d, rfl, by go_num, by omega, by omega, HI, HJ2, HB2⟩
        case measure => simp [intOf]; omega
    · obtain rfl : i = j := by omega
      have hpl : Hid (Place L key i) := Lib.hid ⟨by have := Hlen.out; omega, HI.out, fun m hm => Int.not_lt.2 (HJ.out i m (Nat.le_refl _) hm)⟩
      have g1 : ¬ (i : Int) < (i : Int) := by omega
      clear HI HJ
      by_cases hin : i < n
      · have hdL : i < L.length := by have := Hlen.out; omega
        have hm : L[i]? = some L[i] := List.getElem?_eq_getElem hdL
        generalize L[i] = mm at *
        obtain ⟨mk, mv⟩ := mm
        obtain ⟨g, off, hA, hg, x0, x1⟩ := (HK.out.below HB.out).at_ i _ hm
        subst hA
        dsimp only at x0 x1
        have g3 : (i : Int) < (n : Int) := by omega
        have g4 : (0 : Int) ≤ (i : Int) := by omega
        have Cd := Lib.hid (seek1_any mk mv key wr)
        clear hm hdL
        generalize cmpT mk key = cm at *
        go_wp2_with fail
        refine Cd.out.mono ?_
        rintro e w2 ⟨rfl, hb⟩
        have HB2 := Lib.hid (HB.out.trans (hb.mono HB.out.size))
        clear hb
        go_wp2_with fail
        go_ret2
        exact ⟨⟨i, _, rfl, hpl.out⟩, HB2.out⟩
      · have g3 : ¬ (i : Int) < (n : Int) := by omega
        have g5 : decide ((i : Int) < (n : Int)) = false := decide_eq_false g3
        go_wp2_with fail
        go_ret2
        exact ⟨⟨i, _, rfl, hpl.out⟩, HB.out⟩

set_option maxRecDepth 100000 in
set_option maxHeartbeats 4000000 in
theorem seek_any (b key : ByteArray) (w : World) (hs : b.size ≤ 1000000) (hT : LaidB w) :
    Calls Tryz.prog 12 #[.string b, .string key] w fun e w' => e = .returned (.tuple #[.string (seekP b key).1, .string (seekP b key).2.1, .int .i64 (seekP b key).2.2]) ∧ Below w.heap.size w w' := by
  obtain ⟨L, er, hp⟩ : ∃ L er, parseP b = (L, er) := ⟨_, _, rfl⟩
  have PP := parse_any b w hs hT
  have her := parse_ok hp
  obtain ⟨ra, rb, re, hr⟩ : ∃ ra rb re, seekP b key = (ra, rb, re) := ⟨_, _, _, rfl⟩
  have Hr : Hid ((ra, rb, re) = if er = 0 then seekL L key else (ByteArray.empty, ByteArray.empty, er)) := Lib.hid (by rw [← hr]; unfold seekP; rw [hp])
  rw [hr]
  rw [hp] at PP
  dsimp only at PP ⊢
  have HP := Lib.hid PP
  clear PP hp hr hT
  rcases her with ⟨rfl, hbd⟩ | ⟨rfl, rfl⟩
  · obtain ⟨k1, k2, k3, k4⟩ := buildP_ok hbd
    have hcnt := body_count L 0 []
    have hlen8 := blkL_length L
    have hLn : L.length ≤ 1000000 := by omega
    clear k2 k3 k4 hcnt hlen8 hbd
    go_enter Tryz.func12, Tryz.ntmps12
    go_wp2_with fail
    refine HP.out.mono ?_
    rintro e w1 ⟨v, rfl, ho, hb⟩
    obtain ⟨A, c, rfl⟩ := ho.slice
    have HK := Lib.hid ho.keysAt
    have HB1 := Lib.hid hb
    have CS := Lib.hid (search_any A L.length c L key w1 ho.keysAt k1 hLn)
    obtain ⟨n, hnn⟩ : ∃ n, L.length = n := ⟨_, rfl⟩
    rw [hnn] at HK CS ⊢
    have Hlen := Lib.hid hnn
    clear ho hb HP hnn k1 hLn
    go_wp2_with fail
    refine CS.out.mono ?_
    rintro e w2 ⟨⟨pl, f, rfl, hpl⟩, hb2⟩
    have hsk := Hr.out
    rw [if_pos (by trivial), seek_place hpl] at hsk
    have HB2 := Lib.hid (HB1.out.trans (hb2.mono HB1.out.size))
    have HK2 := Lib.hid (HK.out.below hb2)
    have hpn : pl ≤ n := by have := hpl.1; rw [Hlen.out] at this; exact this
    by_cases hl : pl < n
    · have hdL : pl < L.length := by have := Hlen.out; omega
      have hm : L[pl]? = some L[pl] := List.getElem?_eq_getElem hdL
      generalize L[pl] = mm at *
      obtain ⟨mk, mv⟩ := mm
      rw [hm] at hsk
      simp only [Prod.mk.injEq] at hsk
      obtain ⟨rfl, rfl, rfl⟩ := hsk
      obtain ⟨g, off, hA, hg, x0, x1⟩ := HK2.out.at_ pl _ hm
      subst hA
      dsimp only at x0 x1
      have g3 : (pl : Int) < (n : Int) := by omega
      have g4 : (0 : Int) ≤ (pl : Int) := by omega
      have g5 : ((pl : Int) == (n : Int)) = false := by rw [beq_eq_false_iff_ne]; omega
      clear hm hdL hpl hb2 Hr CS
      go_wp2_with fail
      go_quiet (fail)
      go_wp2_with fail
      go_ret3
      exact ⟨rfl, below_drewN HB2.out _⟩
    · obtain rfl : pl = n := by omega
      rw [List.getElem?_eq_none (by have := Hlen.out; omega)] at hsk
      simp only [Prod.mk.injEq] at hsk
      obtain ⟨rfl, rfl, rfl⟩ := hsk
      have g5 : ((pl : Int) == (pl : Int)) = true := by rw [beq_iff_eq]
      clear hpl hb2 Hr CS
      go_wp2_with fail
      go_ret3
      exact ⟨rfl, HB2.out⟩
  · obtain ⟨rfl, rfl, rfl⟩ : ra = ByteArray.empty ∧ rb = ByteArray.empty ∧ re = 31 := by
      have h1 := Hr.out
      rw [if_neg (by decide)] at h1
      simp only [Prod.mk.injEq] at h1
      exact h1
    go_enter Tryz.func12, Tryz.ntmps12
    go_wp2_with fail
    refine HP.out.mono ?_
    rintro e w1 ⟨v, rfl, ho, hb⟩
    have HB := Lib.hid hb
    clear ho hb HP
    go_wp2_with fail
    go_ret3
    exact ⟨rfl, HB.out⟩
end Go.Proofs.YtmoffcgbjmeiaaaGreatDoor

namespace Go.Proofs.YtmoffcgbjmeiaaaGreatDoor
open Go.RowKit Go.WideShapes Go.ChangeShapes Go.Deep

/-- n structs of two whole numbers and two texts stand at A. -/
structure SOpsIn (w : World) (A : Option Addr) (n : Nat) (K X : Nat → Int) (Y D : Nat → ByteArray) : Prop where
  max : n ≤ 9223372036854775807
  some : 0 < n → ∃ b off, A = .some ⟨b, off, none⟩ ∧ b < w.heap.size ∧ ∀ j, j < n → w.cell? ⟨b, off + j * 4, none⟩ = .some (.int .i64 (K j)) ∧ w.cell? ⟨b, off + j * 4 + 1, none⟩ = .some (.int .i64 (X j)) ∧ w.cell? ⟨b, off + j * 4 + 2, none⟩ = .some (.string (Y j)) ∧ w.cell? ⟨b, off + j * 4 + 3, none⟩ = .some (.string (D j))
  wf : ∀ j, j < n → (Lit.int .i64 (X j)).wf = true ∧ (Y j).size ≤ 140737488351232 ∧ (D j).size ≤ 140737488351232

/-- One of them, in every world from there on. -/
theorem SOpsIn.at {w : World} {A : Option Addr} {n : Nat} {K X : Nat → Int} {Y D : Nat → ByteArray} (h : SOpsIn w A n K X Y D) {k : Nat} (hk : k < n) :
    ∃ b off, A = .some ⟨b, off, none⟩ ∧ (∀ W, Below w.heap.size w W → W.cell? ⟨b, off + k * 4, none⟩ = .some (.int .i64 (K k)) ∧ W.cell? ⟨b, off + k * 4 + 1, none⟩ = .some (.int .i64 (X k)) ∧ W.cell? ⟨b, off + k * 4 + 2, none⟩ = .some (.string (Y k)) ∧ W.cell? ⟨b, off + k * 4 + 3, none⟩ = .some (.string (D k))) := by
  obtain ⟨b, off, e, hlt, hc⟩ := h.some (by omega)
  obtain ⟨c0, c1, c2, c3⟩ := hc k hk
  exact ⟨b, off, e, fun W hb => ⟨(hb.cell (p := ⟨b, off + k * 4, none⟩) hlt).trans c0, (hb.cell (p := ⟨b, off + k * 4 + 1, none⟩) hlt).trans c1, (hb.cell (p := ⟨b, off + k * 4 + 2, none⟩) hlt).trans c2, (hb.cell (p := ⟨b, off + k * 4 + 3, none⟩) hlt).trans c3⟩⟩

theorem weights_all {H : Type} {P : Program} {e : TypeId} {n : Nat} {d : DataW H} (hn : n ∈ d.weights P e) : ∀ {l : List (DataW H)}, d ∈ l → n ∈ DataW.weightsAll P e l
  | x :: r, h => by
    rw [DataW.weightsAll, List.mem_append]
    rcases List.mem_cons.1 h with rfl | h
    · exact Or.inl hn
    · exact Or.inr (weights_all hn h)
section
variable {H : Type} {enc : TypeId × Value → H} {P : Program} {w : World} {t e : TypeId} {A : Option Addr} {n cp : Nat} {d : DataW H} {p : List MemPlace}
theorem sops_view {f0 f1 f2 f3 : Field} (ht : P.underlying t = some (.slice e)) (he : P.underlying e = some (.struct #[f0, f1, f2, f3])) (hc : P.cellsOf e = 4) (o0 : f0.offset = 0) (o1 : f1.offset = 1) (o2 : f2.offset = 2) (o3 : f3.offset = 3) (c0 : P.cellsOf f0.type = 1) (c1 : P.cellsOf f1.type = 1) (c2 : P.cellsOf f2.type = 1) (c3 : P.cellsOf f3.type = 1)
    (u0 : P.underlying f0.type = some (.int .i64)) (u1 : P.underlying f1.type = some (.int .i64)) (u2 : P.underlying f2.type = some .string) (u3 : P.underlying f3.type = some .string)
    (h : DataW.Trod enc P w 0 (fun _ => true) true t (.slice A n cp) d p) (hwt : ∀ x ∈ d.weights P t, x ≤ 140737488351232) : ∃ K X Y D, SOpsIn w A n K X Y D := by
  obtain ⟨fuel, hf⟩ := h
  rcases open_slice ht hf with ⟨hcs, _⟩ | ⟨a, len', cap', m, k, D, Pl, hcs, _, hl, hm, hmm, hdx, hx⟩
  · simp [Value.cells] at hcs
    obtain ⟨rfl, rfl, rfl⟩ := hcs
    exact ⟨fun _ => 0, fun _ => 0, fun _ => ByteArray.empty, fun _ => ByteArray.empty, by decide, fun h => absurd h (by decide), fun j h => absurd h (by omega)⟩
  · simp [Value.cells] at hcs
    obtain ⟨rfl, rfl, rfl⟩ := hcs
    rw [if_pos rfl] at hmm
    unfold maxLen at hm
    have each : ∀ j, j < n → ∃ q : Int × Int × ByteArray × ByteArray, w.cell? (a.add (j * 4)) = some (.int .i64 q.1) ∧ w.cell? (a.add (j * 4 + 1)) = some (.int .i64 q.2.1) ∧ w.cell? (a.add (j * 4 + 2)) = some (.string q.2.2.1) ∧ w.cell? (a.add (j * 4 + 3)) = some (.string q.2.2.2) ∧ (Lit.int .i64 q.2.1).wf = true ∧ q.2.2.1.size ≤ 140737488351232 ∧ q.2.2.2.size ≤ 140737488351232 := by
      intro j hj
      obtain ⟨cs', h1, h2⟩ := hx j (by omega)
      have hwj : ∀ x ∈ (D j).weights P e, x ≤ 140737488351232 := fun x hxm => hwt x (by
        rw [show d = _ from congrArg Prod.fst hdx]
        simp only [DataW.weights, ht]
        exact List.mem_cons_of_mem _ (List.mem_append_left _ (weights_all hxm (List.mem_map.2 ⟨j, List.mem_range.2 hj, rfl⟩))))
      rw [hc] at h1
      obtain ⟨_, hlen, hcell⟩ := World.cells?_some h1
      obtain ⟨y0, y1, y2, y3, g, hxe, _, g0, g1, g2, g3⟩ := Joins.trod_struct4 he h2
      have hDj : D j = .agg [y0.1, y1.1, y2.1, y3.1] := congrArg Prod.fst hxe
      rw [hDj, DataW.weights, he] at hwj
      match cs', hlen, hcell, g0, g1, g2, g3 with
      | [v0, v1, v2, v3], _, hcell, g0, g1, g2, g3 =>
        obtain ⟨k0, e0, _, _⟩ := DataW.trod_int u0 g0
        obtain ⟨k1, e1, _, w1⟩ := DataW.trod_int u1 g1
        obtain ⟨k2, e2, d2, w2⟩ := DataW.trod_string u2 g2
        obtain ⟨k3, e3, d3, w3⟩ := DataW.trod_string u3 g3
        simp [o0, o1, o2, o3, c0, c1, c2, c3] at e0 e1 e2 e3
        subst e0 e1 e2 e3
        have z2 := hwj k2.data.toList.length (by rw [d2]; simp [DataW.weightsEach, DataW.weights])
        have z3 := hwj k3.data.toList.length (by rw [d3]; simp [DataW.weightsEach, DataW.weights])
        rw [show k2.data.toList.length = k2.size from rfl] at z2
        rw [show k3.data.toList.length = k3.size from rfl] at z3
        refine ⟨(k0, k1, k2, k3), ?_, ?_, ?_, ?_, w1, by omega, by omega⟩
        · have := hcell 0 (by simp)
          simpa [Go.Deep.add_add] using this
        · have := hcell 1 (by simp)
          simpa [Go.Deep.add_add] using this
        · have := hcell 2 (by simp)
          simpa [Go.Deep.add_add] using this
        · have := hcell 3 (by simp)
          simpa [Go.Deep.add_add] using this
    obtain ⟨q, hq⟩ := choose_lt each
    refine ⟨fun j => (q j).1, fun j => (q j).2.1, fun j => (q j).2.2.1, fun j => (q j).2.2.2, by omega, fun hn => ?_, fun j hj => ⟨(hq j hj).2.2.2.2.1, (hq j hj).2.2.2.2.2.1, (hq j hj).2.2.2.2.2.2⟩⟩
    obtain ⟨b, off, spot⟩ := a
    have hspot : spot = none := by simpa [Addr.add] using World.cell?_spot (hq 0 hn).1
    subst hspot
    refine ⟨b, off, rfl, ?_, fun j hj => ?_⟩
    · have := (hq 0 hn).1
      rw [Go.WideShapes.add_plain] at this
      exact block_lt this
    · have := hq j hj
      rw [Go.WideShapes.add_plain, Go.WideShapes.add_plain, Go.WideShapes.add_plain, Go.WideShapes.add_plain, ← Nat.add_assoc, ← Nat.add_assoc, ← Nat.add_assoc] at this
      exact ⟨this.1, this.2.1, this.2.2.1, this.2.2.2.1⟩
end
end Go.Proofs.YtmoffcgbjmeiaaaGreatDoor

namespace Go.Proofs.YtmoffcgbjmeiaaaGreatDoor
open Go.RowKit Go.WideShapes Go.ChangeShapes Go.Deep

/-- The pairs L stand at A; nothing of them is longer than what can be read. -/
structure PairsIn (w : World) (A : Option Addr) (n : Nat) (L : List KV) : Prop where
  at_ : KeysAt w A n L
  max : n ≤ 9223372036854775807
  size : ∀ m ∈ L, m.1.size ≤ 140737488351232 ∧ m.2.size ≤ 140737488351232

section
variable {H : Type} {enc : TypeId × Value → H} {P : Program} {w : World} {t e : TypeId} {A : Option Addr} {n cp : Nat} {d : DataW H} {p : List MemPlace}
theorem trod_array2 {base : Nat} {spare : Nat → Bool} {held : Bool} {t e : TypeId} {fuel : Nat} {c0 c1 : Value} {x : DataW H × List MemPlace} (ht : P.underlying t = some (.array 2 e)) (hce : P.cellsOf e = 1)
    (h : DataW.trod enc P w base spare held fuel t [c0, c1] = some x) :
    ∃ y0 y1 n, x = (.agg [y0.1, y1.1], y0.2 ++ y1.2) ∧ DataW.trod enc P w base spare held n e [c0] = some y0 ∧ DataW.trod enc P w base spare held n e [c1] = some y1 := by
  cases fuel with
  | zero => simp [DataW.trod] at h
  | succ n =>
    unfold DataW.trod at h
    rw [ht] at h
    have r2 : List.range 2 = [0, 1] := rfl
    simp [r2, hce] at h
    obtain ⟨_, h⟩ := h
    cases h0 : DataW.trod enc P w base spare held n e [c0] with
    | none => simp [h0] at h
    | some y0 =>
      cases h1 : DataW.trod enc P w base spare held n e [c1] with
      | none => simp [h0, h1] at h
      | some y1 =>
        simp [h0, h1] at h
        exact ⟨y0, y1, n, h.symm, h0, h1⟩
theorem pairs_view {f : TypeId} (ht : P.underlying t = some (.slice e)) (he : P.underlying e = some (.array 2 f)) (hf : P.underlying f = some .string) (hc : P.cellsOf e = 2) (hcf : P.cellsOf f = 1)
    (h : DataW.Trod enc P w 0 (fun _ => true) true t (.slice A n cp) d p) (hwt : ∀ x ∈ d.weights P t, x ≤ 140737488351232) : ∃ L, PairsIn w A n L := by
  obtain ⟨fuel, hfu⟩ := h
  rcases open_slice ht hfu with ⟨hcs, _⟩ | ⟨a, len', cap', m, k, D, Pl, hcs, _, hl, hm, hmm, hdx, hx⟩
  · simp [Value.cells] at hcs
    obtain ⟨rfl, rfl, rfl⟩ := hcs
    exact ⟨[], ⟨rfl, fun i m hm => by simp at hm⟩, by decide, fun m hm => by cases hm⟩
  · simp [Value.cells] at hcs
    obtain ⟨rfl, rfl, rfl⟩ := hcs
    rw [if_pos rfl] at hmm
    have hm' := hm
    unfold maxLen at hm
    have each : ∀ j, j < n → ∃ q : KV, w.cell? (a.add (j * 2)) = some (.string q.1) ∧ w.cell? (a.add (j * 2 + 1)) = some (.string q.2) ∧ q.1.size ≤ 140737488351232 ∧ q.2.size ≤ 140737488351232 := by
      intro j hj
      obtain ⟨cs', h1, h2⟩ := hx j (by omega)
      have hwj : ∀ x ∈ (D j).weights P e, x ≤ 140737488351232 := fun x hxm => hwt x (by
        rw [show d = _ from congrArg Prod.fst hdx]
        simp only [DataW.weights, ht]
        exact List.mem_cons_of_mem _ (List.mem_append_left _ (weights_all hxm (List.mem_map.2 ⟨j, List.mem_range.2 hj, rfl⟩))))
      rw [hc] at h1
      obtain ⟨_, hlen, hcell⟩ := World.cells?_some h1
      match cs', hlen, hcell, h2 with
      | [v0, v1], _, hcell, h2 =>
        obtain ⟨y0, y1, g, hxe, g0, g1⟩ := trod_array2 he hcf h2
        have hDj : D j = .agg [y0.1, y1.1] := congrArg Prod.fst hxe
        rw [hDj, DataW.weights, he] at hwj
        obtain ⟨k0, e0, d0, w0⟩ := DataW.trod_string hf g0
        obtain ⟨k1, e1, d1, w1⟩ := DataW.trod_string hf g1
        simp at e0 e1
        subst e0 e1
        have z0 := hwj k0.data.toList.length (by rw [d0]; simp [DataW.weightsAll, DataW.weights])
        have z1 := hwj k1.data.toList.length (by rw [d1]; simp [DataW.weightsAll, DataW.weights])
        rw [show k0.data.toList.length = k0.size from rfl] at z0
        rw [show k1.data.toList.length = k1.size from rfl] at z1
        refine ⟨(k0, k1), ?_, ?_, z0, z1⟩
        · have := hcell 0 (by simp)
          simpa [Go.Deep.add_add] using this
        · have := hcell 1 (by simp)
          simpa [Go.Deep.add_add] using this
    obtain ⟨q, hq⟩ := choose_lt each
    have hget : ∀ (i : Nat) (m : KV), ((List.range n).map q)[i]? = some m → i < n ∧ m = q i := by
      intro i m hm
      have hi : i < n := by
        have := (List.getElem?_eq_some_iff.1 hm).1
        simpa using this
      rw [List.getElem?_map, List.getElem?_range hi] at hm
      cases hm
      exact ⟨hi, rfl⟩
    refine ⟨(List.range n).map q, ⟨by simp, fun i m hm => ?_⟩, by omega, fun m hm => ?_⟩
    · obtain ⟨hi, rfl⟩ := hget i m hm
      obtain ⟨b, off, spot⟩ := a
      have hspot : spot = none := by simpa [Addr.add] using World.cell?_spot (hq 0 (by omega)).1
      subst hspot
      have := hq i hi
      rw [Go.WideShapes.add_plain, Go.WideShapes.add_plain, ← Nat.add_assoc] at this
      exact ⟨b, off, rfl, block_lt this.1, this.1, this.2.1⟩
    · obtain ⟨i, hi⟩ := List.mem_iff_getElem?.1 hm
      obtain ⟨hj, rfl⟩ := hget i m hi
      exact (hq i hj).2.2
end
end Go.Proofs.YtmoffcgbjmeiaaaGreatDoor

namespace Go.Proofs.YtmoffcgbjmeiaaaGreatDoor
open Go.RowKit

/-- What Light counts. -/
def wtK : List KV → Nat
  | [] => 0
  | m :: r => 20 + m.1.size + m.2.size + wtK r
theorem wtK_snoc (l : List KV) (m : KV) : wtK (l ++ [m]) = wtK l + (20 + m.1.size + m.2.size) := by
  induction l with
  | nil => simp [wtK]
  | cons x r ih => rw [List.cons_append, wtK, wtK, ih]; omega
theorem wtK_append (l r : List KV) : wtK (l ++ r) = wtK l + wtK r := by
  induction l with
  | nil => simp [wtK]
  | cons x l ih => rw [List.cons_append, wtK, wtK, ih]; omega
theorem wtK_take (L : List KV) (k : Nat) : wtK (L.take k) ≤ wtK L := by
  have := wtK_append (L.take k) (L.drop k)
  rw [List.take_append_drop] at this
  omega
theorem wtK_all : ∀ (L : List KV) (m : KV), m ∈ L → 20 + m.1.size + m.2.size ≤ wtK L
  | x :: r, m, h => by
    rw [wtK]
    rcases List.mem_cons.1 h with rfl | h
    · omega
    · have := wtK_all r m h; omega
theorem wtK_len : ∀ (L : List KV), 20 * L.length ≤ wtK L
  | [] => Nat.zero_le _
  | x :: r => by have := wtK_len r; rw [wtK, List.length_cons]; omega
theorem sum_wt : ∀ (L : List KV), sumK L ≤ wtK L
  | [] => Nat.zero_le _
  | x :: r => by have := sum_wt r; rw [wtK, sumK]; omega
/-- Light pairs are no longer than a block may be. -/
theorem light_short {L : List KV} (h : wtK L ≤ 60000) : longK L = false ∧ (blkL L).length ≤ 524288 ∧ okP L ∧ L.length ≤ 3000 := by
  have hl : longK L = false := by
    unfold longK
    rw [List.any_eq_false]
    intro m hm
    have := wtK_all L m hm
    simp
    omega
  have h1 := (blk_bounds hl).1
  have h2 := sum_wt L
  have h3 := wtK_len L
  exact ⟨hl, by omega, fun m hm => by have := wtK_all L m hm; omega, by omega⟩

set_option maxRecDepth 100000 in
set_option maxHeartbeats 4000000 in
theorem light_any (A : Option Addr) (n c : Nat) (L : List KV) (w : World) (h : PairsIn w A n L) :
    Calls Tryz.prog 4 #[.slice A n c] w fun e w' => e = .returned (.bool (decide (wtK L ≤ 60000))) ∧ Below w.heap.size w w' := by
  have HK := Lib.hid h.at_
  have Hlen := Lib.hid h.at_.len
  have Hz := Lib.hid h.size
  have hmax := h.max
  obtain ⟨r, hr⟩ : ∃ r, decide (wtK L ≤ 60000) = r := ⟨_, rfl⟩
  rw [hr]
  have Hr := Lib.hid hr
  clear h hr
  go_enter Tryz.func4, Tryz.ntmps4
  go_wp2_with fail
  go_loopw [3, 4] (fun x i wr => ∃ k t : Nat, k ≤ n ∧ t ≤ 300000000000000 ∧ i = .int .i64 (k : Int) ∧ x = .int .i64 (t : Int) ∧ Hid (t = wtK (L.take k)) ∧ Hid (Below w.heap.size w wr)) (fun _ i _ => n - (intOf i).toNat)
  case atStart => exact ⟨0, 0, by omega, by omega, rfl, rfl, Lib.hid rfl, Lib.hid (Below.refl _ _)⟩
  case round =>
    obtain ⟨k, t, hk, ht, rfl, rfl, Ht, HB⟩ := hrel
    by_cases hl : k < n
    · have g1 : (k : Int) < (n : Int) := by omega
      have g0 : (0 : Int) ≤ (k : Int) := by omega
      by_cases h6 : t ≤ 60000
      · have g2 : (t : Int) ≤ 60000 := by omega
        have g3 : decide ((t : Int) ≤ 60000) = true := decide_eq_true g2
        have hkL : k < L.length := by have := Hlen.out; omega
        have hm : L[k]? = some L[k] := List.getElem?_eq_getElem hkL
        have oz := Hz.out L[k] (List.getElem_mem hkL)
        generalize L[k] = mm at *
        obtain ⟨mk, mv⟩ := mm
        dsimp only at oz
        obtain ⟨g, off, hA, hg, x0, x1⟩ := (HK.out.below HB.out).at_ k _ hm
        subst hA
        dsimp only at x0 x1
        have hw : wtK (L.take (k + 1)) = wtK (L.take k) + (20 + mk.size + mv.size) := by rw [ctake_snoc hm, wtK_snoc]
        rw [← Ht.out] at hw
        have Hw := Lib.hid hw
        obtain ⟨oz1, oz2⟩ := oz
        clear hw hm hkL Ht
        go_wp2_with fail
        go_quiet (fail)
        go_wp2_with fail
        go_roundw
        case rel => exact ⟨k + 1, t + 20 + mk.size + mv.size, by omega, by omega, by go_num, by go_num, Lib.hid (by rw [Hw.out]; omega), Lib.hid (below_drewN HB.out _)⟩
        case measure => simp [intOf]; omega
      · have g2 : ¬ (t : Int) ≤ 60000 := by omega
        have g3 : decide ((t : Int) ≤ 60000) = false := decide_eq_false g2
        have hf : r = false := by
          rw [← Hr.out]
          refine decide_eq_false fun hc => ?_
          have := wtK_take L k
          have := Ht.out
          omega
        subst hf
        clear Hr Ht
        go_wp2_with fail
        go_ret
        exact ⟨rfl, HB.out⟩
    · have g1 : ¬ (k : Int) < (n : Int) := by omega
      have g4 : decide ((k : Int) < (n : Int)) = false := decide_eq_false g1
      have hf : r = decide ((t : Int) ≤ 60000) := by
        rw [← Hr.out, Ht.out, List.take_of_length_le (by have := Hlen.out; omega)]
        by_cases h : wtK L ≤ 60000
        · rw [decide_eq_true h, decide_eq_true (by omega)]
        · rw [decide_eq_false h, decide_eq_false (by omega)]
      subst hf
      clear Hr Ht
      go_wp2_with fail
      go_ret
      exact ⟨rfl, HB.out⟩

/-- The pairs of the first call. -/
def aliveL : List KV := [(⟨#[97, 98]⟩, ⟨#[49]⟩), (⟨#[97, 99]⟩, ⟨#[50]⟩)]
theorem alive_body : bodyL 0 [] aliveL = [0, 2, 1, 97, 98, 49, 1, 1, 1, 99, 50] := by
  have p0 := pv_last 0 (by decide)
  have p1 := pv_last 1 (by decide)
  have p2 := pv_last 2 (by decide)
  have c0 : comI 0 [] (bl aliveL[0].1) = 0 := by decide +kernel
  have c1 : comI 1 (bl aliveL[0].1) (bl aliveL[1].1) = 1 := by decide +kernel
  unfold aliveL
  rw [bodyL, bodyL, bodyL, onePair, onePair]
  unfold aliveL at c0 c1
  simp only [List.getElem_cons_zero, List.getElem_cons_succ] at c0 c1
  rw [c0, c1]
  show pv 0 ++ (pv 2 ++ (pv 1 ++ ([97, 98] ++ [49]))) ++ (pv 1 ++ (pv 1 ++ (pv 1 ++ ([99] ++ [50]))) ++ []) = _
  rw [p0, p1, p2]
  rfl
theorem alive_build : ∃ s : ByteArray, buildP aliveL = (s, 0) ∧ s.size = 19 ∧ (bl s).take 9 = [0, 2, 1, 97, 98, 49, 1, 1, 1] := by
  have h1 : risesK aliveL = true := by decide +kernel
  have h2 : longK aliveL = false := by decide +kernel
  have h3 := blkL_length aliveL
  rw [alive_body] at h3
  have h4 : (blkL aliveL).length = 19 := h3
  refine ⟨⟨(blkL aliveL).toArray⟩, ?_, by rw [size_mk]; exact h4, ?_⟩
  · unfold buildP
    rw [if_neg (by rw [h1]; decide), if_neg (by rw [h2]; decide), if_neg (by omega)]
  · rw [bl_mk]
    unfold blkL
    rw [alive_body]
    rfl

set_option maxRecDepth 100000 in
set_option maxHeartbeats 4000000 in
theorem alive11_any (w : World) (hT : LaidB w) :
    Calls Tryz.prog 5 #[] w fun e w' => e = .returned (.bool true) ∧ Below w.heap.size w w' := by
  obtain ⟨s, hb, hsz, h9⟩ := alive_build
  have hsk : seekP s ⟨#[97, 98, 122]⟩ = (⟨#[97, 99]⟩, ⟨#[50]⟩, 0) := by
    unfold seekP
    rw [parse_build hb]
    decide +kernel
  have h9' : (s.extract 0 9).toList = [0, 2, 1, 97, 98, 49, 1, 1, 1] := by
    rw [Lib.toList_data]
    exact (bl_take s 9 (by omega)).trans h9
  have hz : Hid (Below w.heap.size w (w.alloc (.cells #[.string ⟨#[97, 98]⟩, .string ⟨#[49]⟩, .string ⟨#[97, 99]⟩, .string ⟨#[50]⟩] 53))) := Lib.hid (below_alloc (Below.refl _ _) (Nat.le_refl _) _)
  have hK : KeysAt (w.alloc (.cells #[.string ⟨#[97, 98]⟩, .string ⟨#[49]⟩, .string ⟨#[97, 99]⟩, .string ⟨#[50]⟩] 53)) (some ⟨w.heap.size, 0, none⟩) 2 aliveL := by
    have B := Blk.new w 53 #[.string ⟨#[97, 98]⟩, .string ⟨#[49]⟩, .string ⟨#[97, 99]⟩, .string ⟨#[50]⟩]
    refine ⟨rfl, fun i m hm => ?_⟩
    match i, hm with
    | 0, hm => cases hm; exact ⟨_, 0, rfl, B.lt, B.cell 0, B.cell 1⟩
    | 1, hm => cases hm; exact ⟨_, 0, rfl, B.lt, B.cell 2, B.cell 3⟩
    | i + 2, hm => simp [aliveL] at hm
  have hl : wtK aliveL ≤ 60000 := by decide +kernel
  obtain ⟨k1, k2, k3, _⟩ := light_short hl
  have CB := build_any (some ⟨w.heap.size, 0, none⟩) 2 2 aliveL _ hK k3 (by decide) k1 k2 (hT.on hz.out)
  rw [hb] at CB
  have CB := Lib.hid CB
  have CS := fun W (h : LaidB W) => Lib.hid (seek_any s ⟨#[97, 98, 122]⟩ W (by omega) h)
  rw [hsk] at CS
  have HT := Lib.hid hT
  clear hb hsk h9 hK hl k1 k2 k3 hT
  go_enter Tryz.func5, Tryz.ntmps5
  go_wp2_with fail
  refine CB.out.mono ?_
  rintro e w1 ⟨rfl, hb1⟩
  have HB1 := Lib.hid (hz.out.trans (hb1.mono hz.out.size))
  have CS1 := CS w1 (HT.out.on HB1.out)
  clear hb1 CB CS hz
  go_wp2_with fail
  refine CS1.out.mono ?_
  rintro e w2 ⟨rfl, hb2⟩
  have HB2 := Lib.hid (HB1.out.trans (hb2.mono HB1.out.size))
  clear hb2 CS1
  go_wp2_with fail
  go_ret
  exact ⟨rfl, HB2.out⟩
end Go.Proofs.YtmoffcgbjmeiaaaGreatDoor

namespace Go.Proofs.YtmoffcgbjmeiaaaGreatDoor
open Go.RowKit

set_option maxRecDepth 100000 in
set_option maxHeartbeats 1000000 in
theorem same_at (A1 A2 : Option Addr) (n c1 c2 : Nat) (L : List KV) (w : World) (h1 : KeysAt w A1 n L) (h2 : KeysAt w A2 n L) (hn : n ≤ 1000000) (hok : ∀ x ∈ L, okKeys x) :
    Calls Tryz.prog 13 #[.slice A1 n c1, .slice A2 n c2] w fun e w' => e = .returned (.bool true) ∧ Below w.heap.size w w' := by
  have H1 := Lib.hid h1
  have H2 := Lib.hid h2
  have HL := Lib.hid h1.len
  have hL' : (n : Int) ≤ 1000000 := by omega
  clear h1 h2
  go_enter Tryz.func13, Tryz.ntmps13
  go_wp2_with fail
  go_loopw [5] (fun i wr => ∃ k : Nat, k ≤ n ∧ i = .int .i64 (k : Int) ∧ Hid (Below w.heap.size w wr)) (fun i _ => n - (intOf i).toNat)
  case atStart => exact ⟨0, by omega, rfl, Lib.hid (Below.refl _ _)⟩
  case round =>
    obtain ⟨k, hk, rfl, HB⟩ := hrel
    by_cases hl : k < n
    · have hkL : k < L.length := by rw [← HL.out]; exact hl
      obtain ⟨x, hx⟩ : ∃ x, L[k]? = some x := ⟨_, List.getElem?_eq_getElem hkL⟩
      obtain ⟨g1, o1, hA1, _, y0, y1⟩ := (H1.out.below HB.out).at_ k x hx
      obtain ⟨g2, o2, hA2, _, z0, z1⟩ := (H2.out.below HB.out).at_ k x hx
      subst hA1 hA2
      have ox := hok x (List.mem_of_getElem? hx)
      obtain ⟨xa, xb⟩ := x
      dsimp only at y0 y1 z0 z1
      have EQ := eqS2 xa xb ox.1 ox.2
      have hl1 : (k : Int) < (n : Int) := by omega
      have hl0 : (0 : Int) ≤ (k : Int) := by omega
      clear hx hkL
      go_wp2_with fail
      go_quiet (fail)
      go_wp2_with fail
      go_roundw
      case rel => exact ⟨k + 1, by omega, by go_num, Lib.hid (below_drewN HB.out _)⟩
      case measure => simp [intOf]; omega
    · obtain rfl : k = n := by omega
      go_wp2_with fail
      go_ret
      exact ⟨rfl, HB.out⟩
end Go.Proofs.YtmoffcgbjmeiaaaGreatDoor

namespace Go.Proofs.YtmoffcgbjmeiaaaGreatDoor
open Go.RowKit

/-- The mark. -/
def markP : KV := (⟨#[109, 97, 114, 107]⟩, ⟨#[]⟩)
theorem KeysAt.row {w : World} {A : Option Addr} {n : Nat} {L : List KV} (h : KeysAt w A n L) : (A = none → L = []) ∧ ∀ a, A = some a → ∀ j u, (elKeys.row L)[j]? = some u → w.cell? (a.add j) = some u := by
  refine ⟨fun hA => ?_, fun a ha j u hu => ?_⟩
  · cases L with
    | nil => rfl
    | cons m r =>
      obtain ⟨g, off, e, _⟩ := h.at_ 0 m rfl
      rw [hA] at e; cases e
  · have hj := (List.getElem?_eq_some_iff.1 hu).1
    rw [elKeys.row_length] at hj
    have hj : j < L.length * 2 := hj
    have hi : j / 2 < L.length := by omega
    obtain ⟨m, hm⟩ : ∃ m, L[j / 2]? = some m := ⟨_, List.getElem?_eq_getElem hi⟩
    obtain ⟨g, off, e, _, x0, x1⟩ := h.at_ _ _ hm
    rw [ha] at e
    cases e
    rw [Addr.add_lit]
    have hd : j = j / 2 * elKeys.sz + j % 2 := by show j = j / 2 * 2 + j % 2; omega
    rw [hd, elKeys.row_at L (j / 2) (j % 2) m hm (by show j % 2 < 2; omega)] at hu
    rcases Nat.mod_two_eq_zero_or_one j with h2 | h2
    · rw [h2] at hu
      have hu : some (Value.string m.1) = some u := hu
      cases hu
      rw [show off + j = off + j / 2 * 2 from by omega]
      exact x0
    · rw [h2] at hu
      have hu : some (Value.string m.2) = some u := hu
      cases hu
      rw [show off + j = off + j / 2 * 2 + 1 from by omega]
      exact x1

/-- A list lent: its row, the mark behind it. -/
structure LentK (w : World) (B g n cap : Nat) (L : List KV) : Prop where
  len : n = L.length
  row : Own elKeys w B 53 (.slice (some ⟨g, 0, none⟩) (n + 1) cap) (L ++ [markP])
theorem LentK.below {w w' : World} {B g n cap : Nat} {L : List KV} (h : LentK w B g n cap L) (hb : Below w.heap.size w w') : LentK w' B g n cap L := ⟨h.len, h.row.below hb⟩
theorem LentK.tn {w w' : World} {B g n cap : Nat} {L : List KV} (h : LentK w B g n cap L) {B' : Nat} {T : Obj → Bool} (hb : Tn B' T w w') (hT : ∀ cs fr, T (.cells cs 53 fr) = false) : LentK w' B g n cap L := ⟨h.len, h.row.tn hb hT⟩
theorem own_cap {w : World} {B g n cap sz : Nat} {e : TypeId} {xs : List Value} (h : w.ownsRow B e sz (.slice (some ⟨g, 0, none⟩) n cap) n xs) : n ≤ cap := by
  rcases h.2 with ⟨h1, _⟩ | ⟨g', cap', cur, hv, _, _, hle, _⟩
  · cases h1
  · injection hv with e1 e2 e3
    omega
theorem LentK.cap {w : World} {B g n cap : Nat} {L : List KV} (h : LentK w B g n cap L) : n + 1 ≤ cap := by
  have h1 := h.row
  unfold Own at h1
  rw [List.length_append, ← h.len] at h1
  exact own_cap h1
theorem LentK.at_ {w : World} {B g n cap : Nat} {L : List KV} (h : LentK w B g n cap L) : KeysAt w (some ⟨g, 0, none⟩) n L := by
  have h1 := h.row
  rw [show (n + 1 : Nat) = (L ++ [markP]).length by rw [List.length_append, h.len]; rfl] at h1
  refine ⟨h.len, fun i m hm => ?_⟩
  have hi := (List.getElem?_eq_some_iff.1 hm).1
  have hm' : (L ++ [markP])[i]? = some m := by rw [List.getElem?_append_left hi]; exact hm
  have hc0 := Own.cells (i := i) (j := 0) h1 hm' (by decide) rfl
  have hc1 := Own.cells (i := i) (j := 1) h1 hm' (by decide) rfl
  obtain ⟨g', c', cur, hv, hg, hh⟩ := Own.some_ h1 (by rw [List.length_append]; simp)
  cases hv
  refine ⟨g, 0, rfl, (Array.getElem?_eq_some_iff.1 hh).1, ?_, ?_⟩
  · rw [Nat.zero_add]; exact hc0
  · rw [Nat.zero_add]; exact hc1
theorem LentK.mark {w : World} {B g n cap : Nat} {L : List KV} (h : LentK w B g n cap L) : w.cell? ⟨g, n * 2, none⟩ = some (.string ⟨#[109, 97, 114, 107]⟩) := by
  have h1 := h.row
  rw [show (n + 1 : Nat) = (L ++ [markP]).length by rw [List.length_append, h.len]; rfl] at h1
  have hm' : (L ++ [markP])[n]? = some markP := by rw [h.len]; simp
  have := Own.cells (i := n) (j := 0) h1 hm' (by decide) rfl
  exact this

set_option maxRecDepth 100000 in
set_option maxHeartbeats 2000000 in
theorem lentkeys_any (A : Option Addr) (n c : Nat) (L : List KV) (w : World) (h : KeysAt w A n L) (hn : n ≤ 100000) :
    Calls Tryz.prog 9 #[.slice A n c] w fun e w' => ∃ g cap, e = .returned (.slice (some ⟨g, 0, none⟩) n cap) ∧ LentK w' w.heap.size g n cap L ∧ Below w.heap.size w w' := by
  have hlen := h.len
  obtain ⟨hA, hM⟩ := h.row
  obtain ⟨v1, w1, hr1, ho1, hg1, _, _⟩ := app_own (P := Tryz.prog) elKeys 22 53 (.agg #[.string ⟨#[]⟩, .string ⟨#[]⟩]) 32 underKeys infoKeys rfl w w.heap.size (.slice none 0 0) [] L (World.ownsRow_nil _ _ _ _) A c hA hM (by unfold maxLen; simp; omega) (by simp; omega) (Nat.le_refl _) n hlen
  rw [List.nil_append] at ho1
  obtain ⟨a1, c1, rfl⟩ := ho1.slice
  have hb1 : Below w.heap.size w w1 := below_g (by simpa [Value.ownBlock] using hg1)
  obtain ⟨v2, w2, hr2, ho2, hg2, _, _⟩ := app_own (P := Tryz.prog) elKeys 22 53 (.agg #[.string ⟨#[]⟩, .string ⟨#[]⟩]) 32 underKeys infoKeys rfl (w1.alloc (.cells #[.string ⟨#[109, 97, 114, 107]⟩, .string ⟨#[]⟩] 53)) w.heap.size (.slice a1 L.length c1) L [markP] (World.ownsRow.alloc ho1 _) (some ⟨w1.heap.size, 0, none⟩) 1 (fun h => by cases h) (fun a ha j' u hu => by
    cases ha
    rw [El.row_one] at hu
    exact cells_new w1 53 [.string ⟨#[109, 97, 114, 107]⟩, .string ⟨#[]⟩] j' u hu) (by unfold maxLen; simp; omega) (by simp; omega) (by have := hb1.size; simp; omega) 1 rfl
  have hb2 : Below w.heap.size w w2 := (hb1.alloc hb1.size _).grown hg2 (by have := hb1.size; simp; omega) (fun k hk => ((World.ownsRow.alloc ho1 _ : (w1.alloc (.cells #[.string ⟨#[109, 97, 114, 107]⟩, .string ⟨#[]⟩] 53)).ownsRow _ 53 _ _ _ _).lt k hk).1)
  obtain ⟨g, cap, cur, rfl, _, _⟩ := Own.some_ ho2 (by rw [List.length_append]; simp)
  have hL : LentK w2 w.heap.size g n cap L := ⟨hlen, by rw [hlen]; rw [List.length_append] at ho2; exact ho2⟩
  rw [← hlen] at hr2 hr1
  rw [show (L ++ [markP]).length = n + 1 by rw [List.length_append, hlen]; rfl] at hr2
  have hcap := hL.cap
  have HR1 := fun ty => Lib.hid (hr1 ty)
  have HR2 := fun ty => Lib.hid (hr2 ty)
  have HL := Lib.hid hL
  have HB := Lib.hid hb2
  have s1 : (n : Int) ≤ (cap : Int) := by omega
  have s2 : (0 : Int) ≤ (n : Int) := by omega
  clear h hA hM hr1 hr2 ho1 ho2 hg1 hg2 hb1 hb2 hL hlen
  go_enter Tryz.func9, Tryz.ntmps9
  go_wp2_with (at_builtin; first
    | refine wpList_append_k _ w1 rfl (.const (.slice none 0 0)) (.tmp 3) 22 rfl _ _ (.slice a1 n c1) rfl rfl (fun ty => (HR1 ty).out) ?_
    | refine wpList_append_k _ w2 rfl (.tmp 4) (.tmp 6) 22 rfl _ _ (.slice (some ⟨g, 0, none⟩) (n + 1) cap) rfl rfl (fun ty => (HR2 ty).out) ?_)
  go_ret
  exact ⟨g, cap, rfl, HL.out, HB.out⟩

set_option maxRecDepth 100000 in
set_option maxHeartbeats 2000000 in
theorem stayskeys_any (A : Option Addr) (n c B g cap : Nat) (L : List KV) (w : World) (h : KeysAt w A n L) (hx : LentK w B g n cap L) (hn : n ≤ 100000) (hok : ∀ x ∈ L, okKeys x) :
    Calls Tryz.prog 14 #[.slice (some ⟨g, 0, none⟩) n cap, .slice A n c] w fun e w' => e = .returned (.bool true) ∧ Below w.heap.size w w' := by
  have CS := Lib.hid (same_at (some ⟨g, 0, none⟩) A n cap c L w hx.at_ h (by omega) hok)
  have HX := Lib.hid hx
  have hcap := hx.cap
  have s1 : (n : Int) + 1 ≤ (cap : Int) := by omega
  have s2 : (0 : Int) ≤ (n : Int) + 1 := by omega
  have s3 : (n : Int) < (n : Int) + 1 := by omega
  have s4 : (0 : Int) ≤ (n : Int) := by omega
  clear h hx
  go_enter Tryz.func14, Tryz.ntmps14
  go_wp2_with fail
  refine CS.out.mono ?_
  rintro e w1 ⟨rfl, hb1⟩
  have c0 := (HX.out.below hb1).mark
  have HB := Lib.hid hb1
  clear hb1 CS
  go_wp2_with fail
  go_ret
  exact ⟨rfl, HB.out⟩
end Go.Proofs.YtmoffcgbjmeiaaaGreatDoor

namespace Go.Proofs.YtmoffcgbjmeiaaaGreatDoor
section
variable {P : Program} {ops : Array Oper} {C : World → Prop} {Q : Act → Prop} {a : Act} {o : Oper} {rest : List Oper}
theorem wpQuiet_skip (hw : Region.wanted o (yielded ops a.tmps) = false) (h : wpQuiet P ops C Q rest (a.put o.dst undef)) : wpQuiet P ops C Q (o :: rest) a := by
  unfold wpQuiet
  rw [hw]
  exact h
theorem wpQuiet_take (hw : Region.wanted o (yielded ops a.tmps) = true) (v : Value) (hy : ∀ w, C w → o.quietAt P a C w v) (h : wpQuiet P ops C Q rest (a.put o.dst v)) : wpQuiet P ops C Q (o :: rest) a := by
  unfold wpQuiet
  rw [if_pos hw]
  exact ⟨v, hy, h⟩
theorem wp_region_class {id : Nat} {Q : Exit → Act → World → Prop} {a : Act} {w : World} {l : List Oper} (C : World → Prop) (hm : P.follows .mixedOrders = true) (hB : Region.lexB .any l.toArray = true) (hC : C w.drew)
    (h : wpQuiet P l.toArray C (fun a' => ∀ w', C w' → Q .normal a' w') l a) : (Code.region id l.toArray true).wp P Q a w :=
  wp_region_quiet (C := C) hm hB hC (by simpa using h)
end
open Go.RowKit
/-! ### A call within a class of worlds: all that come out of one world -/
theorem cls_call {P : Program} {f : FuncId} {args : Array Value} {W0 W : World} {R : Ending} (hW : Below W0.heap.size W0 W) (h : Calls P f args W fun e w' => e = R ∧ Below W.heap.size W w') :
    Calls P f args W fun e w' => e = R ∧ Below W0.heap.size W0 w' := h.mono fun _ _ ⟨he, hb⟩ => ⟨he, hW.trans (hb.mono hW.size)⟩
theorem below_of_eq {w w' : World} (h : w' = w) : Below w.heap.size w w' := by rw [h]; exact Below.refl _ _
theorem below_of_eq' {w w' : World} (h : w = w') : Below w.heap.size w w' := by rw [h]; exact Below.refl _ _
end Go.Proofs.YtmoffcgbjmeiaaaGreatDoor

namespace Go.Proofs.YtmoffcgbjmeiaaaGreatDoor
section
variable {P : Program} {ops : Array Oper} {C : World → Prop} {Q : Act → Prop} {a : Act} {o : Oper} {rest : List Oper}
/-- The rest of a region. -/
structure WQ (P : Program) (ops : Array Oper) (C : World → Prop) (Q : Act → Prop) (l : List Oper) (a : Act) : Prop where
  out : wpQuiet P ops C Q l a
theorem wq_nil {Q : Act → Prop} {a : Act} (h : Q a) : WQ P ops C Q [] a := ⟨wpQuiet_nil h⟩
theorem wq_skip (hw : Region.wanted o (yielded ops a.tmps) = false) (h : WQ P ops C Q rest (a.put o.dst undef)) : WQ P ops C Q (o :: rest) a := ⟨wpQuiet_skip hw h.out⟩
theorem wq_take (hw : Region.wanted o (yielded ops a.tmps) = true) (v : Value) (hy : ∀ w, C w → o.quietAt P a C w v) (h : WQ P ops C Q rest (a.put o.dst v)) : WQ P ops C Q (o :: rest) a := ⟨wpQuiet_take hw v hy h.out⟩
theorem wp_region_wq {id : Nat} {Q : Exit → Act → World → Prop} {a : Act} {w : World} {l : List Oper} (C : World → Prop) (hm : P.follows .mixedOrders = true) (hB : Region.lexB .any l.toArray = true) (hC : C w.drew)
    (h : WQ P l.toArray C (fun a' => ∀ w', C w' → Q .normal a' w') l a) : (Code.region id l.toArray true).wp P Q a w :=
  wp_region_class C hm hB hC h.out
end
end Go.Proofs.YtmoffcgbjmeiaaaGreatDoor

namespace Go.Proofs.YtmoffcgbjmeiaaaGreatDoor
open Go.RowKit

set_option maxRecDepth 100000 in
set_option maxHeartbeats 1000000 in
theorem rputvar_neg (v : Int) (w : World) (hv : v < 0) :
    Calls Tryz.prog 18 #[.int .i64 v] w fun e w' => e = .returned (.string ByteArray.empty) ∧ w = w' := by
  go_enter Tryz.func18, Tryz.ntmps18
  go_wp2
  go_ret
  exact ⟨rfl, rfl⟩

set_option maxRecDepth 100000 in
set_option maxHeartbeats 1000000 in
theorem rputvar_any (v : Nat) (w : World) (hv : v < 9223372036854775808) :
    Calls Tryz.prog 18 #[.int .i64 (v : Int)] w fun e w' => e = .returned (.string ⟨(pv v).toArray⟩) ∧ Below w.heap.size w w' := by
  go_enter Tryz.func18, Tryz.ntmps18
  go_wp2
  go_loopw [0, 3] (fun x b wr => ∃ (u : Nat) (l : List UInt8), x = .int .i64 (u : Int) ∧ u ≤ v ∧ Hid (pv v = l ++ pv u) ∧ Byt wr w.heap.size 5 b l ∧ Below w.heap.size w wr)
    (fun x _ _ => (intOf x).toNat)
  case atStart => exact ⟨v, [], rfl, by simp, rfl, Byt.nil _ _ _, Below.refl _ _⟩
  case round =>
    obtain ⟨u, l, rfl, hu, Hl, hown, hbe⟩ := hrel
    have hll : l.length ≤ 9 := by
      have h1 := pv_len9 v hv
      rw [Hl.out, List.length_append] at h1
      omega
    by_cases h : 128 ≤ u
    · obtain ⟨c, hc⟩ : ∃ c, c = UInt8.ofNat (u % 128 + 128) := ⟨_, rfl⟩
      have hcc : (u : Int) % 128 + 128 = (c.toNat : Int) := by
        rw [hc, ← u8_of _ (by omega)]
        omega
      have HC := Lib.hid hcc
      have Hc := Lib.hid hc
      clear hc hcc
      go_wp2_with (at_builtin; refine wpList_append_byte _ rfl (.tmp 8) (.tmp 13) 54 rfl Tryz.underlying54 u8info rfl (hown.alloc _) ⟨wr.heap.size, 0, none⟩ 1 rfl _ (cell_new _ _ _) c HC.out ?c3 ?c4 ?_)
      case c3 => omega
      case c4 => have := hbe.size; simp; omega
      intro v' w' hown' hgr
      have hb' := (hown.alloc _).grown (below_alloc hbe (Nat.le_refl _) _) (by have := hbe.size; simp; omega) hgr
      clear hgr
      go_wp2
      go_roundw
      case rel =>
        refine ⟨u / 128, l ++ [c], by go_num, by omega, ?_, hown', hb'⟩
        show pv v = _
        rw [Hl.out, pv_more u h, Hc.out]
        simp
      case measure => simp [intOf]; omega
    · obtain ⟨c, hc⟩ : ∃ c, c = UInt8.ofNat u := ⟨_, rfl⟩
      have HC : Hid ((u : Int) = (c.toNat : Int)) := by rw [hc]; exact Lib.hid (u8_of u (by omega))
      have Hc := Lib.hid hc
      clear hc
      go_wp2_with (at_builtin; refine wpList_append_byte _ rfl (.tmp 17) (.tmp 20) 54 rfl Tryz.underlying54 u8info rfl (hown.alloc _) ⟨wr.heap.size, 0, none⟩ 1 rfl _ (cell_new _ _ _) c HC.out ?d3 ?d4 ?_)
      case d3 => omega
      case d4 => have := hbe.size; simp; omega
      intro v' w' hown' hgr
      have hb' := (hown.alloc _).grown (below_alloc hbe (Nat.le_refl _) _) (by have := hbe.size; simp; omega) hgr
      have hcv := hown'.string (src := 54) (dst := 9) Tryz.underlying54 Tryz.underlying5 Tryz.underlying9
      clear hgr hown'
      go_wp2
      go_ret
      refine ⟨?_, hb'⟩
      rw [Hl.out, pv_last u (by omega), Hc.out]
      rfl

theorem be_bytes (v n j : Nat) (h : j < n) : (be v n).drop j = UInt8.ofNat (v / 2 ^ (8 * (n - 1 - j)) % 256) :: (be v n).drop (j + 1) := by
  have hl : j < (be v n).length := by rw [be_length]; exact h
  have hg := be_get v n j h
  rw [List.getElem?_eq_getElem hl] at hg
  injection hg with hg
  rw [List.drop_eq_getElem_cons hl, hg]

theorem be_back (v n j k : Nat) (h : j + 1 + k = n) (x : Int) (hx : x = ((v / 2 ^ (8 * k) : Nat) : Int) % 256) :
    ((List.replicate (j + 1) (0 : UInt8) ++ (be v n).drop (j + 1)).map b8).set j (.int .u8 x) = (List.replicate j (0 : UInt8) ++ (be v n).drop j).map b8 := by
  have hb : Value.int .u8 x = b8 (UInt8.ofNat (v / 2 ^ (8 * k) % 256)) := by
    unfold b8
    rw [← u8_of _ (by omega), hx]
    congr 1
  rw [be_bytes v n j (by omega), show n - 1 - j = k from by omega, hb, ← List.map_set]
  congr 1
  rw [List.replicate_succ', List.append_assoc, List.set_append_right _ _ (by simp)]
  simp

theorem putIs_of (v n _k : Nat) (h1 : 1 ≤ n) (h7 : n ≤ 7) (s : ByteArray) (hs : s = ⟨(be v n).toArray⟩) (h : v / 2 ^ (8 * n) = 0) : PutIs v n s 0 := by
  refine Or.inl ⟨rfl, by omega, by omega, by omega, ?_, ?_⟩
  · have h2 : v < 2 ^ (8 * n) := by
      rcases Nat.lt_or_ge v (2 ^ (8 * n)) with h3 | h3
      · exact h3
      · have := (Nat.le_div_iff_mul_le (Nat.two_pow_pos (8 * n))).2 (show 1 * 2 ^ (8 * n) ≤ v by omega)
        omega
    rw [Int.toNat_natCast]
    exact_mod_cast h2
  · rw [Int.toNat_natCast, Int.toNat_natCast]; exact hs

theorem putIs_not (v n : Nat) (h : 0 < v / 2 ^ (8 * n)) : PutIs v n ByteArray.empty 1 := by
  refine Or.inr ⟨rfl, rfl, Or.inr (Or.inr (Or.inr ?_))⟩
  rw [Int.toNat_natCast]
  have h2 : 2 ^ (8 * n) ≤ v := by
    have := (Nat.le_div_iff_mul_le (Nat.two_pow_pos (8 * n))).1 h
    omega
  exact_mod_cast h2

theorem putIs_one {v n : Int} {s t : ByteArray} {e f : Int} (h : PutIs v n s e) (k : PutIs v n t f) : s = t ∧ e = f := by
  rcases h with ⟨h0, h1, h2, h3, h4, h5⟩ | ⟨h0, h1, h2⟩
  · rcases k with ⟨k0, k1, k2, k3, k4, k5⟩ | ⟨k0, k1, k2⟩
    · exact ⟨h5.trans k5.symm, h0.trans k0.symm⟩
    · omega
  · rcases k with ⟨k0, k1, k2, k3, k4, k5⟩ | ⟨k0, k1, k2⟩
    · omega
    · exact ⟨h1.trans k1.symm, h0.trans k0.symm⟩

set_option maxRecDepth 100000 in
set_option maxHeartbeats 1000000 in
theorem rput_bad (v n : Int) (w : World) (h : n < 1 ∨ 7 < n ∨ v < 0) :
    Calls Tryz.prog 19 #[.int .i64 v, .int .i64 n] w fun e w' => e = .returned (.tuple #[.string ByteArray.empty, .int .i64 1]) ∧ w = w' := by
  by_cases h1 : n < 1
  · clear h
    go_enter Tryz.func19, Tryz.ntmps19
    go_wp2
    go_ret2
    exact ⟨rfl, rfl⟩
  by_cases h2 : 7 < n
  · clear h
    go_enter Tryz.func19, Tryz.ntmps19
    go_wp2
    go_ret2
    exact ⟨rfl, rfl⟩
  have h3 : v < 0 := by omega
  clear h
  go_enter Tryz.func19, Tryz.ntmps19
  go_wp2
  go_ret2
  exact ⟨rfl, rfl⟩

set_option maxRecDepth 100000 in
set_option maxHeartbeats 2000000 in
theorem rput_nat (v n : Nat) (w : World) (h1 : 1 ≤ n) (h7 : n ≤ 7) (hv : v < 9223372036854775808) :
    Calls Tryz.prog 19 #[.int .i64 (v : Int), .int .i64 (n : Int)] w fun e w' => ∃ (s : ByteArray) (er : Int), e = .returned (.tuple #[.string s, .int .i64 er]) ∧ Hid (PutIs v n s er) ∧ Below w.heap.size w w' := by
  obtain ⟨i0, hi0, hz0, hz1, hz2⟩ := info_parts u8info
  go_enter Tryz.func19, Tryz.ntmps19
  go_wp2_with (at_make; refine wpList_make_full _ rfl (.tmp 18) (.tmp 18) 54 rfl w.heap.size 5 i0 (.int .u8 0) 1 Tryz.underlying54 hi0 hz0 hz1 .i64 .i64 _ _ n rfl rfl rfl rfl ?b2 ?b3 ?b4 ?_)
  case b2 => rw [hz2]; omega
  case b3 => unfold maxLen; omega
  case b4 => exact Nat.le_refl _
  intro w1 hown hgr
  have hb1 : Below w.heap.size w w1 := (Below.refl _ _).grown hgr (Nat.le_refl _) (by simp)
  rw [show (madeCells #[Value.int IntKind.u8 0] n).toList = (List.replicate n (0 : UInt8)).map b8 from (toList_madeCells_one _ _).trans (by simp [b8])] at hown
  have Hown := Lib.hid hown
  clear hown hgr
  go_wp2
  go_loopw [0, 7] (fun x i wr => ∃ j k y : Nat, j + k = n ∧ i = .int .i64 ((j : Int) - 1) ∧ x = .int .i64 (y : Int) ∧ y ≤ v ∧ Hid (y = v / 2 ^ (8 * k)) ∧ wr.ownsRow w.heap.size 5 1 (.slice (some ⟨w.heap.size, 0, none⟩) n n) n ((List.replicate j 0 ++ (be v n).drop j).map b8) ∧ Below w.heap.size w wr)
    (fun _ i _ => (intOf i + 1).toNat)
  case atStart => exact ⟨n, 0, v, by omega, rfl, rfl, by omega, by show v = _; simp, by simpa [List.drop_of_length_le (Nat.le_of_eq (be_length v n))] using Hown.out, hb1⟩
  case round =>
    obtain ⟨j, k, y, hjk, hi, rfl, hy, Hy, hown, hbe⟩ := hrel
    cases j with
    | succ j =>
      rw [show (((j + 1 : Nat) : Int) - 1) = (j : Int) from by omega] at hi
      subst hi
      have hln : (List.replicate (j + 1) (0 : UInt8) ++ (be v n).drop (j + 1)).length = n := by simp [be]; omega
      have hc := hown.cellAt j (by omega)
      have hf := hown.frozenAt j
      obtain ⟨x, hx⟩ : ∃ x, ((List.replicate (j + 1) (0 : UInt8) ++ (be v n).drop (j + 1)).map b8)[j]? = some x := ⟨_, List.getElem?_eq_getElem (by rw [List.length_map, hln]; omega)⟩
      rw [hx] at hc
      have Hown' := Lib.hid hown
      have hjn : j < n := by omega
      clear hown hx hln
      go_wp2
      go_roundw
      case rel =>
        have hst := World.ownsRow.stored Hown'.out j (.int .u8 ((y : Int) % 256))
        rw [be_back v n j k (by omega) ((y : Int) % 256) (by rw [Hy.out])] at hst
        refine ⟨j, k + 1, y / 256, by omega, by go_num, by go_num, by omega, ?_, hst.1, below_setCell hbe (Nat.le_refl _) _⟩
        show _ = _
        rw [Hy.out, Nat.div_div_eq_div_mul, Nat.mul_add, Nat.pow_add]
      case measure => simp [intOf]
    | zero =>
      subst hi
      obtain rfl : k = n := by omega
      by_cases hpos : 0 < y
      · go_wp2
        go_ret2
        refine ⟨_, _, rfl, ?_, hbe⟩
        exact Lib.hid (putIs_not v k (by rw [← Hy.out]; exact hpos))
      · have hby : Byt wr w.heap.size 5 (.slice (some ⟨w.heap.size, 0, none⟩) k k) (be v k) := by
          unfold Byt
          rw [be_length]
          simpa using hown
        have hcv := hby.string (src := 54) (dst := 9) Tryz.underlying54 Tryz.underlying5 Tryz.underlying9
        clear hown hby
        go_wp2
        go_ret2
        exact ⟨_, _, rfl, Lib.hid (putIs_of v k 0 h1 h7 _ rfl (by rw [← Hy.out]; omega)), hbe⟩

theorem rput_any (v n : Int) (w : World) (hv : v < 9223372036854775808) :
    Calls Tryz.prog 19 #[.int .i64 v, .int .i64 n] w fun e w' => ∃ (s : ByteArray) (er : Int), e = .returned (.tuple #[.string s, .int .i64 er]) ∧ Hid (PutIs v n s er) ∧ Below w.heap.size w w' := by
  by_cases h : n < 1 ∨ 7 < n ∨ v < 0
  · refine (rput_bad v n w h).mono ?_
    rintro e w' ⟨rfl, rfl⟩
    exact ⟨_, _, rfl, Lib.hid (Or.inr ⟨rfl, rfl, by omega⟩), Below.refl _ _⟩
  · obtain ⟨n, rfl⟩ := Int.eq_ofNat_of_zero_le (show 0 ≤ n by omega)
    obtain ⟨v, rfl⟩ := Int.eq_ofNat_of_zero_le (show 0 ≤ v by omega)
    exact rput_nat v n w (by omega) (by omega) (by omega)
end Go.Proofs.YtmoffcgbjmeiaaaGreatDoor

namespace Go.Proofs.YtmoffcgbjmeiaaaGreatDoor
open Go.RowKit

theorem i64_xor_nat (a b : Nat) (ha : a < 9223372036854775808) (hb : b < 9223372036854775808) : bits .xor .i64 (a : Int) (b : Int) = ((a ^^^ b : Nat) : Int) := by
  have hx : a ^^^ b < 2 ^ 63 := Nat.xor_lt_two_pow (by omega) (by omega)
  show IntKind.i64.wrap ((BitVec.ofInt 64 (a : Int) ^^^ BitVec.ofInt 64 (b : Int)).toNat : Int) = _
  rw [BitVec.toNat_xor, ofInt_i64 a ha, ofInt_i64 b hb, IntKind.wrap_i64]
  omega

/-- One of a sum's eight steps. -/
def bit1 (x : Nat) : Nat := if x % 2 = 1 then (x / 2) ^^^ 2197175160 else x / 2
def bitN : Nat → Nat → Nat
  | 0, x => x
  | n + 1, x => bit1 (bitN n x)

theorem half_xor (a b : Nat) : (a ^^^ b) / 2 = a / 2 ^^^ b / 2 := by
  have e : ∀ x : Nat, x / 2 = x >>> 1 := fun x => (Nat.shiftRight_eq_div_pow x 1).symm
  rw [e, e, e, Nat.shiftRight_xor_distrib]
theorem par_xor (a b : Nat) : (a ^^^ b) % 2 = (a % 2 ^^^ b % 2) := Nat.xor_mod_two_pow (n := 1)

theorem bit1_xor (a b : Nat) : bit1 (a ^^^ b) = bit1 a ^^^ bit1 b := by
  unfold bit1
  rw [half_xor, par_xor]
  rcases Nat.mod_two_eq_zero_or_one a with h | h <;> rcases Nat.mod_two_eq_zero_or_one b with k | k <;> simp only [h, k]
  · rfl
  · show (a / 2 ^^^ b / 2) ^^^ 2197175160 = a / 2 ^^^ (b / 2 ^^^ 2197175160)
    rw [Nat.xor_assoc]
  · show (a / 2 ^^^ b / 2) ^^^ 2197175160 = (a / 2 ^^^ 2197175160) ^^^ b / 2
    rw [Nat.xor_assoc, Nat.xor_assoc, Nat.xor_comm (b / 2)]
  · show a / 2 ^^^ b / 2 = (a / 2 ^^^ 2197175160) ^^^ (b / 2 ^^^ 2197175160)
    rw [Nat.xor_assoc, Nat.xor_comm 2197175160, Nat.xor_assoc, Nat.xor_self, Nat.xor_zero]
theorem bit1_even (y : Nat) : bit1 (2 * y) = y := by
  unfold bit1
  rw [if_neg (by omega)]
  omega
theorem bitN_xor (n : Nat) : ∀ a b, bitN n (a ^^^ b) = bitN n a ^^^ bitN n b := by
  induction n with
  | zero => intro a b; rfl
  | succ n ih => intro a b; show bit1 _ = bit1 _ ^^^ bit1 _; rw [ih, bit1_xor]
theorem split_xor (x : Nat) : (16 * (x / 16)) ^^^ (x % 16) = x := by
  have h1 : ((16 * (x / 16)) ^^^ (x % 16)) / 16 = x / 16 := by
    have e : ∀ x : Nat, x / 16 = x >>> 4 := fun x => (Nat.shiftRight_eq_div_pow x 4).symm
    rw [e (_ ^^^ _), Nat.shiftRight_xor_distrib, ← e, ← e, show 16 * (x / 16) / 16 = x / 16 from by omega, show x % 16 / 16 = 0 from by omega, Nat.xor_zero]
  have h2 : ((16 * (x / 16)) ^^^ (x % 16)) % 16 = x % 16 := by
    have := Nat.xor_mod_two_pow (a := 16 * (x / 16)) (b := x % 16) (n := 4)
    rw [show (2 : Nat) ^ 4 = 16 from rfl] at this
    rw [this, show 16 * (x / 16) % 16 = 0 from by omega, Nat.zero_xor]
    omega
  omega
theorem bits_low : ∀ r < 16, bitN 4 r = halfN r := by decide
theorem bits_nib (x : Nat) : bitN 4 x = nib x := by
  have h := bitN_xor 4 (16 * (x / 16)) (x % 16)
  rw [split_xor] at h
  have h2 : bitN 4 (16 * (x / 16)) = x / 16 := by
    show bit1 (bit1 (bit1 (bit1 (16 * (x / 16))))) = _
    rw [show 16 * (x / 16) = 2 * (2 * (2 * (2 * (x / 16)))) from by omega, bit1_even, bit1_even, bit1_even, bit1_even]
  rw [h, h2, bits_low _ (by omega)]
  rfl
theorem bits_step (a : Nat) (c : UInt8) : bitN 8 (a ^^^ c.toNat) = sumStep a c := by
  unfold sumStep
  rw [← bits_nib, ← bits_nib]
  rfl
theorem bit1_lt (x : Nat) (h : x < 4294967296) : bit1 x < 4294967296 := by
  unfold bit1
  split
  · exact Nat.xor_lt_two_pow (n := 32) (by omega) (by decide)
  · omega

set_option maxRecDepth 100000 in
set_option maxHeartbeats 2000000 in
theorem rsum_any (s : ByteArray) (w : World) (hs : s.size ≤ 9223372036854775807) :
    Calls Tryz.prog 20 #[.string s] w fun e w' => e = .returned (.int .i64 (crc s.data.toList : Int)) ∧ w = w' := by
  go_enter Tryz.func20, Tryz.ntmps20
  go_wp2
  go_loop [3, 4] (fun x i => ∃ k a : Nat, k ≤ s.size ∧ i = .int .i64 (k : Int) ∧ x = .int .i64 (a : Int) ∧ a < 4294967296 ∧ Hid (a = sumL (s.data.toList.take k))) (fun _ i => s.size - (intOf i).toNat)
  case atStart => exact ⟨0, 4294967295, by omega, rfl, rfl, by omega, rfl⟩
  case round =>
    obtain ⟨k, a, hk, rfl, rfl, ha, Ha⟩ := hrel
    by_cases hl : k < s.size
    · have hb8 := UInt8.toNat_lt s[k]
      obtain ⟨b, hb⟩ : ∃ b, b = a ^^^ (s[k]'hl).toNat := ⟨_, rfl⟩
      have hblt : b < 4294967296 := by rw [hb]; exact Nat.xor_lt_two_pow (n := 32) ha (by omega)
      have x1 : bits .xor .i64 (a : Int) ((s[k]'hl).toNat : Int) = (b : Int) := by
        rw [i64_xor_nat _ _ (by omega) (by omega), hb]
      have hst := sum_snoc s k hl
      rw [← Ha.out, ← bits_step, ← hb] at hst
      have Hst := Lib.hid hst
      clear hb hst
      go_wp2
      go_loop [3, 5] (fun x i => ∃ j y : Nat, j ≤ 8 ∧ i = .int .i64 (j : Int) ∧ x = .int .i64 (y : Int) ∧ y < 4294967296 ∧ Hid (y = bitN j b)) (fun _ i => 8 - (intOf i).toNat)
      case atStart => exact ⟨0, b, by omega, rfl, rfl, hblt, rfl⟩
      case round =>
        obtain ⟨j, y, hj, rfl, rfl, hy, Hy⟩ := hrel
        by_cases hj8 : j < 8
        · have hnx : bit1 y = bitN (j + 1) b := by rw [Hy.out]; rfl
          have hnl := bit1_lt y hy
          by_cases hodd : y % 2 = 1
          · obtain ⟨z, hz⟩ : ∃ z, z = (y / 2) ^^^ 2197175160 := ⟨_, rfl⟩
            have hzx : bits .xor .i64 ((y : Int) / 2) 2197175160 = (z : Int) := by
              have := i64_xor_nat (y / 2) 2197175160 (by omega) (by decide)
              rw [← hz] at this
              exact this
            have hz1 : bit1 y = z := by unfold bit1; rw [if_pos hodd, hz]
            rw [hz1] at hnx hnl
            have Hnx := Lib.hid hnx
            have hodd' : (y : Int) % 2 = 1 := by omega
            clear hz hz1 hnx hodd
            go_wp2
            go_round
            case rel => exact ⟨j + 1, z, by omega, by go_num, rfl, hnl, Hnx⟩
            case measure => simp [intOf]; omega
          · have hz1 : bit1 y = y / 2 := by unfold bit1; rw [if_neg hodd]
            rw [hz1] at hnx hnl
            have Hnx := Lib.hid hnx
            have hodd' : (y : Int) % 2 = 0 := by omega
            clear hz1 hnx hodd
            go_wp2
            go_round
            case rel => exact ⟨j + 1, y / 2, by omega, by go_num, by go_num, hnl, Hnx⟩
            case measure => simp [intOf]; omega
        · obtain rfl : j = 8 := by omega
          go_wp2
          go_round
          case rel => exact ⟨k + 1, y, by omega, by go_num, rfl, hy, by show y = _; rw [Hst.out]; exact Hy.out⟩
          case measure => simp [intOf]; omega
    · obtain rfl : k = s.size := by omega
      obtain ⟨r, hr⟩ : ∃ r, r = 4294967295 - a := ⟨_, rfl⟩
      have x1 : bits .xor .i64 (a : Int) 4294967295 = (r : Int) := by
        have h1 := u32_not_nat a ha
        have h2 := u32_xor_nat 4294967295 a (by decide) ha
        rw [show (IntKind.u32.max : Int) = ((4294967295 : Nat) : Int) from by decide] at h1
        rw [h2] at h1
        have h3 := i64_xor_nat a 4294967295 (by omega) (by decide)
        rw [Nat.xor_comm] at h3
        rw [h1, ← hr] at h3
        exact h3
      have Hr : Hid (r = crc s.data.toList) := by
        have := Ha.out
        rw [List.take_of_length_le (by simp)] at this
        rw [hr, this]
        rfl
      clear hr
      go_wp2
      go_ret
      exact ⟨by rw [← Hr.out]; rfl, rfl⟩

theorem cmp_cons (a b : UInt8) (r t : List UInt8) : Lib.compareBytes (a :: r) (b :: t) = if a.toNat < b.toNat then -1 else if b.toNat < a.toNat then 1 else Lib.compareBytes r t := by
  rw [Lib.compareBytes]
  simp only [UInt8.lt_iff_toNat_lt]

set_option maxRecDepth 100000 in
set_option maxHeartbeats 2000000 in
theorem rcompare_any (a b : ByteArray) (w : World) (ha : a.size ≤ 9223372036854775807) (hb : b.size ≤ 9223372036854775807) :
    Calls Tryz.prog 22 #[.string a, .string b] w fun e w' => e = .returned (.int .i64 (Lib.compareBytes a.data.toList b.data.toList)) ∧ Below w.heap.size w w' := by
  have hla : a.data.toList.length = a.size := rfl
  have hlb : b.data.toList.length = b.size := rfl
  obtain ⟨g, hg⟩ : ∃ g, g = Lib.compareBytes a.data.toList b.data.toList := ⟨_, rfl⟩
  rw [← hg]
  have Hg := Lib.hid hg
  have Hla := Lib.hid hla
  have Hlb := Lib.hid hlb
  clear hg hla hlb
  go_enter Tryz.func22, Tryz.ntmps22
  go_wp2
  go_loopw [5] (fun i wr => ∃ k : Nat, k ≤ a.size ∧ k ≤ b.size ∧ i = .int .i64 (k : Int) ∧ Hid (g = Lib.compareBytes (a.data.toList.drop k) (b.data.toList.drop k)) ∧ Below w.heap.size w wr) (fun i _ => a.size - (intOf i).toNat)
  case atStart => exact ⟨0, by omega, by omega, rfl, Hg, Below.refl _ _⟩
  case round =>
    obtain ⟨k, hka, hkb, rfl, Hk, hbe⟩ := hrel
    by_cases hl : k < a.size
    · by_cases hm : k < b.size
      · have hda : a.data.toList.drop k = a[k] :: a.data.toList.drop (k + 1) := List.drop_eq_getElem_cons (by simpa using hl)
        have hdb : b.data.toList.drop k = b[k] :: b.data.toList.drop (k + 1) := List.drop_eq_getElem_cons (by simpa using hm)
        have hk := Hk.out
        rw [hda, hdb, cmp_cons] at hk
        have hka' : (k : Int) < (a.size : Int) := by omega
        have hkb' : (k : Int) < (b.size : Int) := by omega
        have hk0 : (0 : Int) ≤ (k : Int) := by omega
        clear hda hdb
        by_cases h1 : a[k].toNat < b[k].toNat
        · rw [if_pos h1] at hk
          have Hk2 := Lib.hid hk
          have e1 : decide (a[k].toNat < b[k].toNat) = true := decide_eq_true (by omega)
          clear hk h1
          go_wp2
          go_region
          go_wp2
          go_ret
          exact ⟨by rw [Hk2.out]; rfl, hbe.drew⟩
        · rw [if_neg h1] at hk
          have e1 : decide (a[k].toNat < b[k].toNat) = false := decide_eq_false (by omega)
          by_cases h2 : b[k].toNat < a[k].toNat
          · rw [if_pos h2] at hk
            have Hk2 := Lib.hid hk
            have e2 : decide (b[k].toNat < a[k].toNat) = true := decide_eq_true (by omega)
            clear hk h1 h2
            go_wp2
            go_region
            go_wp2
            go_region
            go_wp2
            go_ret
            exact ⟨by rw [Hk2.out]; rfl, hbe.drew.drew⟩
          · rw [if_neg h2] at hk
            have Hk2 := Lib.hid hk
            have e2 : decide (b[k].toNat < a[k].toNat) = false := decide_eq_false (by omega)
            clear hk h1 h2
            go_wp2
            go_region
            go_wp2
            go_region
            go_wp2
            go_roundw
            case rel => exact ⟨k + 1, by omega, by omega, by go_num, Hk2, hbe.drew.drew⟩
            case measure => simp [intOf]; omega
      · obtain rfl : k = b.size := by omega
        have hgg : g = 1 := by
          rw [Hk.out, List.drop_of_length_le (Nat.le_of_eq Hlb.out), show a.data.toList.drop b.size = a[b.size] :: a.data.toList.drop (b.size + 1) from List.drop_eq_getElem_cons (by simpa using hl)]
          rfl
        have Hgg := Lib.hid hgg
        clear hgg
        go_wp2
        go_ret
        exact ⟨by rw [Hgg.out]; rfl, hbe⟩
    · obtain rfl : k = a.size := by omega
      by_cases hm : a.size < b.size
      · have hgg : g = -1 := by
          rw [Hk.out, List.drop_of_length_le (Nat.le_of_eq Hla.out), show b.data.toList.drop a.size = b[a.size] :: b.data.toList.drop (a.size + 1) from List.drop_eq_getElem_cons (by simpa using hm)]
          rfl
        have Hgg := Lib.hid hgg
        clear hgg
        go_wp2
        go_ret
        exact ⟨by rw [Hgg.out]; rfl, hbe⟩
      · have heq : a.size = b.size := by omega
        have hgg : g = 0 := by
          rw [Hk.out, List.drop_of_length_le (Nat.le_of_eq Hla.out), List.drop_of_length_le (by rw [Hlb.out]; omega)]
          rfl
        have Hgg := Lib.hid hgg
        clear hgg
        have h3 : ¬ (b.size < a.size) := by omega
        go_wp2
        go_ret
        exact ⟨by rw [Hgg.out]; rfl, hbe⟩
end Go.Proofs.YtmoffcgbjmeiaaaGreatDoor
