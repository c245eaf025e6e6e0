/-
  Several texts in one: 'append(b, s...)' of a text's bytes; texts put together. No program is named.
  The landed package block: its reader takes a pair.
  The landed package block: its reader takes the first pair.
  The landed package block: its reader takes a pair behind others.
  The landed package block: read.
  The landed package block: Parse, with its deferred closure.
  The document's own answer to chapter 11, part 1: do the keys rise?
  The document's own answer to chapter 11, part 4: Seek, out of what Parse answers.
  The landed package block: Seek.
  The landed package sst, part 1: numbers as bytes, a key's head, its reader.
  Slices of structs of two whole numbers and two texts that came in: what a walk asks of them, out of how they read. No program is named.
  Slices of pairs of texts that came in: what a walk asks of them, out of how they read. No program is named.
  The laws of chapter 11: are pairs few and short enough; their first call.
  The document's own answers to chapter 13, part 1: Head, Blocks.
  Lists of texts that are lent with a mark behind them: SameTexts, LentTexts, StaysTexts.
  The document's own answers to chapter 13, part 3: Heads.
  The landed package sst, part 2: how many pairs a block takes; the heads of all keys; a key's place.
  The landed package sst, part 3: a table as it lies; what it tells.
-/
import Derived.Test.YtcbgflidlpmhcaaGreatDoorM1
import Derived.Lib.AppendStr
import Derived.Laws.Concat
import Derived.Test.YtcbgflidlpmhcaaGreatDoorM4
import Derived.RegionDies
import Derived.Defers
import Derived.Recover
import Derived.Test.YtcbgflidlpmhcaaGreatDoorM3
import Derived.LoopTactic
import Derived.Deep.RegionHeld3
import Derived.Deep.Cut
import Derived.BigQuiet
import Derived.Lib.SmallJoins
import Derived.Deep.Slices
import Derived.Deep.Strs
import Derived.SizedLaws
import Derived.Laws.IdiomArrays
import Derived.Lib.OwnBridge
import Derived.Shelf.Slices.CompactS
import Derived.Lib.BufferMore
import Derived.Test.YtcbgflidlpmhcaaGreatDoorM2
namespace Go.Proofs.YtcbgflidlpmhcaaGreatDoor
open Go.RowKit
section
variable {P : Program} {w : World} {B : Nat} {e : TypeId} {v : Value} {l : List UInt8}
theorem byt_up {w' : World} (h : Byt w B e v l) (hb : Below w.heap.size w w') : Byt w' B e v l := by
  refine ⟨h.1, ?_⟩
  rcases h.2 with hn | ⟨g, cap, cur, hv, hg, hh, r⟩
  · exact Or.inl hn
  · exact Or.inr ⟨g, cap, cur, hv, hg, (hb.block g (Array.getElem?_eq_some_iff.1 hh).1).trans hh, r⟩
theorem append_str (t u ty : TypeId) (ht : P.underlying t = some (.slice e)) (hu : P.underlying u = some .string) (hi : (P.info? e).map (fun i => (i.zero, i.size, i.bytes)) = some (some (.int .u8 0), 1, 1))
    (hown : Byt w B e v l) (s : ByteArray) (hl : l.length + s.size < 140737488355328) (hB : B ≤ w.heap.size) :
    ∃ v' w', (Builtin.append_ #[t, u] ty #[v, .string s]).run P w = .ok v' w' ∧ Byt w' B e v' (l ++ s.data.toList) ∧ w.grownBy w' v.ownBlock := by
  obtain ⟨i0, hi0, hz0, hz1, hz2⟩ := info_parts hi
  obtain ⟨v', w', h1, h2, h3, _⟩ := Go.Lib.run_append_own_string (P := P) w B t u ty e i0 ht hu hi0 hz0 hz1 hz2 v l.length (l.map b8) hown s (by unfold maxLen; omega) (by omega) hB
  refine ⟨v', w', h1, ?_, h3⟩
  unfold Byt
  rw [List.length_append, List.map_append]
  exact h2
/-- At a region that draws. -/
theorem step_append_str {ops : Array Oper} {o : Oper} {a : Act} {K : Act → World → Prop} {Q : Exit → Act → World → Prop} {E : Prop} (hgd : o.guard = none) (s x : Operand) (t u : TypeId)
    (ho : o.op = .call { callee := .builtin .append, args := #[s, x], argTypes := #[t, u] }) (ht : P.underlying t = some (.slice e)) (hu : P.underlying u = some .string) (hi : (P.info? e).map (fun i => (i.zero, i.size, i.bytes)) = some (some (.int .u8 0), 1, 1))
    (hs : a.eval s = v) (hown : Byt w B e v l) (str : ByteArray) (hx : a.eval x = .string str) (hl : l.length + str.size < 140737488355328) (hB : B ≤ w.heap.size)
    (h : ∀ v' w', Byt w' B e v' (l ++ str.data.toList) → w.grownBy w' v.ownBlock → K (a.put o.dst v') w') : if Region.wanted o (yielded ops a.tmps) = true then Oper.wp P o a w K Q else E := by
  have hw : Region.wanted o (yielded ops a.tmps) = true := by simp [Region.wanted, hgd]
  rw [if_pos hw]
  obtain ⟨v', w', h1, h2, h3⟩ := append_str (P := P) t u o.type ht hu hi hown str hl hB
  unfold Oper.wp
  simp [execOp, ho, resolve, invoke, builtin, hs, hx, h1, Result.andThen]
  exact h v' w' h2 h3
/-- In a list of operations. -/
theorem wpList_append_str (w : World) {ops : Array Oper} {rest : List Oper} {o : Oper} {a : Act} {Q : Exit → Act → World → Prop} (hgd : o.guard = none) (s x : Operand) (t u : TypeId)
    (ho : o.op = .call { callee := .builtin .append, args := #[s, x], argTypes := #[t, u] }) (ht : P.underlying t = some (.slice e)) (hu : P.underlying u = some .string) (hi : (P.info? e).map (fun i => (i.zero, i.size, i.bytes)) = some (some (.int .u8 0), 1, 1))
    (hs : a.eval s = v) (hown : Byt w B e v l) (str : ByteArray) (hx : a.eval x = .string str) (hl : l.length + str.size < 140737488355328) (hB : B ≤ w.heap.size)
    (h : ∀ v' w', Byt w' B e v' (l ++ str.data.toList) → w.grownBy w' v.ownBlock → wpList P ops Q rest (a.put o.dst v') w') : wpList P ops Q (o :: rest) a w := by
  refine wpList_plain hgd fun K hK => ?_
  obtain ⟨v', w', h1, h2, h3⟩ := append_str (P := P) t u o.type ht hu hi hown str hl hB
  unfold Oper.wp execOp
  simp only [ho, resolve, invoke, builtin, Sem.run_bind, Sem.run_pure, Result.andThen_ok, List.map_toArray, List.map_cons, List.map_nil, hs, hx, h1]
  exact hK _ _ (h v' w' h2 h3)
theorem cat_is (a b c : ByteArray) (hc : a ++ b = c) (h : a.size + b.size ≤ 9223372036854775807) (w : World) : (Op.stringOp .add a b).run P w = .ok (.string c) w := by rw [run_string_add_sum _ _ _ h, hc]
theorem cat_list (a b : ByteArray) : (a ++ b).data.toList = a.data.toList ++ b.data.toList := by rw [ByteArray.data_append, Array.toList_append]
theorem cat_size (a b : ByteArray) : (a ++ b).size = a.size + b.size := ByteArray.size_append
end
end Go.Proofs.YtcbgflidlpmhcaaGreatDoor

namespace Go.Proofs.YtcbgflidlpmhcaaGreatDoor
open Go.RowKit

/-- The reader, and the pairs that it holds. -/
structure RdSt (w : World) (B p : Nat) (s : ByteArray) (v : Value) (a : ByteArray) (L : List KV) : Prop where
  blk : RdB w p s v a
  own : Own elKeys w B 37 v L
  low : B ≤ p
theorem RdSt.off {w : World} {B p : Nat} {s : ByteArray} {v : Value} {a : ByteArray} {L : List KV} (h : RdSt w B p s v a L) : v.ownBlock = none ∨ v.ownBlock ≠ some p := by
  rcases h.own.2 with ⟨rfl, _⟩ | ⟨g, cap, cur, rfl, hg, hh, _⟩
  · exact Or.inl rfl
  · refine Or.inr fun e => ?_
    have e : g = p := Option.some.inj e
    subst e
    have := h.blk
    unfold RdB Blk at this
    rw [hh] at this
    injection this with this
    injection this with _ h2
    exact absurd h2 (by decide)
theorem RdSt.next {w w' : World} {B p : Nat} {s s' : ByteArray} {v : Value} {a : ByteArray} {L : List KV} (h : RdSt w B p s v a L) (hb : RdB w' p s' v a) (hg : w.grownBy w' (some p)) : RdSt w' B p s' v a L :=
  ⟨hb, World.ownsRow.kept h.own hg h.off, h.low⟩
theorem RdSt.drewN {w : World} {B p : Nat} {s : ByteArray} {v : Value} {a : ByteArray} {L : List KV} (h : RdSt w B p s v a L) (j : Nat) : RdSt (w.drewN j) B p s v a L := ⟨h.blk.drewN j, h.own, h.low⟩
theorem RdSt.drew {w : World} {B p : Nat} {s : ByteArray} {v : Value} {a : ByteArray} {L : List KV} (h : RdSt w B p s v a L) : RdSt w.drew B p s v a L := ⟨h.blk.drew, h.own, h.low⟩
theorem below_rd {w0 w w' : World} {B p : Nat} (h : Below B w0 w) (hg : w.grownBy w' (some p)) (hB : B ≤ w0.heap.size) (hp : B ≤ p) : Below B w0 w' :=
  h.grown hg (Nat.le_trans hB h.size) (fun k hk => by injection hk with hk; omega)

theorem rd_num {w : World} {B p : Nat} {s : ByteArray} {v : Value} {a : ByteArray} {L : List KV} (h : RdSt w B p s v a L) (hs : s.size ≤ 1000000) (w0 : World) (h0 : Below B w0 w) (hB : B ≤ w0.heap.size) :
    Calls Tryz.prog 209 #[.pointer (some ⟨p, 0, none⟩)] w fun e w' => Below B w0 w' ∧ match gv (bl s) 0 0 with
      | .err _ => e = gaveB
      | .ok x n => e = .returned (.int .i64 (x : Int)) ∧ ∃ s', bl s' = (bl s).drop n ∧ s'.size ≤ s.size ∧ RdSt w' B p s' v a L := by
  cases hg : gv (bl s) 0 0 with
  | err er => exact (bnum_bad p s v a er w h.blk (by omega) hg).mono fun e w' ⟨h1, h2⟩ => ⟨below_rd h0 h2 hB h.low, h1⟩
  | ok x n => exact (bnum_ok p s v a x n w h.blk (by omega) hg).mono fun e w' ⟨h1, h2, h3⟩ => ⟨below_rd h0 h3 hB h.low, h1, _, bl_drop s n, by simp, h.next h2 h3⟩
theorem rd_take {w : World} {B p : Nat} {s : ByteArray} {v : Value} {a : ByteArray} {L : List KV} (h : RdSt w B p s v a L) (k : Nat) (w0 : World) (h0 : Below B w0 w) (hB : B ≤ w0.heap.size) :
    Calls Tryz.prog 210 #[.pointer (some ⟨p, 0, none⟩), .int .i64 (k : Int)] w fun e w' => Below B w0 w' ∧ ((s.size < k ∧ e = gaveB) ∨
      (k ≤ s.size ∧ e = .returned (.string (s.extract 0 k)) ∧ ∃ s', bl s' = (bl s).drop k ∧ RdSt w' B p s' v a L)) := by
  by_cases hk : k ≤ s.size
  · exact (btake_ok p s v a k w h.blk hk).mono fun e w' ⟨h1, h2, h3⟩ => ⟨below_rd h0 h3 hB h.low, Or.inr ⟨hk, h1, _, bl_drop s k, h.next h2 h3⟩⟩
  · exact (btake_short p s v a k w h.blk (by omega)).mono fun e w' ⟨h1, h2⟩ => ⟨by rw [h2]; exact h0, Or.inl ⟨by omega, h1⟩⟩

theorem step_err1 {i : Nat} {last rest : List UInt8} {e : Int} (h : gv rest 0 0 = .err e) : stepP i last rest = none := by unfold stepP; rw [h]
theorem step_err2 {i : Nat} {last rest : List UInt8} {x n1 : Nat} {e : Int} (h1 : gv rest 0 0 = .ok x n1) (h : gv (rest.drop n1) 0 0 = .err e) : stepP i last rest = none := by unfold stepP; rw [h1]; dsimp only; rw [h]
theorem step_err3 {i : Nat} {last rest : List UInt8} {x n1 y n2 : Nat} {e : Int} (h1 : gv rest 0 0 = .ok x n1) (h2 : gv (rest.drop n1) 0 0 = .ok y n2) (h : gv ((rest.drop n1).drop n2) 0 0 = .err e) : stepP i last rest = none := by unfold stepP; rw [h1]; dsimp only; rw [h2]; dsimp only; rw [h]
/-- What a pair's three numbers make of the bytes behind them. -/
def stepT (i : Nat) (last : List UInt8) (x y z : Nat) (t : List UInt8) : Option (KV × List UInt8) :=
  if x ≤ last.length ∧ y ≤ t.length ∧ z ≤ (t.drop y).length ∧ (last.take x ++ t.take y).length ≤ 65536 ∧ z ≤ 65536 ∧ (i = 0 ∨ Lib.compareBytes last (last.take x ++ t.take y) < 0) ∧ x = comI i last (last.take x ++ t.take y) then
    some ((⟨(last.take x ++ t.take y).toArray⟩, ⟨((t.drop y).take z).toArray⟩), (t.drop y).drop z)
  else none
theorem step_ok3 {i : Nat} {last rest : List UInt8} {x n1 y n2 z n3 : Nat} (h1 : gv rest 0 0 = .ok x n1) (h2 : gv (rest.drop n1) 0 0 = .ok y n2) (h3 : gv ((rest.drop n1).drop n2) 0 0 = .ok z n3) :
    stepP i last rest = stepT i last x y z (((rest.drop n1).drop n2).drop n3) := by unfold stepP; rw [h1]; dsimp only; rw [h2]; dsimp only; rw [h3]; rfl

theorem stepT_in {i x y z : Nat} {last t : List UInt8} {kk vv : ByteArray} (h1 : x ≤ last.length) (h2 : y ≤ t.length) (h3 : z ≤ (t.drop y).length) (hk : bl kk = last.take x ++ t.take y) (hv : bl vv = (t.drop y).take z) :
    stepT i last x y z t = if kk.size ≤ 65536 ∧ vv.size ≤ 65536 ∧ (i = 0 ∨ Lib.compareBytes last (bl kk) < 0) ∧ x = comI i last (bl kk) then some ((kk, vv), (t.drop y).drop z) else none := by
  have e1 : (⟨(last.take x ++ t.take y).toArray⟩ : ByteArray) = kk := bl_inj (by rw [bl_mk, hk])
  have e2 : (⟨((t.drop y).take z).toArray⟩ : ByteArray) = vv := bl_inj (by rw [bl_mk, hv])
  have e3 : (last.take x ++ t.take y).length = kk.size := by rw [← hk]; rfl
  have e4 : z = vv.size := by
    have := congrArg List.length hv
    rw [List.length_take, Nat.min_eq_left h3] at this
    exact this.symm
  unfold stepT
  rw [e1, e2, e3, ← hk, ← e4]
  by_cases hc : kk.size ≤ 65536 ∧ z ≤ 65536 ∧ (i = 0 ∨ Lib.compareBytes last (bl kk) < 0) ∧ x = comI i last (bl kk)
  · rw [if_pos ⟨h1, h2, h3, hc⟩, if_pos hc]
  · rw [if_neg (fun hh => hc hh.2.2.2), if_neg hc]
theorem own_slice {w : World} {B n sz : Nat} {e : TypeId} {v : Value} {xs : List Value} (h : w.ownsRow B e sz v n xs) : ∃ A m c, v = .slice A m c := by
  rcases h.2 with ⟨rfl, _⟩ | ⟨g, cap, cur, rfl, _⟩
  · exact ⟨_, _, _, rfl⟩
  · exact ⟨_, _, _, rfl⟩
theorem off_ne {v : Value} {p : Nat} (h : v.ownBlock = none ∨ v.ownBlock ≠ some p) : some p ≠ v.ownBlock := by
  rcases h with h | h
  · rw [h]; intro e; cases e
  · exact fun e => h e.symm
theorem own_set {w : World} {B p i n : Nat} {e : TypeId} {v : Value} {xs : List Value} {sz : Nat} (h : w.ownsRow B e sz v n xs) (hp : v.ownBlock = none ∨ v.ownBlock ≠ some p) (u : Value) : (w.setCell ⟨p, i, none⟩ u).ownsRow B e sz v n xs :=
  World.ownsRow.kept (row := some p) h (only_setCell (World.grownBy.refl _ _) (Or.inl rfl) u) hp
theorem own_off {w : World} {B p n : Nat} {s : ByteArray} {v0 v : Value} {a : ByteArray} {xs : List Value} {sz : Nat} (h : w.ownsRow B 37 sz v n xs) (hb : RdB w p s v0 a) : v.ownBlock = none ∨ v.ownBlock ≠ some p := by
  rcases h.2 with ⟨rfl, _⟩ | ⟨g, cap, cur, rfl, hg, hh, _⟩
  · exact Or.inl rfl
  · refine Or.inr fun e => ?_
    have e : g = p := Option.some.inj e
    subst e
    unfold RdB Blk at hb
    rw [hh] at hb
    injection hb with hb
    injection hb with _ h2
    exact absurd h2 (by decide)
/-- What a pair leaves behind. -/
def PairPost (w0 : World) (B p : Nat) (L : List KV) : Option (KV × List UInt8) → Ending → World → Prop
  | none, e, w' => e = gaveB ∧ Below B w0 w'
  | some (m, r), e, w' => e = .returned (.tuple #[]) ∧ Below B w0 w' ∧ ∃ s' v', bl s' = r ∧ RdSt w' B p s' v' m.1 (L ++ [m])

end Go.Proofs.YtcbgflidlpmhcaaGreatDoor

namespace Go.Proofs.YtcbgflidlpmhcaaGreatDoor
open Go.RowKit

set_option maxRecDepth 100000 in
set_option maxHeartbeats 4000000 in
theorem bpair_zero {w : World} {B p : Nat} {s : ByteArray} {v : Value} {a : ByteArray} {L : List KV} (h : RdSt w B p s v a L) (hs : s.size ≤ 1000000) (ha : a.size ≤ 65536) (hL : L.length ≤ 1000000) (hn : L.length = 0) (w0 : World) (h0 : Below B w0 w) (hB : B ≤ w0.heap.size) :
    Calls Tryz.prog 201 #[.pointer (some ⟨p, 0, none⟩)] w fun e w' => PairPost w0 B p L (stepP L.length (bl a) (bl s)) e w' := by
  obtain ⟨R, hR⟩ : ∃ R, stepP L.length (bl a) (bl s) = R := ⟨_, rfl⟩
  rw [hR]
  have HR := Lib.hid hR
  have C1 := Lib.hid (rd_num h hs w0 h0 hB)
  have Hn := Lib.hid hn
  clear h h0 hR hn
  go_enter Tryz.func201, Tryz.ntmps201
  go_wp2_with fail
  refine C1.out.mono ?_
  rintro e w1 ⟨b1, hc⟩
  cases hg1 : gv (bl s) 0 0 with
  | err er =>
    rw [hg1] at hc
    obtain rfl : R = none := by rw [← HR.out]; exact step_err1 hg1
    obtain rfl : e = gaveB := hc
    have b1 := Lib.hid b1
    clear hg1 C1
    go_wp2_with fail
    exact ⟨rfl, rfl, b1.out⟩
  | ok x n1 =>
    rw [hg1] at hc
    obtain ⟨rfl, s1, hs1, hz1, R1⟩ := hc
    have C2 := Lib.hid (rd_num R1 (by omega) w0 b1 hB)
    clear R1 b1 C1
    go_wp2_with fail
    refine C2.out.mono ?_
    rintro e w2 ⟨b2, hc⟩
    rw [hs1] at hc
    cases hg2 : gv ((bl s).drop n1) 0 0 with
    | err er =>
      rw [hg2] at hc
      obtain rfl : R = none := by rw [← HR.out]; exact step_err2 hg1 hg2
      obtain rfl : e = gaveB := hc
      have b2 := Lib.hid b2
      clear hg1 hg2 C2 hs1
      go_wp2_with fail
      exact ⟨rfl, rfl, b2.out⟩
    | ok y n2 =>
      rw [hg2] at hc
      obtain ⟨rfl, s2, hs2, hz2, R2⟩ := hc
      have C3 := Lib.hid (rd_num R2 (by omega) w0 b2 hB)
      clear R2 b2 C2
      go_wp2_with fail
      refine C3.out.mono ?_
      rintro e w3 ⟨b3, hc⟩
      rw [hs2] at hc
      cases hg3 : gv (((bl s).drop n1).drop n2) 0 0 with
      | err er =>
        rw [hg3] at hc
        obtain rfl : R = none := by rw [← HR.out]; exact step_err3 hg1 hg2 hg3
        obtain rfl : e = gaveB := hc
        have b3 := Lib.hid b3
        clear hg1 hg2 hg3 C3 hs1 hs2
        go_wp2_with fail
        exact ⟨rfl, rfl, b3.out⟩
      | ok z n3 =>
        rw [hg3] at hc
        obtain ⟨rfl, t, ht, hz3, R3⟩ := hc
        have hst := HR.out
        rw [step_ok3 hg1 hg2 hg3, ← ht] at hst
        have Hst := Lib.hid hst
        have hz := Nat.le_trans hz3 (Nat.le_trans hz2 (Nat.le_trans hz1 hs))
        have S3 := Lib.hid R3
        have b3 := Lib.hid b3
        clear hst hg1 hg2 hg3 C3 hs1 hs2 ht hz1 hz2 hz3 HR R3
        have c0 : w3.cell? ⟨p, 2, none⟩ = some (.string a) := S3.out.blk.cell 2
        have c1 : w3.cell? ⟨p, 1, none⟩ = some v := S3.out.blk.cell 1
        have Y := fun W => Lib.hid (must_yes W)
        have N := fun W => Lib.hid (must_no W)
        by_cases hx : x ≤ a.size
        · have x1 : (x : Int) ≤ (a.size : Int) := by omega
          have x2 : (0 : Int) ≤ (x : Int) := by omega
          go_wp2_with fail
          refine (Y _).out.mono ?_
          rintro e w4 ⟨rfl, rfl⟩
          by_cases hy : y ≤ t.size
          · have T2 := Lib.hid (btake_ok p t v a y w4.drew S3.out.blk.drew hy)
            have hk1 : bl (a.extract 0 x) = (bl a).take x := bl_take a x hx
            have hk2 : bl (t.extract 0 y) = (bl t).take y := bl_take t y hy
            have hk3 : (a.extract 0 x).size ≤ 65536 := by simp; omega
            have hk4 : (t.extract 0 y).size ≤ 1000000 := by simp; omega
            have ht1 : bl (t.extract y t.size) = (bl t).drop y := bl_drop t y
            have ht2 : (t.extract y t.size).size ≤ 1000000 := by simp; omega
            obtain ⟨kk, hkk⟩ : ∃ kk, a.extract 0 x ++ t.extract 0 y = kk := ⟨_, rfl⟩
            have hkl : bl kk = (bl a).take x ++ (bl t).take y := by
              rw [← hkk, ← hk1, ← hk2]; exact cat_list _ _
            have hkz : kk.size ≤ 1065536 := by rw [← hkk, cat_size]; omega
            have CA := fun W => cat_is (P := Tryz.prog) (a.extract 0 x) (t.extract 0 y) kk hkk (by omega) W
            obtain ⟨t1, ht⟩ : ∃ t1, t.extract y t.size = t1 := ⟨_, rfl⟩
            rw [ht] at T2 ht1 ht2
            have Hkl := Lib.hid hkl
            have Ht1 := Lib.hid ht1
            clear hkk hkl ht ht1 hk1 hk2
            go_upto_region 2 with fail
            go_region_held3 (fun W => W.cell? ⟨p, 2, none⟩ = some (.string a))
              (first | exact c0 | assumption)
              ((go_at_call 210; refine T2.out.mono ?_; rintro e w5 ⟨rfl, B5, g5⟩; have d5 : w5.cell? ⟨p, 2, none⟩ = some (.string a) := B5.cell 2))
            have S5 := Lib.hid (S3.out.drew.next B5 g5)
            have b5 := Lib.hid (below_rd b3.out.drew g5 hB S3.out.low)
            clear B5 g5 d5 T2 c0 c1 S3 b3 CA hk3 hk4
            by_cases hz1 : z ≤ t1.size
            · have T3 := Lib.hid (btake_ok p t1 v a z w5 S5.out.blk hz1)
              have hv1 : bl (t1.extract 0 z) = (bl t1).take z := bl_take t1 z hz1
              have hv2 : bl (t1.extract z t1.size) = (bl t1).drop z := bl_drop t1 z
              have hv3 : (t1.extract 0 z).size ≤ 1000000 := by simp; omega
              rw [Ht1.out] at hv1 hv2
              have hst := Hst.out
              rw [stepT_in (kk := kk) (vv := t1.extract 0 z) (by rw [bl_len]; exact hx) (by rw [bl_len]; exact hy) (by rw [← Ht1.out, bl_len]; exact hz1) Hkl.out hv1, ← hv2] at hst
              obtain ⟨vv, hvv⟩ : ∃ vv, t1.extract 0 z = vv := ⟨_, rfl⟩
              obtain ⟨t2, ht2⟩ : ∃ t2, t1.extract z t1.size = t2 := ⟨_, rfl⟩
              rw [hvv, ht2] at T3
              rw [hvv] at hv3 hst
              rw [ht2] at hst
              have HR2 := Lib.hid hst
              clear hst hvv ht2 hv1 hv2 Hst Ht1 Hkl
              go_wp2_with fail
              refine T3.out.mono ?_
              rintro e w6 ⟨rfl, B6, g6⟩
              have S6 := Lib.hid (S5.out.next B6 g6)
              have b6 := Lib.hid (below_rd b5.out g6 hB S5.out.low)
              clear B6 g6 T3 S5 b5
              by_cases hm : kk.size ≤ 65536 ∧ vv.size ≤ 65536
              · have m1 : decide ((kk.size : Int) ≤ 65536) = true := decide_eq_true (by omega)
                have m2 : decide ((vv.size : Int) ≤ 65536) = true := decide_eq_true (by omega)
                have m3 : (kk.size : Int) ≤ 65536 := by omega
                have m4 : (vv.size : Int) ≤ 65536 := by omega
                go_wp2_with fail
                refine (Y _).out.mono ?_
                rintro e w7 ⟨rfl, rfl⟩
                obtain ⟨ao, co, rfl⟩ := S6.out.own.slice
                have hlt : L.length = 0 ∨ Lib.compareBytes (bl a) (bl kk) < 0 := Or.inl Hn.out
                have n1 : ((L.length : Int) == 0) = true := by rw [beq_iff_eq]; have := Hn.out; omega
                have c1 : w7.cell? ⟨p, 1, none⟩ = some (.slice ao L.length co) := S6.out.blk.cell 1
                go_wp2_with fail
                refine (Y _).out.mono ?_
                rintro e wa ⟨rfl, rfl⟩
                clear c1 n1
                have CC := fun W => Lib.hid (common_any L.length a kk W (by omega) (by omega) (by omega))
                have c1 : wa.cell? ⟨p, 1, none⟩ = some (.slice ao L.length co) := S6.out.blk.cell 1
                have c2 : wa.cell? ⟨p, 2, none⟩ = some (.string a) := S6.out.blk.cell 2
                generalize hcx : comI L.length (bl a) (bl kk) = cx at *
                by_cases hxc : x = cx
                · subst hxc
                  have hst := HR2.out
                  rw [if_pos ⟨hm.1, hm.2, hlt, rfl⟩] at hst
                  subst hst
                  have W8 : ∀ j, Hid (RdSt (wa.drewN (1 + j)) B p t2 (.slice ao L.length co) a L ∧ Below B w0 (wa.drewN (1 + j))) := fun j => Lib.hid ⟨S6.out.drewN (1 + j), below_drewN b6.out (1 + j)⟩
                  clear b6 S6 HR2
                  go_upto_region 6 with fail
                  go_region_held3 (fun W => W.cell? ⟨p, 1, none⟩ = some (.slice ao L.length co) ∧ W.cell? ⟨p, 2, none⟩ = some (.string a))
                    (first | exact ⟨c1, c2⟩ | assumption)
                    (first
                      | (go_at_call 199; refine (Y _).out.mono ?_; rintro e w9 ⟨rfl, rfl⟩)
                      | (go_at_call 111; refine (CC _).out.mono ?_; rintro e w7 ⟨rfl, j, rfl⟩))
                  obtain ⟨S8, b8⟩ := (W8 j).out
                  have c3 : (wa.drewN (1 + j)).cell? ⟨p, 1, none⟩ = some (.slice ao L.length co) := c1
                  have f3 : (wa.drewN (1 + j)).frozen? ⟨p, 1, none⟩ = false := S8.blk.frozen 1
                  clear W8 CC c1 c2
                  generalize wa.drewN (1 + j) = w8 at *
                  obtain ⟨v', w9, hr, hown, hgr, _, _⟩ := app_own (P := Tryz.prog) elKeys 22 37 (.agg #[.string ⟨#[]⟩, .string ⟨#[]⟩]) 32 underKeys infoKeys rfl (w8.alloc (.cells #[.string kk, .string vv] 37)) B (.slice ao L.length co) L [(kk, vv)] (World.ownsRow.alloc S8.own _) (some ⟨w8.heap.size, 0, none⟩) 1 (fun h => by cases h) (fun a ha j' u hu => by
                    cases ha
                    rw [El.row_one] at hu
                    exact cells_new w8 37 [.string kk, .string vv] j' u hu) (by unfold maxLen; simp; omega) (by simp; omega) (by have := b8.size; simp; omega) 1 rfl
                  obtain ⟨A9, n9, cc9, rfl⟩ := own_slice hown
                  have hoff := S8.off
                  have B9 : RdB w9 p t2 (.slice ao L.length co) a := (S8.blk.alloc _).grown hgr (off_ne hoff)
                  have b9 : Hid (Below B w0 w9) := Lib.hid ((b8.alloc (Nat.le_trans hB b8.size) _).grown hgr (by have := b8.size; simp; omega) (fun k hk => ((World.ownsRow.alloc S8.own _ : (w8.alloc (.cells #[.string kk, .string vv] 37)).ownsRow B 37 _ _ _ _).lt k hk).1))
                  have HR9 := fun ty => Lib.hid (hr ty)
                  have c9 : w9.cell? ⟨p, 1, none⟩ = some (.slice ao L.length co) := B9.cell 1
                  have f9 : w9.frozen? ⟨p, 1, none⟩ = false := B9.frozen 1
                  have g9 : w9.frozen? ⟨p, 2, none⟩ = false := B9.frozen 2
                  have d9 : w9.cell? ⟨p, 2, none⟩ = some (.string a) := B9.cell 2
                  have e9 : (w9.setCell ⟨p, 1, none⟩ (Value.slice A9 n9 cc9)).frozen? ⟨p, 2, none⟩ = false := (Blk.set_ B9 1 (Value.slice A9 n9 cc9)).frozen 2
                  have h9 : (w9.setCell ⟨p, 1, none⟩ (Value.slice A9 n9 cc9)).cell? ⟨p, 2, none⟩ = some (.string a) := (Blk.set_ B9 1 (Value.slice A9 n9 cc9)).cell 2
                  have hst9 : Hid (RdSt ((w9.setCell ⟨p, 1, none⟩ (Value.slice A9 n9 cc9)).setCell ⟨p, 2, none⟩ (.string kk)) B p t2 (Value.slice A9 n9 cc9) kk (L ++ [(kk, vv)])) := Lib.hid (by
                    have hv9 : (Value.slice A9 n9 cc9).ownBlock = none ∨ (Value.slice A9 n9 cc9).ownBlock ≠ some p := own_off hown B9
                    exact ⟨(Blk.set_ (Blk.set_ B9 1 (Value.slice A9 n9 cc9)) 2 (.string kk)), own_set (own_set hown hv9 _) hv9 _, S8.low⟩)
                  have bst9 : Hid (Below B w0 ((w9.setCell ⟨p, 1, none⟩ (Value.slice A9 n9 cc9)).setCell ⟨p, 2, none⟩ (.string kk))) := Lib.hid (below_setCell (below_setCell b9.out S8.low _) S8.low _)
                  have B9 := Lib.hid B9
                  clear hr hown hgr b9 S8 b8 c3 f3 hoff
                  go_wp2_with (at_builtin; refine wpList_append_k _ w9 rfl (.tmp 77) (.tmp 81) 22 rfl _ _ (Value.slice A9 n9 cc9) rfl rfl (fun ty => (HR9 ty).out) ?_)
                  go_end0
                  exact ⟨rfl, bst9.out, _, _, rfl, hst9.out⟩
                · obtain rfl : R = none := by
                    rw [← HR2.out]
                    exact if_neg (fun hh => hxc hh.2.2.2)
                  have hxc' : ((x : Int) == (cx : Int)) = false := by rw [beq_eq_false_iff_ne]; omega
                  have Hb := fun j => Lib.hid (below_drewN b6.out j)
                  clear b6 S6 HR2
                  go_upto_region 6 with fail
                  go_region_dies
                  all_goals
                    rename_i K hK
                    refine (CC _).out.mono ?_
                    rintro e w5 ⟨rfl, j, rfl⟩
                    refine hK _ _ ?_
                    refine wpAny_ready (rs := [12]) (by kernel_rfl) (by simp) ?_
                    refine AllReady.cons rfl (fun K2 hK2 => ?_) AllReady.nil
                    go_simp
                    refine hK2 _ _ ?_
                    refine wpAny_ready (rs := [13]) (by kernel_rfl) (by simp) ?_
                    refine AllReady.cons rfl (fun K3 hK3 => ?_) AllReady.nil
                    go_simp
                    refine (N _).out.mono ?_
                    rintro e w6 ⟨rfl, rfl⟩
                    go_wp2_with fail
                    exact ⟨rfl, rfl, (Hb (1 + j)).out⟩
              · obtain rfl : R = none := by
                  rw [← HR2.out]
                  exact if_neg (fun hh => hm ⟨hh.1, hh.2.1⟩)
                by_cases hm1 : kk.size ≤ 65536
                · have m2 : decide ((vv.size : Int) ≤ 65536) = false := decide_eq_false (by omega)
                  have m3 : (kk.size : Int) ≤ 65536 := by omega
                  go_wp2_with fail
                  refine (N _).out.mono ?_
                  rintro e w7 ⟨rfl, rfl⟩
                  go_wp2_with fail
                  exact ⟨rfl, rfl, b6.out⟩
                · have m3 : ¬ (kk.size : Int) ≤ 65536 := by omega
                  go_wp2_with fail
                  refine (N _).out.mono ?_
                  rintro e w7 ⟨rfl, rfl⟩
                  go_wp2_with fail
                  exact ⟨rfl, rfl, b6.out⟩
            · obtain rfl : R = none := by
                rw [← Hst.out]
                exact if_neg (fun hh => hz1 (by have := hh.2.2.1; rw [← Ht1.out, bl_len] at this; exact this))
              have T3 := Lib.hid (btake_short p t1 v a z w5 S5.out.blk (by omega))
              go_wp2_with fail
              refine T3.out.mono ?_
              rintro e w6 ⟨rfl, rfl⟩
              go_wp2_with fail
              exact ⟨rfl, rfl, b5.out⟩
          · obtain rfl : R = none := by
              rw [← Hst.out]
              exact if_neg (fun hh => hy hh.2.1)
            have T2 := Lib.hid (btake_short p t v a y w4.drew S3.out.blk.drew (by omega))
            go_upto_region 2 with fail
            go_region_dies
            all_goals
              refine T2.out.mono ?_
              rintro e w5 ⟨rfl, rfl⟩
              go_wp2_with fail
              exact ⟨rfl, rfl, b3.out.drew⟩
        · obtain rfl : R = none := by
            rw [← Hst.out]
            exact if_neg (fun hh => hx hh.1)
          have x1 : ¬ (x : Int) ≤ (a.size : Int) := by omega
          go_wp2_with fail
          refine (N _).out.mono ?_
          rintro e w4 ⟨rfl, rfl⟩
          go_wp2_with fail
          exact ⟨rfl, rfl, b3.out⟩
end Go.Proofs.YtcbgflidlpmhcaaGreatDoor

namespace Go.Proofs.YtcbgflidlpmhcaaGreatDoor
open Go.RowKit

set_option maxRecDepth 100000 in
set_option maxHeartbeats 4000000 in
theorem bpair_more {w : World} {B p : Nat} {s : ByteArray} {v : Value} {a : ByteArray} {L : List KV} (h : RdSt w B p s v a L) (hs : s.size ≤ 1000000) (ha : a.size ≤ 65536) (hL : L.length ≤ 1000000) (hn : ¬ L.length = 0) (w0 : World) (h0 : Below B w0 w) (hB : B ≤ w0.heap.size) :
    Calls Tryz.prog 201 #[.pointer (some ⟨p, 0, none⟩)] w fun e w' => PairPost w0 B p L (stepP L.length (bl a) (bl s)) e w' := by
  obtain ⟨R, hR⟩ : ∃ R, stepP L.length (bl a) (bl s) = R := ⟨_, rfl⟩
  rw [hR]
  have HR := Lib.hid hR
  have C1 := Lib.hid (rd_num h hs w0 h0 hB)
  have Hn := Lib.hid hn
  clear h h0 hR hn
  go_enter Tryz.func201, Tryz.ntmps201
  go_wp2_with fail
  refine C1.out.mono ?_
  rintro e w1 ⟨b1, hc⟩
  cases hg1 : gv (bl s) 0 0 with
  | err er =>
    rw [hg1] at hc
    obtain rfl : R = none := by rw [← HR.out]; exact step_err1 hg1
    obtain rfl : e = gaveB := hc
    have b1 := Lib.hid b1
    clear hg1 C1
    go_wp2_with fail
    exact ⟨rfl, rfl, b1.out⟩
  | ok x n1 =>
    rw [hg1] at hc
    obtain ⟨rfl, s1, hs1, hz1, R1⟩ := hc
    have C2 := Lib.hid (rd_num R1 (by omega) w0 b1 hB)
    clear R1 b1 C1
    go_wp2_with fail
    refine C2.out.mono ?_
    rintro e w2 ⟨b2, hc⟩
    rw [hs1] at hc
    cases hg2 : gv ((bl s).drop n1) 0 0 with
    | err er =>
      rw [hg2] at hc
      obtain rfl : R = none := by rw [← HR.out]; exact step_err2 hg1 hg2
      obtain rfl : e = gaveB := hc
      have b2 := Lib.hid b2
      clear hg1 hg2 C2 hs1
      go_wp2_with fail
      exact ⟨rfl, rfl, b2.out⟩
    | ok y n2 =>
      rw [hg2] at hc
      obtain ⟨rfl, s2, hs2, hz2, R2⟩ := hc
      have C3 := Lib.hid (rd_num R2 (by omega) w0 b2 hB)
      clear R2 b2 C2
      go_wp2_with fail
      refine C3.out.mono ?_
      rintro e w3 ⟨b3, hc⟩
      rw [hs2] at hc
      cases hg3 : gv (((bl s).drop n1).drop n2) 0 0 with
      | err er =>
        rw [hg3] at hc
        obtain rfl : R = none := by rw [← HR.out]; exact step_err3 hg1 hg2 hg3
        obtain rfl : e = gaveB := hc
        have b3 := Lib.hid b3
        clear hg1 hg2 hg3 C3 hs1 hs2
        go_wp2_with fail
        exact ⟨rfl, rfl, b3.out⟩
      | ok z n3 =>
        rw [hg3] at hc
        obtain ⟨rfl, t, ht, hz3, R3⟩ := hc
        have hst := HR.out
        rw [step_ok3 hg1 hg2 hg3, ← ht] at hst
        have Hst := Lib.hid hst
        have hz := Nat.le_trans hz3 (Nat.le_trans hz2 (Nat.le_trans hz1 hs))
        have S3 := Lib.hid R3
        have b3 := Lib.hid b3
        clear hst hg1 hg2 hg3 C3 hs1 hs2 ht hz1 hz2 hz3 HR R3
        have c0 : w3.cell? ⟨p, 2, none⟩ = some (.string a) := S3.out.blk.cell 2
        have c1 : w3.cell? ⟨p, 1, none⟩ = some v := S3.out.blk.cell 1
        have Y := fun W => Lib.hid (must_yes W)
        have N := fun W => Lib.hid (must_no W)
        by_cases hx : x ≤ a.size
        · have x1 : (x : Int) ≤ (a.size : Int) := by omega
          have x2 : (0 : Int) ≤ (x : Int) := by omega
          go_wp2_with fail
          refine (Y _).out.mono ?_
          rintro e w4 ⟨rfl, rfl⟩
          by_cases hy : y ≤ t.size
          · have T2 := Lib.hid (btake_ok p t v a y w4.drew S3.out.blk.drew hy)
            have hk1 : bl (a.extract 0 x) = (bl a).take x := bl_take a x hx
            have hk2 : bl (t.extract 0 y) = (bl t).take y := bl_take t y hy
            have hk3 : (a.extract 0 x).size ≤ 65536 := by simp; omega
            have hk4 : (t.extract 0 y).size ≤ 1000000 := by simp; omega
            have ht1 : bl (t.extract y t.size) = (bl t).drop y := bl_drop t y
            have ht2 : (t.extract y t.size).size ≤ 1000000 := by simp; omega
            obtain ⟨kk, hkk⟩ : ∃ kk, a.extract 0 x ++ t.extract 0 y = kk := ⟨_, rfl⟩
            have hkl : bl kk = (bl a).take x ++ (bl t).take y := by
              rw [← hkk, ← hk1, ← hk2]; exact cat_list _ _
            have hkz : kk.size ≤ 1065536 := by rw [← hkk, cat_size]; omega
            have CA := fun W => cat_is (P := Tryz.prog) (a.extract 0 x) (t.extract 0 y) kk hkk (by omega) W
            obtain ⟨t1, ht⟩ : ∃ t1, t.extract y t.size = t1 := ⟨_, rfl⟩
            rw [ht] at T2 ht1 ht2
            have Hkl := Lib.hid hkl
            have Ht1 := Lib.hid ht1
            clear hkk hkl ht ht1 hk1 hk2
            go_upto_region 2 with fail
            go_region_held3 (fun W => W.cell? ⟨p, 2, none⟩ = some (.string a))
              (first | exact c0 | assumption)
              ((go_at_call 210; refine T2.out.mono ?_; rintro e w5 ⟨rfl, B5, g5⟩; have d5 : w5.cell? ⟨p, 2, none⟩ = some (.string a) := B5.cell 2))
            have S5 := Lib.hid (S3.out.drew.next B5 g5)
            have b5 := Lib.hid (below_rd b3.out.drew g5 hB S3.out.low)
            clear B5 g5 d5 T2 c0 c1 S3 b3 CA hk3 hk4
            by_cases hz1 : z ≤ t1.size
            · have T3 := Lib.hid (btake_ok p t1 v a z w5 S5.out.blk hz1)
              have hv1 : bl (t1.extract 0 z) = (bl t1).take z := bl_take t1 z hz1
              have hv2 : bl (t1.extract z t1.size) = (bl t1).drop z := bl_drop t1 z
              have hv3 : (t1.extract 0 z).size ≤ 1000000 := by simp; omega
              rw [Ht1.out] at hv1 hv2
              have hst := Hst.out
              rw [stepT_in (kk := kk) (vv := t1.extract 0 z) (by rw [bl_len]; exact hx) (by rw [bl_len]; exact hy) (by rw [← Ht1.out, bl_len]; exact hz1) Hkl.out hv1, ← hv2] at hst
              obtain ⟨vv, hvv⟩ : ∃ vv, t1.extract 0 z = vv := ⟨_, rfl⟩
              obtain ⟨t2, ht2⟩ : ∃ t2, t1.extract z t1.size = t2 := ⟨_, rfl⟩
              rw [hvv, ht2] at T3
              rw [hvv] at hv3 hst
              rw [ht2] at hst
              have HR2 := Lib.hid hst
              clear hst hvv ht2 hv1 hv2 Hst Ht1 Hkl
              go_wp2_with fail
              refine T3.out.mono ?_
              rintro e w6 ⟨rfl, B6, g6⟩
              have S6 := Lib.hid (S5.out.next B6 g6)
              have b6 := Lib.hid (below_rd b5.out g6 hB S5.out.low)
              clear B6 g6 T3 S5 b5
              by_cases hm : kk.size ≤ 65536 ∧ vv.size ≤ 65536
              · have m1 : decide ((kk.size : Int) ≤ 65536) = true := decide_eq_true (by omega)
                have m2 : decide ((vv.size : Int) ≤ 65536) = true := decide_eq_true (by omega)
                have m3 : (kk.size : Int) ≤ 65536 := by omega
                have m4 : (vv.size : Int) ≤ 65536 := by omega
                go_wp2_with fail
                refine (Y _).out.mono ?_
                rintro e w7 ⟨rfl, rfl⟩
                obtain ⟨ao, co, rfl⟩ := S6.out.own.slice
                have Cc := Lib.hid (compare_T a kk w7)
                have n1 : ((L.length : Int) == 0) = false := by rw [beq_eq_false_iff_ne]; have := Hn.out; omega
                have c1 : w7.cell? ⟨p, 1, none⟩ = some (.slice ao L.length co) := S6.out.blk.cell 1
                have c2 : w7.cell? ⟨p, 2, none⟩ = some (.string a) := S6.out.blk.cell 2
                by_cases hlt0 : cmpT a kk < 0
                · have hlt : L.length = 0 ∨ Lib.compareBytes (bl a) (bl kk) < 0 := Or.inr hlt0
                  have n2 : decide (cmpT a kk < 0) = true := decide_eq_true hlt0
                  generalize cmpT a kk = cm at *
                  go_wp2_with fail
                  refine Cc.out.mono ?_
                  rintro e w8 ⟨rfl, rfl⟩
                  go_wp2_with fail
                  refine (Y _).out.mono ?_
                  rintro e wa ⟨rfl, rfl⟩
                  clear c1 c2 n1 n2 hlt0 Cc
                  have CC := fun W => Lib.hid (common_any L.length a kk W (by omega) (by omega) (by omega))
                  have c1 : wa.cell? ⟨p, 1, none⟩ = some (.slice ao L.length co) := S6.out.blk.cell 1
                  have c2 : wa.cell? ⟨p, 2, none⟩ = some (.string a) := S6.out.blk.cell 2
                  generalize hcx : comI L.length (bl a) (bl kk) = cx at *
                  by_cases hxc : x = cx
                  · subst hxc
                    have hst := HR2.out
                    rw [if_pos ⟨hm.1, hm.2, hlt, rfl⟩] at hst
                    subst hst
                    have W8 : ∀ j, Hid (RdSt (wa.drewN (1 + j)) B p t2 (.slice ao L.length co) a L ∧ Below B w0 (wa.drewN (1 + j))) := fun j => Lib.hid ⟨S6.out.drewN (1 + j), below_drewN b6.out (1 + j)⟩
                    clear b6 S6 HR2
                    go_upto_region 6 with fail
                    go_region_held3 (fun W => W.cell? ⟨p, 1, none⟩ = some (.slice ao L.length co) ∧ W.cell? ⟨p, 2, none⟩ = some (.string a))
                      (first | exact ⟨c1, c2⟩ | assumption)
                      (first
                        | (go_at_call 199; refine (Y _).out.mono ?_; rintro e w9 ⟨rfl, rfl⟩)
                        | (go_at_call 111; refine (CC _).out.mono ?_; rintro e w7 ⟨rfl, j, rfl⟩))
                    obtain ⟨S8, b8⟩ := (W8 j).out
                    have c3 : (wa.drewN (1 + j)).cell? ⟨p, 1, none⟩ = some (.slice ao L.length co) := c1
                    have f3 : (wa.drewN (1 + j)).frozen? ⟨p, 1, none⟩ = false := S8.blk.frozen 1
                    clear W8 CC c1 c2
                    generalize wa.drewN (1 + j) = w8 at *
                    obtain ⟨v', w9, hr, hown, hgr, _, _⟩ := app_own (P := Tryz.prog) elKeys 22 37 (.agg #[.string ⟨#[]⟩, .string ⟨#[]⟩]) 32 underKeys infoKeys rfl (w8.alloc (.cells #[.string kk, .string vv] 37)) B (.slice ao L.length co) L [(kk, vv)] (World.ownsRow.alloc S8.own _) (some ⟨w8.heap.size, 0, none⟩) 1 (fun h => by cases h) (fun a ha j' u hu => by
                      cases ha
                      rw [El.row_one] at hu
                      exact cells_new w8 37 [.string kk, .string vv] j' u hu) (by unfold maxLen; simp; omega) (by simp; omega) (by have := b8.size; simp; omega) 1 rfl
                    obtain ⟨A9, n9, cc9, rfl⟩ := own_slice hown
                    have hoff := S8.off
                    have B9 : RdB w9 p t2 (.slice ao L.length co) a := (S8.blk.alloc _).grown hgr (off_ne hoff)
                    have b9 : Hid (Below B w0 w9) := Lib.hid ((b8.alloc (Nat.le_trans hB b8.size) _).grown hgr (by have := b8.size; simp; omega) (fun k hk => ((World.ownsRow.alloc S8.own _ : (w8.alloc (.cells #[.string kk, .string vv] 37)).ownsRow B 37 _ _ _ _).lt k hk).1))
                    have HR9 := fun ty => Lib.hid (hr ty)
                    have c9 : w9.cell? ⟨p, 1, none⟩ = some (.slice ao L.length co) := B9.cell 1
                    have f9 : w9.frozen? ⟨p, 1, none⟩ = false := B9.frozen 1
                    have g9 : w9.frozen? ⟨p, 2, none⟩ = false := B9.frozen 2
                    have d9 : w9.cell? ⟨p, 2, none⟩ = some (.string a) := B9.cell 2
                    have e9 : (w9.setCell ⟨p, 1, none⟩ (Value.slice A9 n9 cc9)).frozen? ⟨p, 2, none⟩ = false := (Blk.set_ B9 1 (Value.slice A9 n9 cc9)).frozen 2
                    have h9 : (w9.setCell ⟨p, 1, none⟩ (Value.slice A9 n9 cc9)).cell? ⟨p, 2, none⟩ = some (.string a) := (Blk.set_ B9 1 (Value.slice A9 n9 cc9)).cell 2
                    have hst9 : Hid (RdSt ((w9.setCell ⟨p, 1, none⟩ (Value.slice A9 n9 cc9)).setCell ⟨p, 2, none⟩ (.string kk)) B p t2 (Value.slice A9 n9 cc9) kk (L ++ [(kk, vv)])) := Lib.hid (by
                      have hv9 : (Value.slice A9 n9 cc9).ownBlock = none ∨ (Value.slice A9 n9 cc9).ownBlock ≠ some p := own_off hown B9
                      exact ⟨(Blk.set_ (Blk.set_ B9 1 (Value.slice A9 n9 cc9)) 2 (.string kk)), own_set (own_set hown hv9 _) hv9 _, S8.low⟩)
                    have bst9 : Hid (Below B w0 ((w9.setCell ⟨p, 1, none⟩ (Value.slice A9 n9 cc9)).setCell ⟨p, 2, none⟩ (.string kk))) := Lib.hid (below_setCell (below_setCell b9.out S8.low _) S8.low _)
                    have B9 := Lib.hid B9
                    clear hr hown hgr b9 S8 b8 c3 f3 hoff
                    go_wp2_with (at_builtin; refine wpList_append_k _ w9 rfl (.tmp 77) (.tmp 81) 22 rfl _ _ (Value.slice A9 n9 cc9) rfl rfl (fun ty => (HR9 ty).out) ?_)
                    go_end0
                    exact ⟨rfl, bst9.out, _, _, rfl, hst9.out⟩
                  · obtain rfl : R = none := by
                      rw [← HR2.out]
                      exact if_neg (fun hh => hxc hh.2.2.2)
                    have hxc' : ((x : Int) == (cx : Int)) = false := by rw [beq_eq_false_iff_ne]; omega
                    have Hb := fun j => Lib.hid (below_drewN b6.out j)
                    clear b6 S6 HR2
                    go_upto_region 6 with fail
                    go_region_dies
                    all_goals
                      rename_i K hK
                      refine (CC _).out.mono ?_
                      rintro e w5 ⟨rfl, j, rfl⟩
                      refine hK _ _ ?_
                      refine wpAny_ready (rs := [12]) (by kernel_rfl) (by simp) ?_
                      refine AllReady.cons rfl (fun K2 hK2 => ?_) AllReady.nil
                      go_simp
                      refine hK2 _ _ ?_
                      refine wpAny_ready (rs := [13]) (by kernel_rfl) (by simp) ?_
                      refine AllReady.cons rfl (fun K3 hK3 => ?_) AllReady.nil
                      go_simp
                      refine (N _).out.mono ?_
                      rintro e w6 ⟨rfl, rfl⟩
                      go_wp2_with fail
                      exact ⟨rfl, rfl, (Hb (1 + j)).out⟩
                · obtain rfl : R = none := by
                    rw [← HR2.out]
                    refine if_neg (fun hh => ?_)
                    rcases hh.2.2.1 with h | h
                    · exact Hn.out h
                    · exact hlt0 h
                  have n2 : decide (cmpT a kk < 0) = false := decide_eq_false hlt0
                  generalize cmpT a kk = cm at *
                  go_wp2_with fail
                  refine Cc.out.mono ?_
                  rintro e w8 ⟨rfl, rfl⟩
                  go_wp2_with fail
                  refine (N _).out.mono ?_
                  rintro e wa ⟨rfl, rfl⟩
                  go_wp2_with fail
                  exact ⟨rfl, rfl, b6.out⟩
              · obtain rfl : R = none := by
                  rw [← HR2.out]
                  exact if_neg (fun hh => hm ⟨hh.1, hh.2.1⟩)
                by_cases hm1 : kk.size ≤ 65536
                · have m2 : decide ((vv.size : Int) ≤ 65536) = false := decide_eq_false (by omega)
                  have m3 : (kk.size : Int) ≤ 65536 := by omega
                  go_wp2_with fail
                  refine (N _).out.mono ?_
                  rintro e w7 ⟨rfl, rfl⟩
                  go_wp2_with fail
                  exact ⟨rfl, rfl, b6.out⟩
                · have m3 : ¬ (kk.size : Int) ≤ 65536 := by omega
                  go_wp2_with fail
                  refine (N _).out.mono ?_
                  rintro e w7 ⟨rfl, rfl⟩
                  go_wp2_with fail
                  exact ⟨rfl, rfl, b6.out⟩
            · obtain rfl : R = none := by
                rw [← Hst.out]
                exact if_neg (fun hh => hz1 (by have := hh.2.2.1; rw [← Ht1.out, bl_len] at this; exact this))
              have T3 := Lib.hid (btake_short p t1 v a z w5 S5.out.blk (by omega))
              go_wp2_with fail
              refine T3.out.mono ?_
              rintro e w6 ⟨rfl, rfl⟩
              go_wp2_with fail
              exact ⟨rfl, rfl, b5.out⟩
          · obtain rfl : R = none := by
              rw [← Hst.out]
              exact if_neg (fun hh => hy hh.2.1)
            have T2 := Lib.hid (btake_short p t v a y w4.drew S3.out.blk.drew (by omega))
            go_upto_region 2 with fail
            go_region_dies
            all_goals
              refine T2.out.mono ?_
              rintro e w5 ⟨rfl, rfl⟩
              go_wp2_with fail
              exact ⟨rfl, rfl, b3.out.drew⟩
        · obtain rfl : R = none := by
            rw [← Hst.out]
            exact if_neg (fun hh => hx hh.1)
          have x1 : ¬ (x : Int) ≤ (a.size : Int) := by omega
          go_wp2_with fail
          refine (N _).out.mono ?_
          rintro e w4 ⟨rfl, rfl⟩
          go_wp2_with fail
          exact ⟨rfl, rfl, b3.out⟩
end Go.Proofs.YtcbgflidlpmhcaaGreatDoor

namespace Go.Proofs.YtcbgflidlpmhcaaGreatDoor
open Go.RowKit

theorem bpair_any {w : World} {B p : Nat} {s : ByteArray} {v : Value} {a : ByteArray} {L : List KV} (h : RdSt w B p s v a L) (hs : s.size ≤ 1000000) (ha : a.size ≤ 65536) (hL : L.length ≤ 1000000) (w0 : World) (h0 : Below B w0 w) (hB : B ≤ w0.heap.size) :
    Calls Tryz.prog 201 #[.pointer (some ⟨p, 0, none⟩)] w fun e w' => PairPost w0 B p L (stepP L.length (bl a) (bl s)) e w' := by
  by_cases hn : L.length = 0
  · exact bpair_zero h hs ha hL hn w0 h0 hB
  · exact bpair_more h hs ha hL hn w0 h0 hB

set_option maxRecDepth 100000 in
set_option maxHeartbeats 2000000 in
theorem unfixed_any (s : ByteArray) (w : World) (h : s.size = 4) :
    Calls Tryz.prog 200 #[.string s] w fun e w' => e = .returned (.int .i64 (getL (bl s) : Int)) ∧ w' = w := by
  have C := Lib.hid (get_ok s w (by omega) (by omega))
  have Y := fun W => Lib.hid (must_yes W)
  clear h
  go_enter Tryz.func200, Tryz.ntmps200
  go_wp2_with fail
  refine C.out.mono ?_
  rintro e w1 ⟨rfl, rfl⟩
  go_wp2_with fail
  refine (Y _).out.mono ?_
  rintro e w1 ⟨rfl, rfl⟩
  go_wp2_with fail
  go_ret
  exact ⟨rfl, rfl⟩

/-- How many bytes are left to the reader in block p. -/
def restLen (p : Nat) (w : World) : Nat := match w.cell? ⟨p, 0, none⟩ with
  | some (.string s) => s.size
  | _ => 0
theorem restLen_is {p : Nat} {w : World} {s : ByteArray} {v : Value} {a : ByteArray} (h : RdB w p s v a) : restLen p w = s.size := by
  unfold restLen
  rw [show w.cell? ⟨p, 0, none⟩ = some (.string s) from h.cell 0]
theorem step_less {i : Nat} {last rest r' : List UInt8} {m : KV} (h : stepP i last rest = some (m, r')) : r'.length < rest.length := by
  rw [(step_some h).1, List.length_append, onePair, List.length_append]
  have := pv_pos (comI i last (bl m.1))
  omega
/-- What read answers. -/
def ReadPost (w : World) : Option (List KV) → Ending → World → Prop
  | none, e, w' => e = gaveB ∧ Below w.heap.size w w'
  | some l, e, w' => Below w.heap.size w w' ∧ ∃ v, e = .returned v ∧ Own elKeys w' w.heap.size 37 v l
theorem sP_none1 {b : ByteArray} (h : b.size < 8 ∨ 524288 < b.size) : sParse b = none := by unfold sParse; rw [if_pos h]
theorem sP_none2 {b : ByteArray} (h : getL ((bl b).drop (b.size - 4)) ≠ crc ((bl b).take (b.size - 4))) : sParse b = none := by
  unfold sParse
  by_cases h1 : b.size < 8 ∨ 524288 < b.size
  · rw [if_pos h1]
  · rw [if_neg h1, if_pos h]
theorem sP_is {b : ByteArray} (h1 : ¬ (b.size < 8 ∨ 524288 < b.size)) (h2 : getL ((bl b).drop (b.size - 4)) = crc ((bl b).take (b.size - 4))) :
    sParse b = match strictP b.size 0 [] ((bl b).take (b.size - 8)) with
    | none => none
    | some l => if getL (((bl b).take (b.size - 4)).drop (b.size - 8)) = l.length then some l else none := by
  unfold sParse
  rw [if_neg h1, if_neg (fun h => h h2)]
  rfl

set_option maxRecDepth 100000 in
set_option maxHeartbeats 4000000 in
theorem read_any (b : ByteArray) (w : World) (hs : b.size ≤ 1000000) (hT : LaidB w) :
    Calls Tryz.prog 187 #[.string b] w fun e w' => ReadPost w (sParse b) e w' := by
  obtain ⟨R, hR⟩ : ∃ R, sParse b = R := ⟨_, rfl⟩
  rw [hR]
  have Y := fun W => Lib.hid (must_yes W)
  have N := fun W => Lib.hid (must_no W)
  by_cases h1 : b.size < 8 ∨ 524288 < b.size
  · obtain rfl : R = none := by rw [← hR]; exact sP_none1 h1
    clear hR
    by_cases h8 : b.size < 8
    · have g1 : ¬ (8 : Int) ≤ (b.size : Int) := by omega
      clear h1 h8
      go_enter Tryz.func187, Tryz.ntmps187
      go_wp2_with fail
      refine (N _).out.mono ?_
      rintro e w1 ⟨rfl, rfl⟩
      go_wp2_with fail
      exact ⟨rfl, rfl, Below.refl _ _⟩
    · have g1 : (8 : Int) ≤ (b.size : Int) := by omega
      have g2 : decide ((b.size : Int) ≤ 524288) = false := decide_eq_false (by omega)
      clear h1 h8
      go_enter Tryz.func187, Tryz.ntmps187
      go_wp2_with fail
      refine (N _).out.mono ?_
      rintro e w1 ⟨rfl, rfl⟩
      go_wp2_with fail
      exact ⟨rfl, rfl, Below.refl _ _⟩
  · have HR := Lib.hid hR
    have g1 : (8 : Int) ≤ (b.size : Int) := by omega
    have g2 : (b.size : Int) ≤ 524288 := by omega
    obtain ⟨m4, hm4⟩ : ∃ m, b.size - 4 = m := ⟨_, rfl⟩
    obtain ⟨m8, hm8⟩ : ∃ m, b.size - 8 = m := ⟨_, rfl⟩
    have g3 : wrap64 ((b.size : Int) - 4) = (m4 : Int) := by unfold wrap64; omega
    have g4 : IntKind.i64.wrap ((b.size : Int) - 4) = (m4 : Int) := by rw [IntKind.wrap_i64]; omega
    have g5 : (m4 : Int) ≤ (b.size : Int) := by omega
    have g6 : (0 : Int) ≤ (m4 : Int) := by omega
    have g7 : wrap64 ((b.size : Int) - 8) = (m8 : Int) := by unfold wrap64; omega
    have g8 : IntKind.i64.wrap ((b.size : Int) - 8) = (m8 : Int) := by rw [IntKind.wrap_i64]; omega
    have HT := Lib.hid hT
    have H1 := Lib.hid h1
    have Hm4 := Lib.hid hm4
    have Hm8 := Lib.hid hm8
    have b4 : bl (b.extract m4 b.size) = (bl b).drop m4 := bl_drop b m4
    have z4 : (b.extract m4 b.size).size = 4 := by simp; omega
    have c4 : bl (b.extract 0 m4) = (bl b).take m4 := bl_take b m4 (by omega)
    have y4 : (b.extract 0 m4).size = m4 := by simp; omega
    clear hR h1 hT hm4 hm8
    go_enter Tryz.func187, Tryz.ntmps187
    go_wp2_with fail
    refine (Y _).out.mono ?_
    rintro e w1 ⟨rfl, rfl⟩
    go_wp2_with fail
    go_quiet (fail)
    have hb2 : Hid (Below w1.heap.size w1 (w1.drewN nq)) := Lib.hid (below_drewN (Below.refl _ _) nq)
    have L2 := HT.out.on hb2.out
    generalize w1.drewN nq = w2 at *
    generalize b.extract m4 b.size = sm at *
    generalize b.extract 0 m4 = sd at *
    have CU := Lib.hid (unfixed_any sm w2 z4)
    have CS : Hid (Calls Tryz.prog 33 #[.string sd] w2 fun e w' => e = .returned (.int .i64 (crc (bl sd) : Int)) ∧ w2 = w') := Lib.hid (sum_any sd w2 (by omega) L2.halves)
    obtain ⟨x, hx⟩ : ∃ x, getL (bl sm) = x := ⟨_, rfl⟩
    obtain ⟨y, hy⟩ : ∃ y, crc (bl sd) = y := ⟨_, rfl⟩
    rw [hx] at CU
    rw [hy] at CS
    by_cases hxy : x = y
    · subst hxy
      have hst := HR.out
      rw [sP_is H1.out (by rw [Hm4.out, ← b4, ← c4, hx, hy]), Hm4.out, Hm8.out, ← c4] at hst
      have hd8 : (bl b).take m8 = (bl sd).take m8 := by
        rw [c4, List.take_take, Nat.min_eq_left (by have := Hm8.out; have := Hm4.out; omega)]
      rw [hd8] at hst
      have q5 : (m8 : Int) ≤ (sd.size : Int) := by have := Hm8.out; have := Hm4.out; omega
      have q6 : (0 : Int) ≤ (m8 : Int) := by omega
      have p8 : bl (sd.extract 0 m8) = (bl sd).take m8 := bl_take sd m8 (by omega)
      have k8 : bl (sd.extract m8 m4) = (bl sd).drop m8 := by have := bl_drop sd m8; rw [y4] at this; exact this
      have x8 : (sd.extract m8 m4).size = 4 := by have := Hm8.out; have := Hm4.out; simp; omega
      have v8 : (sd.extract 0 m8).size ≤ b.size := by simp; omega
      rw [← p8, ← k8] at hst
      have HR2 := Lib.hid hst
      clear hst hd8 p8 k8 hx hy b4 c4 z4 HR H1 L2
      go_wp2_with fail
      refine CU.out.mono ?_
      rintro e w3 ⟨rfl, rfl⟩
      go_wp2_with fail
      refine CS.out.mono ?_
      rintro e w4 ⟨rfl, rfl⟩
      go_wp2_with fail
      refine (Y _).out.mono ?_
      rintro e w5 ⟨rfl, rfl⟩
      go_wp2_with fail
      go_quiet (fail)
      have hb6 : Hid (Below w1.heap.size w1 (w5.drewN nq)) := Lib.hid (below_drewN hb2.out nq)
      generalize sd.extract 0 m8 = sp at *
      generalize sd.extract m8 m4 = ct at *
      generalize w5.drewN nq = w6 at *
      obtain ⟨O, hO⟩ : ∃ O, strictP b.size 0 [] (bl sp) = O := ⟨_, rfl⟩
      have hr2 := HR2.out
      rw [hO] at hr2
      have HR3 := Lib.hid hr2
      have HO := Lib.hid hO
      have CU2 := fun W => Lib.hid (unfixed_any ct W x8)
      have R0 : Hid (RdSt (w6.alloc (.cells #[.string sp, .slice none 0 0, .string ⟨#[]⟩] 224)) w1.heap.size w6.heap.size sp (.slice none 0 0) ⟨#[]⟩ []) := Lib.hid ⟨Blk.new _ _ _, World.ownsRow_nil _ _ _ _, hb6.out.size⟩
      have B0 : Hid (Below w1.heap.size w1 (w6.alloc (.cells #[.string sp, .slice none 0 0, .string ⟨#[]⟩] 224))) := Lib.hid (below_alloc hb6.out (Nat.le_refl _) _)
      clear hr2 hO HR2 CU CS hb2 hb6
      go_wp2_with fail
      generalize w6.alloc (.cells #[.string sp, .slice none 0 0, .string ⟨#[]⟩] 224) = w7 at *
      generalize w6.heap.size = p at *
      go_loopw [] (fun wr => ∃ (s : ByteArray) (v : Value) (a : ByteArray) (l : List KV) (f : Nat), Hid (RdSt wr w1.heap.size p s v a l) ∧ Hid (goOn l (strictP f l.length (bl a) (bl s)) = O) ∧ s.size ≤ f ∧ s.size + l.length ≤ 1000000 ∧ a.size ≤ 65536 ∧ Hid (Below w1.heap.size w1 wr)) (fun wr => restLen p wr)
      case atStart => exact ⟨sp, _, _, [], b.size, R0, Lib.hid (by rw [goOn_nil]; exact HO.out), by omega, by simp; omega, by decide, B0⟩
      case round =>
        obtain ⟨s, v, a, l, f, HS, HG, hf, hsl, ha, HB⟩ := hrel
        have c0 : wr.cell? ⟨p, 0, none⟩ = some (.string s) := HS.out.blk.cell 0
        by_cases hs0 : bl s = []
        · have e0 : s.toList.isEmpty = true := by rw [Lib.toList_data, show s.data.toList = [] from hs0]; rfl
          have hg := HG.out
          rw [hs0, strict_nil, goOn, List.append_nil] at hg
          subst hg
          obtain ⟨ao, co, rfl⟩ := HS.out.own.slice
          have c1 : wr.cell? ⟨p, 1, none⟩ = some (.slice ao l.length co) := HS.out.blk.cell 1
          have hr3 := HR3.out
          have HO2 := Lib.hid HS.out.own
          clear hs0 HG HR3
          obtain ⟨y, hy⟩ : ∃ y, getL (bl ct) = y := ⟨_, rfl⟩
          rw [hy] at CU2
          dsimp only at hr3
          rw [hy] at hr3
          clear hy
          go_wp2_with fail
          by_cases hyl : y = l.length
          · subst hyl
            rw [if_pos rfl] at hr3
            subst hr3
            go_upto_region 8 with fail
            go_region_held3 (fun W => W.cell? ⟨p, 1, none⟩ = some (.slice ao l.length co))
              (first | exact c1 | assumption)
              (first
                | (go_at_call 199; refine (Y _).out.mono ?_; rintro e w9 ⟨rfl, rfl⟩)
                | (go_at_call 200; refine (CU2 _).out.mono ?_; rintro e w8 ⟨rfl, rfl⟩))
            clear CU2
            have c2 : wr.drew.cell? ⟨p, 1, none⟩ = some (.slice ao l.length co) := c1
            go_wp2_with fail
            go_ret
            exact ⟨Below.drew HB.out, _, rfl, HO2.out⟩
          · rw [if_neg hyl] at hr3
            subst hr3
            have HBd := Lib.hid (Below.drew HB.out)
            have hyl' : ((y : Int) == (l.length : Int)) = false := by rw [beq_eq_false_iff_ne]; omega
            go_upto_region 8 with fail
            go_region_dies
            · rename_i K hK
              refine (CU2 _).out.mono ?_
              rintro e w8 ⟨rfl, rfl⟩
              refine hK _ _ ?_
              refine wpAny_ready (rs := [3]) (by kernel_rfl) (by simp) ?_
              refine AllReady.cons rfl (fun K3 hK3 => ?_) AllReady.nil
              go_simp
              refine hK3 _ _ ?_
              refine wpAny_ready (rs := [4]) (by kernel_rfl) (by simp) ?_
              refine AllReady.cons rfl (fun K4 hK4 => ?_) AllReady.nil
              go_simp
              refine hK4 _ _ ?_
              refine wpAny_ready (rs := [5]) (by kernel_rfl) (by simp) ?_
              refine AllReady.cons rfl (fun K5 hK5 => ?_) AllReady.nil
              go_simp
              refine hK5 _ _ ?_
              refine wpAny_ready (rs := [6]) (by kernel_rfl) (by simp) ?_
              refine AllReady.cons rfl (fun K6 hK6 => ?_) AllReady.nil
              go_simp
              refine (N _).out.mono ?_
              rintro e w9 ⟨rfl, rfl⟩
              go_wp2_with fail
              exact ⟨rfl, rfl, HBd.out⟩
            · rename_i K hK
              refine (CU2 _).out.mono ?_
              rintro e w8 ⟨rfl, rfl⟩
              refine hK _ _ ?_
              refine wpAny_ready (rs := [4]) (by kernel_rfl) (by simp) ?_
              refine AllReady.cons rfl (fun K4 hK4 => ?_) AllReady.nil
              go_simp
              refine hK4 _ _ ?_
              refine wpAny_ready (rs := [5]) (by kernel_rfl) (by simp) ?_
              refine AllReady.cons rfl (fun K5 hK5 => ?_) AllReady.nil
              go_simp
              refine hK5 _ _ ?_
              refine wpAny_ready (rs := [6]) (by kernel_rfl) (by simp) ?_
              refine AllReady.cons rfl (fun K6 hK6 => ?_) AllReady.nil
              go_simp
              refine (N _).out.mono ?_
              rintro e w9 ⟨rfl, rfl⟩
              go_wp2_with fail
              exact ⟨rfl, rfl, HBd.out⟩
            · rename_i K hK
              refine (CU2 _).out.mono ?_
              rintro e w8 ⟨rfl, rfl⟩
              refine hK _ _ ?_
              refine wpAny_ready (rs := [5]) (by kernel_rfl) (by simp) ?_
              refine AllReady.cons rfl (fun K5 hK5 => ?_) AllReady.nil
              go_simp
              refine hK5 _ _ ?_
              refine wpAny_ready (rs := [6]) (by kernel_rfl) (by simp) ?_
              refine AllReady.cons rfl (fun K6 hK6 => ?_) AllReady.nil
              go_simp
              refine (N _).out.mono ?_
              rintro e w9 ⟨rfl, rfl⟩
              go_wp2_with fail
              exact ⟨rfl, rfl, HBd.out⟩
        · have e0 : s.toList.isEmpty = false := by
            rw [Lib.toList_data]
            cases h : s.data.toList with
            | nil => exact absurd h hs0
            | cons x r => rfl
          have CP := Lib.hid (bpair_any HS.out (by omega) ha (by omega) w1 HB.out (Nat.le_refl _))
          cases hst : stepP l.length (bl a) (bl s) with
          | none =>
            rw [hst] at CP
            have hg := HG.out
            rw [strict_none hs0 hst, goOn] at hg
            subst hg
            have hr3 := HR3.out
            dsimp only at hr3
            subst hr3
            clear hst hs0 HG HR3
            go_wp2_with fail
            refine CP.out.mono ?_
            rintro e w8 ⟨rfl, hb⟩
            go_wp2_with fail
            exact ⟨rfl, rfl, hb⟩
          | some q =>
            obtain ⟨m, r'⟩ := q
            rw [hst] at CP
            have hless := step_less hst
            have hok := (step_some hst).2
            have hg := HG.out
            obtain ⟨f, rfl⟩ : ∃ g, f = g + 1 := ⟨f - 1, by
              have : s.size ≠ 0 := fun h => hs0 (List.eq_nil_of_length_eq_zero h)
              omega⟩
            rw [strict_some hs0 hst, goOn_cons] at hg
            have HG2 := Lib.hid hg
            have hk := hok.1
            have hln : (bl s).length = s.size := rfl
            have hrl := restLen_is HS.out.blk
            clear hst hs0 HG hg hok
            go_wp2_with fail
            refine CP.out.mono ?_
            rintro e w8 ⟨rfl, hb, s', v', hs', hR8⟩
            have hln' : (bl s').length = s'.size := rfl
            have hrl' := restLen_is hR8.blk
            rw [hs'] at hln'
            have HR8 := Lib.hid hR8
            have HB8 := Lib.hid hb
            have Hs' := Lib.hid hs'
            clear hs' hR8 hb
            go_wp2_with fail
            go_roundw
            case rel => exact ⟨s', v', m.1, l ++ [m], f, HR8, Lib.hid (by rw [Hs'.out, List.length_append]; exact HG2.out), by omega, by rw [List.length_append]; simp; omega, hk, HB8⟩
            case measure => rw [hrl, hrl']; omega
    · obtain rfl : R = none := by
        rw [← HR.out]
        exact sP_none2 (by rw [Hm4.out, ← b4, ← c4, hx, hy]; exact hxy)
      have hxy' : ((x : Int) == (y : Int)) = false := by rw [beq_eq_false_iff_ne]; omega
      clear hx hy b4 c4 z4 HR H1 L2
      go_wp2_with fail
      refine CU.out.mono ?_
      rintro e w3 ⟨rfl, rfl⟩
      go_wp2_with fail
      refine CS.out.mono ?_
      rintro e w4 ⟨rfl, rfl⟩
      go_wp2_with fail
      refine (N _).out.mono ?_
      rintro e w5 ⟨rfl, rfl⟩
      go_wp2_with fail
      exact ⟨rfl, rfl, hb2.out⟩
end Go.Proofs.YtcbgflidlpmhcaaGreatDoor

namespace Go.Proofs.YtcbgflidlpmhcaaGreatDoor
open Go.RowKit

set_option maxHeartbeats 400000 in
theorem parse_catch (a b : Nat) (x y : Value) (er : Int) (older : List PanicEntry) (w : World) (ha : w.cell? ⟨a, 0, none⟩ = some x) (hb : w.cell? ⟨b, 0, none⟩ = some y)
    (fa : w.frozen? ⟨a, 0, none⟩ = false) (fb : w.frozen? ⟨b, 0, none⟩ = false) (hab : a ≠ b) :
    CallsD Tryz.prog 186 #[.pointer (some ⟨a, 0, none⟩), .pointer (some ⟨b, 0, none⟩)] (.panicking ({ v := .iface 27 (.int .i64 er), recovered := false } :: older)) w fun e u' w' =>
      e = .returned (.tuple #[]) ∧ u' = .panicking ({ v := .iface 27 (.int .i64 er), recovered := true } :: older) ∧
        w' = (w.setCell ⟨a, 0, none⟩ (.slice none 0 0)).setCell ⟨b, 0, none⟩ (.int .i64 er) := by
  refine callsD_of_wpS Tryz.func186 rfl fun c₀ cs hu => ?_
  apply wpS_seq
  apply wpS_region
  simp [wpOpsS, go_sem, recoverD, hu, Tryz.ntmps186, Exit.thenS]
  refine wpS_of_wp ?_
  simp [Array.replicate]
  go_wp2_with fail
  refine (told_errno _ _).mono ?_
  rintro e w' ⟨rfl, rfl⟩
  go_wp2
  simp [bodyPostS, results, Tryz.results186]

set_option maxHeartbeats 400000 in
theorem parse_idle (a b : Value) (w : World) :
    CallsD Tryz.prog 186 #[a, b] .returning w fun e u' w' => e = .returned (.tuple #[]) ∧ u' = .returning ∧ w' = w := by
  refine callsD_of_wpS Tryz.func186 rfl fun c₀ cs hu => ?_
  apply wpS_seq
  apply wpS_region
  simp [wpOpsS, go_sem, recoverD, hu, Tryz.ntmps186, Exit.thenS]
  refine wpS_of_wp ?_
  simp [Array.replicate]
  go_wp2
  cases c₀
  simp_all [bodyPostS, results, Tryz.results186]

/-- What gave up is recovered: the results are set anew. -/
theorem pend_err (w2 : World) (p : Nat) (t : Array Value) (er : Int) (x y : Value) {R : Ending → World → Prop} (Ba : Blk w2 p 22 #[x]) (Bb : Blk w2 (p + 1) 27 #[y])
    (t2 : t[2]?.getD undef = .pointer (some ⟨p, 0, none⟩)) (t3 : t[3]?.getD undef = .pointer (some ⟨p + 1, 0, none⟩)) (h : R (.returned (.tuple #[.slice none 0 0, .int .i64 er])) ((w2.setCell ⟨p, 0, none⟩ (.slice none 0 0)).setCell ⟨p + 1, 0, none⟩ (.int .i64 er))) :
    bodyPostD Tryz.prog Tryz.f170 R (Exit.panic [{ v := .iface 27 (.int .i64 er), recovered := false }])
      { tmps := t, defers := [{ target := Target.fn (Fn.func 186) #[.pointer (some ⟨p, 0, none⟩), .pointer (some ⟨p + 1, 0, none⟩)], args := #[] }] } w2 := by
  have E0 := (Ba.set_ 0 (.slice none 0 0)).far (p := ⟨p + 1, 0, none⟩) (by dsimp only; omega) (.int .i64 er)
  have E1 := (Bb.far (p := ⟨p, 0, none⟩) (by dsimp only; omega) (.slice none 0 0)).set_ 0 (.int .i64 er)
  refine leaves_cons (f := 186) (args := #[.pointer (some ⟨p, 0, none⟩), .pointer (some ⟨p + 1, 0, none⟩)]) (by simp) (by simp [go_sem]) ?_
  refine (parse_catch p (p + 1) x y er [] _ (Ba.cell 0) (Bb.cell 0) (Ba.frozen 0) (Bb.frozen 0) (by omega)).mono ?_
  rintro e u' w'' ⟨rfl, rfl, rfl⟩
  generalize (w2.setCell ⟨p, 0, none⟩ (.slice none 0 0)).setCell ⟨p + 1, 0, none⟩ (.int .i64 er) = w3 at *
  have c0 : w3.cell? ⟨p, 0, none⟩ = some (.slice none 0 0) := E0.cell 0
  have e1 : w3.cell? ⟨p + 1, 0, none⟩ = some (.int .i64 er) := E1.cell 0
  simp [Leaves, settle, results, Tryz.results170, go_sem, c0, e1, t2, t3]
  exact h
/-- What is read stands in the results. -/
theorem pend_ok (w2 : World) (p : Nat) (t : Array Value) (A : Option Addr) (n c : Nat) {R : Ending → World → Prop} (Ba : Blk w2 p 22 #[.slice A n c]) (Bb : Blk w2 (p + 1) 27 #[.int .i64 0])
    (t2 : t[2]?.getD undef = .pointer (some ⟨p, 0, none⟩)) (t3 : t[3]?.getD undef = .pointer (some ⟨p + 1, 0, none⟩)) (h : R (.returned (.tuple #[.slice A n c, .int .i64 0])) w2) :
    bodyPostD Tryz.prog Tryz.f170 R Exit.ret
      { tmps := t, defers := [{ target := Target.fn (Fn.func 186) #[.pointer (some ⟨p, 0, none⟩), .pointer (some ⟨p + 1, 0, none⟩)], args := #[] }] } w2 := by
  have c0 : w2.cell? ⟨p, 0, none⟩ = some (.slice A n c) := Ba.cell 0
  have e1 : w2.cell? ⟨p + 1, 0, none⟩ = some (.int .i64 0) := Bb.cell 0
  refine leaves_cons (f := 186) (args := #[.pointer (some ⟨p, 0, none⟩), .pointer (some ⟨p + 1, 0, none⟩)]) (by simp) (by simp [go_sem]) ?_
  refine (parse_idle _ _ _).mono ?_
  rintro e u' w'' ⟨rfl, rfl, rfl⟩
  simp [Leaves, settle, results, Tryz.results170, go_sem, c0, e1, t2, t3]
  exact h

set_option maxRecDepth 100000 in
set_option maxHeartbeats 4000000 in
theorem parse_any (b : ByteArray) (w : World) (hs : b.size ≤ 1000000) (hT : LaidB w) :
    Calls Tryz.prog 170 #[.string b] w fun e w' => ∃ v, e = .returned (.tuple #[v, .int .i64 (parseP b).2]) ∧ Own elKeys w' w.heap.size 37 v (parseP b).1 ∧ Below w.heap.size w w' := by
  have hmf : ∀ (fn : Fn) (first cap : Array Value) (w : World), (Instr.makeFunc fn first cap).run Tryz.prog w = .ok (.func fn first cap) w := fun _ _ _ _ => rfl
  obtain ⟨PL, PE, hp⟩ : ∃ PL PE, parseP b = (PL, PE) := ⟨_, _, rfl⟩
  have hpp := sParse_is b
  rw [hp] at hpp ⊢
  dsimp only
  obtain ⟨R, hR⟩ : ∃ R, sParse b = R := ⟨_, rfl⟩
  rw [hR] at hpp
  have CR := fun W (h : LaidB W) => Lib.hid (read_any b W hs h)
  rw [hR] at CR
  have Hpp := Lib.hid hpp
  have HT := Lib.hid hT
  clear hp hpp hR hT
  go_enter_defers Tryz.func170, Tryz.ntmps170
  go_wp2_with fail
  have b0 : Blk ((w.alloc (.cells #[.slice none 0 0] 22)).alloc (.cells #[.int .i64 0] 27)) w.heap.size 22 #[.slice none 0 0] := (Blk.new _ _ _).alloc _
  have b1 : Blk ((w.alloc (.cells #[.slice none 0 0] 22)).alloc (.cells #[.int .i64 0] 27)) (w.heap.size + 1) 27 #[.int .i64 0] := Blk.new' (by simp) _ _
  have hb : Below w.heap.size w ((w.alloc (.cells #[.slice none 0 0] 22)).alloc (.cells #[.int .i64 0] 27)) := below_alloc (below_alloc (Below.refl _ _) (Nat.le_refl _) _) (Nat.le_refl _) _
  generalize (w.alloc (.cells #[.slice none 0 0] 22)).alloc (.cells #[.int .i64 0] 27) = w1 at *
  have L1 := HT.out.on hb
  have CR1 := CR w1 L1
  clear CR
  have hsz : w.heap.size + 1 < w1.heap.size := b1.lt
  have P0 := Lib.hid b0
  have P1 := Lib.hid b1
  have HB := Lib.hid hb
  clear b0 b1 hb L1
  refine CR1.out.mono ?_
  cases R with
  | none =>
    obtain ⟨rfl, rfl⟩ : PL = [] ∧ PE = 31 := ⟨congrArg Prod.fst Hpp.out, congrArg Prod.snd Hpp.out⟩
    rintro e w2 ⟨rfl, hb2⟩
    have Q0 := P0.out.below hb2 (by omega)
    have Q1 := P1.out.below hb2 (by omega)
    have HB2 := HB.out.trans (hb2.mono HB.out.size)
    unfold gaveB
    go_wp2_with fail
    exact pend_err w2 w.heap.size _ 31 _ _ Q0 Q1 rfl rfl ⟨_, rfl, World.ownsRow_nil _ _ _ _, below_setCell (below_setCell HB2 (Nat.le_refl _) _) (by dsimp only; omega) _⟩
  | some l =>
    obtain ⟨rfl, rfl⟩ : PL = l ∧ PE = 0 := ⟨congrArg Prod.fst Hpp.out, congrArg Prod.snd Hpp.out⟩
    rintro e w2 ⟨hb2, v, rfl, ho⟩
    obtain ⟨ao, co, rfl⟩ := ho.slice
    have Q0 := P0.out.below hb2 (by omega)
    have Q1 := P1.out.below hb2 (by omega)
    have HB2 := HB.out.trans (hb2.mono HB.out.size)
    have c0 : w2.cell? ⟨w.heap.size, 0, none⟩ = some (.slice none 0 0) := Q0.cell 0
    have c1 : w2.cell? ⟨w.heap.size + 1, 0, none⟩ = some (.int .i64 0) := Q1.cell 0
    have f0 := Q0.frozen 0
    have f1 := Q1.frozen 0
    have X0 := Lib.hid ((Q0.set_ 0 (.slice ao PL.length co)).far (p := ⟨w.heap.size + 1, 0, none⟩) (by dsimp only; omega) (.int .i64 0))
    have X1 := Lib.hid ((Q1.far (p := ⟨w.heap.size, 0, none⟩) (by dsimp only; omega) (.slice ao PL.length co)).set_ 0 (.int .i64 0))
    have XB := Lib.hid (below_setCell (below_setCell HB2 (p := ⟨w.heap.size, 0, none⟩) (Nat.le_refl _) (.slice ao PL.length co)) (p := ⟨w.heap.size + 1, 0, none⟩) (by dsimp only; omega) (.int .i64 0))
    have hoo : ∀ q, q < w1.heap.size → (Value.slice ao PL.length co).ownBlock = none ∨ (Value.slice ao PL.length co).ownBlock ≠ some q := by
      intro q hq
      cases h : (Value.slice ao PL.length co).ownBlock with
      | none => exact Or.inl rfl
      | some g => exact Or.inr (fun e => by have := (ho.lt h).1; injection e with e; omega)
    have XO := Lib.hid ((own_set (own_set ho (hoo w.heap.size (by omega)) (i := 0) (.slice ao PL.length co)) (hoo (w.heap.size + 1) (by omega)) (i := 0) (.int .i64 0)))
    clear Q0 Q1 HB2 hb2 ho hoo
    go_wp2_with fail
    exact pend_ok _ w.heap.size _ _ _ _ X0.out X1.out rfl rfl ⟨_, rfl, Own.low XO.out (by omega), XB.out⟩
end Go.Proofs.YtcbgflidlpmhcaaGreatDoor

namespace Go.Proofs.YtcbgflidlpmhcaaGreatDoor
open Go.RowKit

set_option maxRecDepth 100000 in
set_option maxHeartbeats 4000000 in
theorem rrising (A : Option Addr) (n c : Nat) (L : List KV) (w : World) (h : KeysAt w A n L) (hok : okP L) (hn : n ≤ 1000000) :
    Calls Tryz.prog 34 #[.slice A n c] w fun e w' => e = .returned (.bool (risesK L)) ∧ Below w.heap.size w w' := by
  have HK := Lib.hid h
  have Hok := Lib.hid hok
  have Hlen := Lib.hid h.len
  obtain ⟨r, hr⟩ : ∃ r, risesK L = r := ⟨_, rfl⟩
  rw [hr]
  have Hr := Lib.hid hr
  clear h hok hr
  go_enter Tryz.func34, Tryz.ntmps34
  go_wp2_with fail
  go_loopw [3] (fun i wr => ∃ k m : Nat, Hid (k = m + 1) ∧ i = .int .i64 (k : Int) ∧ Hid (∀ (i : Nat) (a b : KV), i + 1 < k → L[i]? = some a → L[i + 1]? = some b → cmpT a.1 b.1 < 0) ∧ Hid (Below w.heap.size w wr)) (fun i _ => n + 1 - (intOf i).toNat)
  case atStart => exact ⟨1, 0, rfl, rfl, Lib.hid (fun i a b hi => by omega), Lib.hid (Below.refl _ _)⟩
  case round =>
    obtain ⟨k, m, Hk, rfl, Hf, HB⟩ := hrel
    by_cases hl : k < n
    · have hkm := Hk.out
      have hmL : m < L.length := by have := Hlen.out; omega
      have hkL : k < L.length := by have := Hlen.out; omega
      have ha : L[m]? = some L[m] := List.getElem?_eq_getElem hmL
      have hb : L[k]? = some L[k] := List.getElem?_eq_getElem hkL
      have oa := (Hok.out L[m] (List.getElem_mem hmL)).1
      have ob := (Hok.out L[k] (List.getElem_mem hkL)).1
      generalize L[m] = a at *
      generalize L[k] = b at *
      obtain ⟨g, off, rfl, hg, x0, -, y0, -⟩ := (HK.out.below HB.out).two ha hb
      have CC := fun W => Lib.hid (rcompare9 a.1 b.1 W (by omega) (by omega))
      have g1 : (k : Int) < (n : Int) := by omega
      have g2 : (0 : Int) ≤ (k : Int) := by omega
      have g3 : (m : Int) < (n : Int) := by omega
      have g4 : (0 : Int) ≤ (m : Int) := by omega
      have g5 : wrap64 ((k : Int) - 1) = (m : Int) := by unfold wrap64; omega
      have g6 : IntKind.i64.wrap ((k : Int) - 1) = (m : Int) := by rw [IntKind.wrap_i64]; omega
      have Ha := Lib.hid ha
      have Hb := Lib.hid hb
      by_cases he : cmpT a.1 b.1 < 0
      · have e1 : ¬ (0 : Int) ≤ cmpT a.1 b.1 := by omega
        have e2 : decide ((0 : Int) ≤ cmpT a.1 b.1) = false := decide_eq_false e1
        have Hf2 : Hid (∀ (i : Nat) (a b : KV), i + 1 < k + 1 → L[i]? = some a → L[i + 1]? = some b → cmpT a.1 b.1 < 0) := Lib.hid (by
          intro i a' b' hi ha' hb'
          by_cases e : i = m
          · subst e
            rw [← hkm, Hb.out] at hb'
            rw [Ha.out] at ha'
            cases ha'
            cases hb'
            exact he
          · exact Hf.out i a' b' (by omega) ha' hb')
        generalize cmpT a.1 b.1 = cm at *
        clear he ha hb hkm hmL hkL oa ob Hf
        go_upto_region 4 with fail
        go_region_held3 (fun W => W.cell? ⟨g, off + m * 2, none⟩ = some (.string a.1) ∧ W.cell? ⟨g, off + k * 2, none⟩ = some (.string b.1)) (first | exact ⟨x0, y0⟩ | assumption)
          ((go_at_call 48; refine (CC _).out.mono ?_; rintro e w5 ⟨rfl, j, rfl⟩))
        go_wp2_with fail
        go_roundw
        case rel => exact ⟨k + 1, k, rfl, by go_num, Hf2, Lib.hid (HB.out.trans ((Tn.refl w.heap.size (fun _ => false) wr).drewN (1 + j) |>.below HB.out.size))⟩
        case measure => simp [intOf]; omega
      · have e1 : (0 : Int) ≤ cmpT a.1 b.1 := by omega
        have e2 : decide ((0 : Int) ≤ cmpT a.1 b.1) = true := decide_eq_true e1
        have e3 : risesK L = false := rises_not ha (by rw [← hkm]; exact hb) he
        obtain rfl : r = false := by rw [← Hr.out, e3]
        generalize cmpT a.1 b.1 = cm at *
        clear he ha hb hkm hmL hkL oa ob Hf e3
        go_upto_region 4 with fail
        go_region_held3 (fun W => W.cell? ⟨g, off + m * 2, none⟩ = some (.string a.1) ∧ W.cell? ⟨g, off + k * 2, none⟩ = some (.string b.1)) (first | exact ⟨x0, y0⟩ | assumption)
          ((go_at_call 48; refine (CC _).out.mono ?_; rintro e w5 ⟨rfl, j, rfl⟩))
        go_wp2_with fail
        go_ret
        exact ⟨rfl, HB.out.trans ((Tn.refl w.heap.size (fun _ => false) wr).drewN (1 + j) |>.below HB.out.size)⟩
    · have g1 : ¬ (k : Int) < (n : Int) := by omega
      have e3 : risesK L = true := rises_iff L fun i a b ha hb => Hf.out i a b (by
        have h1 := (List.getElem?_eq_some_iff.1 hb).1
        have := Hlen.out
        omega) ha hb
      obtain rfl : r = true := by rw [← Hr.out, e3]
      clear e3 Hf
      go_wp2_with fail
      go_ret
      exact ⟨rfl, HB.out⟩
end Go.Proofs.YtcbgflidlpmhcaaGreatDoor

namespace Go.Proofs.YtcbgflidlpmhcaaGreatDoor
open Go.RowKit

/-- A row of the call's own, as it can be read. -/
theorem Own.keysAt {w : World} {B : Nat} {e : TypeId} {A : Option Addr} {n c : Nat} {L : List KV} (h : Own elKeys w B e (.slice A n c) L) : KeysAt w A n L := by
  obtain ⟨h1, _, _⟩ := own_reads h
  refine ⟨h1, fun i m hm => ?_⟩
  obtain ⟨g, c', cur, hv, hg, hh⟩ := Own.some_ h (by have := (List.getElem?_eq_some_iff.1 hm).1; omega)
  cases hv
  have y0 := Own.cells (j := 0) h hm (by decide) rfl
  have y1 := Own.cells (j := 1) h hm (by decide) rfl
  refine ⟨g, 0, rfl, (Array.getElem?_eq_some_iff.1 hh).1, ?_, ?_⟩
  · rw [Nat.zero_add]; exact y0
  · rw [Nat.zero_add]; exact y1

end Go.Proofs.YtcbgflidlpmhcaaGreatDoor

namespace Go.Proofs.YtcbgflidlpmhcaaGreatDoor
open Go.RowKit

/-- Where a key stands among rising ones. -/
def Place (L : List KV) (key : ByteArray) (pl : Nat) : Prop := pl ≤ L.length ∧ (∀ (j : Nat) (m : KV), j < pl → L[j]? = some m → cmpT m.1 key < 0) ∧ ∀ m, L[pl]? = some m → ¬ cmpT m.1 key < 0
/-- A search has come to the place. -/
def SeekAt (L : List KV) (key : ByteArray) (e : Ending) : Prop := ∃ (pl : Nat) (f : Bool), e = .returned (.tuple #[.int .i64 (pl : Int), .bool f]) ∧ Place L key pl
theorem seek_place {L : List KV} {key : ByteArray} {pl : Nat} (h : Place L key pl) : seekL L key = match L[pl]? with
    | some m => (m.1, m.2, 0)
    | none => (ByteArray.empty, ByteArray.empty, 22) := by
  cases hm : L[pl]? with
  | some m => exact seek_at hm h.2.1 (h.2.2 m hm)
  | none =>
    refine seek_none fun m hm' => ?_
    obtain ⟨j, hj⟩ := List.mem_iff_getElem?.1 hm'
    have h1 := (List.getElem?_eq_some_iff.1 hj).1
    have h2 := List.getElem?_eq_none_iff.1 hm
    exact h.2.1 j m (by omega) hj

end Go.Proofs.YtcbgflidlpmhcaaGreatDoor

namespace Go.Proofs.YtcbgflidlpmhcaaGreatDoor
open Go.RowKit

/-- The variables that package sst reads, as they lie. -/
structure LaidS (w : World) : Prop where
  halves : Lib.TabIs Tryz.prog w "bedrock/raw.halves" .u32 halvesL
  most : ∃ m, w.cell? ⟨2, 0, none⟩ = some (.int .i64 m)
theorem LaidS.b {w : World} (h : LaidS w) : LaidB w := ⟨h.halves⟩
theorem LaidS.m {w : World} (h : LaidS w) : LaidM w := ⟨h.halves⟩
theorem LaidS.on {w w' : World} (h : LaidS w) (hb : Below w.heap.size w w') : LaidS w' :=
  ⟨(h.b.on hb).halves, by
    obtain ⟨m, hm⟩ := h.most
    exact ⟨m, (hb.cell (p := ⟨2, 0, none⟩) (lt_of_cell hm)).trans hm⟩⟩
theorem LaidS.at_ {B : Nat} {w w' : World} (h : LaidS w) (hb : Below B w w') (hB : w.heap.size ≤ B) : LaidS w' := h.on (hb.mono hB)

set_option maxRecDepth 100000 in
set_option maxHeartbeats 1000000 in
theorem smust_yes (w : World) : Calls Tryz.prog 125 #[.bool true] w fun e w' => e = .returned (.tuple #[]) ∧ w' = w := by
  go_enter Tryz.func125, Tryz.ntmps125
  go_wp2_with fail
  go_end0
  exact ⟨rfl, rfl⟩
set_option maxRecDepth 100000 in
set_option maxHeartbeats 1000000 in
theorem smust_no (w : World) : Calls Tryz.prog 125 #[.bool false] w fun e w' => e = gaveB ∧ w' = w := by
  go_enter Tryz.func125, Tryz.ntmps125
  go_wp2_with fail
  exact ⟨rfl, rfl, rfl⟩
set_option maxRecDepth 100000 in
set_option maxHeartbeats 1000000 in
theorem sfixed_any (v : Nat) (w : World) (hv : v < 4294967296) :
    Calls Tryz.prog 29 #[.int .i64 (v : Int)] w fun e w' => e = .returned (.string ⟨(be v 4).toArray⟩) ∧ Below w.heap.size w w' := by
  have C := Lib.hid (put_ok v 4 w (by decide) (by decide) hv)
  go_enter Tryz.func29, Tryz.ntmps29
  go_wp2_with fail
  refine C.out.mono ?_
  rintro e w1 ⟨rfl, hb⟩
  go_wp2_with fail
  go_ret
  exact ⟨rfl, hb⟩
set_option maxRecDepth 100000 in
set_option maxHeartbeats 2000000 in
theorem sunfixed_any (s : ByteArray) (w : World) (h : s.size = 4) :
    Calls Tryz.prog 129 #[.string s] w fun e w' => e = .returned (.int .i64 (getL (bl s) : Int)) ∧ w' = w := by
  have C := Lib.hid (get_ok s w (by omega) (by omega))
  have Y := fun W => Lib.hid (smust_yes W)
  clear h
  go_enter Tryz.func129, Tryz.ntmps129
  go_wp2_with fail
  refine C.out.mono ?_
  rintro e w1 ⟨rfl, rfl⟩
  go_wp2_with fail
  refine (Y _).out.mono ?_
  rintro e w1 ⟨rfl, rfl⟩
  go_wp2_with fail
  go_ret
  exact ⟨rfl, rfl⟩

set_option maxRecDepth 100000 in
set_option maxHeartbeats 2000000 in
theorem shead_any (s : ByteArray) (w : World) (hs : s.size ≤ 4294967000) (hT : LaidS w) :
    Calls Tryz.prog 119 #[.string s] w fun e w' => e = .returned (.string (headT s)) ∧ w' = w := by
  obtain ⟨m, hm⟩ := hT.most
  have C : Calls Tryz.prog 169 #[.string s, .string ⟨#[0, 1]⟩] w fun e w' => e = .returned (.int .i64 (Lib.index (bl s) [0, 1])) ∧ w' = w := Tryz.strings_Index s ⟨#[0, 1]⟩ m w (by omega) hm
  unfold headT
  rcases head_index (bl s) with ⟨h1, h2⟩ | ⟨k, h1, h2, h3⟩
  · rw [h1] at C
    rw [h2]
    have he : s.extract 0 (bl s).length = s := bl_inj (by rw [bl_take s _ (by rw [bl_len]; exact Nat.le_refl _)]; exact List.take_length)
    rw [he]
    have C := Lib.hid C
    clear h1 h2 he hT hm
    go_enter Tryz.func119, Tryz.ntmps119
    go_wp2_with fail
    refine C.out.mono ?_
    rintro e w1 ⟨rfl, rfl⟩
    go_wp2_with fail
    go_ret
    exact ⟨rfl, rfl⟩
  · rw [h1] at C
    rw [h2]
    rw [bl_len] at h3
    have g1 : (0 : Int) ≤ (k : Int) := by omega
    have g2 : (k : Int) + 2 ≤ (s.size : Int) := by omega
    have g3 : wrap64 ((k : Int) + 2) = (k : Int) + 2 := by unfold wrap64; omega
    have C := Lib.hid C
    clear h1 h2 hT hm
    go_enter Tryz.func119, Tryz.ntmps119
    go_wp2_with fail
    refine C.out.mono ?_
    rintro e w1 ⟨rfl, rfl⟩
    go_wp2_with fail
    go_ret
    exact ⟨by first | rfl | (congr 3), rfl⟩

/-- The reader holds what is left. -/
abbrev RdT (w : World) (p : Nat) (s : ByteArray) : Prop := Blk w p 130 #[.string s]
set_option maxRecDepth 100000 in
set_option maxHeartbeats 2000000 in
theorem sfirst_ok (p : Nat) (s : ByteArray) (k : Nat) (w : World) (B : RdT w p s) (hk : k ≤ s.size) :
    Calls Tryz.prog 128 #[.pointer (some ⟨p, 0, none⟩), .int .i64 (k : Int)] w fun e w' => e = .returned (.string (s.extract 0 k)) ∧ RdT w' p (s.extract k s.size) ∧ w.grownBy w' (some p) := by
  have c0 : w.cell? ⟨p, 0, none⟩ = some (.string s) := B.cell 0
  have f0 := B.frozen 0
  have hk1 : decide ((k : Int) ≤ (s.size : Int)) = true := decide_eq_true (by omega)
  have hk2 : (k : Int) ≤ (s.size : Int) := by omega
  have B := Lib.hid B
  have C := Lib.hid (smust_yes w)
  go_enter Tryz.func128, Tryz.ntmps128
  go_wp2_with fail
  refine C.out.mono ?_
  rintro e w1 ⟨rfl, rfl⟩
  go_wp2_with fail
  go_ret
  exact ⟨rfl, B.out.set_ 0 _, only_setCell (World.grownBy.refl _ _) (Or.inl rfl) _⟩
set_option maxRecDepth 100000 in
set_option maxHeartbeats 2000000 in
theorem sfirst_no (p : Nat) (s : ByteArray) (k : Nat) (w : World) (B : RdT w p s) (hk : s.size < k) :
    Calls Tryz.prog 128 #[.pointer (some ⟨p, 0, none⟩), .int .i64 (k : Int)] w fun e w' => e = gaveB ∧ w' = w := by
  have c0 : w.cell? ⟨p, 0, none⟩ = some (.string s) := B.cell 0
  have hk1 : decide ((k : Int) ≤ (s.size : Int)) = false := decide_eq_false (by omega)
  have hk2 : ¬ (k : Int) ≤ (s.size : Int) := by omega
  have C := Lib.hid (smust_no w)
  go_enter Tryz.func128, Tryz.ntmps128
  go_wp2_with fail
  refine C.out.mono ?_
  rintro e w1 ⟨rfl, rfl⟩
  go_wp2_with fail
  exact ⟨rfl, rfl, rfl⟩
set_option maxRecDepth 100000 in
set_option maxHeartbeats 2000000 in
theorem slast_ok (p : Nat) (s : ByteArray) (k : Nat) (z : Int) (hz : z = (k : Int)) (w : World) (B : RdT w p s) (hs : s.size ≤ 9223372036854775807) (hk : k ≤ s.size) :
    Calls Tryz.prog 126 #[.pointer (some ⟨p, 0, none⟩), .int .i64 z] w fun e w' => e = .returned (.string (s.extract (s.size - k) s.size)) ∧ RdT w' p (s.extract 0 (s.size - k)) ∧ w.grownBy w' (some p) := by
  have c0 : w.cell? ⟨p, 0, none⟩ = some (.string s) := B.cell 0
  have f0 := B.frozen 0
  obtain ⟨m, hm⟩ : ∃ m, s.size - k = m := ⟨_, rfl⟩
  rw [hm]
  have hk1 : decide (z ≤ (s.size : Int)) = true := decide_eq_true (by omega)
  have hk2 : z ≤ (s.size : Int) := by omega
  have g1 : wrap64 ((s.size : Int) - z) = (m : Int) := by unfold wrap64; omega
  have g2 : IntKind.i64.wrap ((s.size : Int) - z) = (m : Int) := by rw [IntKind.wrap_i64]; omega
  have g3 : (m : Int) ≤ (s.size : Int) := by omega
  have g4 : (0 : Int) ≤ (m : Int) := by omega
  have B := Lib.hid B
  have C := Lib.hid (smust_yes w)
  clear hz hm hk hs
  go_enter Tryz.func126, Tryz.ntmps126
  go_wp2_with fail
  refine C.out.mono ?_
  rintro e w1 ⟨rfl, rfl⟩
  go_wp2_with fail
  go_ret
  exact ⟨rfl, B.out.set_ 0 _, only_setCell (World.grownBy.refl _ _) (Or.inl rfl) _⟩
set_option maxRecDepth 100000 in
set_option maxHeartbeats 2000000 in
theorem slast_no (p : Nat) (s : ByteArray) (k : Nat) (z : Int) (hz : z = (k : Int)) (w : World) (B : RdT w p s) (hk : s.size < k) :
    Calls Tryz.prog 126 #[.pointer (some ⟨p, 0, none⟩), .int .i64 z] w fun e w' => e = gaveB ∧ w' = w := by
  have c0 : w.cell? ⟨p, 0, none⟩ = some (.string s) := B.cell 0
  have hk1 : decide (z ≤ (s.size : Int)) = false := decide_eq_false (by omega)
  have hk2 : ¬ z ≤ (s.size : Int) := by omega
  have C := Lib.hid (smust_no w)
  clear hz hk
  go_enter Tryz.func126, Tryz.ntmps126
  go_wp2_with fail
  refine C.out.mono ?_
  rintro e w1 ⟨rfl, rfl⟩
  go_wp2_with fail
  exact ⟨rfl, rfl, rfl⟩
set_option maxRecDepth 100000 in
set_option maxHeartbeats 2000000 in
theorem snum_ok (p : Nat) (s : ByteArray) (w : World) (B : RdT w p s) (hs : s.size ≤ 9223372036854775807) (hk : 4 ≤ s.size) :
    Calls Tryz.prog 124 #[.pointer (some ⟨p, 0, none⟩)] w fun e w' => e = .returned (.int .i64 (getL (bl (s.extract (s.size - 4) s.size)) : Int)) ∧ RdT w' p (s.extract 0 (s.size - 4)) ∧ w.grownBy w' (some p) := by
  have C := Lib.hid (slast_ok p s 4 4 rfl w B hs hk)
  have U := fun W => Lib.hid (sunfixed_any (s.extract (s.size - 4) s.size) W (by simp; omega))
  generalize s.extract (s.size - 4) s.size = t at *
  generalize s.extract 0 (s.size - 4) = r at *
  clear B hs hk
  go_enter Tryz.func124, Tryz.ntmps124
  go_wp2_with fail
  refine C.out.mono ?_
  rintro e w1 ⟨rfl, B1, G1⟩
  have B1 := Lib.hid B1
  have G1 := Lib.hid G1
  go_wp2_with fail
  refine (U _).out.mono ?_
  rintro e w2 ⟨rfl, rfl⟩
  go_wp2_with fail
  go_ret
  exact ⟨rfl, B1.out, G1.out⟩
set_option maxRecDepth 100000 in
set_option maxHeartbeats 2000000 in
theorem snum_no (p : Nat) (s : ByteArray) (w : World) (B : RdT w p s) (hk : s.size < 4) :
    Calls Tryz.prog 124 #[.pointer (some ⟨p, 0, none⟩)] w fun e w' => e = gaveB ∧ w' = w := by
  have C := Lib.hid (slast_no p s 4 4 rfl w B hk)
  clear B hk
  go_enter Tryz.func124, Tryz.ntmps124
  go_wp2_with fail
  refine C.out.mono ?_
  rintro e w1 ⟨rfl, rfl⟩
  go_wp2_with fail
  exact ⟨rfl, rfl, rfl⟩
end Go.Proofs.YtcbgflidlpmhcaaGreatDoor

namespace Go.Proofs.YtcbgflidlpmhcaaGreatDoor
open Go.RowKit Go.WideShapes Go.ChangeShapes Go.Deep

/-- n structs of two whole numbers and two texts stand at A. -/
structure SOpsIn (w : World) (A : Option Addr) (n : Nat) (K X : Nat → Int) (Y D : Nat → ByteArray) : Prop where
  max : n ≤ 9223372036854775807
  some : 0 < n → ∃ b off, A = .some ⟨b, off, none⟩ ∧ b < w.heap.size ∧ ∀ j, j < n → w.cell? ⟨b, off + j * 4, none⟩ = .some (.int .i64 (K j)) ∧ w.cell? ⟨b, off + j * 4 + 1, none⟩ = .some (.int .i64 (X j)) ∧ w.cell? ⟨b, off + j * 4 + 2, none⟩ = .some (.string (Y j)) ∧ w.cell? ⟨b, off + j * 4 + 3, none⟩ = .some (.string (D j))
  wf : ∀ j, j < n → (Lit.int .i64 (X j)).wf = true ∧ (Y j).size ≤ 140737488351232 ∧ (D j).size ≤ 140737488351232

/-- One of them, in every world from there on. -/
theorem SOpsIn.at {w : World} {A : Option Addr} {n : Nat} {K X : Nat → Int} {Y D : Nat → ByteArray} (h : SOpsIn w A n K X Y D) {k : Nat} (hk : k < n) :
    ∃ b off, A = .some ⟨b, off, none⟩ ∧ (∀ W, Below w.heap.size w W → W.cell? ⟨b, off + k * 4, none⟩ = .some (.int .i64 (K k)) ∧ W.cell? ⟨b, off + k * 4 + 1, none⟩ = .some (.int .i64 (X k)) ∧ W.cell? ⟨b, off + k * 4 + 2, none⟩ = .some (.string (Y k)) ∧ W.cell? ⟨b, off + k * 4 + 3, none⟩ = .some (.string (D k))) := by
  obtain ⟨b, off, e, hlt, hc⟩ := h.some (by omega)
  obtain ⟨c0, c1, c2, c3⟩ := hc k hk
  exact ⟨b, off, e, fun W hb => ⟨(hb.cell (p := ⟨b, off + k * 4, none⟩) hlt).trans c0, (hb.cell (p := ⟨b, off + k * 4 + 1, none⟩) hlt).trans c1, (hb.cell (p := ⟨b, off + k * 4 + 2, none⟩) hlt).trans c2, (hb.cell (p := ⟨b, off + k * 4 + 3, none⟩) hlt).trans c3⟩⟩

theorem weights_all {H : Type} {P : Program} {e : TypeId} {n : Nat} {d : DataW H} (hn : n ∈ d.weights P e) : ∀ {l : List (DataW H)}, d ∈ l → n ∈ DataW.weightsAll P e l
  | x :: r, h => by
    rw [DataW.weightsAll, List.mem_append]
    rcases List.mem_cons.1 h with rfl | h
    · exact Or.inl hn
    · exact Or.inr (weights_all hn h)
section
variable {H : Type} {enc : TypeId × Value → H} {P : Program} {w : World} {t e : TypeId} {A : Option Addr} {n cp : Nat} {d : DataW H} {p : List MemPlace}
theorem sops_view {f0 f1 f2 f3 : Field} (ht : P.underlying t = some (.slice e)) (he : P.underlying e = some (.struct #[f0, f1, f2, f3])) (hc : P.cellsOf e = 4) (o0 : f0.offset = 0) (o1 : f1.offset = 1) (o2 : f2.offset = 2) (o3 : f3.offset = 3) (c0 : P.cellsOf f0.type = 1) (c1 : P.cellsOf f1.type = 1) (c2 : P.cellsOf f2.type = 1) (c3 : P.cellsOf f3.type = 1)
    (u0 : P.underlying f0.type = some (.int .i64)) (u1 : P.underlying f1.type = some (.int .i64)) (u2 : P.underlying f2.type = some .string) (u3 : P.underlying f3.type = some .string)
    (h : DataW.Trod enc P w 0 (fun _ => true) true t (.slice A n cp) d p) (hwt : ∀ x ∈ d.weights P t, x ≤ 140737488351232) : ∃ K X Y D, SOpsIn w A n K X Y D := by
  obtain ⟨fuel, hf⟩ := h
  rcases open_slice ht hf with ⟨hcs, _⟩ | ⟨a, len', cap', m, k, D, Pl, hcs, _, hl, hm, hmm, hdx, hx⟩
  · simp [Value.cells] at hcs
    obtain ⟨rfl, rfl, rfl⟩ := hcs
    exact ⟨fun _ => 0, fun _ => 0, fun _ => ByteArray.empty, fun _ => ByteArray.empty, by decide, fun h => absurd h (by decide), fun j h => absurd h (by omega)⟩
  · simp [Value.cells] at hcs
    obtain ⟨rfl, rfl, rfl⟩ := hcs
    rw [if_pos rfl] at hmm
    unfold maxLen at hm
    have each : ∀ j, j < n → ∃ q : Int × Int × ByteArray × ByteArray, w.cell? (a.add (j * 4)) = some (.int .i64 q.1) ∧ w.cell? (a.add (j * 4 + 1)) = some (.int .i64 q.2.1) ∧ w.cell? (a.add (j * 4 + 2)) = some (.string q.2.2.1) ∧ w.cell? (a.add (j * 4 + 3)) = some (.string q.2.2.2) ∧ (Lit.int .i64 q.2.1).wf = true ∧ q.2.2.1.size ≤ 140737488351232 ∧ q.2.2.2.size ≤ 140737488351232 := by
      intro j hj
      obtain ⟨cs', h1, h2⟩ := hx j (by omega)
      have hwj : ∀ x ∈ (D j).weights P e, x ≤ 140737488351232 := fun x hxm => hwt x (by
        rw [show d = _ from congrArg Prod.fst hdx]
        simp only [DataW.weights, ht]
        exact List.mem_cons_of_mem _ (List.mem_append_left _ (weights_all hxm (List.mem_map.2 ⟨j, List.mem_range.2 hj, rfl⟩))))
      rw [hc] at h1
      obtain ⟨_, hlen, hcell⟩ := World.cells?_some h1
      obtain ⟨y0, y1, y2, y3, g, hxe, _, g0, g1, g2, g3⟩ := Joins.trod_struct4 he h2
      have hDj : D j = .agg [y0.1, y1.1, y2.1, y3.1] := congrArg Prod.fst hxe
      rw [hDj, DataW.weights, he] at hwj
      match cs', hlen, hcell, g0, g1, g2, g3 with
      | [v0, v1, v2, v3], _, hcell, g0, g1, g2, g3 =>
        obtain ⟨k0, e0, _, _⟩ := DataW.trod_int u0 g0
        obtain ⟨k1, e1, _, w1⟩ := DataW.trod_int u1 g1
        obtain ⟨k2, e2, d2, w2⟩ := DataW.trod_string u2 g2
        obtain ⟨k3, e3, d3, w3⟩ := DataW.trod_string u3 g3
        simp [o0, o1, o2, o3, c0, c1, c2, c3] at e0 e1 e2 e3
        subst e0 e1 e2 e3
        have z2 := hwj k2.data.toList.length (by rw [d2]; simp [DataW.weightsEach, DataW.weights])
        have z3 := hwj k3.data.toList.length (by rw [d3]; simp [DataW.weightsEach, DataW.weights])
        rw [show k2.data.toList.length = k2.size from rfl] at z2
        rw [show k3.data.toList.length = k3.size from rfl] at z3
        refine ⟨(k0, k1, k2, k3), ?_, ?_, ?_, ?_, w1, by omega, by omega⟩
        · have := hcell 0 (by simp)
          simpa [Go.Deep.add_add] using this
        · have := hcell 1 (by simp)
          simpa [Go.Deep.add_add] using this
        · have := hcell 2 (by simp)
          simpa [Go.Deep.add_add] using this
        · have := hcell 3 (by simp)
          simpa [Go.Deep.add_add] using this
    obtain ⟨q, hq⟩ := choose_lt each
    refine ⟨fun j => (q j).1, fun j => (q j).2.1, fun j => (q j).2.2.1, fun j => (q j).2.2.2, by omega, fun hn => ?_, fun j hj => ⟨(hq j hj).2.2.2.2.1, (hq j hj).2.2.2.2.2.1, (hq j hj).2.2.2.2.2.2⟩⟩
    obtain ⟨b, off, spot⟩ := a
    have hspot : spot = none := by simpa [Addr.add] using World.cell?_spot (hq 0 hn).1
    subst hspot
    refine ⟨b, off, rfl, ?_, fun j hj => ?_⟩
    · have := (hq 0 hn).1
      rw [Go.WideShapes.add_plain] at this
      exact block_lt this
    · have := hq j hj
      rw [Go.WideShapes.add_plain, Go.WideShapes.add_plain, Go.WideShapes.add_plain, Go.WideShapes.add_plain, ← Nat.add_assoc, ← Nat.add_assoc, ← Nat.add_assoc] at this
      exact ⟨this.1, this.2.1, this.2.2.1, this.2.2.2.1⟩
end
end Go.Proofs.YtcbgflidlpmhcaaGreatDoor

namespace Go.Proofs.YtcbgflidlpmhcaaGreatDoor
open Go.RowKit Go.WideShapes Go.ChangeShapes Go.Deep

/-- The pairs L stand at A; nothing of them is longer than what can be read. -/
structure PairsIn (w : World) (A : Option Addr) (n : Nat) (L : List KV) : Prop where
  at_ : KeysAt w A n L
  max : n ≤ 9223372036854775807
  size : ∀ m ∈ L, m.1.size ≤ 140737488351232 ∧ m.2.size ≤ 140737488351232

section
variable {H : Type} {enc : TypeId × Value → H} {P : Program} {w : World} {t e : TypeId} {A : Option Addr} {n cp : Nat} {d : DataW H} {p : List MemPlace}
theorem trod_array2 {base : Nat} {spare : Nat → Bool} {held : Bool} {t e : TypeId} {fuel : Nat} {c0 c1 : Value} {x : DataW H × List MemPlace} (ht : P.underlying t = some (.array 2 e)) (hce : P.cellsOf e = 1)
    (h : DataW.trod enc P w base spare held fuel t [c0, c1] = some x) :
    ∃ y0 y1 n, x = (.agg [y0.1, y1.1], y0.2 ++ y1.2) ∧ DataW.trod enc P w base spare held n e [c0] = some y0 ∧ DataW.trod enc P w base spare held n e [c1] = some y1 := by
  cases fuel with
  | zero => simp [DataW.trod] at h
  | succ n =>
    unfold DataW.trod at h
    rw [ht] at h
    have r2 : List.range 2 = [0, 1] := rfl
    simp [r2, hce] at h
    obtain ⟨_, h⟩ := h
    cases h0 : DataW.trod enc P w base spare held n e [c0] with
    | none => simp [h0] at h
    | some y0 =>
      cases h1 : DataW.trod enc P w base spare held n e [c1] with
      | none => simp [h0, h1] at h
      | some y1 =>
        simp [h0, h1] at h
        exact ⟨y0, y1, n, h.symm, h0, h1⟩
theorem pairs_view {f : TypeId} (ht : P.underlying t = some (.slice e)) (he : P.underlying e = some (.array 2 f)) (hf : P.underlying f = some .string) (hc : P.cellsOf e = 2) (hcf : P.cellsOf f = 1)
    (h : DataW.Trod enc P w 0 (fun _ => true) true t (.slice A n cp) d p) (hwt : ∀ x ∈ d.weights P t, x ≤ 140737488351232) : ∃ L, PairsIn w A n L := by
  obtain ⟨fuel, hfu⟩ := h
  rcases open_slice ht hfu with ⟨hcs, _⟩ | ⟨a, len', cap', m, k, D, Pl, hcs, _, hl, hm, hmm, hdx, hx⟩
  · simp [Value.cells] at hcs
    obtain ⟨rfl, rfl, rfl⟩ := hcs
    exact ⟨[], ⟨rfl, fun i m hm => by simp at hm⟩, by decide, fun m hm => by cases hm⟩
  · simp [Value.cells] at hcs
    obtain ⟨rfl, rfl, rfl⟩ := hcs
    rw [if_pos rfl] at hmm
    have hm' := hm
    unfold maxLen at hm
    have each : ∀ j, j < n → ∃ q : KV, w.cell? (a.add (j * 2)) = some (.string q.1) ∧ w.cell? (a.add (j * 2 + 1)) = some (.string q.2) ∧ q.1.size ≤ 140737488351232 ∧ q.2.size ≤ 140737488351232 := by
      intro j hj
      obtain ⟨cs', h1, h2⟩ := hx j (by omega)
      have hwj : ∀ x ∈ (D j).weights P e, x ≤ 140737488351232 := fun x hxm => hwt x (by
        rw [show d = _ from congrArg Prod.fst hdx]
        simp only [DataW.weights, ht]
        exact List.mem_cons_of_mem _ (List.mem_append_left _ (weights_all hxm (List.mem_map.2 ⟨j, List.mem_range.2 hj, rfl⟩))))
      rw [hc] at h1
      obtain ⟨_, hlen, hcell⟩ := World.cells?_some h1
      match cs', hlen, hcell, h2 with
      | [v0, v1], _, hcell, h2 =>
        obtain ⟨y0, y1, g, hxe, g0, g1⟩ := trod_array2 he hcf h2
        have hDj : D j = .agg [y0.1, y1.1] := congrArg Prod.fst hxe
        rw [hDj, DataW.weights, he] at hwj
        obtain ⟨k0, e0, d0, w0⟩ := DataW.trod_string hf g0
        obtain ⟨k1, e1, d1, w1⟩ := DataW.trod_string hf g1
        simp at e0 e1
        subst e0 e1
        have z0 := hwj k0.data.toList.length (by rw [d0]; simp [DataW.weightsAll, DataW.weights])
        have z1 := hwj k1.data.toList.length (by rw [d1]; simp [DataW.weightsAll, DataW.weights])
        rw [show k0.data.toList.length = k0.size from rfl] at z0
        rw [show k1.data.toList.length = k1.size from rfl] at z1
        refine ⟨(k0, k1), ?_, ?_, z0, z1⟩
        · have := hcell 0 (by simp)
          simpa [Go.Deep.add_add] using this
        · have := hcell 1 (by simp)
          simpa [Go.Deep.add_add] using this
    obtain ⟨q, hq⟩ := choose_lt each
    have hget : ∀ (i : Nat) (m : KV), ((List.range n).map q)[i]? = some m → i < n ∧ m = q i := by
      intro i m hm
      have hi : i < n := by
        have := (List.getElem?_eq_some_iff.1 hm).1
        simpa using this
      rw [List.getElem?_map, List.getElem?_range hi] at hm
      cases hm
      exact ⟨hi, rfl⟩
    refine ⟨(List.range n).map q, ⟨by simp, fun i m hm => ?_⟩, by omega, fun m hm => ?_⟩
    · obtain ⟨hi, rfl⟩ := hget i m hm
      obtain ⟨b, off, spot⟩ := a
      have hspot : spot = none := by simpa [Addr.add] using World.cell?_spot (hq 0 (by omega)).1
      subst hspot
      have := hq i hi
      rw [Go.WideShapes.add_plain, Go.WideShapes.add_plain, ← Nat.add_assoc] at this
      exact ⟨b, off, rfl, block_lt this.1, this.1, this.2.1⟩
    · obtain ⟨i, hi⟩ := List.mem_iff_getElem?.1 hm
      obtain ⟨hj, rfl⟩ := hget i m hi
      exact (hq i hj).2.2
end
end Go.Proofs.YtcbgflidlpmhcaaGreatDoor

namespace Go.Proofs.YtcbgflidlpmhcaaGreatDoor
open Go.RowKit

/-- What Light counts. -/
def wtK : List KV → Nat
  | [] => 0
  | m :: r => 20 + m.1.size + m.2.size + wtK r
theorem wtK_snoc (l : List KV) (m : KV) : wtK (l ++ [m]) = wtK l + (20 + m.1.size + m.2.size) := by
  induction l with
  | nil => simp [wtK]
  | cons x r ih => rw [List.cons_append, wtK, wtK, ih]; omega
theorem wtK_append (l r : List KV) : wtK (l ++ r) = wtK l + wtK r := by
  induction l with
  | nil => simp [wtK]
  | cons x l ih => rw [List.cons_append, wtK, wtK, ih]; omega
theorem wtK_take (L : List KV) (k : Nat) : wtK (L.take k) ≤ wtK L := by
  have := wtK_append (L.take k) (L.drop k)
  rw [List.take_append_drop] at this
  omega
theorem wtK_all : ∀ (L : List KV) (m : KV), m ∈ L → 20 + m.1.size + m.2.size ≤ wtK L
  | x :: r, m, h => by
    rw [wtK]
    rcases List.mem_cons.1 h with rfl | h
    · omega
    · have := wtK_all r m h; omega
theorem wtK_len : ∀ (L : List KV), 20 * L.length ≤ wtK L
  | [] => Nat.zero_le _
  | x :: r => by have := wtK_len r; rw [wtK, List.length_cons]; omega
theorem sum_wt : ∀ (L : List KV), sumK L ≤ wtK L
  | [] => Nat.zero_le _
  | x :: r => by have := sum_wt r; rw [wtK, sumK]; omega
/-- Light pairs are no longer than a block may be. -/
theorem light_short {L : List KV} (h : wtK L ≤ 60000) : longK L = false ∧ (blkL L).length ≤ 524288 ∧ okP L ∧ L.length ≤ 3000 := by
  have hl : longK L = false := by
    unfold longK
    rw [List.any_eq_false]
    intro m hm
    have := wtK_all L m hm
    simp
    omega
  have h1 := (blk_bounds hl).1
  have h2 := sum_wt L
  have h3 := wtK_len L
  exact ⟨hl, by omega, fun m hm => by have := wtK_all L m hm; omega, by omega⟩

set_option maxRecDepth 100000 in
set_option maxHeartbeats 4000000 in
theorem light_any (A : Option Addr) (n c : Nat) (L : List KV) (w : World) (h : PairsIn w A n L) :
    Calls Tryz.prog 4 #[.slice A n c] w fun e w' => e = .returned (.bool (decide (wtK L ≤ 60000))) ∧ Below w.heap.size w w' := by
  have HK := Lib.hid h.at_
  have Hlen := Lib.hid h.at_.len
  have Hz := Lib.hid h.size
  have hmax := h.max
  obtain ⟨r, hr⟩ : ∃ r, decide (wtK L ≤ 60000) = r := ⟨_, rfl⟩
  rw [hr]
  have Hr := Lib.hid hr
  clear h hr
  go_enter Tryz.func4, Tryz.ntmps4
  go_wp2_with fail
  go_loopw [3, 4] (fun x i wr => ∃ k t : Nat, k ≤ n ∧ t ≤ 300000000000000 ∧ i = .int .i64 (k : Int) ∧ x = .int .i64 (t : Int) ∧ Hid (t = wtK (L.take k)) ∧ Hid (Below w.heap.size w wr)) (fun _ i _ => n - (intOf i).toNat)
  case atStart => exact ⟨0, 0, by omega, by omega, rfl, rfl, Lib.hid rfl, Lib.hid (Below.refl _ _)⟩
  case round =>
    obtain ⟨k, t, hk, ht, rfl, rfl, Ht, HB⟩ := hrel
    by_cases hl : k < n
    · have g1 : (k : Int) < (n : Int) := by omega
      have g0 : (0 : Int) ≤ (k : Int) := by omega
      by_cases h6 : t ≤ 60000
      · have g2 : (t : Int) ≤ 60000 := by omega
        have g3 : decide ((t : Int) ≤ 60000) = true := decide_eq_true g2
        have hkL : k < L.length := by have := Hlen.out; omega
        have hm : L[k]? = some L[k] := List.getElem?_eq_getElem hkL
        have oz := Hz.out L[k] (List.getElem_mem hkL)
        generalize L[k] = mm at *
        obtain ⟨mk, mv⟩ := mm
        dsimp only at oz
        obtain ⟨g, off, hA, hg, x0, x1⟩ := (HK.out.below HB.out).at_ k _ hm
        subst hA
        dsimp only at x0 x1
        have hw : wtK (L.take (k + 1)) = wtK (L.take k) + (20 + mk.size + mv.size) := by rw [ctake_snoc hm, wtK_snoc]
        rw [← Ht.out] at hw
        have Hw := Lib.hid hw
        obtain ⟨oz1, oz2⟩ := oz
        clear hw hm hkL Ht
        go_wp2_with fail
        go_quiet (fail)
        go_wp2_with fail
        go_roundw
        case rel => exact ⟨k + 1, t + 20 + mk.size + mv.size, by omega, by omega, by go_num, by go_num, Lib.hid (by rw [Hw.out]; omega), Lib.hid (below_drewN HB.out _)⟩
        case measure => simp [intOf]; omega
      · have g2 : ¬ (t : Int) ≤ 60000 := by omega
        have g3 : decide ((t : Int) ≤ 60000) = false := decide_eq_false g2
        have hf : r = false := by
          rw [← Hr.out]
          refine decide_eq_false fun hc => ?_
          have := wtK_take L k
          have := Ht.out
          omega
        subst hf
        clear Hr Ht
        go_wp2_with fail
        go_ret
        exact ⟨rfl, HB.out⟩
    · have g1 : ¬ (k : Int) < (n : Int) := by omega
      have g4 : decide ((k : Int) < (n : Int)) = false := decide_eq_false g1
      have hf : r = decide ((t : Int) ≤ 60000) := by
        rw [← Hr.out, Ht.out, List.take_of_length_le (by have := Hlen.out; omega)]
        by_cases h : wtK L ≤ 60000
        · rw [decide_eq_true h, decide_eq_true (by omega)]
        · rw [decide_eq_false h, decide_eq_false (by omega)]
      subst hf
      clear Hr Ht
      go_wp2_with fail
      go_ret
      exact ⟨rfl, HB.out⟩

/-- The pairs of the first call. -/
def aliveL : List KV := [(⟨#[97, 98]⟩, ⟨#[49]⟩), (⟨#[97, 99]⟩, ⟨#[50]⟩)]
theorem alive_body : bodyL 0 [] aliveL = [0, 2, 1, 97, 98, 49, 1, 1, 1, 99, 50] := by
  have p0 := pv_last 0 (by decide)
  have p1 := pv_last 1 (by decide)
  have p2 := pv_last 2 (by decide)
  have c0 : comI 0 [] (bl aliveL[0].1) = 0 := by decide +kernel
  have c1 : comI 1 (bl aliveL[0].1) (bl aliveL[1].1) = 1 := by decide +kernel
  unfold aliveL
  rw [bodyL, bodyL, bodyL, onePair, onePair]
  unfold aliveL at c0 c1
  simp only [List.getElem_cons_zero, List.getElem_cons_succ] at c0 c1
  rw [c0, c1]
  show pv 0 ++ (pv 2 ++ (pv 1 ++ ([97, 98] ++ [49]))) ++ (pv 1 ++ (pv 1 ++ (pv 1 ++ ([99] ++ [50]))) ++ []) = _
  rw [p0, p1, p2]
  rfl
theorem alive_build : ∃ s : ByteArray, buildP aliveL = (s, 0) ∧ s.size = 19 ∧ (bl s).take 9 = [0, 2, 1, 97, 98, 49, 1, 1, 1] := by
  have h1 : risesK aliveL = true := by decide +kernel
  have h2 : longK aliveL = false := by decide +kernel
  have h3 := blkL_length aliveL
  rw [alive_body] at h3
  have h4 : (blkL aliveL).length = 19 := h3
  refine ⟨⟨(blkL aliveL).toArray⟩, ?_, by rw [size_mk]; exact h4, ?_⟩
  · unfold buildP
    rw [if_neg (by rw [h1]; decide), if_neg (by rw [h2]; decide), if_neg (by omega)]
  · rw [bl_mk]
    unfold blkL
    rw [alive_body]
    rfl

end Go.Proofs.YtcbgflidlpmhcaaGreatDoor

namespace Go.Proofs.YtcbgflidlpmhcaaGreatDoor
open Go.RowKit

theorem u8_zero (a : UInt8) : a = 0 ↔ a.toNat = 0 := by rw [← UInt8.toNat_inj]; rfl
theorem u8_one (a : UInt8) : a = 1 ↔ a.toNat = 1 := by rw [← UInt8.toNat_inj]; rfl
theorem head_all {s : ByteArray} (h : headN (bl s) = (bl s).length) : headT s = s := by
  unfold headT
  rw [h]
  show s.extract 0 s.size = s
  simp
set_option maxRecDepth 100000 in
set_option maxHeartbeats 2000000 in
theorem rhead13_any (s : ByteArray) (w : World) (hs : s.size ≤ 140737488355328) :
    Calls Tryz.prog 40 #[.string s] w fun e w' => e = .returned (.string (headT s)) ∧ w = w' := by
  have H1 := Lib.hid (headN_at (bl s))
  have H2 := Lib.hid (headN_none (bl s))
  have hge : ∀ (i : Nat) (a : UInt8), (bl s)[i]? = some a ↔ ∃ h : i < s.size, s[i] = a := fun i a => List.getElem?_eq_some_iff
  have Hg := Lib.hid hge
  obtain ⟨T, hT⟩ : ∃ T, headT s = T := ⟨_, rfl⟩
  rw [hT]
  have HT := Lib.hid hT
  clear hge hT
  go_enter Tryz.func40, Tryz.ntmps40
  go_wp2_with fail
  go_loopw [3] (fun i wr => ∃ k : Nat, k ≤ s.size ∧ i = .int .i64 (k : Int) ∧ wr = w ∧ Hid (∀ i, i < k → ∀ a b, (bl s)[i]? = some a → (bl s)[i + 1]? = some b → ¬ (a = 0 ∧ b = 1))) (fun i _ => s.size - (intOf i).toNat)
  case atStart => exact ⟨0, by omega, rfl, rfl, Lib.hid (fun i hi => by omega)⟩
  case round =>
    obtain ⟨k, hk, rfl, rfl, Hn⟩ := hrel
    have w1 : wrap64 ((k : Int) + 1) = (k : Int) + 1 := by unfold wrap64; omega
    have w2 : wrap64 ((k : Int) + 2) = (k : Int) + 2 := by unfold wrap64; omega
    by_cases hl : k + 1 < s.size
    · have g1 : (k : Int) + 1 < (s.size : Int) := by omega
      have g2 : (k : Int) < (s.size : Int) := by omega
      have g3 : (0 : Int) ≤ (k : Int) := by omega
      have g4 : (0 : Int) ≤ (k : Int) + 1 := by omega
      have hk0 : k < s.size := by omega
      obtain ⟨a, ha⟩ : ∃ a : UInt8, s[k] = a := ⟨_, rfl⟩
      obtain ⟨b, hb⟩ : ∃ b : UInt8, s[k + 1] = b := ⟨_, rfl⟩
      have Ha := Lib.hid ((Hg.out k a).2 ⟨hk0, ha⟩)
      have Hb : Hid ((bl s)[k + 1]? = some b) := Lib.hid ((Hg.out (k + 1) b).2 ⟨hl, hb⟩)
      by_cases h0 : a.toNat = 0
      · have e1 : ((a.toNat : Int) == 0) = true := beq_iff_eq.2 (by omega)
        by_cases h1 : b.toNat = 1
        · have e2 : ((b.toNat : Int) == 1) = true := beq_iff_eq.2 (by omega)
          have hN := H1.out k Hn.out a b Ha.out Hb.out ⟨(u8_zero a).2 h0, (u8_one b).2 h1⟩
          have Hx : Hid (T = s.extract 0 (k + 2)) := Lib.hid (by rw [← HT.out]; unfold headT; rw [hN])
          have g5 : (0 : Int) ≤ (k : Int) + 2 := by omega
          have g6 : (k : Int) + 2 ≤ (s.size : Int) := by omega
          clear h0 h1 hN Ha Hb H1 H2 Hn Hg
          go_wp2_with fail
          go_ret
          exact ⟨by rw [Hx.out]; rfl, rfl⟩
        · have e2 : ((b.toNat : Int) == 1) = false := beq_eq_false_iff_ne.2 (by omega)
          have Hn2 : Hid (∀ i, i < k + 1 → ∀ a b, (bl s)[i]? = some a → (bl s)[i + 1]? = some b → ¬ (a = 0 ∧ b = 1)) := Lib.hid (by
            intro i hi x y hx hy
            by_cases e : i = k
            · subst e
              rw [Hb.out] at hy
              cases hy
              exact fun h => h1 ((u8_one b).1 h.2)
            · exact Hn.out i (by omega) x y hx hy)
          clear h0 h1 Ha Hb H1 H2 Hn Hg HT
          go_wp2_with fail
          go_roundw
          case rel => exact ⟨k + 1, by omega, by go_num, trivial, Hn2⟩
          case measure => simp [intOf]; omega
      · have e1 : ((a.toNat : Int) == 0) = false := beq_eq_false_iff_ne.2 (by omega)
        have Hn2 : Hid (∀ i, i < k + 1 → ∀ a b, (bl s)[i]? = some a → (bl s)[i + 1]? = some b → ¬ (a = 0 ∧ b = 1)) := Lib.hid (by
          intro i hi x y hx hy
          by_cases e : i = k
          · subst e
            rw [Ha.out] at hx
            cases hx
            exact fun h => h0 ((u8_zero a).1 h.1)
          · exact Hn.out i (by omega) x y hx hy)
        clear h0 Ha Hb H1 H2 Hn Hg HT
        go_wp2_with fail
        go_roundw
        case rel => exact ⟨k + 1, by omega, by go_num, trivial, Hn2⟩
        case measure => simp [intOf]; omega
    · have g1 : ¬ (k : Int) + 1 < (s.size : Int) := by omega
      have Hx : Hid (T = s) := Lib.hid (by
        rw [← HT.out]
        refine head_all (H2.out fun i a b ha hb => ?_)
        have hi := (List.getElem?_eq_some_iff.1 hb).1
        have hi : i + 1 < s.size := hi
        exact Hn.out i (by omega) a b ha hb)
      clear H1 H2 Hn Hg HT
      go_wp2_with fail
      go_ret
      exact ⟨by rw [Hx.out]; rfl, rfl⟩
theorem blkSt_take {L : List KV} {k : Nat} {m : KV} (hm : L[k]? = some m) : blkSt (L.take (k + 1)) = blkStep (blkSt (L.take k)) m := by
  rw [List.take_add_one, hm]
  exact blkSt_snoc _ _
/-- What is known of the blocks so far. -/
structure BkIn (L : List KV) (k b z : Nat) (t : Bool) : Prop where
  lt : t = true → z < 1024
  num : (blkSt (L.take k)).1 = b
  opn : (blkSt (L.take k)).2.2 = t
  siz : t = true → (blkSt (L.take k)).2.1 = z
set_option maxRecDepth 100000 in
set_option maxHeartbeats 4000000 in
theorem rblocks_any (A : Option Addr) (n c : Nat) (L : List KV) (w : World) (h : KeysAt w A n L) (hn : n ≤ 1000000) (hz : ∀ m ∈ L, m.1.size ≤ 1000000 ∧ m.2.size ≤ 1000000) :
    Calls Tryz.prog 15 #[.slice A n c] w fun e w' => e = .returned (.int .i64 (blocksK L : Nat)) ∧ Below w.heap.size w w' := by
  have HK := Lib.hid h
  have Hz := Lib.hid hz
  have Hlen := Lib.hid h.len
  obtain ⟨r, hr⟩ : ∃ r, blocksK L = r := ⟨_, rfl⟩
  rw [hr]
  have Hr := Lib.hid hr
  clear h hz hr
  go_enter Tryz.func15, Tryz.ntmps15
  go_wp2_with fail
  go_loopw [3, 4, 5, 6] (fun x y o i wr => ∃ (k b z : Nat) (t : Bool), k ≤ n ∧ b ≤ k ∧ z ≤ 3000000 ∧ i = .int .i64 (k : Int) ∧ x = .int .i64 (b : Int) ∧ y = .int .i64 (z : Int) ∧ o = .bool t ∧ Hid (BkIn L k b z t) ∧ Hid (Below w.heap.size w wr)) (fun _ _ _ i _ => n - (intOf i).toNat)
  case atStart => exact ⟨0, 0, 0, false, by omega, by omega, by omega, rfl, rfl, rfl, rfl, Lib.hid ⟨fun h => (by cases h), rfl, rfl, fun h => (by cases h)⟩, Lib.hid (Below.refl _ _)⟩
  case round =>
    obtain ⟨k, b, z, t, hk, hb, hz, rfl, rfl, rfl, rfl, HI, HB⟩ := hrel
    by_cases hl : k < n
    · have g1 : (k : Int) < (n : Int) := by omega
      have g0 : (0 : Int) ≤ (k : Int) := by omega
      have hkL : k < L.length := by have := Hlen.out; omega
      have hm : L[k]? = some L[k] := List.getElem?_eq_getElem hkL
      have oz := Hz.out L[k] (List.getElem_mem hkL)
      generalize L[k] = mm at *
      obtain ⟨mk, mv⟩ := mm
      dsimp only at oz
      obtain ⟨g, off, hA, hg, x0, x1⟩ := (HK.out.below HB.out).at_ k _ hm
      subst hA
      dsimp only at x0 x1
      obtain ⟨i1, i2, i3, i4⟩ := HI.out
      obtain ⟨oz1, oz2⟩ := oz
      have hst := blkSt_take hm
      have fin : ∀ zz : Nat, zz = (if t then z else 0) + mk.size + mv.size → blkSt (L.take (k + 1)) = (if t then b else b + 1, zz, decide (zz < 1024)) := fun zz hzz => by
        rw [hst]
        unfold blkStep
        dsimp only
        rw [i2, i3, hzz]
        cases t
        · rfl
        · rw [i4 rfl]
      have Fin := Lib.hid fin
      clear fin hst hm hkL i2 i3 i4 HI hk
      cases t
      · by_cases hc : mk.size + mv.size < 1024
        · as_aux_lemma =>
          have c1 : (mk.size : Int) + (mv.size : Int) < 1024 := by omega
          have HI2 : Hid (BkIn L (k + 1) (b + 1) (mk.size + mv.size) true) := Lib.hid (by
            have hF := Fin.out (mk.size + mv.size) (by simp)
            exact ⟨fun _ => hc, by rw [hF]; rfl, by rw [hF]; exact decide_eq_true hc, fun _ => by rw [hF]⟩)
          clear i1 Fin hc
          go_wp2_with fail
          go_quiet (fail)
          go_wp2_with fail
          go_roundw
          case rel => exact ⟨k + 1, b + 1, mk.size + mv.size, true, by omega, by omega, by omega, by go_num, by go_num, by go_num, rfl, HI2, Lib.hid (below_drewN HB.out _)⟩
          case measure => simp [intOf]; omega
        · as_aux_lemma =>
          have c1 : ¬ (mk.size : Int) + (mv.size : Int) < 1024 := by omega
          have c2 : decide ((mk.size : Int) + (mv.size : Int) < 1024) = false := decide_eq_false c1
          have HI2 : Hid (BkIn L (k + 1) (b + 1) (mk.size + mv.size) false) := Lib.hid (by
            have hF := Fin.out (mk.size + mv.size) (by simp)
            exact ⟨fun h => (by cases h), by rw [hF]; rfl, by rw [hF]; exact decide_eq_false hc, fun h => (by cases h)⟩)
          clear i1 Fin hc
          go_wp2_with fail
          go_quiet (fail)
          go_wp2_with fail
          go_roundw
          case rel => exact ⟨k + 1, b + 1, mk.size + mv.size, false, by omega, by omega, by omega, by go_num, by go_num, by go_num, rfl, HI2, Lib.hid (below_drewN HB.out _)⟩
          case measure => simp [intOf]; omega
      · have hz1 := i1 rfl
        by_cases hc : z + mk.size + mv.size < 1024
        · as_aux_lemma =>
          have c1 : (z : Int) + (mk.size : Int) + (mv.size : Int) < 1024 := by omega
          have HI2 : Hid (BkIn L (k + 1) (b) (z + mk.size + mv.size) true) := Lib.hid (by
            have hF := Fin.out (z + mk.size + mv.size) (by simp)
            exact ⟨fun _ => hc, by rw [hF]; rfl, by rw [hF]; exact decide_eq_true hc, fun _ => by rw [hF]⟩)
          clear i1 Fin hc
          go_wp2_with fail
          go_quiet (fail)
          go_wp2_with fail
          go_roundw
          case rel => exact ⟨k + 1, b, z + mk.size + mv.size, true, by omega, by omega, by omega, by go_num, rfl, by go_num, rfl, HI2, Lib.hid (below_drewN HB.out _)⟩
          case measure => simp [intOf]; omega
        · as_aux_lemma =>
          have c1 : ¬ (z : Int) + (mk.size : Int) + (mv.size : Int) < 1024 := by omega
          have c2 : decide ((z : Int) + (mk.size : Int) + (mv.size : Int) < 1024) = false := decide_eq_false c1
          have HI2 : Hid (BkIn L (k + 1) (b) (z + mk.size + mv.size) false) := Lib.hid (by
            have hF := Fin.out (z + mk.size + mv.size) (by simp)
            exact ⟨fun h => (by cases h), by rw [hF]; rfl, by rw [hF]; exact decide_eq_false hc, fun h => (by cases h)⟩)
          clear i1 Fin hc
          go_wp2_with fail
          go_quiet (fail)
          go_wp2_with fail
          go_roundw
          case rel => exact ⟨k + 1, b, z + mk.size + mv.size, false, by omega, by omega, by omega, by go_num, rfl, by go_num, rfl, HI2, Lib.hid (below_drewN HB.out _)⟩
          case measure => simp [intOf]; omega
    · as_aux_lemma =>
      obtain rfl : k = n := by omega
      have hall : L.take k = L := List.take_of_length_le (Nat.le_of_eq Hlen.out.symm)
      have hbr : b = r := by
        have h2 := HI.out.num
        rw [hall] at h2
        rw [← Hr.out, ← h2]
        rfl
      subst hbr
      clear HI hall Hr
      go_wp2_with fail
      go_ret
      exact ⟨rfl, HB.out⟩
end Go.Proofs.YtcbgflidlpmhcaaGreatDoor

namespace Go.Proofs.YtcbgflidlpmhcaaGreatDoor
open Go.RowKit

/-- Texts as cells. -/
def elTx : El ByteArray := ⟨fun x => [.string x], 1, by decide, fun _ => rfl, fun x u hu => by simp at hu; subst hu; rfl, fun _ _ => ⟨#[]⟩⟩
theorem infoTx : (Tryz.prog.info? 9).map (fun i => (i.zero, i.size, i.bytes)) = some (some (.string ⟨#[]⟩), elTx.sz, 16) := by kernel_rfl
theorem underTx : Tryz.prog.underlying 39 = some (.slice 9) := by kernel_rfl
def markT : ByteArray := ⟨#[109, 97, 114, 107]⟩
theorem TextsAt.row {w : World} {A : Option Addr} {n : Nat} {L : List ByteArray} (h : TextsAt w A n L) : (A = none → L = []) ∧ ∀ a, A = some a → ∀ j u, (elTx.row L)[j]? = some u → w.cell? (a.add j) = some u := by
  refine ⟨fun hA => ?_, fun a ha j u hu => ?_⟩
  · cases L with
    | nil => rfl
    | cons m r =>
      obtain ⟨g, off, e, _⟩ := h.at_ 0 m rfl
      rw [hA] at e; cases e
  · have hj := (List.getElem?_eq_some_iff.1 hu).1
    rw [elTx.row_length] at hj
    have hj : j < L.length * 1 := hj
    obtain ⟨m, hm⟩ : ∃ m, L[j]? = some m := ⟨_, List.getElem?_eq_getElem (by omega)⟩
    obtain ⟨g, off, e, _, x0⟩ := h.at_ _ _ hm
    rw [ha] at e
    cases e
    rw [Addr.add_lit]
    have hd : j = j * elTx.sz + 0 := by show j = j * 1 + 0; omega
    rw [hd, elTx.row_at L j 0 m hm (by decide)] at hu
    have hu : some (Value.string m) = some u := hu
    cases hu
    exact x0
/-- A list lent: its row, the mark behind it. -/
structure LentT (w : World) (B g n cap : Nat) (L : List ByteArray) : Prop where
  len : n = L.length
  row : Own elTx w B 9 (.slice (some ⟨g, 0, none⟩) (n + 1) cap) (L ++ [markT])
theorem LentT.below {w w' : World} {B g n cap : Nat} {L : List ByteArray} (h : LentT w B g n cap L) (hb : Below w.heap.size w w') : LentT w' B g n cap L := ⟨h.len, h.row.below hb⟩
theorem LentT.tn {w w' : World} {B g n cap : Nat} {L : List ByteArray} (h : LentT w B g n cap L) {B' : Nat} {T : Obj → Bool} (hb : Tn B' T w w') (hT : ∀ cs fr, T (.cells cs 9 fr) = false) : LentT w' B g n cap L := ⟨h.len, h.row.tn hb hT⟩
theorem own_capT {w : World} {B g n cap sz : Nat} {e : TypeId} {xs : List Value} (h : w.ownsRow B e sz (.slice (some ⟨g, 0, none⟩) n cap) n xs) : n ≤ cap := by
  rcases h.2 with ⟨h1, _⟩ | ⟨g', cap', cur, hv, _, _, hle, _⟩
  · cases h1
  · injection hv with e1 e2 e3
    omega
theorem LentT.cap {w : World} {B g n cap : Nat} {L : List ByteArray} (h : LentT w B g n cap L) : n + 1 ≤ cap := by
  have h1 := h.row
  unfold Own at h1
  rw [List.length_append, ← h.len] at h1
  exact own_capT h1
theorem LentT.at_ {w : World} {B g n cap : Nat} {L : List ByteArray} (h : LentT w B g n cap L) : TextsAt w (some ⟨g, 0, none⟩) n L := by
  have h1 := h.row
  rw [show (n + 1 : Nat) = (L ++ [markT]).length by rw [List.length_append, h.len]; rfl] at h1
  refine ⟨h.len, fun i m hm => ?_⟩
  have hi := (List.getElem?_eq_some_iff.1 hm).1
  have hm' : (L ++ [markT])[i]? = some m := by rw [List.getElem?_append_left hi]; exact hm
  have hc0 := Own.cells (i := i) (j := 0) h1 hm' (by decide) rfl
  obtain ⟨g', c', cur, hv, hg, hh⟩ := Own.some_ h1 (by rw [List.length_append]; simp)
  cases hv
  refine ⟨g, 0, rfl, (Array.getElem?_eq_some_iff.1 hh).1, ?_⟩
  rw [Nat.zero_add]
  rwa [show i * elTx.sz + 0 = i from by show i * 1 + 0 = _; omega] at hc0
theorem LentT.mark {w : World} {B g n cap : Nat} {L : List ByteArray} (h : LentT w B g n cap L) : w.cell? ⟨g, n, none⟩ = some (.string ⟨#[109, 97, 114, 107]⟩) := by
  have h1 := h.row
  rw [show (n + 1 : Nat) = (L ++ [markT]).length by rw [List.length_append, h.len]; rfl] at h1
  have hm' : (L ++ [markT])[n]? = some markT := by rw [h.len]; simp
  have := Own.cells (i := n) (j := 0) h1 hm' (by decide) rfl
  rwa [show n * elTx.sz + 0 = n from by show n * 1 + 0 = _; omega] at this

set_option maxRecDepth 100000 in
set_option maxHeartbeats 2000000 in
theorem sametexts_at (A1 A2 : Option Addr) (n c1 c2 : Nat) (L : List ByteArray) (w : World) (h1 : TextsAt w A1 n L) (h2 : TextsAt w A2 n L) (hn : n ≤ 1000000) :
    Calls Tryz.prog 133 #[.slice A1 n c1, .slice A2 n c2] w fun e w' => e = .returned (.bool true) ∧ Below w.heap.size w w' := by
  have H1 := Lib.hid h1
  have H2 := Lib.hid h2
  have HL := Lib.hid h1.len
  have hL' : (n : Int) ≤ 1000000 := by omega
  clear h1 h2
  go_enter Tryz.func133, Tryz.ntmps133
  go_wp2_with fail
  go_loopw [5] (fun i wr => ∃ k : Nat, k ≤ n ∧ i = .int .i64 (k : Int) ∧ Hid (Below w.heap.size w wr)) (fun i _ => n - (intOf i).toNat)
  case atStart => exact ⟨0, by omega, rfl, Lib.hid (Below.refl _ _)⟩
  case round =>
    obtain ⟨k, hk, rfl, HB⟩ := hrel
    by_cases hl : k < n
    · have hkL : k < L.length := by rw [← HL.out]; exact hl
      obtain ⟨x, hx⟩ : ∃ x, L[k]? = some x := ⟨_, List.getElem?_eq_getElem hkL⟩
      obtain ⟨g1, o1, hA1, _, y0⟩ := (H1.out.below HB.out).at_ k x hx
      obtain ⟨g2, o2, hA2, _, z0⟩ := (H2.out.below HB.out).at_ k x hx
      subst hA1 hA2
      have hl1 : (k : Int) < (n : Int) := by omega
      have hl0 : (0 : Int) ≤ (k : Int) := by omega
      clear hx hkL
      go_wp2_with fail
      go_quiet (fail)
      go_wp2_with fail
      go_roundw
      case rel => exact ⟨k + 1, by omega, by go_num, Lib.hid (below_drewN HB.out _)⟩
      case measure => simp [intOf]; omega
    · obtain rfl : k = n := by omega
      go_wp2_with fail
      go_ret
      exact ⟨rfl, HB.out⟩

end Go.Proofs.YtcbgflidlpmhcaaGreatDoor

namespace Go.Proofs.YtcbgflidlpmhcaaGreatDoor
open Go.RowKit

theorem Own.textsAt {w : World} {B : Nat} {e : TypeId} {A : Option Addr} {n c : Nat} {L : List ByteArray} (h : Own elTx w B e (.slice A n c) L) (hn : n = L.length) : TextsAt w A n L := by
  refine ⟨hn, fun i m hm => ?_⟩
  have hi := (List.getElem?_eq_some_iff.1 hm).1
  subst hn
  obtain ⟨g', c', cur, hv, hg, hh⟩ := Own.some_ h (by omega)
  cases hv
  have hc0 := Own.cells (E := elTx) (i := i) (j := 0) h hm (by decide) rfl
  refine ⟨g', 0, rfl, (Array.getElem?_eq_some_iff.1 hh).1, ?_⟩
  rw [Nat.zero_add]
  rwa [show i * elTx.sz + 0 = i from by show i * 1 + 0 = _; omega] at hc0
theorem headsK_take {L : List KV} {k : Nat} {m : KV} (hm : L[k]? = some m) : headsK (L.take (k + 1)) = headsStep (headsK (L.take k)) m := by
  rw [List.take_add_one, hm]
  exact headsK_snoc _ _
theorem hasT_take {H : List ByteArray} {j : Nat} {t h : ByteArray} (ht : H[j]? = some t) : hasT (H.take (j + 1)) h = (hasT (H.take j) h || (t.toList == h.toList)) := by
  unfold hasT
  rw [List.take_add_one, ht, List.any_append]
  simp
set_option maxRecDepth 100000 in
set_option maxHeartbeats 4000000 in
theorem rheads_any (A : Option Addr) (n c : Nat) (L : List KV) (w : World) (h : KeysAt w A n L) (hz : ∀ m ∈ L, m.1.size ≤ 1000000) (hn : n ≤ 1000000) :
    Calls Tryz.prog 16 #[.slice A n c] w fun e w' => ∃ v, e = .returned v ∧ Own elTx w' w.heap.size 9 v (headsK L) ∧ Below w.heap.size w w' := by
  have HK := Lib.hid h
  have Hz := Lib.hid hz
  have Hlen := Lib.hid h.len
  obtain ⟨r, hr⟩ : ∃ r, headsK L = r := ⟨_, rfl⟩
  rw [hr]
  have Hr := Lib.hid hr
  clear h hz hr
  go_enter Tryz.func16, Tryz.ntmps16
  go_wp2_with fail
  go_loopw [3, 4] (fun o i wr => ∃ k : Nat, k ≤ n ∧ i = .int .i64 (k : Int) ∧ Hid (Own elTx wr w.heap.size 9 o (headsK (L.take k))) ∧ Hid (Below w.heap.size w wr)) (fun _ i _ => n - (intOf i).toNat)
  case atStart => exact ⟨0, by omega, rfl, World.ownsRow_nil _ _ _ _, Lib.hid (Below.refl _ _)⟩
  case round =>
    obtain ⟨k, hk, rfl, HN, HB⟩ := hrel
    obtain ⟨ao, co, eo⟩ := HN.out.slice
    by_cases hl : k < n
    · as_aux_lemma =>
      have g1 : (k : Int) < (n : Int) := by omega
      have g0 : (0 : Int) ≤ (k : Int) := by omega
      have hkL : k < L.length := by have := Hlen.out; omega
      have hm : L[k]? = some L[k] := List.getElem?_eq_getElem hkL
      have oz := Hz.out L[k] (List.getElem_mem hkL)
      generalize L[k] = m at *
      obtain ⟨g, off, hA, hg, x0, x1⟩ := (HK.out.below HB.out).at_ k _ hm
      subst hA
      have CH := fun W => Lib.hid (rhead13_any m.1 W (by omega))
      have hst := headsK_take hm
      unfold headsStep at hst
      have hql : (headsK (L.take k)).length ≤ 1000000 := by have := headsK_len (L.take k); rw [List.length_take] at this; omega
      generalize headsK (L.take k) = H at *
      obtain ⟨t, ht⟩ : ∃ t, headT m.1 = t := ⟨_, rfl⟩
      rw [ht] at hst CH
      obtain ⟨q, hq⟩ : ∃ q, H.length = q := ⟨_, rfl⟩
      rw [hq] at eo hql
      subst eo
      have Hst := Lib.hid hst
      have Hq := Lib.hid hq
      have HT := Lib.hid (Own.textsAt HN.out hq.symm)
      clear hst hq x1 oz hm hkL ht
      go_wp2_with fail
      refine (CH _).out.mono ?_
      rintro e w5 ⟨rfl, rfl⟩
      clear CH
      go_wp2_with fail
      go_loopw [6, 7] (fun f j wi => ∃ (jn : Nat) (b : Bool), jn ≤ q ∧ j = .int .i64 (jn : Int) ∧ f = .bool b ∧ wi = wr ∧ Hid (hasT (H.take jn) t = b)) (fun _ j _ => q - (intOf j).toNat)
      case atStart => exact ⟨0, false, by omega, rfl, rfl, rfl, Lib.hid rfl⟩
      case round =>
        obtain ⟨j, b, hj, rfl, rfl, rfl, Hb⟩ := hrel
        by_cases hjq : j < q
        · as_aux_lemma =>
          have i1 : (j : Int) < (q : Int) := by omega
          have i0 : (0 : Int) ≤ (j : Int) := by omega
          have hjH : j < H.length := by have := Hq.out; omega
          have hs : H[j]? = some H[j] := List.getElem?_eq_getElem hjH
          generalize H[j] = s at *
          obtain ⟨g2, off2, hA2, hg2, y0⟩ := HT.out.at_ j _ hs
          subst hA2
          have hsn := hasT_take (h := t) hs
          rw [Hb.out] at hsn
          have Hsn := Lib.hid hsn
          clear hsn hs hjH Hb
          cases b
          · have Hsn2 : Hid (hasT (H.take (j + 1)) t = (s.toList == t.toList)) := Lib.hid (by rw [Hsn.out, Bool.false_or])
            obtain ⟨b2, hb2⟩ : ∃ b2, (s.toList == t.toList) = b2 := ⟨_, rfl⟩
            rw [hb2] at Hsn2
            clear Hsn
            go_wp2_with fail
            go_roundw
            case rel => exact ⟨j + 1, b2, by omega, by go_num, rfl, trivial, Hsn2⟩
            case measure => simp [intOf]; omega
          · have Hsn2 : Hid (hasT (H.take (j + 1)) t = true) := Lib.hid (by rw [Hsn.out, Bool.true_or])
            clear Hsn
            go_wp2_with fail
            go_roundw
            case rel => exact ⟨j + 1, true, by omega, by go_num, rfl, trivial, Hsn2⟩
            case measure => simp [intOf]; omega
        · as_aux_lemma =>
          obtain rfl : j = q := by omega
          have hall : H.take j = H := List.take_of_length_le (by rw [Hq.out]; exact Nat.le_refl _)
          have hbb := Hb.out
          rw [hall] at hbb
          have hst := Hst.out
          rw [hbb] at hst
          clear Hb hall hbb Hst
          cases b
          · rw [if_neg (by decide)] at hst
            obtain ⟨v', w2, hr, hown, hgr, _, _⟩ := app_own (P := Tryz.prog) elTx 39 9 (.string ⟨#[]⟩) 16 underTx infoTx rfl (wr.alloc (.cells #[.string t] 9)) w.heap.size (.slice ao j co) H [t] (World.ownsRow.alloc HN.out _) (some ⟨wr.heap.size, 0, none⟩) 1 (fun h => by cases h) (fun a ha j' u hu => by
              cases ha
              rw [El.row_one] at hu
              exact cells_new wr 9 [.string t] j' u hu) (by rw [Hq.out]; unfold maxLen; simp; omega) (by rw [Hq.out]; simp; omega) (Nat.le_trans HB.out.size (by simp)) 1 rfl
            rw [← hst] at hown
            have HR := fun ty => Lib.hid (hr ty)
            have HN2 := Lib.hid hown
            have HB2 : Hid (Below w.heap.size w w2) := Lib.hid ((below_alloc HB.out (Nat.le_refl _) _).grown hgr (Nat.le_trans HB.out.size (by simp)) (fun k hk => (World.ownsRow.lt HN.out k hk).1))
            clear hr hown hgr hst HT HN HB
            go_wp2_with (at_builtin; refine wpList_append_k _ w2 rfl (.tmp 37) (.tmp 39) 39 rfl _ _ v' rfl rfl (fun ty => (HR ty).out) ?_)
            go_roundw
            case rel => exact ⟨k + 1, by omega, by go_num, HN2, HB2⟩
            case measure => simp [intOf]; omega
          · rw [if_pos rfl] at hst
            rw [← hst] at HN
            clear hst HT
            go_wp2_with fail
            go_roundw
            case rel => exact ⟨k + 1, by omega, by go_num, HN, HB⟩
            case measure => simp [intOf]; omega
    · as_aux_lemma =>
      obtain rfl : k = n := by omega
      have hall : L.take k = L := List.take_of_length_le (Nat.le_of_eq Hlen.out.symm)
      have hN := HN.out
      rw [hall, Hr.out] at hN
      have HN := Lib.hid hN
      clear hN hall Hr eo
      go_wp2_with fail
      go_ret
      exact ⟨_, rfl, HN.out, HB.out⟩
end Go.Proofs.YtcbgflidlpmhcaaGreatDoor

namespace Go.Proofs.YtcbgflidlpmhcaaGreatDoor
open Go.RowKit

theorem takenN_drop {R : List KV} {k : Nat} {m : KV} (hm : R[k]? = some m) (z : Nat) : takenN z (R.drop k) = if 1024 ≤ z + m.1.size + m.2.size then 1 else takenN (z + m.1.size + m.2.size) (R.drop (k + 1)) + 1 := by
  obtain ⟨h1, h2⟩ := List.getElem?_eq_some_iff.1 hm
  rw [List.drop_eq_getElem_cons h1, h2, takenN]

set_option maxRecDepth 100000 in
set_option maxHeartbeats 2000000 in
theorem staken_any (A : Option Addr) (n c : Nat) (R : List KV) (w : World) (h : KeysAt w A n R) (hw : wtK R ≤ 60000) :
    Calls Tryz.prog 27 #[.slice A n c] w fun e w' => e = .returned (.int .i64 (takenN 0 R : Nat)) ∧ Below w.heap.size w w' := by
  have HK := Lib.hid h
  have Hlen := Lib.hid h.len
  have hn : n ≤ 3000 := by have := wtK_len R; have := h.len; omega
  have Hsz : Hid (∀ m ∈ R, m.1.size ≤ 60000 ∧ m.2.size ≤ 60000) := Lib.hid (fun m hm => by have := wtK_all R m hm; omega)
  obtain ⟨T, hT⟩ : ∃ T, takenN 0 R = T := ⟨_, rfl⟩
  rw [hT]
  have HT := Lib.hid hT
  clear h hw hT
  go_enter Tryz.func27, Tryz.ntmps27
  go_wp2_with fail
  go_loopw [3, 8] (fun x i wr => ∃ k z : Nat, k ≤ n ∧ z < 1024 ∧ i = .int .i64 (k : Int) ∧ x = .int .i64 (z : Int) ∧ Hid (T = k + takenN z (R.drop k)) ∧ Hid (Below w.heap.size w wr)) (fun _ i _ => n - (intOf i).toNat)
  case atStart => exact ⟨0, 0, by omega, by omega, rfl, rfl, Lib.hid (by rw [← HT.out, List.drop_zero, Nat.zero_add]), Lib.hid (Below.refl _ _)⟩
  case round =>
    obtain ⟨k, z, hk, hz, rfl, rfl, HE, HB⟩ := hrel
    by_cases hl : k < n
    · have g1 : (k : Int) < (n : Int) := by omega
      have g0 : (0 : Int) ≤ (k : Int) := by omega
      have hkL : k < R.length := by have := Hlen.out; omega
      have hm : R[k]? = some R[k] := List.getElem?_eq_getElem hkL
      have om := Hsz.out R[k] (List.getElem_mem hkL)
      generalize R[k] = mm at *
      obtain ⟨mk, mv⟩ := mm
      obtain ⟨om1, om2⟩ := om
      dsimp only at om1 om2
      obtain ⟨g, off, hA, hg, x0, x1⟩ := (HK.out.below HB.out).at_ k _ hm
      subst hA
      dsimp only at x0 x1
      have hd := takenN_drop hm z
      dsimp only at hd
      have hE := HE.out
      rw [hd] at hE
      have HE2 := Lib.hid hE
      clear hd hE HE hm hkL
      by_cases hc : 1024 ≤ z + mk.size + mv.size
      · have q1 : (1024 : Int) ≤ (z : Int) + ((mk.size : Int) + (mv.size : Int)) := by omega
        have q2 : decide ((1024 : Int) ≤ (z : Int) + ((mk.size : Int) + (mv.size : Int))) = true := decide_eq_true q1
        have hT1 : T = k + 1 := by have := HE2.out; rw [if_pos hc] at this; exact this
        clear HE2 hc
        go_wp2_with fail
        go_ret
        exact ⟨by rw [hT1]; push_cast; rfl, below_alloc HB.out (Nat.le_refl _) _⟩
      · have q1 : ¬ (1024 : Int) ≤ (z : Int) + ((mk.size : Int) + (mv.size : Int)) := by omega
        have q2 : decide ((1024 : Int) ≤ (z : Int) + ((mk.size : Int) + (mv.size : Int))) = false := decide_eq_false q1
        have HT1 : Hid (T = k + 1 + takenN (z + mk.size + mv.size) (R.drop (k + 1))) := Lib.hid (by have := HE2.out; rw [if_neg hc] at this; omega)
        have hz2 : z + mk.size + mv.size < 1024 := by omega
        clear HE2 hc
        go_wp2_with fail
        go_roundw
        case rel => exact ⟨k + 1, z + mk.size + mv.size, by omega, hz2, by go_num, by go_num, HT1, Lib.hid (below_alloc HB.out (Nat.le_refl _) _)⟩
        case measure => simp [intOf]; omega
    · obtain rfl : k = n := by omega
      have g1 : ¬ (k : Int) < (k : Int) := by omega
      have hT1 : T = k := by
        have := HE.out
        rw [List.drop_eq_nil_of_le (by have := Hlen.out; omega)] at this
        exact this
      clear HE HT
      go_wp2_with fail
      go_ret
      exact ⟨by first | rfl | rw [hT1], HB.out⟩

theorem map_take_snoc {L : List KV} {k : Nat} {m : KV} (hm : L[k]? = some m) : (L.take (k + 1)).map (fun m => headT m.1) = (L.take k).map (fun m => headT m.1) ++ [headT m.1] := by
  rw [List.take_add_one, hm, List.map_append]
  rfl
theorem elTx_row (H : List ByteArray) : elTx.row H = (H.map fun s => bl s).map encStr := by
  unfold El.row elTx
  induction H with
  | nil => rfl
  | cons x r ih => rw [List.flatMap_cons, ih]; rfl
theorem heads_len {L : List KV} (hR : risesK L = true) {k : Nat} (hk : L.length = k) : (Lib.compactUpTo (hdsA L) k).length = (headsK L).length := by
  have hcp := heads_compact hR L.length (Nat.le_refl _)
  rw [List.take_length, hk] at hcp
  rw [← hcp, List.length_map]
theorem heads_cells {L : List KV} (hR : risesK L = true) {k : Nat} (hk : L.length = k) : (headsK L).map (fun s => bl s) = Lib.compactUpTo (hdsA L) k := by
  have hcp := heads_compact hR L.length (Nat.le_refl _)
  rw [List.take_length, hk] at hcp
  rw [← hcp, List.map_map]
  exact List.map_id'' (fun l => rfl) _
theorem heads_end {L : List KV} {wr : World} {B k co : Nat} {ao : Option Addr} (HN : Own elTx wr B 9 (.slice ao k co) (L.map fun m => headT m.1)) (hk : L.length = k) (h0 : 0 < k) (hR : risesK L = true) :
    ∃ g, ao = some ⟨g, 0, none⟩ ∧ B ≤ g ∧ k ≤ co ∧ Sort.Holds encStr wr g 0 (hdsA L) ∧
      ∀ q, TextsAt (Sort.putRow encStr (Sort.ahead wr q) g 0 (Lib.compactUpTo (hdsA L) k ++ List.replicate (k - (headsK L).length) []).toArray) (some ⟨g, 0, none⟩) (headsK L).length (headsK L) := by
  have hlen : (L.map fun m => headT m.1).length = k := by rw [List.length_map, hk]
  have e9 : (L.map fun m => headT m.1).map (fun s => bl s) = L.map fun m => bl (headT m.1) := List.map_map ..
  have hO : wr.ownsRow B 9 1 (.slice ao k co) k ((L.map fun m => bl (headT m.1)).map encStr) := by
    have h := HN
    unfold Own at h
    rw [hlen, elTx_row, e9] at h
    exact h
  obtain ⟨g, cap, he, hbg, hg, hcap, hcm, hzl, hH⟩ := Lib.holds_of_ownsRow hO (fun e => by cases e; omega)
  injection he with q1 q2 q3
  subst q1
  subst q3
  refine ⟨g, rfl, hbg, hcap, hH, fun q => ?_⟩
  have hcl := heads_len hR hk
  have hle : (headsK L).length ≤ k := by have := headsK_len L; omega
  have h9 := Lib.ownsRow_putRow (q := q) (k := (headsK L).length) (ys := Lib.compactUpTo (hdsA L) k ++ List.replicate (k - (headsK L).length) []) hO (by rw [List.length_append, List.length_replicate, hcl]; omega) hle
  rw [← hcl, List.take_left, hcl, ← heads_cells hR hk, ← elTx_row] at h9
  rw [heads_cells hR hk] at h9
  exact Own.textsAt (L := headsK L) h9 rfl
set_option maxRecDepth 100000 in
set_option maxHeartbeats 2000000 in
theorem sheads_any (A : Option Addr) (n c : Nat) (L : List KV) (w : World) (h : KeysAt w A n L) (hw : wtK L ≤ 60000) (hne : L ≠ []) (hR : risesK L = true) (hT : LaidS w) :
    Calls Tryz.prog 31 #[.slice A n c] w fun e w' => ∃ A' c', e = .returned (.slice A' (headsK L).length c') ∧ TextsAt w' A' (headsK L).length (headsK L) ∧ Below w.heap.size w w' := by
  have HK := Lib.hid h
  have Hlen := Lib.hid h.len
  have hn : n ≤ 3000 := by have := wtK_len L; have := h.len; omega
  have hn0 : 0 < n := by have := List.length_pos_iff.2 hne; have := h.len; omega
  have Hsz : Hid (∀ m ∈ L, m.1.size ≤ 60000 ∧ m.2.size ≤ 60000) := Lib.hid (fun m hm => by have := wtK_all L m hm; omega)
  have HT := Lib.hid hT
  have HR := Lib.hid hR
  clear h hw hne hR hT
  go_enter Tryz.func31, Tryz.ntmps31
  go_wp2_with fail
  go_loopw [3, 8] (fun o i wr => ∃ k : Nat, k ≤ n ∧ i = .int .i64 (k : Int) ∧ Hid (Own elTx wr w.heap.size 9 o ((L.take k).map fun m => headT m.1)) ∧ Hid (Below w.heap.size w wr)) (fun _ i _ => n - (intOf i).toNat)
  case atStart => exact ⟨0, by omega, rfl, World.ownsRow_nil _ _ _ _, Lib.hid (Below.refl _ _)⟩
  case round =>
    obtain ⟨k, hk, rfl, HN, HB⟩ := hrel
    have hkl : ((L.take k).map fun m => headT m.1).length = k := by rw [List.length_map, List.length_take]; have := Hlen.out; omega
    by_cases hl : k < n
    · obtain ⟨ao, co, eo⟩ := HN.out.slice
      rw [hkl] at eo
      subst eo
      have g1 : (k : Int) < (n : Int) := by omega
      have g0 : (0 : Int) ≤ (k : Int) := by omega
      have hkL : k < L.length := by have := Hlen.out; omega
      have hm : L[k]? = some L[k] := List.getElem?_eq_getElem hkL
      have om := Hsz.out L[k] (List.getElem_mem hkL)
      generalize L[k] = mm at *
      obtain ⟨mk, mv⟩ := mm
      obtain ⟨om1, om2⟩ := om
      dsimp only at om1 om2
      obtain ⟨g, off, hA, hg, x0, x1⟩ := (HK.out.below HB.out).at_ k _ hm
      subst hA
      dsimp only at x0 x1
      have hsn := map_take_snoc hm
      dsimp only at hsn
      have HB1 := Lib.hid (below_alloc HB.out (Nat.le_refl _) (.cells #[.string mk, .string mv] 37))
      have CH := Lib.hid (shead_any mk (wr.alloc (.cells #[.string mk, .string mv] 37)) (by omega) (HT.out.on HB1.out))
      have HN1 : Own elTx (wr.alloc (.cells #[.string mk, .string mv] 37)) w.heap.size 9 (.slice ao k co) ((L.take k).map fun m => headT m.1) := World.ownsRow.alloc HN.out _
      have y0 : (wr.alloc (.cells #[.string mk, .string mv] 37)).cell? ⟨wr.heap.size, 0, none⟩ = some (.string mk) := (Blk.new _ _ _).cell 0
      generalize headT mk = hd at *
      obtain ⟨H, hH⟩ : ∃ H, (L.take k).map (fun m => headT m.1) = H := ⟨_, rfl⟩
      rw [hH] at hsn HN1 hkl
      have Hsn := Lib.hid hsn
      have HN2 := Lib.hid HN1
      have Hkl := Lib.hid hkl
      clear hsn HN1 HN HB hm hkL hkl hH
      go_wp2_with fail
      refine CH.out.mono ?_
      rintro e w5 ⟨rfl, rfl⟩
      clear CH x0 x1
      obtain ⟨w6, hw6⟩ : ∃ w6, wr.alloc (.cells #[.string mk, .string mv] 37) = w6 := ⟨_, rfl⟩
      rw [hw6] at HN2 HB1 y0 ⊢
      clear hw6
      obtain ⟨v', w2, hr, hown, hgr, _, _⟩ := app_own (P := Tryz.prog) elTx 39 9 (.string ⟨#[]⟩) 16 underTx infoTx rfl (w6.alloc (.cells #[.string hd] 9)) w.heap.size (.slice ao k co) H [hd] (World.ownsRow.alloc HN2.out _) (some ⟨w6.heap.size, 0, none⟩) 1 (fun h => by cases h) (fun a ha j' u hu => by
        cases ha
        rw [El.row_one] at hu
        refine cells_new w6 9 [.string hd] j' u ?_
        skip
        exact hu) (by rw [Hkl.out]; unfold maxLen; simp; omega) (by rw [Hkl.out]; simp; omega) (Nat.le_trans HB1.out.size (by simp)) 1 rfl
      rw [← Hsn.out] at hown
      have HR9 := fun ty => Lib.hid (hr ty)
      have HN3 := Lib.hid hown
      have HB3 : Hid (Below w.heap.size w w2) := Lib.hid ((below_alloc HB1.out (Nat.le_refl _) (.cells #[.string hd] 9)).grown hgr (Nat.le_trans HB1.out.size (by simp)) (fun j hj => (HN2.out.lt hj).1))
      clear hr hown hgr HN2 HB1
      go_wp2_with (at_builtin; refine wpList_append_k _ w2 rfl (.tmp 12) (.tmp 16) 39 rfl _ _ v' rfl rfl (fun ty => (HR9 ty).out) ?_)
      go_roundw
      case rel => exact ⟨k + 1, by omega, by go_num, HN3, HB3⟩
      case measure => simp [intOf]; omega
    · obtain rfl : k = n := by omega
      have g1 : ¬ (k : Int) < (k : Int) := by omega
      have hall : L.take k = L := List.take_of_length_le (Nat.le_of_eq Hlen.out.symm)
      rw [hall] at HN hkl
      obtain ⟨ao, co, eo⟩ := HN.out.slice
      rw [hkl] at eo
      subst eo
      obtain ⟨g, rfl, hbg, hcap, hH, hfin⟩ := heads_end (k := k) (co := co) HN.out Hlen.out.symm hn0 HR.out
      have C := Tryz.slices_Compact_string_arr g 0 co (hdsA L) wr hH (by rw [hdsA_size]; have := Hlen.out; omega) (by rw [hdsA_size]; have := Hlen.out; omega)
      rw [hdsA_size, Hlen.out.symm, heads_len HR.out Hlen.out.symm] at C
      have Hfin := Lib.hid hfin
      have HB2 : Hid (∀ q, Below w.heap.size w (Sort.putRow encStr (Sort.ahead wr q) g 0 (Lib.compactUpTo (hdsA L) k ++ List.replicate (k - (headsK L).length) []).toArray)) := Lib.hid (fun q => Lib.below_putRow HB.out hbg)
      have C := Lib.hid C
      clear hfin hH hkl HN hall
      go_wp2_with fail
      refine C.out.mono ?_
      rintro e w7 ⟨rfl, q, rfl⟩
      have F1 := Lib.hid (Hfin.out q)
      have F2 := Lib.hid (HB2.out q)
      clear Hfin HB2 C
      generalize Sort.putRow encStr (Sort.ahead wr q) g 0 (Lib.compactUpTo (hdsA L) k ++ List.replicate (k - (headsK L).length) []).toArray = w8 at *
      go_wp2_with fail
      go_ret
      exact ⟨_, _, rfl, F1.out, F2.out⟩
end Go.Proofs.YtcbgflidlpmhcaaGreatDoor

namespace Go.Proofs.YtcbgflidlpmhcaaGreatDoor
open Go.RowKit

/-- A table of these pairs, so many blocks, and this filter, as it lies. -/
structure TabN (W : World) (t : Nat) (L : List KV) (nb : Nat) (F : ByteArray) : Prop where
  ex : ∃ A c, Blk W t 80 #[.slice A L.length c, .int .i64 (nb : Int), .string F] ∧ Own elKeys W 0 37 (.slice A L.length c) L ∧ L.length ≤ c
  ne : L ≠ []
  rises : risesK L = true
  short : longK L = false
  len : L.length ≤ 1000000
  fil : F.size ≤ 1000000
theorem TabN.up {W W' : World} {t : Nat} {L : List KV} {nb : Nat} {F : ByteArray} (h : TabN W t L nb F) (hb : Below W.heap.size W W') : TabN W' t L nb F := by
  obtain ⟨A, c, h1, h2, h3⟩ := h.ex
  exact ⟨⟨A, c, h1.below hb h1.lt, h2.below hb, h3⟩, h.ne, h.rises, h.short, h.len, h.fil⟩
theorem TabN.tn {B : Nat} {W W' : World} {t : Nat} {L : List KV} {nb : Nat} {F : ByteArray} {T : Obj → Bool} (h : TabN W t L nb F) (g : Tn B T W W') (h1 : ∀ cs fr, T (.cells cs 80 fr) = false) (h2 : ∀ cs fr, T (.cells cs 37 fr) = false) : TabN W' t L nb F := by
  obtain ⟨A, c, k1, k2, k3⟩ := h.ex
  exact ⟨⟨A, c, g.blk k1 (h1 _ _), k2.tn g h2, k3⟩, h.ne, h.rises, h.short, h.len, h.fil⟩
theorem own_keysAt {W : World} {B : Nat} {A : Option Addr} {n c : Nat} {L : List KV} (h : Own elKeys W B 37 (.slice A n c) L) (hn : n = L.length) : KeysAt W A n L := by
  refine ⟨hn, fun i m hm => ?_⟩
  have hi := (List.getElem?_eq_some_iff.1 hm).1
  subst hn
  obtain ⟨g, c', cur, hv, hg, hh⟩ := Own.some_ h (by omega)
  cases hv
  have h0 := Own.cells (E := elKeys) (i := i) (j := 0) h hm (by decide) rfl
  have h1 := Own.cells (E := elKeys) (i := i) (j := 1) h hm (by decide) rfl
  have hlt := (Array.getElem?_eq_some_iff.1 hh).1
  refine ⟨g, 0, rfl, hlt, ?_, ?_⟩
  · rwa [show i * elKeys.sz + 0 = 0 + i * 2 from by show i * 2 + 0 = _; omega] at h0
  · rwa [show i * elKeys.sz + 1 = 0 + i * 2 + 1 from by show i * 2 + 1 = _; omega] at h1

/-! ### Of a nil table, of a zero one -/
set_option maxRecDepth 100000 in
set_option maxHeartbeats 1000000 in
theorem snone_nil (w : World) : Calls Tryz.prog 39 #[.pointer none] w fun e w' => e = .returned (.bool true) ∧ w' = w := by
  go_enter Tryz.func39, Tryz.ntmps39
  go_wp2_with fail
  go_ret
  exact ⟨rfl, rfl⟩
set_option maxRecDepth 100000 in
set_option maxHeartbeats 1000000 in
theorem snone_len (t : Nat) (A : Option Addr) (n c : Nat) (r : Bool) (hr : r = decide (n = 0)) (w : World) (h0 : w.cell? ⟨t, 0, none⟩ = some (.slice A n c)) :
    Calls Tryz.prog 39 #[.pointer (some ⟨t, 0, none⟩)] w fun e w' => e = .returned (.bool r) ∧ w' = w := by
  have g0 : ((n : Int) == 0) = r := by
    rw [hr]
    by_cases h : n = 0
    · rw [h]; rfl
    · rw [decide_eq_false h, beq_eq_false_iff_ne]; omega
  clear hr
  go_enter Tryz.func39, Tryz.ntmps39
  go_wp2_with fail
  go_ret
  exact ⟨rfl, rfl⟩

section
variable {W : World} {t : Nat} {L : List KV} {nb : Nat} {F : ByteArray}
theorem tab_none (h : TabN W t L nb F) : Calls Tryz.prog 39 #[.pointer (some ⟨t, 0, none⟩)] W fun e w' => e = .returned (.bool false) ∧ w' = W := by
  obtain ⟨A, c, h1, h2, h3⟩ := h.ex
  refine snone_len t A L.length c false ?_ W (h1.cell 0)
  rw [decide_eq_false]
  intro e
  exact h.ne (List.eq_nil_of_length_eq_zero e)
set_option maxRecDepth 100000 in
set_option maxHeartbeats 1000000 in
theorem scountN_any (h : TabN W t L nb F) : Calls Tryz.prog 11 #[.pointer (some ⟨t, 0, none⟩)] W fun e w' => e = .returned (.int .i64 (L.length : Nat)) ∧ w' = W := by
  have CN := Lib.hid (tab_none h)
  obtain ⟨A, c, h1, h2, h3⟩ := h.ex
  have c0 : W.cell? ⟨t, 0, none⟩ = some (.slice A L.length c) := h1.cell 0
  generalize L.length = n at *
  clear h1 h2 h3 h
  go_enter Tryz.func11, Tryz.ntmps11
  go_wp2_with fail
  refine CN.out.mono ?_
  rintro e w1 ⟨rfl, rfl⟩
  go_wp2_with fail
  go_ret
  exact ⟨rfl, rfl⟩
set_option maxRecDepth 100000 in
set_option maxHeartbeats 1000000 in
theorem sblocksN_any (h : TabN W t L nb F) : Calls Tryz.prog 14 #[.pointer (some ⟨t, 0, none⟩)] W fun e w' => e = .returned (.int .i64 (nb : Nat)) ∧ w' = W := by
  have CN := Lib.hid (tab_none h)
  obtain ⟨A, c, h1, h2, h3⟩ := h.ex
  have c0 : W.cell? ⟨t, 1, none⟩ = some (.int .i64 (nb : Int)) := h1.cell 1
  clear h1 h2 h3 h
  go_enter Tryz.func14, Tryz.ntmps14
  go_wp2_with fail
  refine CN.out.mono ?_
  rintro e w1 ⟨rfl, rfl⟩
  go_wp2_with fail
  go_ret
  exact ⟨rfl, rfl⟩
set_option maxRecDepth 100000 in
set_option maxHeartbeats 1000000 in
theorem sfirstN_any (h : TabN W t L nb F) {m : KV} (hm : L[0]? = some m) : Calls Tryz.prog 12 #[.pointer (some ⟨t, 0, none⟩)] W fun e w' => e = .returned (.string m.1) ∧ w' = W := by
  have CN := Lib.hid (tab_none h)
  obtain ⟨A, c, h1, h2, h3⟩ := h.ex
  obtain ⟨g, off, rfl, hg, x0, x1⟩ := (own_keysAt h2 rfl).at_ 0 m hm
  have c0 : W.cell? ⟨t, 0, none⟩ = some (.slice (some ⟨g, off, none⟩) L.length c) := h1.cell 0
  have hn : 0 < L.length := (List.getElem?_eq_some_iff.1 hm).1
  generalize L.length = n at *
  have g1 : (0 : Int) < (n : Int) := by omega
  rw [Nat.zero_mul, Nat.add_zero] at x0
  obtain ⟨mk, mv⟩ := m
  dsimp only at x0
  clear h1 h2 h3 h hm x1
  go_enter Tryz.func12, Tryz.ntmps12
  go_wp2_with fail
  refine CN.out.mono ?_
  rintro e w1 ⟨rfl, rfl⟩
  go_wp2_with fail
  go_ret
  exact ⟨rfl, rfl⟩
/-- The last pair, at a table whose first cell is this slice. -/
theorem slast_row (t g off n c k : Nat) (mk : ByteArray) (W : World) (hk : n = k + 1) (hn : n ≤ 1000000) (c0 : W.cell? ⟨t, 0, none⟩ = some (.slice (some ⟨g, off, none⟩) n c)) (x0 : W.cell? ⟨g, off + k * 2, none⟩ = some (.string mk)) :
    Calls Tryz.prog 13 #[.pointer (some ⟨t, 0, none⟩)] W fun e w' => e = .returned (.string mk) ∧ ∃ q, w' = W.drewN q := by
  have CN := Lib.hid (snone_len t _ n c false (by rw [decide_eq_false]; omega) W c0)
  have g1 : wrap64 ((n : Int) - 1) = (k : Int) := by unfold wrap64; omega
  have g2 : IntKind.i64.wrap ((n : Int) - 1) = (k : Int) := by rw [IntKind.wrap_i64]; omega
  have g3 : (k : Int) < (n : Int) := by omega
  have g4 : (0 : Int) ≤ (k : Int) := by omega
  have g5 : k < n := by omega
  have g6 : wrap64 (k : Int) = (k : Int) := by unfold wrap64; omega
  have g7 : IntKind.i64.wrap (k : Int) = (k : Int) := by rw [IntKind.wrap_i64]; omega
  clear hk hn
  go_enter Tryz.func13, Tryz.ntmps13
  go_wp2_with fail
  refine CN.out.mono ?_
  rintro e w1 ⟨rfl, rfl⟩
  go_wp2_with fail
  go_quiet (fail)
  go_wp2_with fail
  go_ret
  exact ⟨rfl, _, rfl⟩
theorem slastN_any (h : TabN W t L nb F) {m : KV} (hm : L[L.length - 1]? = some m) : Calls Tryz.prog 13 #[.pointer (some ⟨t, 0, none⟩)] W fun e w' => e = .returned (.string m.1) ∧ ∃ q, w' = W.drewN q := by
  obtain ⟨A, c, h1, h2, h3⟩ := h.ex
  obtain ⟨g, off, rfl, hg, x0, x1⟩ := (own_keysAt h2 rfl).at_ _ m hm
  have hn := (List.getElem?_eq_some_iff.1 hm).1
  exact slast_row t g off L.length c (L.length - 1) m.1 W (by omega) h.len (h1.cell 0) x0
set_option maxRecDepth 100000 in
set_option maxHeartbeats 1000000 in
theorem smayN_any (h : TabN W t L nb F) (hT : LaidS W) (key : ByteArray) (hk : key.size ≤ 9223372036854775807) : Calls Tryz.prog 17 #[.pointer (some ⟨t, 0, none⟩), .string key] W fun e w' => e = .returned (.bool (mayT F (crc key.data.toList))) ∧ Below W.heap.size W w' := by
  have CN := Lib.hid (tab_none h)
  have CM := Lib.hid (bmay_any F key W hT.m hk (by have := h.fil; omega))
  obtain ⟨A, c, h1, h2, h3⟩ := h.ex
  have c2 : W.cell? ⟨t, 2, none⟩ = some (.string F) := h1.cell 2
  generalize mayT F (crc key.data.toList) = r at *
  clear h1 h2 h3 h hT hk
  go_enter Tryz.func17, Tryz.ntmps17
  go_wp2_with fail
  refine CN.out.mono ?_
  rintro e w1 ⟨rfl, rfl⟩
  go_wp2_with fail
  refine CM.out.mono ?_
  rintro e w2 ⟨rfl, hb⟩
  go_wp2_with fail
  go_ret
  exact ⟨rfl, hb⟩
end
end Go.Proofs.YtcbgflidlpmhcaaGreatDoor
