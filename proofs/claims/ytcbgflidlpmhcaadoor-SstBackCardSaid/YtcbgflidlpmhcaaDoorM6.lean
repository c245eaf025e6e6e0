/-
  Several texts in one: The landed package sst, part 8: a block's pairs put behind those that a table has.
  The landed package sst, part 9: read.
  The landed package sst, part 10: Open, with its deferred closure.
  Are two lists of pairs alike? (of rows that can be read)
  Lists of pairs that are lent with a mark behind them: LentKeys, StaysKeys.
  Package sst's contracts, as the laws of chapter 13 ask for them; the laws' first call.
  Package sst: Open of any bytes; what a table that came of any bytes answers; of a nil and of a zero table.
  Bytes of a block as a text.
  The last step of a law's row: the call leaves all that was there as it was.
  'There is an input that fits' for a row with a condition and listed variables, at a world whose shape is shown as one likes. No program is named.
  Walks over the document's own answer to chapter 1: Get, PutVar, Put.
-/
import Derived.Test.YtcbgflidlpmhcaaDoorM5
import Derived.RegionDies
import Derived.Test.YtcbgflidlpmhcaaDoorM2
import Derived.Defers
import Derived.Recover
import Derived.Test.YtcbgflidlpmhcaaDoorM3
import Derived.Test.YtcbgflidlpmhcaaDoorM4
import Derived.Lib.Strings
import Derived.OpenShut
import Derived.Below
import Derived.ChangeSame
import Derived.ProofKit
import Derived.Test.YtcbgflidlpmhcaaDoorRows
import Derived.Deep.DeepHandedRow
import Derived.Test.YtcbgflidlpmhcaaDoorM1
namespace Go.Proofs.YtcbgflidlpmhcaaDoor
open Go.RowKit

/-- A table while it is read. -/
structure TblSt (W : World) (B t : Nat) (v : Value) (l : List KV) (nb : Nat) (f : ByteArray) : Prop where
  blk : Blk W t 46 #[v, .int .i64 (nb : Int), .string f]
  own : Own elKeys W B 35 v l
  low : B ≤ t
theorem TblSt.up {W W' : World} {B t : Nat} {v : Value} {l : List KV} {nb : Nat} {f : ByteArray} (h : TblSt W B t v l nb f) (hb : Below W.heap.size W W') : TblSt W' B t v l nb f := ⟨h.blk.below hb h.blk.lt, h.own.below hb, h.low⟩
theorem TblSt.drewN {W : World} {B t : Nat} {v : Value} {l : List KV} {nb : Nat} {f : ByteArray} (h : TblSt W B t v l nb f) (j : Nat) : TblSt (W.drewN j) B t v l nb f := ⟨h.blk.drewN j, h.own, h.low⟩
theorem TblSt.off {W : World} {B t : Nat} {v : Value} {l : List KV} {nb : Nat} {f : ByteArray} (h : TblSt W B t v l nb f) : some t ≠ v.ownBlock := by
  rcases h.own.2 with ⟨e, _⟩ | ⟨g, cap, cur, e, hg, hh, _⟩
  · intro h9; rw [e] at h9; cases h9
  · intro h9
    rw [e] at h9
    have e9 : t = g := Option.some.inj h9
    subst e9
    have := h.blk
    unfold Blk at this
    rw [hh] at this
    injection this with this
    injection this with _ h2
    exact absurd h2 (by decide)
/-- What a block more turns. -/
def tT (o : Obj) : Bool := cellsT 46 o || cellsT 35 o
theorem tT_ne {t : TypeId} (h1 : t ≠ 46) (h2 : t ≠ 35) (cs : Array Value) (fr : Nat × Nat) : tT (.cells cs t fr) = false := by
  unfold tT
  rw [cellsT_ne h1, cellsT_ne h2]
  rfl
def AddPost (W : World) (B t nb : Nat) (f : ByteArray) : Option (List KV) → Ending → World → Prop
  | none, e, w' => e = gaveB ∧ Below B W w'
  | some l', e, w' => e = .returned (.tuple #[]) ∧ (∃ v', TblSt w' B t v' l' (nb + 1) f) ∧ Tn B tT W w'
/-- A pair list put behind another. -/
theorem tbl_app {w : World} {B t : Nat} {l : List KV} {nb : Nat} {f : ByteArray} {ao : Option Addr} {co : Nat} (h : TblSt w B t (.slice ao l.length co) l nb f) {A : Option Addr} {m c : Nat} {M : List KV} (hM : Own elKeys w B 35 (.slice A m c) M) (hl : l.length + M.length ≤ 2000000) (hB : B ≤ w.heap.size) :
    ∃ v' w', (∀ ty, (Builtin.append_ #[22, 22] ty #[.slice ao l.length co, .slice A m c]).run Tryd.prog w = .ok v' w') ∧ Blk w' t 46 #[.slice ao l.length co, .int .i64 (nb : Int), .string f] ∧
      TblSt (w'.setCell ⟨t, 0, none⟩ v') B t v' (l ++ M) nb f ∧ Tn B tT w (w'.setCell ⟨t, 0, none⟩ v') := by
  obtain ⟨hm, hA, hrd⟩ := own_reads hM
  obtain ⟨v', w', hr, ho, hg, _, _⟩ := app_own (P := Tryd.prog) elKeys 22 35 (.agg #[.string ⟨#[]⟩, .string ⟨#[]⟩]) 32 underKeys infoKeys rfl w B (.slice ao l.length co) l M h.own A c hA hrd (by unfold maxLen; omega) (by omega) hB m hm
  have hb : Blk w' t 46 #[.slice ao l.length co, .int .i64 (nb : Int), .string f] := h.blk.grown hg h.off
  have ht1 : Tn B tT w w' := (Tn.refl B tT w).row hg (fun k hk => by
    rcases h.own.2 with ⟨e, _⟩ | ⟨g, cap, cur, e, hbg, hh, _⟩
    · rw [e] at hk; cases hk
    · rw [e] at hk
      cases hk
      exact Or.inr ⟨hbg, _, hh, by unfold tT cellsT; simp⟩)
  refine ⟨v', w', hr, hb, ⟨hb.set_ 0 v', ?_, h.low⟩, ht1.setCell (p := ⟨t, 0, none⟩) (Or.inr ⟨h.low, _, hb, by unfold tT cellsT; simp⟩) v'⟩
  refine own_set ho ?_ v'
  rcases ho.2 with ⟨e, _⟩ | ⟨g, cap, cur, e, hbg, hh, _⟩
  · exact Or.inl (by rw [e]; rfl)
  · refine Or.inr fun e9 => ?_
    rw [e] at e9
    have e9 : g = t := Option.some.inj e9
    subst e9
    unfold Blk at hb
    rw [hh] at hb
    injection hb with hb
    injection hb with _ h2
    exact absurd h2 (by decide)
theorem tbl_blocks {w : World} {B t : Nat} {v : Value} {l : List KV} {nb : Nat} {f : ByteArray} (h : TblSt w B t v l nb f) : TblSt (w.setCell ⟨t, 1, none⟩ (.int .i64 ((nb + 1 : Nat) : Int))) B t v l (nb + 1) f ∧ Tn B tT w (w.setCell ⟨t, 1, none⟩ (.int .i64 ((nb + 1 : Nat) : Int))) := by
  refine ⟨⟨h.blk.set_ 1 _, own_set h.own ?_ _, h.low⟩, (Tn.refl B tT w).setCell (p := ⟨t, 1, none⟩) (Or.inr ⟨h.low, _, h.blk, by unfold tT cellsT; simp⟩) _⟩
  have := h.off
  cases hv : v.ownBlock with
  | none => exact Or.inl rfl
  | some g => exact Or.inr (fun e => this (by rw [hv, e]))

set_option maxRecDepth 100000 in
set_option maxHeartbeats 4000000 in
theorem sadd_any (B t nb : Nat) (v : Value) (l : List KV) (f b : ByteArray) (W : World) (h : TblSt W B t v l nb f) (hB : B ≤ W.heap.size) (hs : b.size ≤ 1000000) (hl : l.length ≤ 1000000) (hnb : nb ≤ 4294967296) (hT : LaidS W) :
    Calls Tryd.prog 53 #[.pointer (some ⟨t, 0, none⟩), .string b] W fun e w' => AddPost W B t nb f (addB l b) e w' := by
  have CP := parse_any b W hs hT.b
  have hpp := sParse_is b
  have N := fun W => Lib.hid (smust_no W)
  have Y := fun W => Lib.hid (smust_yes W)
  obtain ⟨R, hR⟩ : ∃ R, addB l b = R := ⟨_, rfl⟩
  rw [hR]
  unfold addB at hR
  cases hsp : sParse b with
  | none =>
    rw [hsp] at hpp hR
    rw [hpp] at CP
    obtain rfl : R = none := hR.symm
    have CP := Lib.hid CP
    clear hpp hR h hT
    go_enter Tryd.func53, Tryd.ntmps53
    go_wp2_with fail
    refine CP.out.mono ?_
    rintro e w1 ⟨v1, rfl, ho, hb⟩
    have hb := Lib.hid (hb.mono hB)
    dsimp only
    go_wp2_with fail
    refine (N _).out.mono ?_
    rintro e w2 ⟨rfl, rfl⟩
    go_wp2_with fail
    exact ⟨rfl, rfl, hb.out⟩
  | some q =>
    rw [hsp] at hpp hR
    rw [hpp] at CP
    dsimp only at CP hR
    cases q with
    | nil =>
      obtain rfl : R = none := hR.symm
      have CP := Lib.hid CP
      clear hpp hR h hT
      go_enter Tryd.func53, Tryd.ntmps53
      go_wp2_with fail
      refine CP.out.mono ?_
      rintro e w1 ⟨v1, rfl, ho, hb⟩
      obtain ⟨a1, c1, rfl⟩ := ho.slice
      have hb := Lib.hid (hb.mono hB)
      clear ho
      dsimp only [List.length_nil]
      go_wp2_with fail
      refine (N _).out.mono ?_
      rintro e w2 ⟨rfl, rfl⟩
      go_wp2_with fail
      exact ⟨rfl, rfl, hb.out⟩
    | cons m r =>
      have hql := (sParse_len hsp).1
      dsimp only at hR
      obtain ⟨ao, co, rfl⟩ := h.own.slice
      obtain ⟨n, hn⟩ : ∃ n, (m :: r).length = n + 1 := ⟨r.length, rfl⟩
      cases hll : l[l.length - 1]? with
      | none =>
        rw [hll] at hR
        obtain rfl : R = some (l ++ m :: r) := hR.symm
        have hl0 : l.length = 0 := by
          rw [List.getElem?_eq_none_iff] at hll
          omega
        have CN := fun W (hc : W.cell? ⟨t, 0, none⟩ = some (.slice ao l.length co)) => Lib.hid (snone_len t ao l.length co true (by rw [hl0]; rfl) W hc)
        have HS := Lib.hid h
        have CP := Lib.hid CP
        clear hpp hR h hT hll hl0
        go_enter Tryd.func53, Tryd.ntmps53
        go_wp2_with fail
        refine CP.out.mono ?_
        rintro e w1 ⟨v1, rfl, ho, hb⟩
        obtain ⟨a1, c1, rfl⟩ := ho.slice
        have HS1 := Lib.hid (HS.out.up hb)
        have HO := Lib.hid (ho.low hB)
        have HB := Lib.hid hb
        have hB1 : B ≤ w1.heap.size := Nat.le_trans hB hb.size
        rw [hn] at ho ⊢
        have p1 : (0 : Int) < ((n + 1 : Nat) : Int) := by omega
        have cc0 : w1.cell? ⟨t, 0, none⟩ = some (.slice ao l.length co) := HS1.out.blk.cell 0
        have CN1 := fun j => CN (w1.drewN j) cc0
        clear ho hb CP HS CN
        dsimp only
        go_upto_region 2 with (first | (go_at_call 51; refine (Y _).out.mono ?_; rintro e w2 ⟨rfl, rfl⟩))
        go_quiet (first | (go_at_call 34; refine Calls.quiet_of_same (CN1 _).out) | (go_at_call 51; refine Calls.quiet_of_same (Y _).out))
        have HSq := Lib.hid (HS1.out.drewN nq)
        have HOq := Lib.hid (show Own elKeys (w2.drewN nq) B 35 (.slice a1 (m :: r).length c1) (m :: r) from HO.out)
        have HBq := Lib.hid (show Tn B tT W (w2.drewN nq) from (Tn.of_below HB.out).drewN nq)
        obtain ⟨w3, hw3⟩ : ∃ w3, w2.drewN nq = w3 := ⟨_, rfl⟩
        rw [hw3] at HSq HOq HBq ⊢
        have hB3 : B ≤ w3.heap.size := by rw [← hw3]; exact hB1
        obtain ⟨v', w4, hr4, hb4, hs4, ht4⟩ := tbl_app HSq.out HOq.out (by omega) hB3
        have HR4 := fun ty => Lib.hid (hr4 ty)
        have d0 : w3.cell? ⟨t, 0, none⟩ = some (.slice ao l.length co) := HSq.out.blk.cell 0
        have d1 : w4.cell? ⟨t, 0, none⟩ = some (.slice ao l.length co) := hb4.cell 0
        have d2 := hb4.frozen 0
        have d3 : (w4.setCell ⟨t, 0, none⟩ v').cell? ⟨t, 1, none⟩ = some (.int .i64 (nb : Int)) := hs4.blk.cell 1
        have d4 := hs4.blk.frozen 1
        obtain ⟨hs5, ht5⟩ := tbl_blocks hs4
        obtain ⟨av, cv, ev⟩ := hs4.own.slice
        have Hend : Hid ((∃ u, TblSt ((w4.setCell ⟨t, 0, none⟩ v').setCell ⟨t, 1, none⟩ (.int .i64 ((nb + 1 : Nat) : Int))) B t u (l ++ m :: r) (nb + 1) f) ∧ Tn B tT W ((w4.setCell ⟨t, 0, none⟩ v').setCell ⟨t, 1, none⟩ (.int .i64 ((nb + 1 : Nat) : Int)))) := Lib.hid ⟨⟨v', hs5⟩, (HBq.out.trans ht4).trans ht5⟩
        generalize (l ++ m :: r).length = ln at ev
        subst ev
        push_cast at Hend
        rw [hn] at HR4
        clear hr4 hb4 hs4 ht4 hs5 ht5 HSq HOq HBq hw3 HS1 HO HB CN1 cc0
        go_wp2_with (at_builtin; refine wpList_append_k _ w4 rfl (.tmp 36) (.tmp 37) 22 rfl _ _ _ rfl rfl (fun ty => (HR4 ty).out) ?_)
        go_end0
        exact ⟨rfl, Hend.out⟩
      | some a =>
        rw [hll] at hR
        dsimp only at hR
        have hlk := (List.getElem?_eq_some_iff.1 hll).1
        obtain ⟨k, hk⟩ : ∃ k, l.length = k + 1 := ⟨l.length - 1, by omega⟩
        have hll2 : l[k]? = some a := by rw [← hll, hk]; rfl
        have CN := fun W (hc : W.cell? ⟨t, 0, none⟩ = some (.slice ao l.length co)) => Lib.hid (snone_len t ao l.length co false (by rw [decide_eq_false]; omega) W hc)
        have CL := fun W g off (hg : ao = some ⟨g, off, none⟩) (hc : W.cell? ⟨t, 0, none⟩ = some (.slice ao l.length co)) (hx : W.cell? ⟨g, off + k * 2, none⟩ = some (.string a.1)) => Lib.hid (show Calls Tryd.prog 22 #[.pointer (some ⟨t, 0, none⟩)] W fun e w' => e = .returned (.string a.1) ∧ ∃ q, w' = W.drewN q from slast_row t g off l.length co k a.1 W hk hl (by rw [← hg]; exact hc) hx)
        have CC := fun W => Lib.hid (compare_T a.1 m.1 W)
        have HS := Lib.hid h
        have CP := Lib.hid CP
        have Hll := Lib.hid hll2
        by_cases hcm : cmpT a.1 m.1 < 0
        · obtain rfl : R = some (l ++ m :: r) := by rw [← hR, if_pos hcm]
          have e1 : decide (cmpT a.1 m.1 < 0) = true := decide_eq_true hcm
          generalize cmpT a.1 m.1 = cm at *
          clear hpp hR h hT hll hll2 hk hlk
          go_enter Tryd.func53, Tryd.ntmps53
          go_wp2_with fail
          refine CP.out.mono ?_
          rintro e w1 ⟨v1, rfl, ho, hb⟩
          obtain ⟨a1, c1, rfl⟩ := ho.slice
          have HS1 := Lib.hid (HS.out.up hb)
          have HO := Lib.hid (ho.low hB)
          have HB := Lib.hid hb
          have hB1 : B ≤ w1.heap.size := Nat.le_trans hB hb.size
          obtain ⟨g2, off2, rfl, hg2, x0, x1⟩ := (own_keysAt ho rfl).at_ 0 m rfl
          obtain ⟨g3, off3, hg3, hg4, y0, y1⟩ := (own_keysAt HS1.out.own rfl).at_ k a Hll.out
          rw [Nat.zero_mul, Nat.add_zero] at x0
          rw [hn] at ho ⊢
          have p1 : (0 : Int) < ((n + 1 : Nat) : Int) := by omega
          have cc0 : w1.cell? ⟨t, 0, none⟩ = some (.slice ao l.length co) := HS1.out.blk.cell 0
          have CN1 := fun j => CN (w1.drewN j) cc0
          have CL1 := fun j => CL (w1.drewN j) g3 off3 hg3 cc0 y0
          clear ho hb CP HS CN CL x1 y1 hg3 y0 hg2 hg4
          dsimp only
          go_upto_region 2 with (first | (go_at_call 51; refine (Y _).out.mono ?_; rintro e w2 ⟨rfl, rfl⟩))
          go_quiet (first | (go_at_call 34; refine Calls.quiet_of_same (CN1 _).out) | (go_at_call 22; refine Calls.quiet_of (CL1 _).out) | (go_at_call 38; refine Calls.quiet_of_same (CC _).out) | (go_at_call 51; refine Calls.quiet_of_same (Y _).out))
          have HSq := Lib.hid (HS1.out.drewN nq)
          have HOq := Lib.hid (show Own elKeys (w2.drewN nq) B 35 (.slice (some ⟨g2, off2, none⟩) (m :: r).length c1) (m :: r) from HO.out)
          have HBq := Lib.hid (show Tn B tT W (w2.drewN nq) from (Tn.of_below HB.out).drewN nq)
          obtain ⟨w3, hw3⟩ : ∃ w3, w2.drewN nq = w3 := ⟨_, rfl⟩
          rw [hw3] at HSq HOq HBq ⊢
          have hB3 : B ≤ w3.heap.size := by rw [← hw3]; exact hB1
          obtain ⟨v', w4, hr4, hb4, hs4, ht4⟩ := tbl_app HSq.out HOq.out (by omega) hB3
          have HR4 := fun ty => Lib.hid (hr4 ty)
          have d0 : w3.cell? ⟨t, 0, none⟩ = some (.slice ao l.length co) := HSq.out.blk.cell 0
          have d1 : w4.cell? ⟨t, 0, none⟩ = some (.slice ao l.length co) := hb4.cell 0
          have d2 := hb4.frozen 0
          have d3 : (w4.setCell ⟨t, 0, none⟩ v').cell? ⟨t, 1, none⟩ = some (.int .i64 (nb : Int)) := hs4.blk.cell 1
          have d4 := hs4.blk.frozen 1
          obtain ⟨hs5, ht5⟩ := tbl_blocks hs4
          obtain ⟨av, cv, ev⟩ := hs4.own.slice
          have Hend : Hid ((∃ u, TblSt ((w4.setCell ⟨t, 0, none⟩ v').setCell ⟨t, 1, none⟩ (.int .i64 ((nb + 1 : Nat) : Int))) B t u (l ++ m :: r) (nb + 1) f) ∧ Tn B tT W ((w4.setCell ⟨t, 0, none⟩ v').setCell ⟨t, 1, none⟩ (.int .i64 ((nb + 1 : Nat) : Int)))) := Lib.hid ⟨⟨v', hs5⟩, (HBq.out.trans ht4).trans ht5⟩
          generalize (l ++ m :: r).length = ln at ev
          subst ev
          push_cast at Hend
          rw [hn] at HR4
          clear hr4 hb4 hs4 ht4 hs5 ht5 HSq HOq HBq hw3 HS1 HO HB CN1 CL1 CC cc0 x0
          go_wp2_with (at_builtin; refine wpList_append_k _ w4 rfl (.tmp 36) (.tmp 37) 22 rfl _ _ _ rfl rfl (fun ty => (HR4 ty).out) ?_)
          go_end0
          exact ⟨rfl, Hend.out⟩
        · obtain rfl : R = none := by rw [← hR, if_neg hcm]
          have e1 : decide (cmpT a.1 m.1 < 0) = false := decide_eq_false hcm
          generalize cmpT a.1 m.1 = cm at *
          clear hpp hR h hT hll hll2 hk hlk
          go_enter Tryd.func53, Tryd.ntmps53
          go_wp2_with fail
          refine CP.out.mono ?_
          rintro e w1 ⟨v1, rfl, ho, hb⟩
          obtain ⟨a1, c1, rfl⟩ := ho.slice
          have HS1 := Lib.hid (HS.out.up hb)
          have HB := Lib.hid hb
          obtain ⟨g2, off2, rfl, hg2, x0, x1⟩ := (own_keysAt ho rfl).at_ 0 m rfl
          obtain ⟨g3, off3, hg3, hg4, y0, y1⟩ := (own_keysAt HS1.out.own rfl).at_ k a Hll.out
          rw [Nat.zero_mul, Nat.add_zero] at x0
          rw [hn]
          have p1 : (0 : Int) < ((n + 1 : Nat) : Int) := by omega
          have cc0 : w1.cell? ⟨t, 0, none⟩ = some (.slice ao l.length co) := HS1.out.blk.cell 0
          have CN1 := fun W (hW : W.cell? ⟨t, 0, none⟩ = w1.cell? ⟨t, 0, none⟩) => CN W (hW.trans cc0)
          have CL1 := fun W (hW : W.cell? ⟨t, 0, none⟩ = w1.cell? ⟨t, 0, none⟩) (hW2 : W.cell? ⟨g3, off3 + k * 2, none⟩ = w1.cell? ⟨g3, off3 + k * 2, none⟩) => CL W g3 off3 hg3 (hW.trans cc0) (hW2.trans y0)
          clear ho hb CP HS CN CL x1 y1 hg3 y0 hg2 hg4 HS1
          dsimp only
          go_upto_region 2 with (first | (go_at_call 51; refine (Y _).out.mono ?_; rintro e w2 ⟨rfl, rfl⟩))
          go_region_dies
          rename_i K hK
          refine (CN1 (World.drew _) rfl).out.mono ?_
          rintro e w5 ⟨rfl, rfl⟩
          refine hK _ _ ?_
          refine wpAny_take (i := 2) (v := ?v2) rfl (by kernel_rfl) (by kernel_rfl) (by kernel_rfl) (fun _ _ _ h => h) (Or.inl ⟨by rfl, ?hy2⟩) ?rest2
          case hy2 => (intro w; go_simp; try with_reducible rfl)
          refine wpAny_take (i := 3) (v := ?v3) rfl (by kernel_rfl) (by kernel_rfl) (by kernel_rfl) (fun _ _ _ h => h) (Or.inl ⟨by rfl, ?hy3⟩) ?rest3
          case hy3 => (intro w; go_simp; try with_reducible rfl)
          refine wpAny_take (i := 5) (v := ?v5) rfl (by kernel_rfl) (by kernel_rfl) (by kernel_rfl) (fun _ _ _ h => h) (Or.inl ⟨by rfl, ?hy5⟩) ?rest5
          case hy5 => (intro w; go_simp; try with_reducible rfl)
          refine wpAny_take (i := 6) (v := ?v6) rfl (by kernel_rfl) (by kernel_rfl) (by kernel_rfl) (fun _ _ _ h => h) (Or.inl ⟨by rfl, ?hy6⟩) ?rest6
          case hy6 => (intro w; go_simp; try with_reducible rfl)
          refine wpAny_take (i := 7) (v := ?v7) rfl (by kernel_rfl) (by kernel_rfl) (by kernel_rfl) (fun _ _ _ h => h) (Or.inl ⟨by rfl, ?hy7⟩) ?rest7
          case hy7 => (intro w; go_simp; try with_reducible rfl)
          refine wpAny_ready (rs := [4, 8]) (by kernel_rfl) (by simp) ?_
          refine AllReady.cons rfl (fun K1 hK1 => ?_) ?_
          · go_simp
            refine (CL1 (World.drew _) rfl rfl).out.mono ?_
            rintro e w6 ⟨rfl, q6, rfl⟩
            refine hK1 _ _ ?_
            refine wpAny_ready (rs := [8]) (by kernel_rfl) (by simp) ?_
            refine AllReady.cons rfl (fun K2 hK2 => ?_) AllReady.nil
            go_simp
            refine hK2 _ _ ?_
            refine wpAny_ready (rs := [9]) (by kernel_rfl) (by simp) ?_
            refine AllReady.cons rfl (fun K3 hK3 => ?_) AllReady.nil
            go_simp
            refine (CC _).out.mono ?_
            rintro e w7 ⟨rfl, rfl⟩
            refine hK3 _ _ ?_
            refine wpAny_ready (rs := [10]) (by kernel_rfl) (by simp) ?_
            refine AllReady.cons rfl (fun K4 hK4 => ?_) AllReady.nil
            go_simp
            refine hK4 _ _ ?_
            refine wpAny_ready (rs := [11]) (by kernel_rfl) (by simp) ?_
            refine AllReady.cons rfl (fun K5 hK5 => ?_) AllReady.nil
            go_simp
            refine hK5 _ _ ?_
            refine wpAny_ready (rs := [12]) (by kernel_rfl) (by simp) ?_
            refine AllReady.cons rfl (fun K6 hK6 => ?_) AllReady.nil
            go_simp
            refine (N _).out.mono ?_
            rintro e w8 ⟨rfl, rfl⟩
            go_wp2_with fail
            exact ⟨rfl, rfl, below_drewN (HB.out.mono hB) _⟩
          refine AllReady.cons rfl (fun K1 hK1 => ?_) AllReady.nil
          · go_simp
            refine hK1 _ _ ?_
            refine wpAny_ready (rs := [4]) (by kernel_rfl) (by simp) ?_
            refine AllReady.cons rfl (fun K2 hK2 => ?_) AllReady.nil
            go_simp
            refine (CL1 (World.drew _) rfl rfl).out.mono ?_
            rintro e w6 ⟨rfl, q6, rfl⟩
            refine hK2 _ _ ?_
            refine wpAny_ready (rs := [9]) (by kernel_rfl) (by simp) ?_
            refine AllReady.cons rfl (fun K3 hK3 => ?_) AllReady.nil
            go_simp
            refine (CC _).out.mono ?_
            rintro e w7 ⟨rfl, rfl⟩
            refine hK3 _ _ ?_
            refine wpAny_ready (rs := [10]) (by kernel_rfl) (by simp) ?_
            refine AllReady.cons rfl (fun K4 hK4 => ?_) AllReady.nil
            go_simp
            refine hK4 _ _ ?_
            refine wpAny_ready (rs := [11]) (by kernel_rfl) (by simp) ?_
            refine AllReady.cons rfl (fun K5 hK5 => ?_) AllReady.nil
            go_simp
            refine hK5 _ _ ?_
            refine wpAny_ready (rs := [12]) (by kernel_rfl) (by simp) ?_
            refine AllReady.cons rfl (fun K6 hK6 => ?_) AllReady.nil
            go_simp
            refine (N _).out.mono ?_
            rintro e w8 ⟨rfl, rfl⟩
            go_wp2_with fail
            exact ⟨rfl, rfl, below_drewN (HB.out.mono hB) _⟩
end Go.Proofs.YtcbgflidlpmhcaaDoor

namespace Go.Proofs.YtcbgflidlpmhcaaDoor
open Go.RowKit

/-- What read answers. -/
def ReadT (w : World) : Option (List KV × Nat × ByteArray) → Ending → World → Prop
  | none, e, w' => e = gaveB ∧ Below w.heap.size w w'
  | some (l, n, F), e, w' => ∃ t, e = .returned (.pointer (some ⟨t, 0, none⟩)) ∧ TabN w' t l n F ∧ w.heap.size ≤ t ∧ Below w.heap.size w w'
/-- What stands while blocks are taken. -/
structure TakeSt (w : World) (p t : Nat) (n j : Nat) (s : ByteArray) (v : Value) (l : List KV) (W : World) : Prop where
  rd : RdT W p s
  tb : TblSt W w.heap.size t v l (n - j) ⟨#[]⟩
  rises : risesK l = true
  short : longK l = false
  len : l.length + s.size ≤ 1000000
  below : Below w.heap.size w W
  plow : w.heap.size ≤ p
theorem rd_tn {W W' : World} {B p : Nat} {s : ByteArray} (h : RdT W p s) (g : Tn B tT W W') : RdT W' p s := g.blk h (tT_ne (by decide) (by decide) _ _)
theorem take_add {w : World} {p t n j : Nat} {s s' : ByteArray} {v v' : Value} {l l' : List KV} {W W1 W2 : World} {b : ByteArray} (h : TakeSt w p t n (j + 1) s v l W) (hj : j + 1 ≤ n) (hr : RdT W1 p s') (hg : W.grownBy W1 (some p)) (hs : l'.length + s'.size ≤ 1000000)
    (ha : addB l b = some l') (ht : TblSt W2 w.heap.size t v' l' (n - (j + 1) + 1) ⟨#[]⟩) (hT : Tn w.heap.size tT W1 W2) : TakeSt w p t n j s' v' l' W2 := by
  obtain ⟨d1, d2, _, _⟩ := addB_ok ha h.rises h.short
  have e : n - (j + 1) + 1 = n - j := by omega
  rw [e] at ht
  have hb1 : Below w.heap.size w W1 := h.below.grown hg h.below.size (fun k hk => by cases hk; exact h.plow)
  exact ⟨rd_tn hr hT, ht, d1, d2, hs, hb1.trans (hT.below hb1.size), h.plow⟩
theorem tbl_first {W W1 : World} {B p t : Nat} {s : ByteArray} {v : Value} {l : List KV} {nb : Nat} {f : ByteArray} (h : TblSt W B t v l nb f) (hp : RdT W p s) (hg : W.grownBy W1 (some p)) : TblSt W1 B t v l nb f := by
  have hpt : t ≠ p := fun e => by
    have h1 := h.blk
    subst e
    unfold RdT Blk at hp
    unfold Blk at h1
    rw [h1] at hp
    injection hp with hp
    injection hp with _ h2
    exact absurd h2 (by decide)
  refine ⟨h.blk.grown hg (fun e => hpt (by injection e)), World.ownsRow.kept h.own hg ?_, h.low⟩
  rcases h.own.2 with ⟨e, _⟩ | ⟨g, cap, cur, e, hbg, hh, _⟩
  · exact Or.inl (by rw [e]; rfl)
  · refine Or.inr fun e9 => ?_
    rw [e] at e9
    have e9 : g = p := Option.some.inj e9
    subst e9
    unfold RdT Blk at hp
    rw [hh] at hp
    injection hp with hp
    injection hp with _ h2
    exact absurd h2 (by decide)
theorem getL_lt4 (l : List UInt8) (h : l.length = 4) : getL l < 4294967296 := by
  match l, h with
  | [a, b, c, d], _ =>
    have ha := UInt8.toNat_lt a
    have hb := UInt8.toNat_lt b
    have hc := UInt8.toNat_lt c
    have hd := UInt8.toNat_lt d
    have e : getL [a, b, c, d] = ((a.toNat * 256 + b.toNat) * 256 + c.toNat) * 256 + d.toNat := by
      unfold getL
      simp
    rw [e]
    omega
theorem own_capN {W : World} {B : Nat} {A : Option Addr} {n c : Nat} {L : List KV} (h : Own elKeys W B 35 (.slice A n c) L) (h0 : 0 < L.length) : L.length ≤ c := by
  rcases h.2 with ⟨_, h1⟩ | ⟨g, cap, cur, e, _, _, hc, _⟩
  · omega
  · cases e
    exact hc
/-- How long a text in a slot is. -/
def lenT : Value → Nat
  | .string s => s.size
  | _ => 0

set_option maxRecDepth 100000 in
set_option maxHeartbeats 8000000 in
theorem sread_any (b : ByteArray) (w : World) (hs : b.size ≤ 1000000) (hT : LaidS w) :
    Calls Tryd.prog 33 #[.string b] w fun e w' => ReadT w (readT b) e w' := by
  obtain ⟨R, hR⟩ : ∃ R, readT b = R := ⟨_, rfl⟩
  rw [hR]
  have N := fun W => Lib.hid (smust_no W)
  have Y := fun W => Lib.hid (smust_yes W)
  have hb0 := below_alloc (Below.refl w.heap.size w) (Nat.le_refl _) (.cells #[.string b] 85)
  have B0 : RdT (w.alloc (.cells #[.string b] 85)) w.heap.size b := Blk.new _ _ _
  unfold readT at hR
  by_cases h4 : b.size < 4
  · rw [if_pos h4] at hR
    subst hR
    have C := Lib.hid (snum_no w.heap.size b _ B0 h4)
    have HB := Lib.hid hb0
    clear hb0 B0 h4
    go_enter Tryd.func33, Tryd.ntmps33
    go_wp2_with fail
    refine C.out.mono ?_
    rintro e w1 ⟨rfl, rfl⟩
    go_wp2_with fail
    exact ⟨rfl, rfl, HB.out⟩
  · rw [if_neg h4] at hR
    have C := Lib.hid (snum_ok w.heap.size b _ B0 (by omega) (by omega))
    have z1 : (b.extract 0 (b.size - 4)).size = b.size - 4 := by simp
    obtain ⟨s1, hs1⟩ : ∃ s1, b.extract 0 (b.size - 4) = s1 := ⟨_, rfl⟩
    obtain ⟨sm, hsm⟩ : ∃ sm, getL (bl (b.extract (b.size - 4) b.size)) = sm := ⟨_, rfl⟩
    rw [hs1, hsm] at hR C
    rw [hs1] at z1
    have CS := fun W (hb : Below w.heap.size w W) => Lib.hid (show Calls Tryd.prog 30 #[.string s1] W fun e w' => e = .returned (.int .i64 (crc (bl s1) : Int)) ∧ W = w' from sum_any s1 W (by omega) (hT.on hb).halves)
    obtain ⟨cr, hcr⟩ : ∃ cr, crc (bl s1) = cr := ⟨_, rfl⟩
    rw [hcr] at hR CS
    have HB := Lib.hid hb0
    have HT := Lib.hid hT
    have hs1z : s1.size ≤ 1000000 := by omega
    clear hb0 B0 hs1 hsm hcr hT
    by_cases hc : sm = cr
    · rw [if_neg (fun h => h hc)] at hR
      subst hc
      rw [← z1] at hR
      by_cases h8 : s1.size < 4
      · rw [if_pos h8] at hR
        subst hR
        have N2 := fun W (hr : RdT W w.heap.size s1) => Lib.hid (snum_no w.heap.size s1 W hr h8)
        clear h4 h8 z1 hs
        go_enter Tryd.func33, Tryd.ntmps33
        go_wp2_with fail
        refine C.out.mono ?_
        rintro e w1 ⟨rfl, hr1, hg1⟩
        have hb1 := HB.out.grown hg1 (by simp) (fun k hk => by cases hk; exact Nat.le_refl _)
        have CS1 := CS w1 hb1
        have c0 : w1.cell? ⟨w.heap.size, 0, none⟩ = some (.string s1) := hr1.cell 0
        have N3 := N2 w1 hr1
        have HB1 := Lib.hid hb1
        clear hr1 hg1 hb1 CS C N2
        go_wp2_with fail
        refine CS1.out.mono ?_
        rintro e w2 ⟨rfl, rfl⟩
        go_wp2_with fail
        refine (Y _).out.mono ?_
        rintro e w2 ⟨rfl, rfl⟩
        go_wp2_with fail
        refine N3.out.mono ?_
        rintro e w2 ⟨rfl, rfl⟩
        go_wp2_with fail
        exact ⟨rfl, rfl, HB1.out⟩
      · rw [if_neg h8] at hR
        have N2 := fun W (hr : RdT W w.heap.size s1) => Lib.hid (snum_ok w.heap.size s1 W hr (by omega) (by omega))
        have z2 : (s1.extract 0 (s1.size - 4)).size = s1.size - 4 := by simp
        obtain ⟨s2, hs2⟩ : ∃ s2, s1.extract 0 (s1.size - 4) = s2 := ⟨_, rfl⟩
        have hn1 : getL (bl (s1.extract (s1.size - 4) s1.size)) < 4294967296 := getL_lt4 _ (by rw [bl_drop, List.length_drop, bl_len]; omega)
        obtain ⟨n, hn⟩ : ∃ n, getL (bl (s1.extract (s1.size - 4) s1.size)) = n := ⟨_, rfl⟩
        rw [hs2] at z2
        rw [hn] at hn1
        rw [hs2, hn] at hR
        simp only [hs2, hn] at N2
        have hs2z : s2.size ≤ 1000000 := by omega
        have m1 : wrap64 (4 * (n : Int)) = ((4 * n : Nat) : Int) := by unfold wrap64; push_cast; omega
        have m2 : IntKind.i64.wrap (4 * (n : Int)) = ((4 * n : Nat) : Int) := by rw [IntKind.wrap_i64]; push_cast; omega
        unfold readT2 at hR
        clear h4 h8 z1 hs hs2 hn z2
        by_cases h12 : s2.size < 4 * n
        · rw [if_pos h12] at hR
          subst hR
          have L2 := fun W (hr : RdT W w.heap.size s2) => Lib.hid (slast_no w.heap.size s2 (4 * n) (4 * (n : Int)) (by push_cast; rfl) W hr h12)
          clear h12
          go_enter Tryd.func33, Tryd.ntmps33
          go_wp2_with fail
          refine C.out.mono ?_
          rintro e w1 ⟨rfl, hr1, hg1⟩
          have hb1 := HB.out.grown hg1 (by simp) (fun k hk => by cases hk; exact Nat.le_refl _)
          have CS1 := CS w1 hb1
          have c0 : w1.cell? ⟨w.heap.size, 0, none⟩ = some (.string s1) := hr1.cell 0
          have N3 := N2 w1 hr1
          have HB1 := Lib.hid hb1
          clear hr1 hg1 hb1 CS C N2
          go_wp2_with fail
          refine CS1.out.mono ?_
          rintro e w2 ⟨rfl, rfl⟩
          go_wp2_with fail
          refine (Y _).out.mono ?_
          rintro e w2 ⟨rfl, rfl⟩
          go_wp2_with fail
          refine N3.out.mono ?_
          rintro e w3 ⟨rfl, hr3, hg3⟩
          have HB3 := Lib.hid (HB1.out.grown hg3 HB1.out.size (fun k hk => by cases hk; exact Nat.le_refl _))
          have L3 := L2 w3 hr3
          clear hr3 hg3 L2 N3 c0
          go_wp2_with fail
          refine L3.out.mono ?_
          rintro e w4 ⟨rfl, rfl⟩
          go_wp2_with fail
          exact ⟨rfl, rfl, HB3.out⟩
        · rw [if_neg h12] at hR
          have L2 := fun W (hr : RdT W w.heap.size s2) => Lib.hid (slast_ok w.heap.size s2 (4 * n) (4 * (n : Int)) (by push_cast; rfl) W hr (by omega) (by omega))
          obtain ⟨x0, hx0⟩ : ∃ x0, s2.extract (s2.size - 4 * n) s2.size = x0 := ⟨_, rfl⟩
          obtain ⟨s3, hs3⟩ : ∃ s3, s2.extract 0 (s2.size - 4 * n) = s3 := ⟨_, rfl⟩
          have hx0z : x0.size = 4 * n := by rw [← hx0]; simp; omega
          have hs3z : s3.size ≤ 1000000 := by rw [← hs3]; simp; omega
          rw [hx0, hs3] at hR
          simp only [hx0, hs3] at L2
          obtain ⟨RA, hRA⟩ : ∃ RA, addsB n x0 s3 [] = RA := ⟨_, rfl⟩
          rw [hRA] at hR
          have HRA := Lib.hid hRA
          have HR := Lib.hid hR
          clear h12 hx0 hs3 hR hRA
          go_enter Tryd.func33, Tryd.ntmps33
          go_wp2_with fail
          refine C.out.mono ?_
          rintro e w1 ⟨rfl, hr1, hg1⟩
          have hb1 := HB.out.grown hg1 (by simp) (fun k hk => by cases hk; exact Nat.le_refl _)
          have CS1 := CS w1 hb1
          have c0 : w1.cell? ⟨w.heap.size, 0, none⟩ = some (.string s1) := hr1.cell 0
          have N3 := N2 w1 hr1
          have HB1 := Lib.hid hb1
          clear hr1 hg1 hb1 CS C N2
          go_wp2_with fail
          refine CS1.out.mono ?_
          rintro e w2 ⟨rfl, rfl⟩
          go_wp2_with fail
          refine (Y _).out.mono ?_
          rintro e w2 ⟨rfl, rfl⟩
          go_wp2_with fail
          refine N3.out.mono ?_
          rintro e w3 ⟨rfl, hr3, hg3⟩
          have HB3 := Lib.hid (HB1.out.grown hg3 HB1.out.size (fun k hk => by cases hk; exact Nat.le_refl _))
          have L3 := L2 w3 hr3
          clear hr3 hg3 L2 N3 c0
          go_wp2_with fail
          refine L3.out.mono ?_
          rintro e w4 ⟨rfl, hr4, hg4⟩
          have HB4 := Lib.hid (HB3.out.grown hg4 HB3.out.size (fun k hk => by cases hk; exact Nat.le_refl _))
          have HR4 := Lib.hid hr4
          clear hr4 hg4 L3 HB3 HB1
          go_wp2_with fail
          have S0 : Hid (TakeSt w w.heap.size w4.heap.size n n s3 (.slice none 0 0) [] (w4.alloc (.cells #[.slice none 0 0, .int .i64 0, .string ⟨#[]⟩] 46))) := Lib.hid ⟨HR4.out.alloc _, ⟨by rw [Nat.sub_self]; exact Blk.new _ _ _, World.ownsRow_nil _ _ _ _, HB4.out.size⟩, rfl, rfl, by rw [List.length_nil]; omega, below_alloc HB4.out (Nat.le_refl _) _, Nat.le_refl _⟩
          have hbt : w.heap.size ≤ w4.heap.size := HB4.out.size
          generalize w4.alloc (.cells #[.slice none 0 0, .int .i64 0, .string ⟨#[]⟩] 46) = w5 at *
          generalize w4.heap.size = t at *
          clear HR4 HB4
          go_loopw [5] (fun sx wr => ∃ (j : Nat) (x s : ByteArray) (v : Value) (l : List KV), sx = .string x ∧ Hid (x.size = 4 * j) ∧ j ≤ n ∧ Hid (addsB j x s l = RA) ∧ Hid (TakeSt w w.heap.size t n j s v l wr)) (fun sx _ => lenT sx)
          case atStart => exact ⟨n, x0, s3, .slice none 0 0, [], rfl, Lib.hid hx0z, Nat.le_refl _, HRA, S0⟩
          case round =>
            obtain ⟨j, x, s, v, l, rfl, Hxz, hjn, HA, HS⟩ := hrel
            have hxz := Hxz.out
            cases j with
            | succ j =>
              have hx0 : (x.toList == []) = false := by
                rw [Lib.toList_data, beq_eq_false_iff_ne]
                intro e
                have : x.size = 0 := by rw [← bl_len]; show x.data.toList.length = 0; rw [e]; rfl
                omega
              have hx4 : (4 : Int) ≤ (x.size : Int) := by omega
              have hA := HA.out
              rw [addsB] at hA
              have U := fun W => Lib.hid (sunfixed_any (x.extract 0 4) W (by simp; omega))
              obtain ⟨k, hk⟩ : ∃ k, getL (bl (x.extract 0 4)) = k := ⟨_, rfl⟩
              rw [hk] at hA
              simp only [hk] at U
              have hsz := HS.out.len
              have hx'z : (x.extract 4 x.size).size = 4 * j := by simp; omega
              have Hx'z := Lib.hid hx'z
              clear hk HA hxz hx'z
              by_cases hks : s.size < k
              · rw [if_pos hks] at hA
                subst hA
                have F := fun W hr => Lib.hid (sfirst_no w.heap.size s k W hr hks)
                clear hks
                have hRn : R = none := HR.out.symm
                subst hRn
                have F1 := F wr HS.out.rd
                have HB9 := Lib.hid HS.out.below
                clear F HS HR
                go_wp2_with fail
                refine (U _).out.mono ?_
                rintro e w6 ⟨rfl, rfl⟩
                go_wp2_with fail
                refine F1.out.mono ?_
                rintro e w6 ⟨rfl, rfl⟩
                go_wp2_with fail
                exact ⟨rfl, rfl, HB9.out⟩
              · rw [if_neg hks] at hA
                have F := fun W hr => Lib.hid (sfirst_ok w.heap.size s k W hr (by omega))
                have hps : (s.extract 0 k).size = k := by simp; omega
                have hrs : (s.extract k s.size).size = s.size - k := by simp
                obtain ⟨pc, hpc⟩ : ∃ pc, s.extract 0 k = pc := ⟨_, rfl⟩
                obtain ⟨s', hs'⟩ : ∃ s', s.extract k s.size = s' := ⟨_, rfl⟩
                rw [hpc] at hA hps
                rw [hs'] at hA hrs
                simp only [hpc, hs'] at F
                have A1 := fun W (h : TblSt W w.heap.size t v l (n - (j + 1)) ⟨#[]⟩) (hb : Below w.heap.size w W) => Lib.hid (sadd_any w.heap.size t (n - (j + 1)) v l ⟨#[]⟩ pc W h hb.size (by omega) (by omega) (by omega) (HT.out.on hb))
                have F1 := F wr HS.out.rd
                clear F hpc hs'
                cases hadd : addB l pc with
                | none =>
                  rw [hadd] at hA A1
                  subst hA
                  have hRn : R = none := HR.out.symm
                  subst hRn
                  clear hadd
                  go_wp2_with fail
                  refine (U _).out.mono ?_
                  rintro e w6 ⟨rfl, rfl⟩
                  go_wp2_with fail
                  refine F1.out.mono ?_
                  rintro e w7 ⟨rfl, hr7, hg7⟩
                  have hb7 := HS.out.below.grown hg7 HS.out.below.size (fun k hk => by cases hk; exact Nat.le_refl _)
                  have A2 := A1 w7 (tbl_first HS.out.tb HS.out.rd hg7) hb7
                  have HB7 := Lib.hid hb7
                  clear hr7 hg7 hb7 A1 F1 HS HR
                  go_wp2_with fail
                  refine A2.out.mono ?_
                  rintro e w8 ⟨rfl, hb8⟩
                  have HB8 := Lib.hid (HB7.out.trans hb8)
                  clear hb8 A2
                  go_wp2_with fail
                  exact ⟨rfl, rfl, HB8.out⟩
                | some l' =>
                  rw [hadd] at hA A1
                  dsimp only at hA
                  have HA := Lib.hid hA
                  have Hadd := Lib.hid hadd
                  have d3 := (addB_ok hadd HS.out.rises HS.out.short).2.2.1
                  have hl' : l'.length + s'.size ≤ 1000000 := by omega
                  clear hA hadd d3
                  go_wp2_with fail
                  refine (U _).out.mono ?_
                  rintro e w6 ⟨rfl, rfl⟩
                  go_wp2_with fail
                  refine F1.out.mono ?_
                  rintro e w7 ⟨rfl, hr7, hg7⟩
                  have hb7 := HS.out.below.grown hg7 HS.out.below.size (fun k hk => by cases hk; exact Nat.le_refl _)
                  have A2 := A1 w7 (tbl_first HS.out.tb HS.out.rd hg7) hb7
                  have Hr7 := Lib.hid hr7
                  have Hg7 := Lib.hid hg7
                  clear hr7 hg7 hb7 A1 F1
                  go_wp2_with fail
                  refine A2.out.mono ?_
                  rintro e w8 ⟨rfl, ⟨v', ht8⟩, hT8⟩
                  have HS8 := Lib.hid (take_add HS.out hjn Hr7.out Hg7.out hl' Hadd.out ht8 hT8)
                  clear ht8 hT8 A2 HS Hr7 Hg7
                  go_wp2_with fail
                  go_roundw
                  case rel => exact ⟨j, _, s', v', l', rfl, Hx'z, by omega, HA, HS8⟩
                  case measure => have := Hxz.out; simp [lenT]; omega
            | zero =>
              have hx0 : (x.toList == []) = true := by
                rw [Lib.toList_data, beq_iff_eq]
                exact List.eq_nil_of_length_eq_zero (by show x.size = 0; omega)
              clear hxz
              have hA : some (l, s) = RA := HA.out
              subst hA
              have hR := HR.out
              dsimp only at hR
              obtain ⟨ao, co, rfl⟩ := HS.out.tb.own.slice
              have CN := Lib.hid (snone_len t ao l.length co (decide (l.length = 0)) rfl wr (HS.out.tb.blk.cell 0))
              by_cases hl0 : l = []
              · rw [if_pos hl0] at hR
                subst hR
                subst hl0
                have HB9 := Lib.hid HS.out.below
                clear HS HA HR
                go_wp2_with fail
                refine CN.out.mono ?_
                rintro e w6 ⟨rfl, rfl⟩
                go_wp2_with fail
                refine (N _).out.mono ?_
                rintro e w6 ⟨rfl, rfl⟩
                go_wp2_with fail
                exact ⟨rfl, rfl, HB9.out⟩
              · rw [if_neg hl0] at hR
                have hlp := List.length_pos_iff.2 hl0
                have hd0 : decide (l.length = 0) = false := decide_eq_false (by omega)
                rw [hd0] at CN
                have r0 : wr.cell? ⟨w.heap.size, 0, none⟩ = some (.string s) := HS.out.rd.cell 0
                have t2 := HS.out.tb.blk.frozen 2
                have q2 := HS.out.tb.blk.cell 2
                have t0 : (wr.setCell ⟨t, 2, none⟩ (.string s)).cell? ⟨t, 0, none⟩ = some (.slice ao l.length co) := (HS.out.tb.blk.set_ 2 (.string s)).cell 0
                have HTab : Hid (TabN (wr.setCell ⟨t, 2, none⟩ (.string s)) t l n s) := Lib.hid (by
                  have hO : Own elKeys (wr.setCell ⟨t, 2, none⟩ (.string s)) w.heap.size 35 (.slice ao l.length co) l := own_set HS.out.tb.own (by
                    have := HS.out.tb.off
                    cases hv : (Value.slice ao l.length co).ownBlock with
                    | none => exact Or.inl rfl
                    | some g => exact Or.inr (fun e => this (by rw [hv, e]))) _
                  have hln := HS.out.len
                  exact ⟨⟨ao, co, HS.out.tb.blk.set_ 2 (.string s), hO.low (Nat.zero_le _), own_capN hO hlp⟩, hl0, HS.out.rises, HS.out.short, by omega, by omega⟩)
                have HBn : Hid (Below w.heap.size w (wr.setCell ⟨t, 2, none⟩ (.string s))) := Lib.hid (below_setCell HS.out.below (p := ⟨t, 2, none⟩) hbt _)
                have hfz : s.size ≤ 1000000 := by have := HS.out.len; omega
                have hll : l.length ≤ 1000000 := by have := HS.out.len; omega
                have HRR := Lib.hid hR
                have HKA : Hid (KeysAt (wr.setCell ⟨t, 2, none⟩ (.string s)) ao l.length l) := Lib.hid (own_keysAt (own_set HS.out.tb.own (by
                    have := HS.out.tb.off
                    cases hv : (Value.slice ao l.length co).ownBlock with
                    | none => exact Or.inl rfl
                    | some g => exact Or.inr (fun e => this (by rw [hv, e]))) _) rfl)
                clear HS HA HR hR hd0
                go_wp2_with fail
                refine CN.out.mono ?_
                rintro e w6 ⟨rfl, rfl⟩
                go_wp2_with fail
                refine (Y _).out.mono ?_
                rintro e w6 ⟨rfl, rfl⟩
                go_wp2_with fail
                have HKe : Hid (KeysAt (World.setCell _ ⟨t, 2, none⟩ (.string s)) ao l.length l) := Lib.hid (HKA.out)
                generalize World.setCell _ ⟨t, 2, none⟩ (.string s) = w9 at *
                go_loopw [47] (fun si wr => ∃ i : Nat, si = .int .i64 (i : Int) ∧ i ≤ l.length ∧ Hid (∀ q m, q < i → l[q]? = some m → mayT s (crc (bl (headT m.1))) = true) ∧ Hid (Below w9.heap.size w9 wr)) (fun si _ => l.length - (intOf si).toNat)
                case atStart => exact ⟨0, rfl, Nat.zero_le _, Lib.hid (fun q m hq => by omega), Lib.hid (Below.refl _ _)⟩
                case round =>
                  obtain ⟨i, rfl, hi, HM, HB9⟩ := hrel
                  by_cases hil : i < l.length
                  · have g1 : (i : Int) < (l.length : Int) := by omega
                    have g0 : (0 : Int) ≤ (i : Int) := by omega
                    have hm : l[i]? = some l[i] := List.getElem?_eq_getElem hil
                    generalize l[i] = m at *
                    obtain ⟨g, off, hao, hg, x0, x1⟩ := (HKe.out.below HB9.out).at_ i m hm
                    subst hao
                    have hms := longK_ok HTab.out.short m (List.mem_of_getElem? hm)
                    have Hm := Lib.hid hm
                    clear hm
                    obtain ⟨mk, mv⟩ := m
                    dsimp only at x0 x1 hms
                    have HBx := Lib.hid (below_alloc HB9.out (Nat.le_refl _) (.cells #[.string mk, .string mv] 35))
                    have BX : Blk (wr.alloc (.cells #[.string mk, .string mv] 35)) wr.heap.size 35 #[.string mk, .string mv] := Blk.new wr _ _
                    have GK : Hid (∀ W, Below (wr.alloc (.cells #[.string mk, .string mv] 35)).heap.size (wr.alloc (.cells #[.string mk, .string mv] 35)) W → W.cell? ⟨t, 2, none⟩ = some (.string s) ∧ W.cell? ⟨wr.heap.size, 0, none⟩ = some (.string mk) ∧ LaidS W) := Lib.hid (fun W hW => by
                      obtain ⟨A9, c9, q1, q2, q3⟩ := (HTab.out.up (HBx.out.trans (hW.mono HBx.out.size))).ex
                      exact ⟨q1.cell 2, (BX.below hW BX.lt).cell 0, HT.out.on (HBn.out.trans ((HBx.out.trans (hW.mono HBx.out.size)).mono HBn.out.size))⟩)
                    have CH := fun W hW => Lib.hid (shead_any mk W (by omega) (GK.out W hW).2.2)
                    have CM := fun W hW => Lib.hid (bmay_any s (headT mk) W (GK.out W hW).2.2.m (by have := head_size mk; omega) (by omega))
                    have CM : ∀ W, _ → Hid (Calls Tryd.prog 37 #[.string s, .string (headT mk)] W fun e w' => e = .returned (.bool (mayT s (crc (bl (headT mk))))) ∧ Below W.heap.size W w') := CM
                    obtain ⟨hd, hhd⟩ : ∃ hd, headT mk = hd := ⟨_, rfl⟩
                    by_cases hmy : mayT s (crc (bl (headT mk))) = true
                    · have HM2 : Hid (∀ q m, q < i + 1 → l[q]? = some m → mayT s (crc (bl (headT m.1))) = true) := Lib.hid (fun q m hq hm => by
                        by_cases e : q = i
                        · subst e
                          rw [Hm.out] at hm
                          cases hm
                          exact hmy
                        · exact HM.out q m (by omega) hm)
                      rw [hmy] at CM
                      rw [hhd] at CH CM
                      clear hhd hmy HM BX
                      go_upto_region 14 with fail
                      generalize wr.alloc (.cells #[.string mk, .string mv] 35) = w10 at *
                      generalize wr.heap.size = px at *
                      have CH2 := fun W (hW : Below w10.heap.size w10 W) => Lib.hid ((CH W hW).out.mono (fun e w' (h : e = .returned (.string hd) ∧ w' = W) => (⟨h.1, by rw [h.2]; exact hW⟩ : e = .returned (.string hd) ∧ Below w10.heap.size w10 w')))
                      have CM2 := fun W (hW : Below w10.heap.size w10 W) => Lib.hid (cls_call hW (CM W hW).out)
                      have CY2 := fun W (hW : Below w10.heap.size w10 W) => Lib.hid ((Y W).out.mono (fun e w' (h : e = .returned (.tuple #[]) ∧ w' = W) => (⟨h.1, by rw [h.2]; exact hW⟩ : e = .returned (.tuple #[]) ∧ Below w10.heap.size w10 w')))
                      refine wp_region_class (fun W => Below w10.heap.size w10 W) (by kernel_rfl) (by kernel_rfl) ((Below.refl _ w10).drew) ?_
                      repeat' (first
                        | (refine wpQuiet_skip (by rfl) ?_; try simp only [Act.put, List.setIfInBounds_toArray, List.set_cons_zero, List.set_cons_succ])
                        | (refine wpQuiet_take (by rfl) ?_ (fun W hW => ?_) ?_
                           rotate_left
                           focus
                             obtain ⟨k1, k2, _⟩ := GK.out _ hW
                             go_simp
                             first
                               | done
                               | with_reducible rfl
                               | (go_at_call 48; exact (CH2 _ hW).out)
                               | (go_at_call 37; exact (CM2 _ hW).out)
                               | (go_at_call 51; exact (CY2 _ hW).out)
                           try simp only [Act.put, List.setIfInBounds_toArray, List.set_cons_zero, List.set_cons_succ]))
                      refine wpQuiet_nil (fun w11 S11 => ?_)
                      have HB11 := Lib.hid (HBx.out.trans (S11.mono HBx.out.size))
                      clear S11 GK CH CM HBx
                      go_wp2_with fail
                      go_roundw
                      case rel => exact ⟨i + 1, by go_num, by omega, HM2, HB11⟩
                      case measure => simp [intOf]; omega
                    · have hmf : mayT s (crc (bl (headT mk))) = false := by simpa using hmy
                      have hRn : R = none := by
                        rw [← HRR.out, if_neg]
                        intro hall
                        rw [List.all_eq_true] at hall
                        have := hall (mk, mv) (List.mem_of_getElem? Hm.out)
                        exact hmy this
                      subst hRn
                      rw [hmf] at CM
                      rw [hhd] at CH CM
                      clear hhd hmy HM BX hmf HRR
                      go_upto_region 14 with fail
                      generalize wr.alloc (.cells #[.string mk, .string mv] 35) = w10 at *
                      generalize wr.heap.size = px at *
                      obtain ⟨k1, k2, _⟩ := GK.out w10 (Below.refl _ _)
                      go_region_dies
                      · rename_i K hK
                        refine (CH (World.drew _) ((Below.refl _ _).drew)).out.mono ?_
                        rintro e w11 ⟨rfl, rfl⟩
                        refine hK _ _ ?_
                        refine wpAny_ready (rs := [7]) (by kernel_rfl) (by simp) ?_
                        refine AllReady.cons rfl (fun K2 hK2 => ?_) AllReady.nil
                        go_simp
                        refine (CM (World.drew _) ((Below.refl _ _).drew)).out.mono ?_
                        rintro e w12 ⟨rfl, hb12⟩
                        have HB12 := Lib.hid (HBn.out.trans ((HBx.out.trans (((Below.refl _ w10).drew.trans hb12).mono HBx.out.size)).mono HBn.out.size))
                        refine hK2 _ _ ?_
                        refine wpAny_ready (rs := [8]) (by kernel_rfl) (by simp) ?_
                        refine AllReady.cons rfl (fun K3 hK3 => ?_) AllReady.nil
                        go_simp
                        refine (N _).out.mono ?_
                        rintro e w13 ⟨rfl, rfl⟩
                        go_wp2_with fail
                        exact ⟨rfl, rfl, HB12.out⟩
                      · rename_i K hK
                        refine (CH (World.drew _) ((Below.refl _ _).drew)).out.mono ?_
                        rintro e w11 ⟨rfl, rfl⟩
                        refine hK _ _ ?_
                        refine wpAny_ready (rs := [7]) (by kernel_rfl) (by simp) ?_
                        refine AllReady.cons rfl (fun K2 hK2 => ?_) AllReady.nil
                        go_simp
                        refine (CM (World.drew _) ((Below.refl _ _).drew)).out.mono ?_
                        rintro e w12 ⟨rfl, hb12⟩
                        have HB12 := Lib.hid (HBn.out.trans ((HBx.out.trans (((Below.refl _ w10).drew.trans hb12).mono HBx.out.size)).mono HBn.out.size))
                        refine hK2 _ _ ?_
                        refine wpAny_ready (rs := [8]) (by kernel_rfl) (by simp) ?_
                        refine AllReady.cons rfl (fun K3 hK3 => ?_) AllReady.nil
                        go_simp
                        refine (N _).out.mono ?_
                        rintro e w13 ⟨rfl, rfl⟩
                        go_wp2_with fail
                        exact ⟨rfl, rfl, HB12.out⟩
                      · rename_i K hK
                        refine (CH (World.drew _) ((Below.refl _ _).drew)).out.mono ?_
                        rintro e w11 ⟨rfl, rfl⟩
                        refine hK _ _ ?_
                        refine wpAny_ready (rs := [3]) (by kernel_rfl) (by simp) ?_
                        refine AllReady.cons rfl (fun K9 hK9 => ?_) AllReady.nil
                        go_simp
                        refine hK9 _ _ ?_
                        refine wpAny_ready (rs := [7]) (by kernel_rfl) (by simp) ?_
                        refine AllReady.cons rfl (fun K2 hK2 => ?_) AllReady.nil
                        go_simp
                        refine (CM (World.drew _) ((Below.refl _ _).drew)).out.mono ?_
                        rintro e w12 ⟨rfl, hb12⟩
                        have HB12 := Lib.hid (HBn.out.trans ((HBx.out.trans (((Below.refl _ w10).drew.trans hb12).mono HBx.out.size)).mono HBn.out.size))
                        refine hK2 _ _ ?_
                        refine wpAny_ready (rs := [8]) (by kernel_rfl) (by simp) ?_
                        refine AllReady.cons rfl (fun K3 hK3 => ?_) AllReady.nil
                        go_simp
                        refine (N _).out.mono ?_
                        rintro e w13 ⟨rfl, rfl⟩
                        go_wp2_with fail
                        exact ⟨rfl, rfl, HB12.out⟩
                  · obtain rfl : i = l.length := by omega
                    have hall : (l.all fun m => mayT s (crc (bl (headT m.1)))) = true := by
                      rw [List.all_eq_true]
                      intro m hm
                      obtain ⟨q, hq⟩ := List.mem_iff_getElem?.1 hm
                      exact HM.out q m (List.getElem?_eq_some_iff.1 hq).1 hq
                    have hRs := HRR.out
                    rw [if_pos hall] at hRs
                    subst hRs
                    have Hend := Lib.hid (HTab.out.up HB9.out)
                    have Hend2 := Lib.hid (HBn.out.trans (HB9.out.mono HBn.out.size))
                    have g1 : ¬ (l.length : Int) < (l.length : Int) := by omega
                    clear HM HRR hall HB9 HTab HBn HKe
                    go_wp2_with fail
                    go_ret
                    exact ⟨t, rfl, Hend.out, hbt, Hend2.out⟩
    · rw [if_pos hc] at hR
      subst hR
      have e1 : ((sm : Int) == (cr : Int)) = false := by rw [beq_eq_false_iff_ne]; omega
      clear hc h4 z1 hs
      go_enter Tryd.func33, Tryd.ntmps33
      go_wp2_with fail
      refine C.out.mono ?_
      rintro e w1 ⟨rfl, hr1, hg1⟩
      have hb1 := HB.out.grown hg1 (by simp) (fun k hk => by cases hk; exact Nat.le_refl _)
      have CS1 := CS w1 hb1
      have c0 : w1.cell? ⟨w.heap.size, 0, none⟩ = some (.string s1) := hr1.cell 0
      have HB1 := Lib.hid hb1
      clear hr1 hg1 hb1 CS C
      go_wp2_with fail
      refine CS1.out.mono ?_
      rintro e w2 ⟨rfl, rfl⟩
      go_wp2_with fail
      refine (N _).out.mono ?_
      rintro e w2 ⟨rfl, rfl⟩
      go_wp2_with fail
      exact ⟨rfl, rfl, HB1.out⟩
end Go.Proofs.YtcbgflidlpmhcaaDoor

namespace Go.Proofs.YtcbgflidlpmhcaaDoor
open Go.RowKit

set_option maxHeartbeats 400000 in
theorem open_catch (a b : Nat) (x y : Value) (er : Int) (older : List PanicEntry) (w : World) (ha : w.cell? ⟨a, 0, none⟩ = some x) (hb : w.cell? ⟨b, 0, none⟩ = some y)
    (fa : w.frozen? ⟨a, 0, none⟩ = false) (fb : w.frozen? ⟨b, 0, none⟩ = false) (hab : a ≠ b) :
    CallsD Tryd.prog 31 #[.pointer (some ⟨a, 0, none⟩), .pointer (some ⟨b, 0, none⟩)] (.panicking ({ v := .iface 26 (.int .i64 er), recovered := false } :: older)) w fun e u' w' =>
      e = .returned (.tuple #[]) ∧ u' = .panicking ({ v := .iface 26 (.int .i64 er), recovered := true } :: older) ∧
        w' = (w.setCell ⟨a, 0, none⟩ (.pointer none)).setCell ⟨b, 0, none⟩ (.int .i64 er) := by
  refine callsD_of_wpS Tryd.func31 rfl fun c₀ cs hu => ?_
  apply wpS_seq
  apply wpS_region
  simp [wpOpsS, go_sem, recoverD, hu, Tryd.ntmps31, Exit.thenS]
  refine wpS_of_wp ?_
  simp [Array.replicate]
  go_wp2_with fail
  refine (told_errno _ _).mono ?_
  rintro e w' ⟨rfl, rfl⟩
  go_wp2
  simp [bodyPostS, results, Tryd.results31]

set_option maxHeartbeats 400000 in
theorem open_idle (a b : Value) (w : World) :
    CallsD Tryd.prog 31 #[a, b] .returning w fun e u' w' => e = .returned (.tuple #[]) ∧ u' = .returning ∧ w' = w := by
  refine callsD_of_wpS Tryd.func31 rfl fun c₀ cs hu => ?_
  apply wpS_seq
  apply wpS_region
  simp [wpOpsS, go_sem, recoverD, hu, Tryd.ntmps31, Exit.thenS]
  refine wpS_of_wp ?_
  simp [Array.replicate]
  go_wp2
  cases c₀
  simp_all [bodyPostS, results, Tryd.results31]

/-- What gave up is recovered: the results are set anew. -/
theorem oend_err (w2 : World) (p : Nat) (t : Array Value) (er : Int) (x y : Value) {R : Ending → World → Prop} (Ba : Blk w2 p 29 #[x]) (Bb : Blk w2 (p + 1) 26 #[y])
    (t2 : t[2]?.getD undef = .pointer (some ⟨p, 0, none⟩)) (t3 : t[3]?.getD undef = .pointer (some ⟨p + 1, 0, none⟩)) (h : R (.returned (.tuple #[.pointer none, .int .i64 er])) ((w2.setCell ⟨p, 0, none⟩ (.pointer none)).setCell ⟨p + 1, 0, none⟩ (.int .i64 er))) :
    bodyPostD Tryd.prog Tryd.f10 R (Exit.panic [{ v := .iface 26 (.int .i64 er), recovered := false }])
      { tmps := t, defers := [{ target := Target.fn (Fn.func 31) #[.pointer (some ⟨p, 0, none⟩), .pointer (some ⟨p + 1, 0, none⟩)], args := #[] }] } w2 := by
  have E0 := (Ba.set_ 0 (.pointer none)).far (p := ⟨p + 1, 0, none⟩) (by dsimp only; omega) (.int .i64 er)
  have E1 := (Bb.far (p := ⟨p, 0, none⟩) (by dsimp only; omega) (.pointer none)).set_ 0 (.int .i64 er)
  refine leaves_cons (f := 31) (args := #[.pointer (some ⟨p, 0, none⟩), .pointer (some ⟨p + 1, 0, none⟩)]) (by simp) (by simp [go_sem]) ?_
  refine (open_catch p (p + 1) x y er [] _ (Ba.cell 0) (Bb.cell 0) (Ba.frozen 0) (Bb.frozen 0) (by omega)).mono ?_
  rintro e u' w'' ⟨rfl, rfl, rfl⟩
  generalize (w2.setCell ⟨p, 0, none⟩ (.pointer none)).setCell ⟨p + 1, 0, none⟩ (.int .i64 er) = w3 at *
  have c0 : w3.cell? ⟨p, 0, none⟩ = some (.pointer none) := E0.cell 0
  have e1 : w3.cell? ⟨p + 1, 0, none⟩ = some (.int .i64 er) := E1.cell 0
  simp [Leaves, settle, results, Tryd.results10, go_sem, c0, e1, t2, t3]
  exact h
/-- What is read stands in the results. -/
theorem oend_ok (w2 : World) (p : Nat) (t : Array Value) (A : Option Addr) {R : Ending → World → Prop} (Ba : Blk w2 p 29 #[.pointer A]) (Bb : Blk w2 (p + 1) 26 #[.int .i64 0])
    (t2 : t[2]?.getD undef = .pointer (some ⟨p, 0, none⟩)) (t3 : t[3]?.getD undef = .pointer (some ⟨p + 1, 0, none⟩)) (h : R (.returned (.tuple #[.pointer A, .int .i64 0])) w2) :
    bodyPostD Tryd.prog Tryd.f10 R Exit.ret
      { tmps := t, defers := [{ target := Target.fn (Fn.func 31) #[.pointer (some ⟨p, 0, none⟩), .pointer (some ⟨p + 1, 0, none⟩)], args := #[] }] } w2 := by
  have c0 : w2.cell? ⟨p, 0, none⟩ = some (.pointer A) := Ba.cell 0
  have e1 : w2.cell? ⟨p + 1, 0, none⟩ = some (.int .i64 0) := Bb.cell 0
  refine leaves_cons (f := 31) (args := #[.pointer (some ⟨p, 0, none⟩), .pointer (some ⟨p + 1, 0, none⟩)]) (by simp) (by simp [go_sem]) ?_
  refine (open_idle _ _ _).mono ?_
  rintro e u' w'' ⟨rfl, rfl, rfl⟩
  simp [Leaves, settle, results, Tryd.results10, go_sem, c0, e1, t2, t3]
  exact h

/-- What the results' cells turn. -/
def oT (o : Obj) : Bool := cellsT 29 o || cellsT 26 o
theorem oT_ne {t : TypeId} (h1 : t ≠ 29) (h2 : t ≠ 26) (cs : Array Value) (fr : Nat × Nat) : oT (.cells cs t fr) = false := by
  unfold oT
  rw [cellsT_ne h1, cellsT_ne h2]
  rfl
/-- What Open answers. -/
def OpenP (w : World) : Option (List KV × Nat × ByteArray) → Ending → World → Prop
  | none, e, w' => e = .returned (.tuple #[.pointer none, .int .i64 31]) ∧ Below w.heap.size w w'
  | some (l, n, F), e, w' => ∃ t, e = .returned (.tuple #[.pointer (some ⟨t, 0, none⟩), .int .i64 0]) ∧ TabN w' t l n F ∧ Below w.heap.size w w'

set_option maxRecDepth 100000 in
set_option maxHeartbeats 4000000 in
theorem sopenN_any (b : ByteArray) (w : World) (hs : b.size ≤ 1000000) (hT : LaidS w) :
    Calls Tryd.prog 10 #[.string b] w fun e w' => OpenP w (readT b) e w' := by
  have hmf : ∀ (fn : Fn) (first cap : Array Value) (w : World), (Instr.makeFunc fn first cap).run Tryd.prog w = .ok (.func fn first cap) w := fun _ _ _ _ => rfl
  obtain ⟨R, hR⟩ : ∃ R, readT b = R := ⟨_, rfl⟩
  rw [hR]
  have CR := fun W (h : LaidS W) => Lib.hid (sread_any b W hs h)
  rw [hR] at CR
  have HT := Lib.hid hT
  clear hR hT
  go_enter_defers Tryd.func10, Tryd.ntmps10
  go_wp2_with fail
  have b0 : Blk ((w.alloc (.cells #[.pointer none] 29)).alloc (.cells #[.int .i64 0] 26)) w.heap.size 29 #[.pointer none] := (Blk.new _ _ _).alloc _
  have b1 : Blk ((w.alloc (.cells #[.pointer none] 29)).alloc (.cells #[.int .i64 0] 26)) (w.heap.size + 1) 26 #[.int .i64 0] := Blk.new' (by simp) _ _
  have hb : Below w.heap.size w ((w.alloc (.cells #[.pointer none] 29)).alloc (.cells #[.int .i64 0] 26)) := below_alloc (below_alloc (Below.refl _ _) (Nat.le_refl _) _) (Nat.le_refl _) _
  generalize (w.alloc (.cells #[.pointer none] 29)).alloc (.cells #[.int .i64 0] 26) = w1 at *
  have L1 := HT.out.on hb
  have CR1 := CR w1 L1
  clear CR
  have hsz : w.heap.size + 1 < w1.heap.size := b1.lt
  have P0 := Lib.hid b0
  have P1 := Lib.hid b1
  have HB := Lib.hid hb
  clear b0 b1 hb L1
  refine CR1.out.mono ?_
  cases R with
  | none =>
    rintro e w2 ⟨rfl, hb2⟩
    have Q0 := P0.out.below hb2 (by omega)
    have Q1 := P1.out.below hb2 (by omega)
    have HB2 := HB.out.trans (hb2.mono HB.out.size)
    unfold gaveB
    go_wp2_with fail
    exact oend_err w2 w.heap.size _ 31 _ _ Q0 Q1 rfl rfl ⟨rfl, below_setCell (below_setCell HB2 (Nat.le_refl _) _) (by dsimp only; omega) _⟩
  | some x =>
    obtain ⟨l, n, F⟩ := x
    rintro e w2 ⟨t, rfl, ht, hlow, hb2⟩
    have Q0 := P0.out.below hb2 (by omega)
    have Q1 := P1.out.below hb2 (by omega)
    have HB2 := HB.out.trans (hb2.mono HB.out.size)
    have c0 : w2.cell? ⟨w.heap.size, 0, none⟩ = some (.pointer none) := Q0.cell 0
    have c1 : w2.cell? ⟨w.heap.size + 1, 0, none⟩ = some (.int .i64 0) := Q1.cell 0
    have f0 := Q0.frozen 0
    have f1 := Q1.frozen 0
    have X0 := Lib.hid ((Q0.set_ 0 (.pointer (some ⟨t, 0, none⟩))).far (p := ⟨w.heap.size + 1, 0, none⟩) (by dsimp only; omega) (.int .i64 0))
    have X1 := Lib.hid ((Q1.far (p := ⟨w.heap.size, 0, none⟩) (by dsimp only; omega) (.pointer (some ⟨t, 0, none⟩))).set_ 0 (.int .i64 0))
    have XB := Lib.hid (below_setCell (below_setCell HB2 (p := ⟨w.heap.size, 0, none⟩) (Nat.le_refl _) (.pointer (some ⟨t, 0, none⟩))) (p := ⟨w.heap.size + 1, 0, none⟩) (by dsimp only; omega) (.int .i64 0))
    have g1 : Tn 0 oT w2 (w2.setCell ⟨w.heap.size, 0, none⟩ (.pointer (some ⟨t, 0, none⟩))) := (Tn.refl 0 oT w2).setCell (p := ⟨w.heap.size, 0, none⟩) (Or.inr ⟨Nat.zero_le _, _, Q0, by unfold oT cellsT; simp⟩) _
    have g2 := g1.setCell (p := ⟨w.heap.size + 1, 0, none⟩) (Or.inr ⟨Nat.zero_le _, _, Q1.far (p := ⟨w.heap.size, 0, none⟩) (by dsimp only; omega) (.pointer (some ⟨t, 0, none⟩)), by unfold oT cellsT; simp⟩) (.int .i64 0)
    have XT := Lib.hid (ht.tn g2 (fun cs fr => oT_ne (by decide) (by decide) cs fr) (fun cs fr => oT_ne (by decide) (by decide) cs fr))
    clear Q0 Q1 HB2 hb2 ht g1 g2 hlow
    go_wp2_with fail
    exact oend_ok _ w.heap.size _ _ X0.out X1.out rfl rfl ⟨t, rfl, XT.out, XB.out⟩
end Go.Proofs.YtcbgflidlpmhcaaDoor

namespace Go.Proofs.YtcbgflidlpmhcaaDoor
open Go.RowKit

set_option maxRecDepth 100000 in
set_option maxHeartbeats 1000000 in
theorem same_at (A1 A2 : Option Addr) (n c1 c2 : Nat) (L : List KV) (w : World) (h1 : KeysAt w A1 n L) (h2 : KeysAt w A2 n L) (hn : n ≤ 1000000) (hok : ∀ x ∈ L, okKeys x) :
    Calls Tryd.prog 11 #[.slice A1 n c1, .slice A2 n c2] w fun e w' => e = .returned (.bool true) ∧ Below w.heap.size w w' := by
  have H1 := Lib.hid h1
  have H2 := Lib.hid h2
  have HL := Lib.hid h1.len
  have hL' : (n : Int) ≤ 1000000 := by omega
  clear h1 h2
  go_enter Tryd.func11, Tryd.ntmps11
  go_wp2_with fail
  go_loopw [5] (fun i wr => ∃ k : Nat, k ≤ n ∧ i = .int .i64 (k : Int) ∧ Hid (Below w.heap.size w wr)) (fun i _ => n - (intOf i).toNat)
  case atStart => exact ⟨0, by omega, rfl, Lib.hid (Below.refl _ _)⟩
  case round =>
    obtain ⟨k, hk, rfl, HB⟩ := hrel
    by_cases hl : k < n
    · have hkL : k < L.length := by rw [← HL.out]; exact hl
      obtain ⟨x, hx⟩ : ∃ x, L[k]? = some x := ⟨_, List.getElem?_eq_getElem hkL⟩
      obtain ⟨g1, o1, hA1, _, y0, y1⟩ := (H1.out.below HB.out).at_ k x hx
      obtain ⟨g2, o2, hA2, _, z0, z1⟩ := (H2.out.below HB.out).at_ k x hx
      subst hA1 hA2
      have ox := hok x (List.mem_of_getElem? hx)
      obtain ⟨xa, xb⟩ := x
      dsimp only at y0 y1 z0 z1
      have EQ := eqS2 xa xb ox.1 ox.2
      have hl1 : (k : Int) < (n : Int) := by omega
      have hl0 : (0 : Int) ≤ (k : Int) := by omega
      clear hx hkL
      go_wp2_with fail
      go_quiet (fail)
      go_wp2_with fail
      go_roundw
      case rel => exact ⟨k + 1, by omega, by go_num, Lib.hid (below_drewN HB.out _)⟩
      case measure => simp [intOf]; omega
    · obtain rfl : k = n := by omega
      go_wp2_with fail
      go_ret
      exact ⟨rfl, HB.out⟩
end Go.Proofs.YtcbgflidlpmhcaaDoor

namespace Go.Proofs.YtcbgflidlpmhcaaDoor
open Go.RowKit

/-- The mark. -/
def markP : KV := (⟨#[109, 97, 114, 107]⟩, ⟨#[]⟩)
theorem KeysAt.row {w : World} {A : Option Addr} {n : Nat} {L : List KV} (h : KeysAt w A n L) : (A = none → L = []) ∧ ∀ a, A = some a → ∀ j u, (elKeys.row L)[j]? = some u → w.cell? (a.add j) = some u := by
  refine ⟨fun hA => ?_, fun a ha j u hu => ?_⟩
  · cases L with
    | nil => rfl
    | cons m r =>
      obtain ⟨g, off, e, _⟩ := h.at_ 0 m rfl
      rw [hA] at e; cases e
  · have hj := (List.getElem?_eq_some_iff.1 hu).1
    rw [elKeys.row_length] at hj
    have hj : j < L.length * 2 := hj
    have hi : j / 2 < L.length := by omega
    obtain ⟨m, hm⟩ : ∃ m, L[j / 2]? = some m := ⟨_, List.getElem?_eq_getElem hi⟩
    obtain ⟨g, off, e, _, x0, x1⟩ := h.at_ _ _ hm
    rw [ha] at e
    cases e
    rw [Addr.add_lit]
    have hd : j = j / 2 * elKeys.sz + j % 2 := by show j = j / 2 * 2 + j % 2; omega
    rw [hd, elKeys.row_at L (j / 2) (j % 2) m hm (by show j % 2 < 2; omega)] at hu
    rcases Nat.mod_two_eq_zero_or_one j with h2 | h2
    · rw [h2] at hu
      have hu : some (Value.string m.1) = some u := hu
      cases hu
      rw [show off + j = off + j / 2 * 2 from by omega]
      exact x0
    · rw [h2] at hu
      have hu : some (Value.string m.2) = some u := hu
      cases hu
      rw [show off + j = off + j / 2 * 2 + 1 from by omega]
      exact x1

/-- A list lent: its row, the mark behind it. -/
structure LentK (w : World) (B g n cap : Nat) (L : List KV) : Prop where
  len : n = L.length
  row : Own elKeys w B 35 (.slice (some ⟨g, 0, none⟩) (n + 1) cap) (L ++ [markP])
theorem LentK.below {w w' : World} {B g n cap : Nat} {L : List KV} (h : LentK w B g n cap L) (hb : Below w.heap.size w w') : LentK w' B g n cap L := ⟨h.len, h.row.below hb⟩
theorem LentK.tn {w w' : World} {B g n cap : Nat} {L : List KV} (h : LentK w B g n cap L) {B' : Nat} {T : Obj → Bool} (hb : Tn B' T w w') (hT : ∀ cs fr, T (.cells cs 35 fr) = false) : LentK w' B g n cap L := ⟨h.len, h.row.tn hb hT⟩
theorem own_cap {w : World} {B g n cap sz : Nat} {e : TypeId} {xs : List Value} (h : w.ownsRow B e sz (.slice (some ⟨g, 0, none⟩) n cap) n xs) : n ≤ cap := by
  rcases h.2 with ⟨h1, _⟩ | ⟨g', cap', cur, hv, _, _, hle, _⟩
  · cases h1
  · injection hv with e1 e2 e3
    omega
theorem LentK.cap {w : World} {B g n cap : Nat} {L : List KV} (h : LentK w B g n cap L) : n + 1 ≤ cap := by
  have h1 := h.row
  unfold Own at h1
  rw [List.length_append, ← h.len] at h1
  exact own_cap h1
theorem LentK.at_ {w : World} {B g n cap : Nat} {L : List KV} (h : LentK w B g n cap L) : KeysAt w (some ⟨g, 0, none⟩) n L := by
  have h1 := h.row
  rw [show (n + 1 : Nat) = (L ++ [markP]).length by rw [List.length_append, h.len]; rfl] at h1
  refine ⟨h.len, fun i m hm => ?_⟩
  have hi := (List.getElem?_eq_some_iff.1 hm).1
  have hm' : (L ++ [markP])[i]? = some m := by rw [List.getElem?_append_left hi]; exact hm
  have hc0 := Own.cells (i := i) (j := 0) h1 hm' (by decide) rfl
  have hc1 := Own.cells (i := i) (j := 1) h1 hm' (by decide) rfl
  obtain ⟨g', c', cur, hv, hg, hh⟩ := Own.some_ h1 (by rw [List.length_append]; simp)
  cases hv
  refine ⟨g, 0, rfl, (Array.getElem?_eq_some_iff.1 hh).1, ?_, ?_⟩
  · rw [Nat.zero_add]; exact hc0
  · rw [Nat.zero_add]; exact hc1
theorem LentK.mark {w : World} {B g n cap : Nat} {L : List KV} (h : LentK w B g n cap L) : w.cell? ⟨g, n * 2, none⟩ = some (.string ⟨#[109, 97, 114, 107]⟩) := by
  have h1 := h.row
  rw [show (n + 1 : Nat) = (L ++ [markP]).length by rw [List.length_append, h.len]; rfl] at h1
  have hm' : (L ++ [markP])[n]? = some markP := by rw [h.len]; simp
  have := Own.cells (i := n) (j := 0) h1 hm' (by decide) rfl
  exact this

end Go.Proofs.YtcbgflidlpmhcaaDoor

namespace Go.Proofs.YtcbgflidlpmhcaaDoor
open Go.RowKit

/-- A table that Write's bytes made, as it lies. -/
def TabAt (W : World) (t : Nat) (L : List KV) (F : ByteArray) : Prop := TabN W t L (blocksK L) F
theorem TabAt.up {W W' : World} {t : Nat} {L : List KV} {F : ByteArray} (h : TabAt W t L F) (hb : Below W.heap.size W W') : TabAt W' t L F := TabN.up h hb
theorem wrt_groups {L : List KV} {x : Nat} {b : ByteArray} (h : WrtP L x b) : ∀ g ∈ groupsK L, g ≠ [] ∧ longK g = false ∧ (blkL g).length ≤ 524288 := by
  intro g hg
  have h1 := wt_flat (groups_all L) hg
  obtain ⟨k1, k2, _, _⟩ := light_short (L := g) (by have := h.2.1; omega)
  exact ⟨groups_some L g hg, k1, k2⟩
theorem wrt_read {L : List KV} {x : Nat} {b : ByteArray} (h : WrtP L x b) : readT b = some (L, blocksK L, bloomT (headsK L) x) := by
  have h1 := readT_tab h.2.2 (groups_all L) (write_ne h.1) (wrt_groups h) (write_rises h.1) (by
    have h2 := groups_len L
    have h3 := blocks_len L
    have h4 := (light_short h.2.1).2.2.2
    omega) (fun m hm => may_built (headsK L) x (headT m.1) ((headsK_mem L _).2 ⟨m, hm, rfl⟩))
  rw [groups_len] at h1
  exact h1
/-- What Write tells ends in its sum. -/
theorem wrt_fits {L : List KV} {x : Nat} {b : ByteArray} (h : WrtP L x b) : fitsB b := ⟨tabB (groupsK L) (bloomT (headsK L) x), h.2.2⟩
theorem wrt_size {L : List KV} {x : Nat} {b : ByteArray} (h : WrtP L x b) : 5 ≤ b.size ∧ b.size ≤ 1000000 := by
  have h1 := congrArg List.length h.2.2
  have h2 := cat_bounds (G := groupsK L) (groups_some L) (by rw [groups_all]; exact h.2.1)
  have h3 := bloomT_sz (headsK L) x
  unfold tabL tabB at h1
  simp only [List.length_append, be_length, bl_len] at h1
  omega

set_option maxRecDepth 100000 in
set_option maxHeartbeats 2000000 in
theorem swrite_any (A : Option Addr) (n c : Nat) (L : List KV) (x : Nat) (W : World) (h : KeysAt W A n L) (hc : n ≤ c) (hl : wtK L ≤ 60000) (hT : LaidS W) :
    Calls Tryd.prog 9 #[.slice A n c, .float .f64 x] W fun e w' => ∃ b, e = .returned (.tuple #[.string b, .int .i64 (writeE L)]) ∧ (writeE L = 0 → WrtP L x b) ∧ (¬ writeE L = 0 → b = ⟨#[]⟩) ∧ Below W.heap.size W w' := by
  obtain ⟨k1, k2, k3, k4⟩ := light_short hl
  have hlen := h.len
  by_cases hR : risesK L = true
  · by_cases hne : L = []
    · subst hne
      have CB := build_any A n c [] W h k3 (by omega) k1 k2 hT.b
      rw [build_light hl hR] at CB
      have CB := Lib.hid CB
      have hw9 : writeE [] = 1 := by decide +kernel
      rw [hw9]
      have n0 : n = 0 := hlen
      subst n0
      clear h hlen k1 k2 k3 k4 hw9 hT hR
      go_enter Tryd.func9, Tryd.ntmps9
      go_wp2_with fail
      refine CB.out.mono ?_
      rintro e w1 ⟨rfl, hb⟩
      go_wp2_with fail
      go_ret2
      exact ⟨_, rfl, fun h => absurd h (by decide), fun _ => rfl, hb⟩
    · have he : writeE L = 0 := by
        unfold writeE
        rw [if_neg (by rw [hR]; decide), build_light hl hR, if_pos rfl, if_neg hne]
      obtain ⟨m0, hm0⟩ : ∃ m, L[0]? = some m := ⟨_, List.getElem?_eq_getElem (List.length_pos_iff.2 hne)⟩
      obtain ⟨g, off, rfl, _⟩ := h.at_ 0 m0 hm0
      refine (swrite_some g off n c L x W h hc hl hR hne hT).mono ?_
      rintro e w' ⟨b, rfl, h1, h2⟩
      rw [he]
      exact ⟨b, rfl, fun _ => ⟨he, hl, h1⟩, fun h => absurd rfl h, h2⟩
  · have hRf : risesK L = false := by simpa using hR
    have CB := build_any A n c L W h k3 (by omega) k1 k2 hT.b
    have hbp : buildP L = (ByteArray.empty, 32) := by
      unfold buildP
      rw [if_pos hRf]
    rw [hbp] at CB
    have CB := Lib.hid CB
    have hw9 : writeE L = 32 := by
      unfold writeE
      rw [if_pos hRf]
    rw [hw9]
    clear h hlen k1 k2 k3 k4 hw9 hT hR hRf hbp
    go_enter Tryd.func9, Tryd.ntmps9
    go_wp2_with fail
    refine CB.out.mono ?_
    rintro e w1 ⟨rfl, hb⟩
    go_wp2_with fail
    go_ret2
    exact ⟨_, rfl, fun h => absurd h (by decide), fun _ => rfl, hb⟩
theorem sopen_any (L : List KV) (x : Nat) (b : ByteArray) (W : World) (h : WrtP L x b) (hT : LaidS W) :
    Calls Tryd.prog 10 #[.string b] W fun e w' => ∃ t, e = .returned (.tuple #[.pointer (some ⟨t, 0, none⟩), .int .i64 0]) ∧ TabAt w' t L (bloomT (headsK L) x) ∧ Below W.heap.size W w' := by
  have C := sopenN_any b W (wrt_size h).2 hT
  rw [wrt_read h] at C
  exact C
section
variable {W : World} {t : Nat} {L : List KV} {F : ByteArray}
theorem scount_any (h : TabAt W t L F) : Calls Tryd.prog 19 #[.pointer (some ⟨t, 0, none⟩)] W fun e w' => e = .returned (.int .i64 (L.length : Nat)) ∧ Below W.heap.size W w' := (scountN_any h).mono fun _ _ ⟨h1, h2⟩ => ⟨h1, below_of_eq h2⟩
theorem sfirst_any (h : TabAt W t L F) {m : KV} (hm : L[0]? = some m) : Calls Tryd.prog 21 #[.pointer (some ⟨t, 0, none⟩)] W fun e w' => e = .returned (.string m.1) ∧ Below W.heap.size W w' := (sfirstN_any h hm).mono fun _ _ ⟨h1, h2⟩ => ⟨h1, below_of_eq h2⟩
theorem slastk_any (h : TabAt W t L F) {m : KV} (hm : L[L.length - 1]? = some m) : Calls Tryd.prog 22 #[.pointer (some ⟨t, 0, none⟩)] W fun e w' => e = .returned (.string m.1) ∧ Below W.heap.size W w' := (slastN_any h hm).mono fun _ _ ⟨h1, q, h2⟩ => ⟨h1, by rw [h2]; exact below_drewN (Below.refl _ _) q⟩
theorem sblocks_any (h : TabAt W t L F) : Calls Tryd.prog 20 #[.pointer (some ⟨t, 0, none⟩)] W fun e w' => e = .returned (.int .i64 (blocksK L : Nat)) ∧ Below W.heap.size W w' := (sblocksN_any h).mono fun _ _ ⟨h1, h2⟩ => ⟨h1, below_of_eq h2⟩
theorem smay_any (h : TabAt W t L F) (hT : LaidS W) (key : ByteArray) (hk : key.size ≤ 9223372036854775807) : Calls Tryd.prog 14 #[.pointer (some ⟨t, 0, none⟩), .string key] W fun e w' => e = .returned (.bool (mayT F (crc key.data.toList))) ∧ Below W.heap.size W w' := smayN_any h hT key hk
theorem sfrom_any (h : TabAt W t L F) (_hT : LaidS W) (key : ByteArray) (most : Int) (_hk : key.size ≤ 140737488351232) : Calls Tryd.prog 12 #[.pointer (some ⟨t, 0, none⟩), .string key, .int .i64 most] W fun e w' => ∃ v, e = .returned v ∧ Own elKeys w' W.heap.size 35 v (fromK L key most) ∧ Below W.heap.size W w' := sfromN_any h key most
theorem sget_any (h : TabAt W t L F) (_hT : LaidS W) (key : ByteArray) (_hk : key.size ≤ 140737488351232) : Calls Tryd.prog 13 #[.pointer (some ⟨t, 0, none⟩), .string key] W fun e w' => e = .returned (.tuple #[.string (getK L key).1, .int .i64 (getK L key).2]) ∧ Below W.heap.size W w' := sgetN_any h key
end
theorem light13_any (A : Option Addr) (n c : Nat) (L : List KV) (w : World) (h : PairsIn w A n L) : Calls Tryd.prog 7 #[.slice A n c] w fun e w' => e = .returned (.bool (decide (wtK L ≤ 60000))) ∧ Below w.heap.size w w' := light_any A n c L w h

/-- The pairs of the first call. -/
def aliveS : List KV := [(⟨#[97]⟩, ⟨#[49]⟩), (⟨#[98]⟩, ⟨#[50]⟩)]
theorem aliveS_facts : writeE aliveS = 0 ∧ wtK aliveS ≤ 60000 ∧ getK aliveS ⟨#[98]⟩ = (⟨#[50]⟩, 0) ∧ (fromK aliveS ⟨#[97, 97]⟩ (-1)).length = 1 ∧ blocksK aliveS = 1 ∧ aliveS.length = 2 := by
  refine ⟨?_, by decide +kernel, by decide +kernel, by decide +kernel, by decide +kernel, rfl⟩
  have hr : risesK aliveS = true := by decide +kernel
  unfold writeE
  rw [if_neg (by rw [hr]; decide), build_light (by decide +kernel) hr, if_pos rfl, if_neg (by decide)]
theorem readT_empty : readT ⟨#[]⟩ = none := by
  unfold readT
  rw [if_pos (by decide)]

set_option maxRecDepth 100000 in
set_option maxHeartbeats 4000000 in
theorem alive13_any (w : World) (hT : LaidS w) : Calls Tryd.prog 8 #[] w fun e w' => e = .returned (.bool true) ∧ Below w.heap.size w w' := by
  obtain ⟨f1, f2, f3, f4, f5, f6⟩ := aliveS_facts
  have hz : Hid (Below w.heap.size w (w.alloc (.cells #[.string ⟨#[97]⟩, .string ⟨#[49]⟩, .string ⟨#[98]⟩, .string ⟨#[50]⟩] 35))) := Lib.hid (below_alloc (Below.refl _ _) (Nat.le_refl _) _)
  have hK : KeysAt (w.alloc (.cells #[.string ⟨#[97]⟩, .string ⟨#[49]⟩, .string ⟨#[98]⟩, .string ⟨#[50]⟩] 35)) (some ⟨w.heap.size, 0, none⟩) 2 aliveS := by
    have B := Blk.new w 35 #[.string ⟨#[97]⟩, .string ⟨#[49]⟩, .string ⟨#[98]⟩, .string ⟨#[50]⟩]
    refine ⟨rfl, fun i m hm => ?_⟩
    match i, hm with
    | 0, hm => cases hm; exact ⟨_, 0, rfl, B.lt, B.cell 0, B.cell 1⟩
    | 1, hm => cases hm; exact ⟨_, 0, rfl, B.lt, B.cell 2, B.cell 3⟩
    | i + 2, hm => simp [aliveS] at hm
  have CW := swrite_any (some ⟨w.heap.size, 0, none⟩) 2 2 aliveS 4621819117588971520 _ hK (Nat.le_refl _) f2 (hT.on hz.out)
  have CO := fun b W (h : WrtP aliveS 4621819117588971520 b) (hb : Below w.heap.size w W) => Lib.hid (sopen_any aliveS 4621819117588971520 b W h (hT.on hb))
  have CE := fun W (hb : Below w.heap.size w W) => Lib.hid (show Calls Tryd.prog 10 #[.string ⟨#[]⟩] W fun e w' => e = .returned (.tuple #[.pointer none, .int .i64 31]) ∧ Below W.heap.size W w' from by
    have := sopenN_any ⟨#[]⟩ W (by decide) (hT.on hb)
    rw [readT_empty] at this
    exact this)
  generalize bloomT (headsK aliveS) 4621819117588971520 = F at CO
  have CG := fun W t (h : TabAt W t aliveS F) (hb : Below w.heap.size w W) => Lib.hid (sget_any h (hT.on hb) ⟨#[98]⟩ (by decide))
  have CF := fun W t (h : TabAt W t aliveS F) (hb : Below w.heap.size w W) => Lib.hid (sfrom_any h (hT.on hb) ⟨#[97, 97]⟩ (-1) (by decide))
  have CC := fun W t (h : TabAt W t aliveS F) => Lib.hid (scount_any h)
  have CB := fun W t (h : TabAt W t aliveS F) => Lib.hid (sblocks_any h)
  rw [f1] at CW
  rw [f3] at CG
  rw [f6] at CC
  rw [f5] at CB
  have CW := Lib.hid CW
  have F4 := Lib.hid f4
  clear f1 f2 f3 f4 f5 f6 hK hT
  go_enter Tryd.func8, Tryd.ntmps8
  go_wp2_with fail
  refine CW.out.mono ?_
  rintro e w1 ⟨b, rfl, h1, -, hb1⟩
  have HB1 := Lib.hid (hz.out.trans (hb1.mono hz.out.size))
  have CO1 := CO b w1 (h1 (by first | rfl | trivial)) HB1.out
  clear h1 hb1 CO CW hz
  go_wp2_with fail
  refine CO1.out.mono ?_
  rintro e w2 ⟨t, rfl, ht, hb2⟩
  have HB2 := Lib.hid (HB1.out.trans (hb2.mono HB1.out.size))
  have HT2 := Lib.hid ht
  have CG2 := CG w2 t ht HB2.out
  clear hb2 ht CO1 CG HB1
  go_wp2_with fail
  refine CG2.out.mono ?_
  rintro e w3 ⟨rfl, hb3⟩
  have HB3 := Lib.hid (HB2.out.trans (hb3.mono HB2.out.size))
  have HT3 := Lib.hid (HT2.out.up hb3)
  have CF3 := CF w3 t HT3.out HB3.out
  clear hb3 CG2 CF HB2 HT2
  go_wp2_with fail
  refine CF3.out.mono ?_
  rintro e w4 ⟨v, rfl, ho, hb4⟩
  obtain ⟨va, vc, rfl⟩ := ho.slice
  rw [F4.out]
  have HB4 := Lib.hid (HB3.out.trans (hb4.mono HB3.out.size))
  have HT4 := Lib.hid (HT3.out.up hb4)
  have CE4 := CE w4 HB4.out
  clear ho hb4 CF3 CE HB3 HT3
  go_wp2_with fail
  refine CE4.out.mono ?_
  rintro e w5 ⟨rfl, hb5⟩
  have HB5 := Lib.hid (HB4.out.trans (hb5.mono HB4.out.size))
  have HT5 := Lib.hid (HT4.out.up hb5)
  have CC5 := CC w5 t HT5.out
  clear hb5 CE4 CC HB4 HT4
  go_wp2_with fail
  refine CC5.out.mono ?_
  rintro e w6 ⟨rfl, hb6⟩
  have HB6 := Lib.hid (HB5.out.trans (hb6.mono HB5.out.size))
  have CB6 := CB w6 t (HT5.out.up hb6)
  clear hb6 CC5 CB HB5 HT5
  go_wp2_with fail
  refine CB6.out.mono ?_
  rintro e w7 ⟨rfl, hb7⟩
  have HB7 := Lib.hid (HB6.out.trans (hb7.mono HB6.out.size))
  clear hb7 CB6 HB6
  go_wp2_with fail
  go_ret
  exact ⟨rfl, HB7.out⟩
end Go.Proofs.YtcbgflidlpmhcaaDoor

namespace Go.Proofs.YtcbgflidlpmhcaaDoor
open Go.RowKit
/-- A table that came of any bytes. -/
def TabOk (W : World) (t : Nat) : Prop := ∃ L n F, TabN W t L n F
theorem TabOk.up {W W' : World} {t : Nat} (h : TabOk W t) (hb : Below W.heap.size W W') : TabOk W' t := by
  obtain ⟨L, n, F, h⟩ := h
  exact ⟨L, n, F, h.up hb⟩
theorem sopen_bytes (b : ByteArray) (W : World) (hb : b.size ≤ 1000000) (hT : LaidS W) :
    Calls Tryd.prog 10 #[.string b] W fun e w' => ∃ (o : Option Addr) (er : Int), e = .returned (.tuple #[.pointer o, .int .i64 er]) ∧ Hid ((er = 0 ∧ fitsB b ∧ ∃ t, o = some ⟨t, 0, none⟩ ∧ TabOk w' t) ∨ (er = 31 ∧ o = none)) ∧ Below W.heap.size W w' := by
  refine (sopenN_any b W hb hT).mono ?_
  intro e w' h
  cases hr : readT b with
  | none =>
    rw [hr] at h
    obtain ⟨rfl, h2⟩ := h
    exact ⟨none, 31, rfl, Lib.hid (Or.inr ⟨rfl, rfl⟩), h2⟩
  | some x =>
    obtain ⟨l, n, F⟩ := x
    rw [hr] at h
    obtain ⟨t, rfl, h2, h3⟩ := h
    exact ⟨some ⟨t, 0, none⟩, 0, rfl, Lib.hid (Or.inl ⟨rfl, (readT_ok hr).1, t, rfl, l, n, F, h2⟩), h3⟩
theorem sget_ok {W : World} {t : Nat} (h : TabOk W t) (_hT : LaidS W) (key : ByteArray) (_hk : key.size ≤ 140737488351232) : Calls Tryd.prog 13 #[.pointer (some ⟨t, 0, none⟩), .string key] W fun e w' => ∃ (v : ByteArray) (er : Int), e = .returned (.tuple #[.string v, .int .i64 er]) ∧ Below W.heap.size W w' := by
  obtain ⟨L, n, F, h⟩ := h
  exact (sgetN_any h key).mono fun e w' ⟨h1, h2⟩ => ⟨_, _, h1, h2⟩
theorem sfrom_ok {W : World} {t : Nat} (h : TabOk W t) (_hT : LaidS W) (key : ByteArray) (most : Int) (_hk : key.size ≤ 140737488351232) : Calls Tryd.prog 12 #[.pointer (some ⟨t, 0, none⟩), .string key, .int .i64 most] W fun e w' => ∃ v, e = .returned v ∧ Below W.heap.size W w' := by
  obtain ⟨L, n, F, h⟩ := h
  exact (sfromN_any h key most).mono fun e w' ⟨v, h1, _, h2⟩ => ⟨v, h1, h2⟩
theorem smay_ok {W : World} {t : Nat} (h : TabOk W t) (hT : LaidS W) (key : ByteArray) (hk : key.size ≤ 140737488351232) : Calls Tryd.prog 14 #[.pointer (some ⟨t, 0, none⟩), .string key] W fun e w' => ∃ v : Bool, e = .returned (.bool v) ∧ Below W.heap.size W w' := by
  obtain ⟨L, n, F, h⟩ := h
  exact (smayN_any h hT key (by omega)).mono fun e w' ⟨h1, h2⟩ => ⟨_, h1, h2⟩

/-! ### Of a table that has no pairs -/
section
variable {pv : Value} {W : World}
set_option maxRecDepth 100000 in
set_option maxHeartbeats 1000000 in
theorem nget_any (h : Calls Tryd.prog 34 #[pv] W fun e w' => e = .returned (.bool true) ∧ w' = W) (key : ByteArray) : Calls Tryd.prog 13 #[pv, .string key] W fun e w' => e = .returned (.tuple #[.string ⟨#[]⟩, .int .i64 1]) ∧ w' = W := by
  have CN := Lib.hid h
  clear h
  go_enter Tryd.func13, Tryd.ntmps13
  go_wp2_with fail
  refine CN.out.mono ?_
  rintro e w1 ⟨rfl, rfl⟩
  go_wp2_with fail
  go_ret2
  exact ⟨rfl, rfl⟩
set_option maxRecDepth 100000 in
set_option maxHeartbeats 1000000 in
theorem nfrom_any (h : Calls Tryd.prog 34 #[pv] W fun e w' => e = .returned (.bool true) ∧ w' = W) (key : ByteArray) (most : Int) : Calls Tryd.prog 12 #[pv, .string key, .int .i64 most] W fun e w' => e = .returned (.slice none 0 0) ∧ w' = W := by
  have CN := Lib.hid h
  clear h
  go_enter Tryd.func12, Tryd.ntmps12
  go_wp2_with fail
  refine CN.out.mono ?_
  rintro e w1 ⟨rfl, rfl⟩
  go_wp2_with fail
  go_ret
  exact ⟨rfl, rfl⟩
set_option maxRecDepth 100000 in
set_option maxHeartbeats 1000000 in
theorem ncount_any (h : Calls Tryd.prog 34 #[pv] W fun e w' => e = .returned (.bool true) ∧ w' = W) : Calls Tryd.prog 19 #[pv] W fun e w' => e = .returned (.int .i64 0) ∧ w' = W := by
  have CN := Lib.hid h
  clear h
  go_enter Tryd.func19, Tryd.ntmps19
  go_wp2_with fail
  refine CN.out.mono ?_
  rintro e w1 ⟨rfl, rfl⟩
  go_wp2_with fail
  go_ret
  exact ⟨rfl, rfl⟩
set_option maxRecDepth 100000 in
set_option maxHeartbeats 1000000 in
theorem nblocks_any (h : Calls Tryd.prog 34 #[pv] W fun e w' => e = .returned (.bool true) ∧ w' = W) : Calls Tryd.prog 20 #[pv] W fun e w' => e = .returned (.int .i64 0) ∧ w' = W := by
  have CN := Lib.hid h
  clear h
  go_enter Tryd.func20, Tryd.ntmps20
  go_wp2_with fail
  refine CN.out.mono ?_
  rintro e w1 ⟨rfl, rfl⟩
  go_wp2_with fail
  go_ret
  exact ⟨rfl, rfl⟩
set_option maxRecDepth 100000 in
set_option maxHeartbeats 1000000 in
theorem nfirst_any (h : Calls Tryd.prog 34 #[pv] W fun e w' => e = .returned (.bool true) ∧ w' = W) : Calls Tryd.prog 21 #[pv] W fun e w' => e = .returned (.string ⟨#[]⟩) ∧ w' = W := by
  have CN := Lib.hid h
  clear h
  go_enter Tryd.func21, Tryd.ntmps21
  go_wp2_with fail
  refine CN.out.mono ?_
  rintro e w1 ⟨rfl, rfl⟩
  go_wp2_with fail
  go_ret
  exact ⟨rfl, rfl⟩
set_option maxRecDepth 100000 in
set_option maxHeartbeats 1000000 in
theorem nlast_any (h : Calls Tryd.prog 34 #[pv] W fun e w' => e = .returned (.bool true) ∧ w' = W) : Calls Tryd.prog 22 #[pv] W fun e w' => e = .returned (.string ⟨#[]⟩) ∧ w' = W := by
  have CN := Lib.hid h
  clear h
  go_enter Tryd.func22, Tryd.ntmps22
  go_wp2_with fail
  refine CN.out.mono ?_
  rintro e w1 ⟨rfl, rfl⟩
  go_wp2_with fail
  go_ret
  exact ⟨rfl, rfl⟩
set_option maxRecDepth 100000 in
set_option maxHeartbeats 1000000 in
theorem nmay_any (h : Calls Tryd.prog 34 #[pv] W fun e w' => e = .returned (.bool true) ∧ w' = W) (key : ByteArray) : Calls Tryd.prog 14 #[pv, .string key] W fun e w' => e = .returned (.bool false) ∧ w' = W := by
  have CN := Lib.hid h
  clear h
  go_enter Tryd.func14, Tryd.ntmps14
  go_wp2_with fail
  refine CN.out.mono ?_
  rintro e w1 ⟨rfl, rfl⟩
  go_wp2_with fail
  go_ret
  exact ⟨rfl, rfl⟩
end
end Go.Proofs.YtcbgflidlpmhcaaDoor

namespace Go.Proofs.YtcbgflidlpmhcaaDoor
open Go.RowKit

theorem bytes_of_obj {w : World} {g n cap : Nat} {cs : Array Value} {t : TypeId} {fr : Nat × Nat} {l : List UInt8} (ho : w.heap[g]? = some (.cells cs t fr)) (hn : n = l.length) (hl : ∀ j (hj : j < l.length), cs[j]? = some (b8 l[j])) :
    (convert 38 9 (.slice (some ⟨g, 0, none⟩) n cap)).run Tryd.prog w = .ok (.string ⟨l.toArray⟩) w := by
  subst hn
  refine run_convert_bytes_back w 38 9 5 ⟨g, 0, none⟩ cap l Tryd.underlying38 Tryd.underlying5 Tryd.underlying9 fun j hj => ?_
  have := cell_of_row w g j cs t fr ho
  have e : ({ block := g, off := 0, spot := none } : Addr).add j = ⟨g, j, none⟩ := by simp [Addr.add]; intro h; exact h.symm
  rw [e, this, hl j hj]
  rfl
end Go.Proofs.YtcbgflidlpmhcaaDoor

namespace Go.Proofs.YtcbgflidlpmhcaaDoor
open Go.RowKit Go.WideShapes Go.ChangeShapes
section
variable {H : Type} {enc : TypeId × Value → H} {P : Program}
theorem post_of_below {f : Func} {s : ChangeSpec} {apart fresh handsOn again : Bool} {W W' : World} {args : Array Value} {v : Value} {ds gs : List (DataW H)} {before pa pv : List MemPlace}
    (hW : DataW.Whole enc P f.params.toList s.vars apart W args.toList ds gs before)
    (hres : ∀ (b : Nat) (sp : Nat → Bool) (hd : Bool), DataW.TrodAll enc P W' b sp hd f.resultTypes.toList (v.resultList f.resultTypes.size) (s.fn H (ds ++ gs)).results [])
    (hargs : ∀ sp : Nat → Bool, (∀ p ∈ before, sp p.block = true) → DataW.TrodAll enc P W' 0 sp true f.params.toList args.toList (s.fn H (ds ++ gs)).args pa)
    (hvars : ∀ sp : Nat → Bool, (∀ p ∈ before, sp p.block = true) → DataW.TrodVars enc P W' sp s.vars (s.fn H (ds ++ gs)).vars pv)
    (hps : before = pa ++ pv) (hb : Below W.heap.size W W')
    (hok : ∀ (j : Nat) (t : TypeId) (r : Value), f.resultTypes[j]? = some t → (v.resultList f.resultTypes.size)[j]? = some r → Value.okWide P W' .any 0 t r) :
    s.post enc P f apart fresh handsOn again W args v W' := by
  have hlt : ∀ p ∈ before, p.block < W.heap.size := fun p hp => hW.lt p hp
  have hold : ∀ p ∈ before, (fun b => decide (b < W.heap.size)) p.block = true := fun p hp => by simpa using hlt p hp
  refine ⟨ds, gs, before, [], pa, pv, hW, hres _ _ _, hargs _ hold, hvars _ hold, World.keptBut_mono (fun p hp => ⟨hp, ?_⟩) (hb.frame (· ∈ before)), fun _ => ?_⟩
  · rw [hps, List.mem_append] at hp
    exact Or.inr hp
  · obtain ⟨_, _, _, _, _, hz, hn⟩ := hW
    refine ⟨hok, _, _, ([] ++ pa) ++ pv, ⟨[] ++ pa, pv, trodAll_append (hargs _ (fun _ _ => rfl)) (hres _ _ _), hvars _ (fun _ _ => rfl), rfl, ?_, ?_⟩, ?_⟩
    · intro b off hp
      have hin : MemPlace.cell b off ∈ before := by rw [hps]; simpa using hp
      rw [hb.frozen (hlt _ hin)]
      exact hz b off hin
    · intro ha
      have := hn ha
      rw [hps] at this
      simpa using this
    · intro p hp _
      rw [hps]
      simpa using hp
end
end Go.Proofs.YtcbgflidlpmhcaaDoor

namespace Go.Proofs.YtcbgflidlpmhcaaDoor
section
variable {H : Type} {enc : TypeId × Value → H}
theorem witness_row_shaped {C : Checked} {os : Os} {f : FuncId} {fn : Func} {s : OpenSpec} {conds : List PathCond} {apart : Bool} {laid : List (String × DataW Unit)} (modest : Bool) (w0 : World) (args : Array Value) (hos : w0.os = os)
    (hsh : (w0.forCall (fun _ _ => 0) ⟨#[], args, []⟩).Shaped C.prog)
    (hok : Input.okWideB C.prog (w0.forCall (fun _ _ => 0) ⟨#[], args, []⟩) f ⟨#[], args, []⟩ = true)
    (hrow : s.preRow enc C.prog fn conds apart laid (w0.forCall (fun _ _ => 0) ⟨#[], args, []⟩).memory args) :
    ∃ (w : World) (tape : Tape) (i : Input), w.os = os ∧ (w.forCall tape i).Shaped C.prog ∧ i.vars = [] ∧ Input.okWide C.prog (w.forCall tape i) .any w.heap.size f i ∧
      s.preRow enc C.prog fn conds apart laid (w.forCall tape i).memory i.args ∧ ({ modest := modest } : Assume).holds C.prog (lone (Frame.enter C.prog f i.args .normal) [] (w.forCall tape i)) :=
  ⟨w0, fun _ _ => 0, ⟨#[], args, []⟩, hos, hsh, (Input.okWide_of_okWideB (base := 0) hok).1, (Input.okWide_of_okWideB hok).2, hrow, by
    simp only [Assume.holds]
    exact ⟨by simp, by simp, fun _ => Modest.zero, by simp, by simp⟩⟩
end
end Go.Proofs.YtcbgflidlpmhcaaDoor

namespace Go.Proofs.YtcbgflidlpmhcaaDoor
open Go.RowKit

set_option maxRecDepth 100000 in
set_option maxHeartbeats 1000000 in
theorem rget_bad (s : ByteArray) (w : World) (h : s.size < 1 ∨ 7 < s.size) :
    Calls Tryd.prog 16 #[.string s] w fun e w' => e = .returned (.tuple #[.int .i64 0, .int .i64 1]) ∧ w = w' := by
  by_cases h1 : s.size < 1
  · have h2 : decide (7 < (s.size : Int)) = false := decide_eq_false (by omega)
    clear h
    go_enter Tryd.func16, Tryd.ntmps16
    go_wp2
    go_ret2
    exact ⟨rfl, rfl⟩
  · have h2 : 7 < s.size := by omega
    clear h
    go_enter Tryd.func16, Tryd.ntmps16
    go_wp2
    go_ret2
    exact ⟨rfl, rfl⟩

set_option maxRecDepth 100000 in
set_option maxHeartbeats 1000000 in
theorem rget_ok (s : ByteArray) (w : World) (h1 : 1 ≤ s.size) (h7 : s.size ≤ 7) :
    Calls Tryd.prog 16 #[.string s] w fun e w' => e = .returned (.tuple #[.int .i64 (getL s.data.toList : Int), .int .i64 0]) ∧ w = w' := by
  go_enter Tryd.func16, Tryd.ntmps16
  go_wp2
  go_loop [4, 5] (fun v i => ∃ k a : Nat, k ≤ s.size ∧ i = .int .i64 (k : Int) ∧ v = .int .i64 (a : Int) ∧ a < 2 ^ (8 * k) ∧ Hid (a = getL (s.data.toList.take k))) (fun _ i => s.size - (intOf i).toNat)
  case atStart => exact ⟨0, 0, by omega, rfl, rfl, by decide, rfl⟩
  case round =>
    obtain ⟨k, a, hk, rfl, rfl, ha, Ha⟩ := hrel
    by_cases hl : k < s.size
    · have hb8 := UInt8.toNat_lt s[k]
      have h56 : (2 : Nat) ^ (8 * k) ≤ 2 ^ 48 := Nat.pow_le_pow_right (by decide) (by omega)
      have ha48 : a < 281474976710656 := by omega
      have hlt : a * 256 + s[k].toNat < 2 ^ (8 * (k + 1)) := by
        have : 2 ^ (8 * (k + 1)) = 2 ^ (8 * k) * 256 := by rw [Nat.mul_add, Nat.pow_add]
        omega
      have hsn := getL_snoc s k hl
      rw [← Ha.out] at hsn
      have Hsn := Lib.hid hsn
      have Hlt := Lib.hid hlt
      clear hsn hlt ha h56
      go_wp2
      go_round
      case rel => exact ⟨k + 1, a * 256 + s[k].toNat, by omega, by go_num, by go_num, Hlt.out, Hsn.out.symm⟩
      case measure => simp [intOf]; omega
    · obtain rfl : k = s.size := by omega
      have hae : a = getL s.data.toList := by
        have := Ha.out
        rwa [List.take_of_length_le (by simp)] at this
      have Hae := Lib.hid hae
      clear hae
      go_wp2
      go_ret2
      exact ⟨by rw [← Hae.out]; rfl, rfl⟩

theorem be_bytes (v n j : Nat) (h : j < n) : (be v n).drop j = UInt8.ofNat (v / 2 ^ (8 * (n - 1 - j)) % 256) :: (be v n).drop (j + 1) := by
  have hl : j < (be v n).length := by rw [be_length]; exact h
  have hg := be_get v n j h
  rw [List.getElem?_eq_getElem hl] at hg
  injection hg with hg
  rw [List.drop_eq_getElem_cons hl, hg]

theorem be_back (v n j k : Nat) (h : j + 1 + k = n) (x : Int) (hx : x = ((v / 2 ^ (8 * k) : Nat) : Int) % 256) :
    ((List.replicate (j + 1) (0 : UInt8) ++ (be v n).drop (j + 1)).map b8).set j (.int .u8 x) = (List.replicate j (0 : UInt8) ++ (be v n).drop j).map b8 := by
  have hb : Value.int .u8 x = b8 (UInt8.ofNat (v / 2 ^ (8 * k) % 256)) := by
    unfold b8
    rw [← u8_of _ (by omega), hx]
    congr 1
  rw [be_bytes v n j (by omega), show n - 1 - j = k from by omega, hb, ← List.map_set]
  congr 1
  rw [List.replicate_succ', List.append_assoc, List.set_append_right _ _ (by simp)]
  simp

theorem putIs_of (v n _k : Nat) (h1 : 1 ≤ n) (h7 : n ≤ 7) (s : ByteArray) (hs : s = ⟨(be v n).toArray⟩) (h : v / 2 ^ (8 * n) = 0) : PutIs v n s 0 := by
  refine Or.inl ⟨rfl, by omega, by omega, by omega, ?_, ?_⟩
  · have h2 : v < 2 ^ (8 * n) := by
      rcases Nat.lt_or_ge v (2 ^ (8 * n)) with h3 | h3
      · exact h3
      · have := (Nat.le_div_iff_mul_le (Nat.two_pow_pos (8 * n))).2 (show 1 * 2 ^ (8 * n) ≤ v by omega)
        omega
    rw [Int.toNat_natCast]
    exact_mod_cast h2
  · rw [Int.toNat_natCast, Int.toNat_natCast]; exact hs

theorem putIs_not (v n : Nat) (h : 0 < v / 2 ^ (8 * n)) : PutIs v n ByteArray.empty 1 := by
  refine Or.inr ⟨rfl, rfl, Or.inr (Or.inr (Or.inr ?_))⟩
  rw [Int.toNat_natCast]
  have h2 : 2 ^ (8 * n) ≤ v := by
    have := (Nat.le_div_iff_mul_le (Nat.two_pow_pos (8 * n))).1 h
    omega
  exact_mod_cast h2

theorem putIs_one {v n : Int} {s t : ByteArray} {e f : Int} (h : PutIs v n s e) (k : PutIs v n t f) : s = t ∧ e = f := by
  rcases h with ⟨h0, h1, h2, h3, h4, h5⟩ | ⟨h0, h1, h2⟩
  · rcases k with ⟨k0, k1, k2, k3, k4, k5⟩ | ⟨k0, k1, k2⟩
    · exact ⟨h5.trans k5.symm, h0.trans k0.symm⟩
    · omega
  · rcases k with ⟨k0, k1, k2, k3, k4, k5⟩ | ⟨k0, k1, k2⟩
    · omega
    · exact ⟨h1.trans k1.symm, h0.trans k0.symm⟩

set_option maxRecDepth 100000 in
set_option maxHeartbeats 1000000 in
theorem rput_bad (v n : Int) (w : World) (h : n < 1 ∨ 7 < n ∨ v < 0) :
    Calls Tryd.prog 18 #[.int .i64 v, .int .i64 n] w fun e w' => e = .returned (.tuple #[.string ByteArray.empty, .int .i64 1]) ∧ w = w' := by
  by_cases h1 : n < 1
  · clear h
    go_enter Tryd.func18, Tryd.ntmps18
    go_wp2
    go_ret2
    exact ⟨rfl, rfl⟩
  by_cases h2 : 7 < n
  · clear h
    go_enter Tryd.func18, Tryd.ntmps18
    go_wp2
    go_ret2
    exact ⟨rfl, rfl⟩
  have h3 : v < 0 := by omega
  clear h
  go_enter Tryd.func18, Tryd.ntmps18
  go_wp2
  go_ret2
  exact ⟨rfl, rfl⟩

set_option maxRecDepth 100000 in
set_option maxHeartbeats 2000000 in
theorem rput_nat (v n : Nat) (w : World) (h1 : 1 ≤ n) (h7 : n ≤ 7) (hv : v < 9223372036854775808) :
    Calls Tryd.prog 18 #[.int .i64 (v : Int), .int .i64 (n : Int)] w fun e w' => ∃ (s : ByteArray) (er : Int), e = .returned (.tuple #[.string s, .int .i64 er]) ∧ Hid (PutIs v n s er) ∧ Below w.heap.size w w' := by
  obtain ⟨i0, hi0, hz0, hz1, hz2⟩ := info_parts u8info
  go_enter Tryd.func18, Tryd.ntmps18
  go_wp2_with (at_make; refine wpList_make_full _ rfl (.tmp 18) (.tmp 18) 38 rfl w.heap.size 5 i0 (.int .u8 0) 1 Tryd.underlying38 hi0 hz0 hz1 .i64 .i64 _ _ n rfl rfl rfl rfl ?b2 ?b3 ?b4 ?_)
  case b2 => rw [hz2]; omega
  case b3 => unfold maxLen; omega
  case b4 => exact Nat.le_refl _
  intro w1 hown hgr
  have hb1 : Below w.heap.size w w1 := (Below.refl _ _).grown hgr (Nat.le_refl _) (by simp)
  rw [show (madeCells #[Value.int IntKind.u8 0] n).toList = (List.replicate n (0 : UInt8)).map b8 from (toList_madeCells_one _ _).trans (by simp [b8])] at hown
  have Hown := Lib.hid hown
  clear hown hgr
  go_wp2
  go_loopw [0, 7] (fun x i wr => ∃ j k y : Nat, j + k = n ∧ i = .int .i64 ((j : Int) - 1) ∧ x = .int .i64 (y : Int) ∧ y ≤ v ∧ Hid (y = v / 2 ^ (8 * k)) ∧ wr.ownsRow w.heap.size 5 1 (.slice (some ⟨w.heap.size, 0, none⟩) n n) n ((List.replicate j 0 ++ (be v n).drop j).map b8) ∧ Below w.heap.size w wr)
    (fun _ i _ => (intOf i + 1).toNat)
  case atStart => exact ⟨n, 0, v, by omega, rfl, rfl, by omega, by show v = _; simp, by simpa [List.drop_of_length_le (Nat.le_of_eq (be_length v n))] using Hown.out, hb1⟩
  case round =>
    obtain ⟨j, k, y, hjk, hi, rfl, hy, Hy, hown, hbe⟩ := hrel
    cases j with
    | succ j =>
      rw [show (((j + 1 : Nat) : Int) - 1) = (j : Int) from by omega] at hi
      subst hi
      have hln : (List.replicate (j + 1) (0 : UInt8) ++ (be v n).drop (j + 1)).length = n := by simp [be]; omega
      have hc := hown.cellAt j (by omega)
      have hf := hown.frozenAt j
      obtain ⟨x, hx⟩ : ∃ x, ((List.replicate (j + 1) (0 : UInt8) ++ (be v n).drop (j + 1)).map b8)[j]? = some x := ⟨_, List.getElem?_eq_getElem (by rw [List.length_map, hln]; omega)⟩
      rw [hx] at hc
      have Hown' := Lib.hid hown
      have hjn : j < n := by omega
      clear hown hx hln
      go_wp2
      go_roundw
      case rel =>
        have hst := World.ownsRow.stored Hown'.out j (.int .u8 ((y : Int) % 256))
        rw [be_back v n j k (by omega) ((y : Int) % 256) (by rw [Hy.out])] at hst
        refine ⟨j, k + 1, y / 256, by omega, by go_num, by go_num, by omega, ?_, hst.1, below_setCell hbe (Nat.le_refl _) _⟩
        show _ = _
        rw [Hy.out, Nat.div_div_eq_div_mul, Nat.mul_add, Nat.pow_add]
      case measure => simp [intOf]
    | zero =>
      subst hi
      obtain rfl : k = n := by omega
      by_cases hpos : 0 < y
      · go_wp2
        go_ret2
        refine ⟨_, _, rfl, ?_, hbe⟩
        exact Lib.hid (putIs_not v k (by rw [← Hy.out]; exact hpos))
      · have hby : Byt wr w.heap.size 5 (.slice (some ⟨w.heap.size, 0, none⟩) k k) (be v k) := by
          unfold Byt
          rw [be_length]
          simpa using hown
        have hcv := hby.string (src := 38) (dst := 9) Tryd.underlying38 Tryd.underlying5 Tryd.underlying9
        clear hown hby
        go_wp2
        go_ret2
        exact ⟨_, _, rfl, Lib.hid (putIs_of v k 0 h1 h7 _ rfl (by rw [← Hy.out]; omega)), hbe⟩

theorem rput_any (v n : Int) (w : World) (hv : v < 9223372036854775808) :
    Calls Tryd.prog 18 #[.int .i64 v, .int .i64 n] w fun e w' => ∃ (s : ByteArray) (er : Int), e = .returned (.tuple #[.string s, .int .i64 er]) ∧ Hid (PutIs v n s er) ∧ Below w.heap.size w w' := by
  by_cases h : n < 1 ∨ 7 < n ∨ v < 0
  · refine (rput_bad v n w h).mono ?_
    rintro e w' ⟨rfl, rfl⟩
    exact ⟨_, _, rfl, Lib.hid (Or.inr ⟨rfl, rfl, by omega⟩), Below.refl _ _⟩
  · obtain ⟨n, rfl⟩ := Int.eq_ofNat_of_zero_le (show 0 ≤ n by omega)
    obtain ⟨v, rfl⟩ := Int.eq_ofNat_of_zero_le (show 0 ≤ v by omega)
    exact rput_nat v n w (by omega) (by omega) (by omega)
end Go.Proofs.YtcbgflidlpmhcaaDoor
