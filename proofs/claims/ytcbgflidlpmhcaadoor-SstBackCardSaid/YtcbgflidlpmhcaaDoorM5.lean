/-
  Several texts in one: The landed package block: read.
  The landed package block: Parse, with its deferred closure.
  The document's own answer to chapter 11, part 1: do the keys rise?
  The document's own answer to chapter 11, part 4: Seek, out of what Parse answers.
  The landed package block: Seek.
  The landed package sst, part 1: numbers as bytes, a key's head, its reader.
  Slices of structs of two whole numbers and two texts that came in: what a walk asks of them, out of how they read. No program is named.
  Slices of pairs of texts that came in: what a walk asks of them, out of how they read. No program is named.
  The laws of chapter 11: are pairs few and short enough; their first call.
  The document's own answers to chapter 13, part 1: Head, Blocks.
  Lists of texts that are lent with a mark behind them: SameTexts, LentTexts, StaysTexts.
  The document's own answers to chapter 13, part 3: Heads.
  The landed package sst, part 2: how many pairs a block takes; the heads of all keys; a key's place.
  The landed package sst, part 3: a table as it lies; what it tells.
  The landed package sst, part 4: a key's place in a table; Get; From.
  The landed package sst, part 5: From.
  Two strings.Builders side by side: what is written into the one leaves the other as it was.
  The landed package sst, part 6: Write.
  The landed package sst, part 7: Write.
-/
import Derived.Test.YtcbgflidlpmhcaaDoorM4
import Derived.Test.YtcbgflidlpmhcaaDoorM3
import Derived.Defers
import Derived.Recover
import Derived.LoopTactic
import Derived.Deep.RegionHeld3
import Derived.Deep.Cut
import Derived.BigQuiet
import Derived.Test.YtcbgflidlpmhcaaDoorM2
import Derived.Test.YtcbgflidlpmhcaaDoorM1
import Derived.Lib.SmallJoins
import Derived.Deep.Slices
import Derived.Deep.Strs
import Derived.SizedLaws
import Derived.Laws.IdiomArrays
import Derived.Lib.OwnBridge
import Derived.Shelf.Slices.CompactS
import Derived.Lib.BufferMore
namespace Go.Proofs.YtcbgflidlpmhcaaDoor
open Go.RowKit

theorem bpair_any {w : World} {B p : Nat} {s : ByteArray} {v : Value} {a : ByteArray} {L : List KV} (h : RdSt w B p s v a L) (hs : s.size ≤ 1000000) (ha : a.size ≤ 65536) (hL : L.length ≤ 1000000) (w0 : World) (h0 : Below B w0 w) (hB : B ≤ w0.heap.size) :
    Calls Tryd.prog 86 #[.pointer (some ⟨p, 0, none⟩)] w fun e w' => PairPost w0 B p L (stepP L.length (bl a) (bl s)) e w' := by
  by_cases hn : L.length = 0
  · exact bpair_zero h hs ha hL hn w0 h0 hB
  · exact bpair_more h hs ha hL hn w0 h0 hB

set_option maxRecDepth 100000 in
set_option maxHeartbeats 2000000 in
theorem unfixed_any (s : ByteArray) (w : World) (h : s.size = 4) :
    Calls Tryd.prog 85 #[.string s] w fun e w' => e = .returned (.int .i64 (getL (bl s) : Int)) ∧ w' = w := by
  have C := Lib.hid (get_ok s w (by omega) (by omega))
  have Y := fun W => Lib.hid (must_yes W)
  clear h
  go_enter Tryd.func85, Tryd.ntmps85
  go_wp2_with fail
  refine C.out.mono ?_
  rintro e w1 ⟨rfl, rfl⟩
  go_wp2_with fail
  refine (Y _).out.mono ?_
  rintro e w1 ⟨rfl, rfl⟩
  go_wp2_with fail
  go_ret
  exact ⟨rfl, rfl⟩

/-- How many bytes are left to the reader in block p. -/
def restLen (p : Nat) (w : World) : Nat := match w.cell? ⟨p, 0, none⟩ with
  | some (.string s) => s.size
  | _ => 0
theorem restLen_is {p : Nat} {w : World} {s : ByteArray} {v : Value} {a : ByteArray} (h : RdB w p s v a) : restLen p w = s.size := by
  unfold restLen
  rw [show w.cell? ⟨p, 0, none⟩ = some (.string s) from h.cell 0]
theorem step_less {i : Nat} {last rest r' : List UInt8} {m : KV} (h : stepP i last rest = some (m, r')) : r'.length < rest.length := by
  rw [(step_some h).1, List.length_append, onePair, List.length_append]
  have := pv_pos (comI i last (bl m.1))
  omega
/-- What read answers. -/
def ReadPost (w : World) : Option (List KV) → Ending → World → Prop
  | none, e, w' => e = gaveB ∧ Below w.heap.size w w'
  | some l, e, w' => Below w.heap.size w w' ∧ ∃ v, e = .returned v ∧ Own elKeys w' w.heap.size 35 v l
theorem sP_none1 {b : ByteArray} (h : b.size < 8 ∨ 524288 < b.size) : sParse b = none := by unfold sParse; rw [if_pos h]
theorem sP_none2 {b : ByteArray} (h : getL ((bl b).drop (b.size - 4)) ≠ crc ((bl b).take (b.size - 4))) : sParse b = none := by
  unfold sParse
  by_cases h1 : b.size < 8 ∨ 524288 < b.size
  · rw [if_pos h1]
  · rw [if_neg h1, if_pos h]
theorem sP_is {b : ByteArray} (h1 : ¬ (b.size < 8 ∨ 524288 < b.size)) (h2 : getL ((bl b).drop (b.size - 4)) = crc ((bl b).take (b.size - 4))) :
    sParse b = match strictP b.size 0 [] ((bl b).take (b.size - 8)) with
    | none => none
    | some l => if getL (((bl b).take (b.size - 4)).drop (b.size - 8)) = l.length then some l else none := by
  unfold sParse
  rw [if_neg h1, if_neg (fun h => h h2)]
  rfl

set_option maxRecDepth 100000 in
set_option maxHeartbeats 4000000 in
theorem read_any (b : ByteArray) (w : World) (hs : b.size ≤ 1000000) (hT : LaidB w) :
    Calls Tryd.prog 75 #[.string b] w fun e w' => ReadPost w (sParse b) e w' := by
  obtain ⟨R, hR⟩ : ∃ R, sParse b = R := ⟨_, rfl⟩
  rw [hR]
  have Y := fun W => Lib.hid (must_yes W)
  have N := fun W => Lib.hid (must_no W)
  by_cases h1 : b.size < 8 ∨ 524288 < b.size
  · obtain rfl : R = none := by rw [← hR]; exact sP_none1 h1
    clear hR
    by_cases h8 : b.size < 8
    · have g1 : ¬ (8 : Int) ≤ (b.size : Int) := by omega
      clear h1 h8
      go_enter Tryd.func75, Tryd.ntmps75
      go_wp2_with fail
      refine (N _).out.mono ?_
      rintro e w1 ⟨rfl, rfl⟩
      go_wp2_with fail
      exact ⟨rfl, rfl, Below.refl _ _⟩
    · have g1 : (8 : Int) ≤ (b.size : Int) := by omega
      have g2 : decide ((b.size : Int) ≤ 524288) = false := decide_eq_false (by omega)
      clear h1 h8
      go_enter Tryd.func75, Tryd.ntmps75
      go_wp2_with fail
      refine (N _).out.mono ?_
      rintro e w1 ⟨rfl, rfl⟩
      go_wp2_with fail
      exact ⟨rfl, rfl, Below.refl _ _⟩
  · have HR := Lib.hid hR
    have g1 : (8 : Int) ≤ (b.size : Int) := by omega
    have g2 : (b.size : Int) ≤ 524288 := by omega
    obtain ⟨m4, hm4⟩ : ∃ m, b.size - 4 = m := ⟨_, rfl⟩
    obtain ⟨m8, hm8⟩ : ∃ m, b.size - 8 = m := ⟨_, rfl⟩
    have g3 : wrap64 ((b.size : Int) - 4) = (m4 : Int) := by unfold wrap64; omega
    have g4 : IntKind.i64.wrap ((b.size : Int) - 4) = (m4 : Int) := by rw [IntKind.wrap_i64]; omega
    have g5 : (m4 : Int) ≤ (b.size : Int) := by omega
    have g6 : (0 : Int) ≤ (m4 : Int) := by omega
    have g7 : wrap64 ((b.size : Int) - 8) = (m8 : Int) := by unfold wrap64; omega
    have g8 : IntKind.i64.wrap ((b.size : Int) - 8) = (m8 : Int) := by rw [IntKind.wrap_i64]; omega
    have HT := Lib.hid hT
    have H1 := Lib.hid h1
    have Hm4 := Lib.hid hm4
    have Hm8 := Lib.hid hm8
    have b4 : bl (b.extract m4 b.size) = (bl b).drop m4 := bl_drop b m4
    have z4 : (b.extract m4 b.size).size = 4 := by simp; omega
    have c4 : bl (b.extract 0 m4) = (bl b).take m4 := bl_take b m4 (by omega)
    have y4 : (b.extract 0 m4).size = m4 := by simp; omega
    clear hR h1 hT hm4 hm8
    go_enter Tryd.func75, Tryd.ntmps75
    go_wp2_with fail
    refine (Y _).out.mono ?_
    rintro e w1 ⟨rfl, rfl⟩
    go_wp2_with fail
    go_quiet (fail)
    have hb2 : Hid (Below w1.heap.size w1 (w1.drewN nq)) := Lib.hid (below_drewN (Below.refl _ _) nq)
    have L2 := HT.out.on hb2.out
    generalize w1.drewN nq = w2 at *
    generalize b.extract m4 b.size = sm at *
    generalize b.extract 0 m4 = sd at *
    have CU := Lib.hid (unfixed_any sm w2 z4)
    have CS : Hid (Calls Tryd.prog 30 #[.string sd] w2 fun e w' => e = .returned (.int .i64 (crc (bl sd) : Int)) ∧ w2 = w') := Lib.hid (sum_any sd w2 (by omega) L2.halves)
    obtain ⟨x, hx⟩ : ∃ x, getL (bl sm) = x := ⟨_, rfl⟩
    obtain ⟨y, hy⟩ : ∃ y, crc (bl sd) = y := ⟨_, rfl⟩
    rw [hx] at CU
    rw [hy] at CS
    by_cases hxy : x = y
    · subst hxy
      have hst := HR.out
      rw [sP_is H1.out (by rw [Hm4.out, ← b4, ← c4, hx, hy]), Hm4.out, Hm8.out, ← c4] at hst
      have hd8 : (bl b).take m8 = (bl sd).take m8 := by
        rw [c4, List.take_take, Nat.min_eq_left (by have := Hm8.out; have := Hm4.out; omega)]
      rw [hd8] at hst
      have q5 : (m8 : Int) ≤ (sd.size : Int) := by have := Hm8.out; have := Hm4.out; omega
      have q6 : (0 : Int) ≤ (m8 : Int) := by omega
      have p8 : bl (sd.extract 0 m8) = (bl sd).take m8 := bl_take sd m8 (by omega)
      have k8 : bl (sd.extract m8 m4) = (bl sd).drop m8 := by have := bl_drop sd m8; rw [y4] at this; exact this
      have x8 : (sd.extract m8 m4).size = 4 := by have := Hm8.out; have := Hm4.out; simp; omega
      have v8 : (sd.extract 0 m8).size ≤ b.size := by simp; omega
      rw [← p8, ← k8] at hst
      have HR2 := Lib.hid hst
      clear hst hd8 p8 k8 hx hy b4 c4 z4 HR H1 L2
      go_wp2_with fail
      refine CU.out.mono ?_
      rintro e w3 ⟨rfl, rfl⟩
      go_wp2_with fail
      refine CS.out.mono ?_
      rintro e w4 ⟨rfl, rfl⟩
      go_wp2_with fail
      refine (Y _).out.mono ?_
      rintro e w5 ⟨rfl, rfl⟩
      go_wp2_with fail
      go_quiet (fail)
      have hb6 : Hid (Below w1.heap.size w1 (w5.drewN nq)) := Lib.hid (below_drewN hb2.out nq)
      generalize sd.extract 0 m8 = sp at *
      generalize sd.extract m8 m4 = ct at *
      generalize w5.drewN nq = w6 at *
      obtain ⟨O, hO⟩ : ∃ O, strictP b.size 0 [] (bl sp) = O := ⟨_, rfl⟩
      have hr2 := HR2.out
      rw [hO] at hr2
      have HR3 := Lib.hid hr2
      have HO := Lib.hid hO
      have CU2 := fun W => Lib.hid (unfixed_any ct W x8)
      have R0 : Hid (RdSt (w6.alloc (.cells #[.string sp, .slice none 0 0, .string ⟨#[]⟩] 107)) w1.heap.size w6.heap.size sp (.slice none 0 0) ⟨#[]⟩ []) := Lib.hid ⟨Blk.new _ _ _, World.ownsRow_nil _ _ _ _, hb6.out.size⟩
      have B0 : Hid (Below w1.heap.size w1 (w6.alloc (.cells #[.string sp, .slice none 0 0, .string ⟨#[]⟩] 107))) := Lib.hid (below_alloc hb6.out (Nat.le_refl _) _)
      clear hr2 hO HR2 CU CS hb2 hb6
      go_wp2_with fail
      generalize w6.alloc (.cells #[.string sp, .slice none 0 0, .string ⟨#[]⟩] 107) = w7 at *
      generalize w6.heap.size = p at *
      go_loopw [] (fun wr => ∃ (s : ByteArray) (v : Value) (a : ByteArray) (l : List KV) (f : Nat), Hid (RdSt wr w1.heap.size p s v a l) ∧ Hid (goOn l (strictP f l.length (bl a) (bl s)) = O) ∧ s.size ≤ f ∧ s.size + l.length ≤ 1000000 ∧ a.size ≤ 65536 ∧ Hid (Below w1.heap.size w1 wr)) (fun wr => restLen p wr)
      case atStart => exact ⟨sp, _, _, [], b.size, R0, Lib.hid (by rw [goOn_nil]; exact HO.out), by omega, by simp; omega, by decide, B0⟩
      case round =>
        obtain ⟨s, v, a, l, f, HS, HG, hf, hsl, ha, HB⟩ := hrel
        have c0 : wr.cell? ⟨p, 0, none⟩ = some (.string s) := HS.out.blk.cell 0
        by_cases hs0 : bl s = []
        · have e0 : s.toList.isEmpty = true := by rw [Lib.toList_data, show s.data.toList = [] from hs0]; rfl
          have hg := HG.out
          rw [hs0, strict_nil, goOn, List.append_nil] at hg
          subst hg
          obtain ⟨ao, co, rfl⟩ := HS.out.own.slice
          have c1 : wr.cell? ⟨p, 1, none⟩ = some (.slice ao l.length co) := HS.out.blk.cell 1
          have hr3 := HR3.out
          have HO2 := Lib.hid HS.out.own
          clear hs0 HG HR3
          obtain ⟨y, hy⟩ : ∃ y, getL (bl ct) = y := ⟨_, rfl⟩
          rw [hy] at CU2
          dsimp only at hr3
          rw [hy] at hr3
          clear hy
          go_wp2_with fail
          by_cases hyl : y = l.length
          · subst hyl
            rw [if_pos rfl] at hr3
            subst hr3
            go_upto_region 8 with fail
            go_region_held3 (fun W => W.cell? ⟨p, 1, none⟩ = some (.slice ao l.length co))
              (first | exact c1 | assumption)
              (first
                | (go_at_call 84; refine (Y _).out.mono ?_; rintro e w9 ⟨rfl, rfl⟩)
                | (go_at_call 85; refine (CU2 _).out.mono ?_; rintro e w8 ⟨rfl, rfl⟩))
            clear CU2
            have c2 : wr.drew.cell? ⟨p, 1, none⟩ = some (.slice ao l.length co) := c1
            go_wp2_with fail
            go_ret
            exact ⟨Below.drew HB.out, _, rfl, HO2.out⟩
          · rw [if_neg hyl] at hr3
            subst hr3
            have HBd := Lib.hid (Below.drew HB.out)
            have hyl' : ((y : Int) == (l.length : Int)) = false := by rw [beq_eq_false_iff_ne]; omega
            go_upto_region 8 with fail
            go_region_dies
            · rename_i K hK
              refine (CU2 _).out.mono ?_
              rintro e w8 ⟨rfl, rfl⟩
              refine hK _ _ ?_
              refine wpAny_ready (rs := [3]) (by kernel_rfl) (by simp) ?_
              refine AllReady.cons rfl (fun K3 hK3 => ?_) AllReady.nil
              go_simp
              refine hK3 _ _ ?_
              refine wpAny_ready (rs := [4]) (by kernel_rfl) (by simp) ?_
              refine AllReady.cons rfl (fun K4 hK4 => ?_) AllReady.nil
              go_simp
              refine hK4 _ _ ?_
              refine wpAny_ready (rs := [5]) (by kernel_rfl) (by simp) ?_
              refine AllReady.cons rfl (fun K5 hK5 => ?_) AllReady.nil
              go_simp
              refine hK5 _ _ ?_
              refine wpAny_ready (rs := [6]) (by kernel_rfl) (by simp) ?_
              refine AllReady.cons rfl (fun K6 hK6 => ?_) AllReady.nil
              go_simp
              refine (N _).out.mono ?_
              rintro e w9 ⟨rfl, rfl⟩
              go_wp2_with fail
              exact ⟨rfl, rfl, HBd.out⟩
            · rename_i K hK
              refine (CU2 _).out.mono ?_
              rintro e w8 ⟨rfl, rfl⟩
              refine hK _ _ ?_
              refine wpAny_ready (rs := [4]) (by kernel_rfl) (by simp) ?_
              refine AllReady.cons rfl (fun K4 hK4 => ?_) AllReady.nil
              go_simp
              refine hK4 _ _ ?_
              refine wpAny_ready (rs := [5]) (by kernel_rfl) (by simp) ?_
              refine AllReady.cons rfl (fun K5 hK5 => ?_) AllReady.nil
              go_simp
              refine hK5 _ _ ?_
              refine wpAny_ready (rs := [6]) (by kernel_rfl) (by simp) ?_
              refine AllReady.cons rfl (fun K6 hK6 => ?_) AllReady.nil
              go_simp
              refine (N _).out.mono ?_
              rintro e w9 ⟨rfl, rfl⟩
              go_wp2_with fail
              exact ⟨rfl, rfl, HBd.out⟩
            · rename_i K hK
              refine (CU2 _).out.mono ?_
              rintro e w8 ⟨rfl, rfl⟩
              refine hK _ _ ?_
              refine wpAny_ready (rs := [5]) (by kernel_rfl) (by simp) ?_
              refine AllReady.cons rfl (fun K5 hK5 => ?_) AllReady.nil
              go_simp
              refine hK5 _ _ ?_
              refine wpAny_ready (rs := [6]) (by kernel_rfl) (by simp) ?_
              refine AllReady.cons rfl (fun K6 hK6 => ?_) AllReady.nil
              go_simp
              refine (N _).out.mono ?_
              rintro e w9 ⟨rfl, rfl⟩
              go_wp2_with fail
              exact ⟨rfl, rfl, HBd.out⟩
        · have e0 : s.toList.isEmpty = false := by
            rw [Lib.toList_data]
            cases h : s.data.toList with
            | nil => exact absurd h hs0
            | cons x r => rfl
          have CP := Lib.hid (bpair_any HS.out (by omega) ha (by omega) w1 HB.out (Nat.le_refl _))
          cases hst : stepP l.length (bl a) (bl s) with
          | none =>
            rw [hst] at CP
            have hg := HG.out
            rw [strict_none hs0 hst, goOn] at hg
            subst hg
            have hr3 := HR3.out
            dsimp only at hr3
            subst hr3
            clear hst hs0 HG HR3
            go_wp2_with fail
            refine CP.out.mono ?_
            rintro e w8 ⟨rfl, hb⟩
            go_wp2_with fail
            exact ⟨rfl, rfl, hb⟩
          | some q =>
            obtain ⟨m, r'⟩ := q
            rw [hst] at CP
            have hless := step_less hst
            have hok := (step_some hst).2
            have hg := HG.out
            obtain ⟨f, rfl⟩ : ∃ g, f = g + 1 := ⟨f - 1, by
              have : s.size ≠ 0 := fun h => hs0 (List.eq_nil_of_length_eq_zero h)
              omega⟩
            rw [strict_some hs0 hst, goOn_cons] at hg
            have HG2 := Lib.hid hg
            have hk := hok.1
            have hln : (bl s).length = s.size := rfl
            have hrl := restLen_is HS.out.blk
            clear hst hs0 HG hg hok
            go_wp2_with fail
            refine CP.out.mono ?_
            rintro e w8 ⟨rfl, hb, s', v', hs', hR8⟩
            have hln' : (bl s').length = s'.size := rfl
            have hrl' := restLen_is hR8.blk
            rw [hs'] at hln'
            have HR8 := Lib.hid hR8
            have HB8 := Lib.hid hb
            have Hs' := Lib.hid hs'
            clear hs' hR8 hb
            go_wp2_with fail
            go_roundw
            case rel => exact ⟨s', v', m.1, l ++ [m], f, HR8, Lib.hid (by rw [Hs'.out, List.length_append]; exact HG2.out), by omega, by rw [List.length_append]; simp; omega, hk, HB8⟩
            case measure => rw [hrl, hrl']; omega
    · obtain rfl : R = none := by
        rw [← HR.out]
        exact sP_none2 (by rw [Hm4.out, ← b4, ← c4, hx, hy]; exact hxy)
      have hxy' : ((x : Int) == (y : Int)) = false := by rw [beq_eq_false_iff_ne]; omega
      clear hx hy b4 c4 z4 HR H1 L2
      go_wp2_with fail
      refine CU.out.mono ?_
      rintro e w3 ⟨rfl, rfl⟩
      go_wp2_with fail
      refine CS.out.mono ?_
      rintro e w4 ⟨rfl, rfl⟩
      go_wp2_with fail
      refine (N _).out.mono ?_
      rintro e w5 ⟨rfl, rfl⟩
      go_wp2_with fail
      exact ⟨rfl, rfl, hb2.out⟩
end Go.Proofs.YtcbgflidlpmhcaaDoor

namespace Go.Proofs.YtcbgflidlpmhcaaDoor
open Go.RowKit

set_option maxHeartbeats 400000 in
theorem parse_catch (a b : Nat) (x y : Value) (er : Int) (older : List PanicEntry) (w : World) (ha : w.cell? ⟨a, 0, none⟩ = some x) (hb : w.cell? ⟨b, 0, none⟩ = some y)
    (fa : w.frozen? ⟨a, 0, none⟩ = false) (fb : w.frozen? ⟨b, 0, none⟩ = false) (hab : a ≠ b) :
    CallsD Tryd.prog 74 #[.pointer (some ⟨a, 0, none⟩), .pointer (some ⟨b, 0, none⟩)] (.panicking ({ v := .iface 26 (.int .i64 er), recovered := false } :: older)) w fun e u' w' =>
      e = .returned (.tuple #[]) ∧ u' = .panicking ({ v := .iface 26 (.int .i64 er), recovered := true } :: older) ∧
        w' = (w.setCell ⟨a, 0, none⟩ (.slice none 0 0)).setCell ⟨b, 0, none⟩ (.int .i64 er) := by
  refine callsD_of_wpS Tryd.func74 rfl fun c₀ cs hu => ?_
  apply wpS_seq
  apply wpS_region
  simp [wpOpsS, go_sem, recoverD, hu, Tryd.ntmps74, Exit.thenS]
  refine wpS_of_wp ?_
  simp [Array.replicate]
  go_wp2_with fail
  refine (told_errno _ _).mono ?_
  rintro e w' ⟨rfl, rfl⟩
  go_wp2
  simp [bodyPostS, results, Tryd.results74]

set_option maxHeartbeats 400000 in
theorem parse_idle (a b : Value) (w : World) :
    CallsD Tryd.prog 74 #[a, b] .returning w fun e u' w' => e = .returned (.tuple #[]) ∧ u' = .returning ∧ w' = w := by
  refine callsD_of_wpS Tryd.func74 rfl fun c₀ cs hu => ?_
  apply wpS_seq
  apply wpS_region
  simp [wpOpsS, go_sem, recoverD, hu, Tryd.ntmps74, Exit.thenS]
  refine wpS_of_wp ?_
  simp [Array.replicate]
  go_wp2
  cases c₀
  simp_all [bodyPostS, results, Tryd.results74]

/-- What gave up is recovered: the results are set anew. -/
theorem pend_err (w2 : World) (p : Nat) (t : Array Value) (er : Int) (x y : Value) {R : Ending → World → Prop} (Ba : Blk w2 p 22 #[x]) (Bb : Blk w2 (p + 1) 26 #[y])
    (t2 : t[2]?.getD undef = .pointer (some ⟨p, 0, none⟩)) (t3 : t[3]?.getD undef = .pointer (some ⟨p + 1, 0, none⟩)) (h : R (.returned (.tuple #[.slice none 0 0, .int .i64 er])) ((w2.setCell ⟨p, 0, none⟩ (.slice none 0 0)).setCell ⟨p + 1, 0, none⟩ (.int .i64 er))) :
    bodyPostD Tryd.prog Tryd.f66 R (Exit.panic [{ v := .iface 26 (.int .i64 er), recovered := false }])
      { tmps := t, defers := [{ target := Target.fn (Fn.func 74) #[.pointer (some ⟨p, 0, none⟩), .pointer (some ⟨p + 1, 0, none⟩)], args := #[] }] } w2 := by
  have E0 := (Ba.set_ 0 (.slice none 0 0)).far (p := ⟨p + 1, 0, none⟩) (by dsimp only; omega) (.int .i64 er)
  have E1 := (Bb.far (p := ⟨p, 0, none⟩) (by dsimp only; omega) (.slice none 0 0)).set_ 0 (.int .i64 er)
  refine leaves_cons (f := 74) (args := #[.pointer (some ⟨p, 0, none⟩), .pointer (some ⟨p + 1, 0, none⟩)]) (by simp) (by simp [go_sem]) ?_
  refine (parse_catch p (p + 1) x y er [] _ (Ba.cell 0) (Bb.cell 0) (Ba.frozen 0) (Bb.frozen 0) (by omega)).mono ?_
  rintro e u' w'' ⟨rfl, rfl, rfl⟩
  generalize (w2.setCell ⟨p, 0, none⟩ (.slice none 0 0)).setCell ⟨p + 1, 0, none⟩ (.int .i64 er) = w3 at *
  have c0 : w3.cell? ⟨p, 0, none⟩ = some (.slice none 0 0) := E0.cell 0
  have e1 : w3.cell? ⟨p + 1, 0, none⟩ = some (.int .i64 er) := E1.cell 0
  simp [Leaves, settle, results, Tryd.results66, go_sem, c0, e1, t2, t3]
  exact h
/-- What is read stands in the results. -/
theorem pend_ok (w2 : World) (p : Nat) (t : Array Value) (A : Option Addr) (n c : Nat) {R : Ending → World → Prop} (Ba : Blk w2 p 22 #[.slice A n c]) (Bb : Blk w2 (p + 1) 26 #[.int .i64 0])
    (t2 : t[2]?.getD undef = .pointer (some ⟨p, 0, none⟩)) (t3 : t[3]?.getD undef = .pointer (some ⟨p + 1, 0, none⟩)) (h : R (.returned (.tuple #[.slice A n c, .int .i64 0])) w2) :
    bodyPostD Tryd.prog Tryd.f66 R Exit.ret
      { tmps := t, defers := [{ target := Target.fn (Fn.func 74) #[.pointer (some ⟨p, 0, none⟩), .pointer (some ⟨p + 1, 0, none⟩)], args := #[] }] } w2 := by
  have c0 : w2.cell? ⟨p, 0, none⟩ = some (.slice A n c) := Ba.cell 0
  have e1 : w2.cell? ⟨p + 1, 0, none⟩ = some (.int .i64 0) := Bb.cell 0
  refine leaves_cons (f := 74) (args := #[.pointer (some ⟨p, 0, none⟩), .pointer (some ⟨p + 1, 0, none⟩)]) (by simp) (by simp [go_sem]) ?_
  refine (parse_idle _ _ _).mono ?_
  rintro e u' w'' ⟨rfl, rfl, rfl⟩
  simp [Leaves, settle, results, Tryd.results66, go_sem, c0, e1, t2, t3]
  exact h

set_option maxRecDepth 100000 in
set_option maxHeartbeats 4000000 in
theorem parse_any (b : ByteArray) (w : World) (hs : b.size ≤ 1000000) (hT : LaidB w) :
    Calls Tryd.prog 66 #[.string b] w fun e w' => ∃ v, e = .returned (.tuple #[v, .int .i64 (parseP b).2]) ∧ Own elKeys w' w.heap.size 35 v (parseP b).1 ∧ Below w.heap.size w w' := by
  have hmf : ∀ (fn : Fn) (first cap : Array Value) (w : World), (Instr.makeFunc fn first cap).run Tryd.prog w = .ok (.func fn first cap) w := fun _ _ _ _ => rfl
  obtain ⟨PL, PE, hp⟩ : ∃ PL PE, parseP b = (PL, PE) := ⟨_, _, rfl⟩
  have hpp := sParse_is b
  rw [hp] at hpp ⊢
  dsimp only
  obtain ⟨R, hR⟩ : ∃ R, sParse b = R := ⟨_, rfl⟩
  rw [hR] at hpp
  have CR := fun W (h : LaidB W) => Lib.hid (read_any b W hs h)
  rw [hR] at CR
  have Hpp := Lib.hid hpp
  have HT := Lib.hid hT
  clear hp hpp hR hT
  go_enter_defers Tryd.func66, Tryd.ntmps66
  go_wp2_with fail
  have b0 : Blk ((w.alloc (.cells #[.slice none 0 0] 22)).alloc (.cells #[.int .i64 0] 26)) w.heap.size 22 #[.slice none 0 0] := (Blk.new _ _ _).alloc _
  have b1 : Blk ((w.alloc (.cells #[.slice none 0 0] 22)).alloc (.cells #[.int .i64 0] 26)) (w.heap.size + 1) 26 #[.int .i64 0] := Blk.new' (by simp) _ _
  have hb : Below w.heap.size w ((w.alloc (.cells #[.slice none 0 0] 22)).alloc (.cells #[.int .i64 0] 26)) := below_alloc (below_alloc (Below.refl _ _) (Nat.le_refl _) _) (Nat.le_refl _) _
  generalize (w.alloc (.cells #[.slice none 0 0] 22)).alloc (.cells #[.int .i64 0] 26) = w1 at *
  have L1 := HT.out.on hb
  have CR1 := CR w1 L1
  clear CR
  have hsz : w.heap.size + 1 < w1.heap.size := b1.lt
  have P0 := Lib.hid b0
  have P1 := Lib.hid b1
  have HB := Lib.hid hb
  clear b0 b1 hb L1
  refine CR1.out.mono ?_
  cases R with
  | none =>
    obtain ⟨rfl, rfl⟩ : PL = [] ∧ PE = 31 := ⟨congrArg Prod.fst Hpp.out, congrArg Prod.snd Hpp.out⟩
    rintro e w2 ⟨rfl, hb2⟩
    have Q0 := P0.out.below hb2 (by omega)
    have Q1 := P1.out.below hb2 (by omega)
    have HB2 := HB.out.trans (hb2.mono HB.out.size)
    unfold gaveB
    go_wp2_with fail
    exact pend_err w2 w.heap.size _ 31 _ _ Q0 Q1 rfl rfl ⟨_, rfl, World.ownsRow_nil _ _ _ _, below_setCell (below_setCell HB2 (Nat.le_refl _) _) (by dsimp only; omega) _⟩
  | some l =>
    obtain ⟨rfl, rfl⟩ : PL = l ∧ PE = 0 := ⟨congrArg Prod.fst Hpp.out, congrArg Prod.snd Hpp.out⟩
    rintro e w2 ⟨hb2, v, rfl, ho⟩
    obtain ⟨ao, co, rfl⟩ := ho.slice
    have Q0 := P0.out.below hb2 (by omega)
    have Q1 := P1.out.below hb2 (by omega)
    have HB2 := HB.out.trans (hb2.mono HB.out.size)
    have c0 : w2.cell? ⟨w.heap.size, 0, none⟩ = some (.slice none 0 0) := Q0.cell 0
    have c1 : w2.cell? ⟨w.heap.size + 1, 0, none⟩ = some (.int .i64 0) := Q1.cell 0
    have f0 := Q0.frozen 0
    have f1 := Q1.frozen 0
    have X0 := Lib.hid ((Q0.set_ 0 (.slice ao PL.length co)).far (p := ⟨w.heap.size + 1, 0, none⟩) (by dsimp only; omega) (.int .i64 0))
    have X1 := Lib.hid ((Q1.far (p := ⟨w.heap.size, 0, none⟩) (by dsimp only; omega) (.slice ao PL.length co)).set_ 0 (.int .i64 0))
    have XB := Lib.hid (below_setCell (below_setCell HB2 (p := ⟨w.heap.size, 0, none⟩) (Nat.le_refl _) (.slice ao PL.length co)) (p := ⟨w.heap.size + 1, 0, none⟩) (by dsimp only; omega) (.int .i64 0))
    have hoo : ∀ q, q < w1.heap.size → (Value.slice ao PL.length co).ownBlock = none ∨ (Value.slice ao PL.length co).ownBlock ≠ some q := by
      intro q hq
      cases h : (Value.slice ao PL.length co).ownBlock with
      | none => exact Or.inl rfl
      | some g => exact Or.inr (fun e => by have := (ho.lt h).1; injection e with e; omega)
    have XO := Lib.hid ((own_set (own_set ho (hoo w.heap.size (by omega)) (i := 0) (.slice ao PL.length co)) (hoo (w.heap.size + 1) (by omega)) (i := 0) (.int .i64 0)))
    clear Q0 Q1 HB2 hb2 ho hoo
    go_wp2_with fail
    exact pend_ok _ w.heap.size _ _ _ _ X0.out X1.out rfl rfl ⟨_, rfl, Own.low XO.out (by omega), XB.out⟩
end Go.Proofs.YtcbgflidlpmhcaaDoor

namespace Go.Proofs.YtcbgflidlpmhcaaDoor
open Go.RowKit

end Go.Proofs.YtcbgflidlpmhcaaDoor

namespace Go.Proofs.YtcbgflidlpmhcaaDoor
open Go.RowKit

/-- A row of the call's own, as it can be read. -/
theorem Own.keysAt {w : World} {B : Nat} {e : TypeId} {A : Option Addr} {n c : Nat} {L : List KV} (h : Own elKeys w B e (.slice A n c) L) : KeysAt w A n L := by
  obtain ⟨h1, _, _⟩ := own_reads h
  refine ⟨h1, fun i m hm => ?_⟩
  obtain ⟨g, c', cur, hv, hg, hh⟩ := Own.some_ h (by have := (List.getElem?_eq_some_iff.1 hm).1; omega)
  cases hv
  have y0 := Own.cells (j := 0) h hm (by decide) rfl
  have y1 := Own.cells (j := 1) h hm (by decide) rfl
  refine ⟨g, 0, rfl, (Array.getElem?_eq_some_iff.1 hh).1, ?_, ?_⟩
  · rw [Nat.zero_add]; exact y0
  · rw [Nat.zero_add]; exact y1

end Go.Proofs.YtcbgflidlpmhcaaDoor

namespace Go.Proofs.YtcbgflidlpmhcaaDoor
open Go.RowKit

/-- Where a key stands among rising ones. -/
def Place (L : List KV) (key : ByteArray) (pl : Nat) : Prop := pl ≤ L.length ∧ (∀ (j : Nat) (m : KV), j < pl → L[j]? = some m → cmpT m.1 key < 0) ∧ ∀ m, L[pl]? = some m → ¬ cmpT m.1 key < 0
/-- A search has come to the place. -/
def SeekAt (L : List KV) (key : ByteArray) (e : Ending) : Prop := ∃ (pl : Nat) (f : Bool), e = .returned (.tuple #[.int .i64 (pl : Int), .bool f]) ∧ Place L key pl
theorem seek_place {L : List KV} {key : ByteArray} {pl : Nat} (h : Place L key pl) : seekL L key = match L[pl]? with
    | some m => (m.1, m.2, 0)
    | none => (ByteArray.empty, ByteArray.empty, 22) := by
  cases hm : L[pl]? with
  | some m => exact seek_at hm h.2.1 (h.2.2 m hm)
  | none =>
    refine seek_none fun m hm' => ?_
    obtain ⟨j, hj⟩ := List.mem_iff_getElem?.1 hm'
    have h1 := (List.getElem?_eq_some_iff.1 hj).1
    have h2 := List.getElem?_eq_none_iff.1 hm
    exact h.2.1 j m (by omega) hj

end Go.Proofs.YtcbgflidlpmhcaaDoor

namespace Go.Proofs.YtcbgflidlpmhcaaDoor
open Go.RowKit

/-- The variables that package sst reads, as they lie. -/
structure LaidS (w : World) : Prop where
  halves : Lib.TabIs Tryd.prog w "bedrock/raw.halves" .u32 halvesL
  most : ∃ m, w.cell? ⟨2, 0, none⟩ = some (.int .i64 m)
theorem LaidS.b {w : World} (h : LaidS w) : LaidB w := ⟨h.halves⟩
theorem LaidS.m {w : World} (h : LaidS w) : LaidM w := ⟨h.halves⟩
theorem LaidS.on {w w' : World} (h : LaidS w) (hb : Below w.heap.size w w') : LaidS w' :=
  ⟨(h.b.on hb).halves, by
    obtain ⟨m, hm⟩ := h.most
    exact ⟨m, (hb.cell (p := ⟨2, 0, none⟩) (lt_of_cell hm)).trans hm⟩⟩
theorem LaidS.at_ {B : Nat} {w w' : World} (h : LaidS w) (hb : Below B w w') (hB : w.heap.size ≤ B) : LaidS w' := h.on (hb.mono hB)

set_option maxRecDepth 100000 in
set_option maxHeartbeats 1000000 in
theorem smust_yes (w : World) : Calls Tryd.prog 51 #[.bool true] w fun e w' => e = .returned (.tuple #[]) ∧ w' = w := by
  go_enter Tryd.func51, Tryd.ntmps51
  go_wp2_with fail
  go_end0
  exact ⟨rfl, rfl⟩
set_option maxRecDepth 100000 in
set_option maxHeartbeats 1000000 in
theorem smust_no (w : World) : Calls Tryd.prog 51 #[.bool false] w fun e w' => e = gaveB ∧ w' = w := by
  go_enter Tryd.func51, Tryd.ntmps51
  go_wp2_with fail
  exact ⟨rfl, rfl, rfl⟩
set_option maxRecDepth 100000 in
set_option maxHeartbeats 1000000 in
theorem sfixed_any (v : Nat) (w : World) (hv : v < 4294967296) :
    Calls Tryd.prog 26 #[.int .i64 (v : Int)] w fun e w' => e = .returned (.string ⟨(be v 4).toArray⟩) ∧ Below w.heap.size w w' := by
  have C := Lib.hid (put_ok v 4 w (by decide) (by decide) hv)
  go_enter Tryd.func26, Tryd.ntmps26
  go_wp2_with fail
  refine C.out.mono ?_
  rintro e w1 ⟨rfl, hb⟩
  go_wp2_with fail
  go_ret
  exact ⟨rfl, hb⟩
set_option maxRecDepth 100000 in
set_option maxHeartbeats 2000000 in
theorem sunfixed_any (s : ByteArray) (w : World) (h : s.size = 4) :
    Calls Tryd.prog 55 #[.string s] w fun e w' => e = .returned (.int .i64 (getL (bl s) : Int)) ∧ w' = w := by
  have C := Lib.hid (get_ok s w (by omega) (by omega))
  have Y := fun W => Lib.hid (smust_yes W)
  clear h
  go_enter Tryd.func55, Tryd.ntmps55
  go_wp2_with fail
  refine C.out.mono ?_
  rintro e w1 ⟨rfl, rfl⟩
  go_wp2_with fail
  refine (Y _).out.mono ?_
  rintro e w1 ⟨rfl, rfl⟩
  go_wp2_with fail
  go_ret
  exact ⟨rfl, rfl⟩

set_option maxRecDepth 100000 in
set_option maxHeartbeats 2000000 in
theorem shead_any (s : ByteArray) (w : World) (hs : s.size ≤ 4294967000) (hT : LaidS w) :
    Calls Tryd.prog 48 #[.string s] w fun e w' => e = .returned (.string (headT s)) ∧ w' = w := by
  obtain ⟨m, hm⟩ := hT.most
  have C : Calls Tryd.prog 65 #[.string s, .string ⟨#[0, 1]⟩] w fun e w' => e = .returned (.int .i64 (Lib.index (bl s) [0, 1])) ∧ w' = w := Tryd.strings_Index s ⟨#[0, 1]⟩ m w (by omega) hm
  unfold headT
  rcases head_index (bl s) with ⟨h1, h2⟩ | ⟨k, h1, h2, h3⟩
  · rw [h1] at C
    rw [h2]
    have he : s.extract 0 (bl s).length = s := bl_inj (by rw [bl_take s _ (by rw [bl_len]; exact Nat.le_refl _)]; exact List.take_length)
    rw [he]
    have C := Lib.hid C
    clear h1 h2 he hT hm
    go_enter Tryd.func48, Tryd.ntmps48
    go_wp2_with fail
    refine C.out.mono ?_
    rintro e w1 ⟨rfl, rfl⟩
    go_wp2_with fail
    go_ret
    exact ⟨rfl, rfl⟩
  · rw [h1] at C
    rw [h2]
    rw [bl_len] at h3
    have g1 : (0 : Int) ≤ (k : Int) := by omega
    have g2 : (k : Int) + 2 ≤ (s.size : Int) := by omega
    have g3 : wrap64 ((k : Int) + 2) = (k : Int) + 2 := by unfold wrap64; omega
    have C := Lib.hid C
    clear h1 h2 hT hm
    go_enter Tryd.func48, Tryd.ntmps48
    go_wp2_with fail
    refine C.out.mono ?_
    rintro e w1 ⟨rfl, rfl⟩
    go_wp2_with fail
    go_ret
    exact ⟨by first | rfl | (congr 3), rfl⟩

/-- The reader holds what is left. -/
abbrev RdT (w : World) (p : Nat) (s : ByteArray) : Prop := Blk w p 85 #[.string s]
set_option maxRecDepth 100000 in
set_option maxHeartbeats 2000000 in
theorem sfirst_ok (p : Nat) (s : ByteArray) (k : Nat) (w : World) (B : RdT w p s) (hk : k ≤ s.size) :
    Calls Tryd.prog 54 #[.pointer (some ⟨p, 0, none⟩), .int .i64 (k : Int)] w fun e w' => e = .returned (.string (s.extract 0 k)) ∧ RdT w' p (s.extract k s.size) ∧ w.grownBy w' (some p) := by
  have c0 : w.cell? ⟨p, 0, none⟩ = some (.string s) := B.cell 0
  have f0 := B.frozen 0
  have hk1 : decide ((k : Int) ≤ (s.size : Int)) = true := decide_eq_true (by omega)
  have hk2 : (k : Int) ≤ (s.size : Int) := by omega
  have B := Lib.hid B
  have C := Lib.hid (smust_yes w)
  go_enter Tryd.func54, Tryd.ntmps54
  go_wp2_with fail
  refine C.out.mono ?_
  rintro e w1 ⟨rfl, rfl⟩
  go_wp2_with fail
  go_ret
  exact ⟨rfl, B.out.set_ 0 _, only_setCell (World.grownBy.refl _ _) (Or.inl rfl) _⟩
set_option maxRecDepth 100000 in
set_option maxHeartbeats 2000000 in
theorem sfirst_no (p : Nat) (s : ByteArray) (k : Nat) (w : World) (B : RdT w p s) (hk : s.size < k) :
    Calls Tryd.prog 54 #[.pointer (some ⟨p, 0, none⟩), .int .i64 (k : Int)] w fun e w' => e = gaveB ∧ w' = w := by
  have c0 : w.cell? ⟨p, 0, none⟩ = some (.string s) := B.cell 0
  have hk1 : decide ((k : Int) ≤ (s.size : Int)) = false := decide_eq_false (by omega)
  have hk2 : ¬ (k : Int) ≤ (s.size : Int) := by omega
  have C := Lib.hid (smust_no w)
  go_enter Tryd.func54, Tryd.ntmps54
  go_wp2_with fail
  refine C.out.mono ?_
  rintro e w1 ⟨rfl, rfl⟩
  go_wp2_with fail
  exact ⟨rfl, rfl, rfl⟩
set_option maxRecDepth 100000 in
set_option maxHeartbeats 2000000 in
theorem slast_ok (p : Nat) (s : ByteArray) (k : Nat) (z : Int) (hz : z = (k : Int)) (w : World) (B : RdT w p s) (hs : s.size ≤ 9223372036854775807) (hk : k ≤ s.size) :
    Calls Tryd.prog 52 #[.pointer (some ⟨p, 0, none⟩), .int .i64 z] w fun e w' => e = .returned (.string (s.extract (s.size - k) s.size)) ∧ RdT w' p (s.extract 0 (s.size - k)) ∧ w.grownBy w' (some p) := by
  have c0 : w.cell? ⟨p, 0, none⟩ = some (.string s) := B.cell 0
  have f0 := B.frozen 0
  obtain ⟨m, hm⟩ : ∃ m, s.size - k = m := ⟨_, rfl⟩
  rw [hm]
  have hk1 : decide (z ≤ (s.size : Int)) = true := decide_eq_true (by omega)
  have hk2 : z ≤ (s.size : Int) := by omega
  have g1 : wrap64 ((s.size : Int) - z) = (m : Int) := by unfold wrap64; omega
  have g2 : IntKind.i64.wrap ((s.size : Int) - z) = (m : Int) := by rw [IntKind.wrap_i64]; omega
  have g3 : (m : Int) ≤ (s.size : Int) := by omega
  have g4 : (0 : Int) ≤ (m : Int) := by omega
  have B := Lib.hid B
  have C := Lib.hid (smust_yes w)
  clear hz hm hk hs
  go_enter Tryd.func52, Tryd.ntmps52
  go_wp2_with fail
  refine C.out.mono ?_
  rintro e w1 ⟨rfl, rfl⟩
  go_wp2_with fail
  go_ret
  exact ⟨rfl, B.out.set_ 0 _, only_setCell (World.grownBy.refl _ _) (Or.inl rfl) _⟩
set_option maxRecDepth 100000 in
set_option maxHeartbeats 2000000 in
theorem slast_no (p : Nat) (s : ByteArray) (k : Nat) (z : Int) (hz : z = (k : Int)) (w : World) (B : RdT w p s) (hk : s.size < k) :
    Calls Tryd.prog 52 #[.pointer (some ⟨p, 0, none⟩), .int .i64 z] w fun e w' => e = gaveB ∧ w' = w := by
  have c0 : w.cell? ⟨p, 0, none⟩ = some (.string s) := B.cell 0
  have hk1 : decide (z ≤ (s.size : Int)) = false := decide_eq_false (by omega)
  have hk2 : ¬ z ≤ (s.size : Int) := by omega
  have C := Lib.hid (smust_no w)
  clear hz hk
  go_enter Tryd.func52, Tryd.ntmps52
  go_wp2_with fail
  refine C.out.mono ?_
  rintro e w1 ⟨rfl, rfl⟩
  go_wp2_with fail
  exact ⟨rfl, rfl, rfl⟩
set_option maxRecDepth 100000 in
set_option maxHeartbeats 2000000 in
theorem snum_ok (p : Nat) (s : ByteArray) (w : World) (B : RdT w p s) (hs : s.size ≤ 9223372036854775807) (hk : 4 ≤ s.size) :
    Calls Tryd.prog 50 #[.pointer (some ⟨p, 0, none⟩)] w fun e w' => e = .returned (.int .i64 (getL (bl (s.extract (s.size - 4) s.size)) : Int)) ∧ RdT w' p (s.extract 0 (s.size - 4)) ∧ w.grownBy w' (some p) := by
  have C := Lib.hid (slast_ok p s 4 4 rfl w B hs hk)
  have U := fun W => Lib.hid (sunfixed_any (s.extract (s.size - 4) s.size) W (by simp; omega))
  generalize s.extract (s.size - 4) s.size = t at *
  generalize s.extract 0 (s.size - 4) = r at *
  clear B hs hk
  go_enter Tryd.func50, Tryd.ntmps50
  go_wp2_with fail
  refine C.out.mono ?_
  rintro e w1 ⟨rfl, B1, G1⟩
  have B1 := Lib.hid B1
  have G1 := Lib.hid G1
  go_wp2_with fail
  refine (U _).out.mono ?_
  rintro e w2 ⟨rfl, rfl⟩
  go_wp2_with fail
  go_ret
  exact ⟨rfl, B1.out, G1.out⟩
set_option maxRecDepth 100000 in
set_option maxHeartbeats 2000000 in
theorem snum_no (p : Nat) (s : ByteArray) (w : World) (B : RdT w p s) (hk : s.size < 4) :
    Calls Tryd.prog 50 #[.pointer (some ⟨p, 0, none⟩)] w fun e w' => e = gaveB ∧ w' = w := by
  have C := Lib.hid (slast_no p s 4 4 rfl w B hk)
  clear B hk
  go_enter Tryd.func50, Tryd.ntmps50
  go_wp2_with fail
  refine C.out.mono ?_
  rintro e w1 ⟨rfl, rfl⟩
  go_wp2_with fail
  exact ⟨rfl, rfl, rfl⟩
end Go.Proofs.YtcbgflidlpmhcaaDoor

namespace Go.Proofs.YtcbgflidlpmhcaaDoor
open Go.RowKit Go.WideShapes Go.ChangeShapes Go.Deep

/-- n structs of two whole numbers and two texts stand at A. -/
structure SOpsIn (w : World) (A : Option Addr) (n : Nat) (K X : Nat → Int) (Y D : Nat → ByteArray) : Prop where
  max : n ≤ 9223372036854775807
  some : 0 < n → ∃ b off, A = .some ⟨b, off, none⟩ ∧ b < w.heap.size ∧ ∀ j, j < n → w.cell? ⟨b, off + j * 4, none⟩ = .some (.int .i64 (K j)) ∧ w.cell? ⟨b, off + j * 4 + 1, none⟩ = .some (.int .i64 (X j)) ∧ w.cell? ⟨b, off + j * 4 + 2, none⟩ = .some (.string (Y j)) ∧ w.cell? ⟨b, off + j * 4 + 3, none⟩ = .some (.string (D j))
  wf : ∀ j, j < n → (Lit.int .i64 (X j)).wf = true ∧ (Y j).size ≤ 140737488351232 ∧ (D j).size ≤ 140737488351232

/-- One of them, in every world from there on. -/
theorem SOpsIn.at {w : World} {A : Option Addr} {n : Nat} {K X : Nat → Int} {Y D : Nat → ByteArray} (h : SOpsIn w A n K X Y D) {k : Nat} (hk : k < n) :
    ∃ b off, A = .some ⟨b, off, none⟩ ∧ (∀ W, Below w.heap.size w W → W.cell? ⟨b, off + k * 4, none⟩ = .some (.int .i64 (K k)) ∧ W.cell? ⟨b, off + k * 4 + 1, none⟩ = .some (.int .i64 (X k)) ∧ W.cell? ⟨b, off + k * 4 + 2, none⟩ = .some (.string (Y k)) ∧ W.cell? ⟨b, off + k * 4 + 3, none⟩ = .some (.string (D k))) := by
  obtain ⟨b, off, e, hlt, hc⟩ := h.some (by omega)
  obtain ⟨c0, c1, c2, c3⟩ := hc k hk
  exact ⟨b, off, e, fun W hb => ⟨(hb.cell (p := ⟨b, off + k * 4, none⟩) hlt).trans c0, (hb.cell (p := ⟨b, off + k * 4 + 1, none⟩) hlt).trans c1, (hb.cell (p := ⟨b, off + k * 4 + 2, none⟩) hlt).trans c2, (hb.cell (p := ⟨b, off + k * 4 + 3, none⟩) hlt).trans c3⟩⟩

theorem weights_all {H : Type} {P : Program} {e : TypeId} {n : Nat} {d : DataW H} (hn : n ∈ d.weights P e) : ∀ {l : List (DataW H)}, d ∈ l → n ∈ DataW.weightsAll P e l
  | x :: r, h => by
    rw [DataW.weightsAll, List.mem_append]
    rcases List.mem_cons.1 h with rfl | h
    · exact Or.inl hn
    · exact Or.inr (weights_all hn h)
section
variable {H : Type} {enc : TypeId × Value → H} {P : Program} {w : World} {t e : TypeId} {A : Option Addr} {n cp : Nat} {d : DataW H} {p : List MemPlace}
theorem sops_view {f0 f1 f2 f3 : Field} (ht : P.underlying t = some (.slice e)) (he : P.underlying e = some (.struct #[f0, f1, f2, f3])) (hc : P.cellsOf e = 4) (o0 : f0.offset = 0) (o1 : f1.offset = 1) (o2 : f2.offset = 2) (o3 : f3.offset = 3) (c0 : P.cellsOf f0.type = 1) (c1 : P.cellsOf f1.type = 1) (c2 : P.cellsOf f2.type = 1) (c3 : P.cellsOf f3.type = 1)
    (u0 : P.underlying f0.type = some (.int .i64)) (u1 : P.underlying f1.type = some (.int .i64)) (u2 : P.underlying f2.type = some .string) (u3 : P.underlying f3.type = some .string)
    (h : DataW.Trod enc P w 0 (fun _ => true) true t (.slice A n cp) d p) (hwt : ∀ x ∈ d.weights P t, x ≤ 140737488351232) : ∃ K X Y D, SOpsIn w A n K X Y D := by
  obtain ⟨fuel, hf⟩ := h
  rcases open_slice ht hf with ⟨hcs, _⟩ | ⟨a, len', cap', m, k, D, Pl, hcs, _, hl, hm, hmm, hdx, hx⟩
  · simp [Value.cells] at hcs
    obtain ⟨rfl, rfl, rfl⟩ := hcs
    exact ⟨fun _ => 0, fun _ => 0, fun _ => ByteArray.empty, fun _ => ByteArray.empty, by decide, fun h => absurd h (by decide), fun j h => absurd h (by omega)⟩
  · simp [Value.cells] at hcs
    obtain ⟨rfl, rfl, rfl⟩ := hcs
    rw [if_pos rfl] at hmm
    unfold maxLen at hm
    have each : ∀ j, j < n → ∃ q : Int × Int × ByteArray × ByteArray, w.cell? (a.add (j * 4)) = some (.int .i64 q.1) ∧ w.cell? (a.add (j * 4 + 1)) = some (.int .i64 q.2.1) ∧ w.cell? (a.add (j * 4 + 2)) = some (.string q.2.2.1) ∧ w.cell? (a.add (j * 4 + 3)) = some (.string q.2.2.2) ∧ (Lit.int .i64 q.2.1).wf = true ∧ q.2.2.1.size ≤ 140737488351232 ∧ q.2.2.2.size ≤ 140737488351232 := by
      intro j hj
      obtain ⟨cs', h1, h2⟩ := hx j (by omega)
      have hwj : ∀ x ∈ (D j).weights P e, x ≤ 140737488351232 := fun x hxm => hwt x (by
        rw [show d = _ from congrArg Prod.fst hdx]
        simp only [DataW.weights, ht]
        exact List.mem_cons_of_mem _ (List.mem_append_left _ (weights_all hxm (List.mem_map.2 ⟨j, List.mem_range.2 hj, rfl⟩))))
      rw [hc] at h1
      obtain ⟨_, hlen, hcell⟩ := World.cells?_some h1
      obtain ⟨y0, y1, y2, y3, g, hxe, _, g0, g1, g2, g3⟩ := Joins.trod_struct4 he h2
      have hDj : D j = .agg [y0.1, y1.1, y2.1, y3.1] := congrArg Prod.fst hxe
      rw [hDj, DataW.weights, he] at hwj
      match cs', hlen, hcell, g0, g1, g2, g3 with
      | [v0, v1, v2, v3], _, hcell, g0, g1, g2, g3 =>
        obtain ⟨k0, e0, _, _⟩ := DataW.trod_int u0 g0
        obtain ⟨k1, e1, _, w1⟩ := DataW.trod_int u1 g1
        obtain ⟨k2, e2, d2, w2⟩ := DataW.trod_string u2 g2
        obtain ⟨k3, e3, d3, w3⟩ := DataW.trod_string u3 g3
        simp [o0, o1, o2, o3, c0, c1, c2, c3] at e0 e1 e2 e3
        subst e0 e1 e2 e3
        have z2 := hwj k2.data.toList.length (by rw [d2]; simp [DataW.weightsEach, DataW.weights])
        have z3 := hwj k3.data.toList.length (by rw [d3]; simp [DataW.weightsEach, DataW.weights])
        rw [show k2.data.toList.length = k2.size from rfl] at z2
        rw [show k3.data.toList.length = k3.size from rfl] at z3
        refine ⟨(k0, k1, k2, k3), ?_, ?_, ?_, ?_, w1, by omega, by omega⟩
        · have := hcell 0 (by simp)
          simpa [Go.Deep.add_add] using this
        · have := hcell 1 (by simp)
          simpa [Go.Deep.add_add] using this
        · have := hcell 2 (by simp)
          simpa [Go.Deep.add_add] using this
        · have := hcell 3 (by simp)
          simpa [Go.Deep.add_add] using this
    obtain ⟨q, hq⟩ := choose_lt each
    refine ⟨fun j => (q j).1, fun j => (q j).2.1, fun j => (q j).2.2.1, fun j => (q j).2.2.2, by omega, fun hn => ?_, fun j hj => ⟨(hq j hj).2.2.2.2.1, (hq j hj).2.2.2.2.2.1, (hq j hj).2.2.2.2.2.2⟩⟩
    obtain ⟨b, off, spot⟩ := a
    have hspot : spot = none := by simpa [Addr.add] using World.cell?_spot (hq 0 hn).1
    subst hspot
    refine ⟨b, off, rfl, ?_, fun j hj => ?_⟩
    · have := (hq 0 hn).1
      rw [Go.WideShapes.add_plain] at this
      exact block_lt this
    · have := hq j hj
      rw [Go.WideShapes.add_plain, Go.WideShapes.add_plain, Go.WideShapes.add_plain, Go.WideShapes.add_plain, ← Nat.add_assoc, ← Nat.add_assoc, ← Nat.add_assoc] at this
      exact ⟨this.1, this.2.1, this.2.2.1, this.2.2.2.1⟩
end
end Go.Proofs.YtcbgflidlpmhcaaDoor

namespace Go.Proofs.YtcbgflidlpmhcaaDoor
open Go.RowKit Go.WideShapes Go.ChangeShapes Go.Deep

/-- The pairs L stand at A; nothing of them is longer than what can be read. -/
structure PairsIn (w : World) (A : Option Addr) (n : Nat) (L : List KV) : Prop where
  at_ : KeysAt w A n L
  max : n ≤ 9223372036854775807
  size : ∀ m ∈ L, m.1.size ≤ 140737488351232 ∧ m.2.size ≤ 140737488351232

section
variable {H : Type} {enc : TypeId × Value → H} {P : Program} {w : World} {t e : TypeId} {A : Option Addr} {n cp : Nat} {d : DataW H} {p : List MemPlace}
theorem trod_array2 {base : Nat} {spare : Nat → Bool} {held : Bool} {t e : TypeId} {fuel : Nat} {c0 c1 : Value} {x : DataW H × List MemPlace} (ht : P.underlying t = some (.array 2 e)) (hce : P.cellsOf e = 1)
    (h : DataW.trod enc P w base spare held fuel t [c0, c1] = some x) :
    ∃ y0 y1 n, x = (.agg [y0.1, y1.1], y0.2 ++ y1.2) ∧ DataW.trod enc P w base spare held n e [c0] = some y0 ∧ DataW.trod enc P w base spare held n e [c1] = some y1 := by
  cases fuel with
  | zero => simp [DataW.trod] at h
  | succ n =>
    unfold DataW.trod at h
    rw [ht] at h
    have r2 : List.range 2 = [0, 1] := rfl
    simp [r2, hce] at h
    obtain ⟨_, h⟩ := h
    cases h0 : DataW.trod enc P w base spare held n e [c0] with
    | none => simp [h0] at h
    | some y0 =>
      cases h1 : DataW.trod enc P w base spare held n e [c1] with
      | none => simp [h0, h1] at h
      | some y1 =>
        simp [h0, h1] at h
        exact ⟨y0, y1, n, h.symm, h0, h1⟩
theorem pairs_view {f : TypeId} (ht : P.underlying t = some (.slice e)) (he : P.underlying e = some (.array 2 f)) (hf : P.underlying f = some .string) (hc : P.cellsOf e = 2) (hcf : P.cellsOf f = 1)
    (h : DataW.Trod enc P w 0 (fun _ => true) true t (.slice A n cp) d p) (hwt : ∀ x ∈ d.weights P t, x ≤ 140737488351232) : ∃ L, PairsIn w A n L := by
  obtain ⟨fuel, hfu⟩ := h
  rcases open_slice ht hfu with ⟨hcs, _⟩ | ⟨a, len', cap', m, k, D, Pl, hcs, _, hl, hm, hmm, hdx, hx⟩
  · simp [Value.cells] at hcs
    obtain ⟨rfl, rfl, rfl⟩ := hcs
    exact ⟨[], ⟨rfl, fun i m hm => by simp at hm⟩, by decide, fun m hm => by cases hm⟩
  · simp [Value.cells] at hcs
    obtain ⟨rfl, rfl, rfl⟩ := hcs
    rw [if_pos rfl] at hmm
    have hm' := hm
    unfold maxLen at hm
    have each : ∀ j, j < n → ∃ q : KV, w.cell? (a.add (j * 2)) = some (.string q.1) ∧ w.cell? (a.add (j * 2 + 1)) = some (.string q.2) ∧ q.1.size ≤ 140737488351232 ∧ q.2.size ≤ 140737488351232 := by
      intro j hj
      obtain ⟨cs', h1, h2⟩ := hx j (by omega)
      have hwj : ∀ x ∈ (D j).weights P e, x ≤ 140737488351232 := fun x hxm => hwt x (by
        rw [show d = _ from congrArg Prod.fst hdx]
        simp only [DataW.weights, ht]
        exact List.mem_cons_of_mem _ (List.mem_append_left _ (weights_all hxm (List.mem_map.2 ⟨j, List.mem_range.2 hj, rfl⟩))))
      rw [hc] at h1
      obtain ⟨_, hlen, hcell⟩ := World.cells?_some h1
      match cs', hlen, hcell, h2 with
      | [v0, v1], _, hcell, h2 =>
        obtain ⟨y0, y1, g, hxe, g0, g1⟩ := trod_array2 he hcf h2
        have hDj : D j = .agg [y0.1, y1.1] := congrArg Prod.fst hxe
        rw [hDj, DataW.weights, he] at hwj
        obtain ⟨k0, e0, d0, w0⟩ := DataW.trod_string hf g0
        obtain ⟨k1, e1, d1, w1⟩ := DataW.trod_string hf g1
        simp at e0 e1
        subst e0 e1
        have z0 := hwj k0.data.toList.length (by rw [d0]; simp [DataW.weightsAll, DataW.weights])
        have z1 := hwj k1.data.toList.length (by rw [d1]; simp [DataW.weightsAll, DataW.weights])
        rw [show k0.data.toList.length = k0.size from rfl] at z0
        rw [show k1.data.toList.length = k1.size from rfl] at z1
        refine ⟨(k0, k1), ?_, ?_, z0, z1⟩
        · have := hcell 0 (by simp)
          simpa [Go.Deep.add_add] using this
        · have := hcell 1 (by simp)
          simpa [Go.Deep.add_add] using this
    obtain ⟨q, hq⟩ := choose_lt each
    have hget : ∀ (i : Nat) (m : KV), ((List.range n).map q)[i]? = some m → i < n ∧ m = q i := by
      intro i m hm
      have hi : i < n := by
        have := (List.getElem?_eq_some_iff.1 hm).1
        simpa using this
      rw [List.getElem?_map, List.getElem?_range hi] at hm
      cases hm
      exact ⟨hi, rfl⟩
    refine ⟨(List.range n).map q, ⟨by simp, fun i m hm => ?_⟩, by omega, fun m hm => ?_⟩
    · obtain ⟨hi, rfl⟩ := hget i m hm
      obtain ⟨b, off, spot⟩ := a
      have hspot : spot = none := by simpa [Addr.add] using World.cell?_spot (hq 0 (by omega)).1
      subst hspot
      have := hq i hi
      rw [Go.WideShapes.add_plain, Go.WideShapes.add_plain, ← Nat.add_assoc] at this
      exact ⟨b, off, rfl, block_lt this.1, this.1, this.2.1⟩
    · obtain ⟨i, hi⟩ := List.mem_iff_getElem?.1 hm
      obtain ⟨hj, rfl⟩ := hget i m hi
      exact (hq i hj).2.2
end
end Go.Proofs.YtcbgflidlpmhcaaDoor

namespace Go.Proofs.YtcbgflidlpmhcaaDoor
open Go.RowKit

/-- What Light counts. -/
def wtK : List KV → Nat
  | [] => 0
  | m :: r => 20 + m.1.size + m.2.size + wtK r
theorem wtK_snoc (l : List KV) (m : KV) : wtK (l ++ [m]) = wtK l + (20 + m.1.size + m.2.size) := by
  induction l with
  | nil => simp [wtK]
  | cons x r ih => rw [List.cons_append, wtK, wtK, ih]; omega
theorem wtK_append (l r : List KV) : wtK (l ++ r) = wtK l + wtK r := by
  induction l with
  | nil => simp [wtK]
  | cons x l ih => rw [List.cons_append, wtK, wtK, ih]; omega
theorem wtK_take (L : List KV) (k : Nat) : wtK (L.take k) ≤ wtK L := by
  have := wtK_append (L.take k) (L.drop k)
  rw [List.take_append_drop] at this
  omega
theorem wtK_all : ∀ (L : List KV) (m : KV), m ∈ L → 20 + m.1.size + m.2.size ≤ wtK L
  | x :: r, m, h => by
    rw [wtK]
    rcases List.mem_cons.1 h with rfl | h
    · omega
    · have := wtK_all r m h; omega
theorem wtK_len : ∀ (L : List KV), 20 * L.length ≤ wtK L
  | [] => Nat.zero_le _
  | x :: r => by have := wtK_len r; rw [wtK, List.length_cons]; omega
theorem sum_wt : ∀ (L : List KV), sumK L ≤ wtK L
  | [] => Nat.zero_le _
  | x :: r => by have := sum_wt r; rw [wtK, sumK]; omega
/-- Light pairs are no longer than a block may be. -/
theorem light_short {L : List KV} (h : wtK L ≤ 60000) : longK L = false ∧ (blkL L).length ≤ 524288 ∧ okP L ∧ L.length ≤ 3000 := by
  have hl : longK L = false := by
    unfold longK
    rw [List.any_eq_false]
    intro m hm
    have := wtK_all L m hm
    simp
    omega
  have h1 := (blk_bounds hl).1
  have h2 := sum_wt L
  have h3 := wtK_len L
  exact ⟨hl, by omega, fun m hm => by have := wtK_all L m hm; omega, by omega⟩

set_option maxRecDepth 100000 in
set_option maxHeartbeats 4000000 in
theorem light_any (A : Option Addr) (n c : Nat) (L : List KV) (w : World) (h : PairsIn w A n L) :
    Calls Tryd.prog 7 #[.slice A n c] w fun e w' => e = .returned (.bool (decide (wtK L ≤ 60000))) ∧ Below w.heap.size w w' := by
  have HK := Lib.hid h.at_
  have Hlen := Lib.hid h.at_.len
  have Hz := Lib.hid h.size
  have hmax := h.max
  obtain ⟨r, hr⟩ : ∃ r, decide (wtK L ≤ 60000) = r := ⟨_, rfl⟩
  rw [hr]
  have Hr := Lib.hid hr
  clear h hr
  go_enter Tryd.func7, Tryd.ntmps7
  go_wp2_with fail
  go_loopw [3, 4] (fun x i wr => ∃ k t : Nat, k ≤ n ∧ t ≤ 300000000000000 ∧ i = .int .i64 (k : Int) ∧ x = .int .i64 (t : Int) ∧ Hid (t = wtK (L.take k)) ∧ Hid (Below w.heap.size w wr)) (fun _ i _ => n - (intOf i).toNat)
  case atStart => exact ⟨0, 0, by omega, by omega, rfl, rfl, Lib.hid rfl, Lib.hid (Below.refl _ _)⟩
  case round =>
    obtain ⟨k, t, hk, ht, rfl, rfl, Ht, HB⟩ := hrel
    by_cases hl : k < n
    · have g1 : (k : Int) < (n : Int) := by omega
      have g0 : (0 : Int) ≤ (k : Int) := by omega
      by_cases h6 : t ≤ 60000
      · have g2 : (t : Int) ≤ 60000 := by omega
        have g3 : decide ((t : Int) ≤ 60000) = true := decide_eq_true g2
        have hkL : k < L.length := by have := Hlen.out; omega
        have hm : L[k]? = some L[k] := List.getElem?_eq_getElem hkL
        have oz := Hz.out L[k] (List.getElem_mem hkL)
        generalize L[k] = mm at *
        obtain ⟨mk, mv⟩ := mm
        dsimp only at oz
        obtain ⟨g, off, hA, hg, x0, x1⟩ := (HK.out.below HB.out).at_ k _ hm
        subst hA
        dsimp only at x0 x1
        have hw : wtK (L.take (k + 1)) = wtK (L.take k) + (20 + mk.size + mv.size) := by rw [ctake_snoc hm, wtK_snoc]
        rw [← Ht.out] at hw
        have Hw := Lib.hid hw
        obtain ⟨oz1, oz2⟩ := oz
        clear hw hm hkL Ht
        go_wp2_with fail
        go_quiet (fail)
        go_wp2_with fail
        go_roundw
        case rel => exact ⟨k + 1, t + 20 + mk.size + mv.size, by omega, by omega, by go_num, by go_num, Lib.hid (by rw [Hw.out]; omega), Lib.hid (below_drewN HB.out _)⟩
        case measure => simp [intOf]; omega
      · have g2 : ¬ (t : Int) ≤ 60000 := by omega
        have g3 : decide ((t : Int) ≤ 60000) = false := decide_eq_false g2
        have hf : r = false := by
          rw [← Hr.out]
          refine decide_eq_false fun hc => ?_
          have := wtK_take L k
          have := Ht.out
          omega
        subst hf
        clear Hr Ht
        go_wp2_with fail
        go_ret
        exact ⟨rfl, HB.out⟩
    · have g1 : ¬ (k : Int) < (n : Int) := by omega
      have g4 : decide ((k : Int) < (n : Int)) = false := decide_eq_false g1
      have hf : r = decide ((t : Int) ≤ 60000) := by
        rw [← Hr.out, Ht.out, List.take_of_length_le (by have := Hlen.out; omega)]
        by_cases h : wtK L ≤ 60000
        · rw [decide_eq_true h, decide_eq_true (by omega)]
        · rw [decide_eq_false h, decide_eq_false (by omega)]
      subst hf
      clear Hr Ht
      go_wp2_with fail
      go_ret
      exact ⟨rfl, HB.out⟩

/-- The pairs of the first call. -/
def aliveL : List KV := [(⟨#[97, 98]⟩, ⟨#[49]⟩), (⟨#[97, 99]⟩, ⟨#[50]⟩)]
theorem alive_body : bodyL 0 [] aliveL = [0, 2, 1, 97, 98, 49, 1, 1, 1, 99, 50] := by
  have p0 := pv_last 0 (by decide)
  have p1 := pv_last 1 (by decide)
  have p2 := pv_last 2 (by decide)
  have c0 : comI 0 [] (bl aliveL[0].1) = 0 := by decide +kernel
  have c1 : comI 1 (bl aliveL[0].1) (bl aliveL[1].1) = 1 := by decide +kernel
  unfold aliveL
  rw [bodyL, bodyL, bodyL, onePair, onePair]
  unfold aliveL at c0 c1
  simp only [List.getElem_cons_zero, List.getElem_cons_succ] at c0 c1
  rw [c0, c1]
  show pv 0 ++ (pv 2 ++ (pv 1 ++ ([97, 98] ++ [49]))) ++ (pv 1 ++ (pv 1 ++ (pv 1 ++ ([99] ++ [50]))) ++ []) = _
  rw [p0, p1, p2]
  rfl
theorem alive_build : ∃ s : ByteArray, buildP aliveL = (s, 0) ∧ s.size = 19 ∧ (bl s).take 9 = [0, 2, 1, 97, 98, 49, 1, 1, 1] := by
  have h1 : risesK aliveL = true := by decide +kernel
  have h2 : longK aliveL = false := by decide +kernel
  have h3 := blkL_length aliveL
  rw [alive_body] at h3
  have h4 : (blkL aliveL).length = 19 := h3
  refine ⟨⟨(blkL aliveL).toArray⟩, ?_, by rw [size_mk]; exact h4, ?_⟩
  · unfold buildP
    rw [if_neg (by rw [h1]; decide), if_neg (by rw [h2]; decide), if_neg (by omega)]
  · rw [bl_mk]
    unfold blkL
    rw [alive_body]
    rfl

end Go.Proofs.YtcbgflidlpmhcaaDoor

namespace Go.Proofs.YtcbgflidlpmhcaaDoor
open Go.RowKit

theorem u8_zero (a : UInt8) : a = 0 ↔ a.toNat = 0 := by rw [← UInt8.toNat_inj]; rfl
theorem u8_one (a : UInt8) : a = 1 ↔ a.toNat = 1 := by rw [← UInt8.toNat_inj]; rfl
theorem head_all {s : ByteArray} (h : headN (bl s) = (bl s).length) : headT s = s := by
  unfold headT
  rw [h]
  show s.extract 0 s.size = s
  simp
set_option maxRecDepth 100000 in
set_option maxHeartbeats 2000000 in
theorem rhead13_any (s : ByteArray) (w : World) (hs : s.size ≤ 140737488355328) :
    Calls Tryd.prog 15 #[.string s] w fun e w' => e = .returned (.string (headT s)) ∧ w = w' := by
  have H1 := Lib.hid (headN_at (bl s))
  have H2 := Lib.hid (headN_none (bl s))
  have hge : ∀ (i : Nat) (a : UInt8), (bl s)[i]? = some a ↔ ∃ h : i < s.size, s[i] = a := fun i a => List.getElem?_eq_some_iff
  have Hg := Lib.hid hge
  obtain ⟨T, hT⟩ : ∃ T, headT s = T := ⟨_, rfl⟩
  rw [hT]
  have HT := Lib.hid hT
  clear hge hT
  go_enter Tryd.func15, Tryd.ntmps15
  go_wp2_with fail
  go_loopw [3] (fun i wr => ∃ k : Nat, k ≤ s.size ∧ i = .int .i64 (k : Int) ∧ wr = w ∧ Hid (∀ i, i < k → ∀ a b, (bl s)[i]? = some a → (bl s)[i + 1]? = some b → ¬ (a = 0 ∧ b = 1))) (fun i _ => s.size - (intOf i).toNat)
  case atStart => exact ⟨0, by omega, rfl, rfl, Lib.hid (fun i hi => by omega)⟩
  case round =>
    obtain ⟨k, hk, rfl, rfl, Hn⟩ := hrel
    have w1 : wrap64 ((k : Int) + 1) = (k : Int) + 1 := by unfold wrap64; omega
    have w2 : wrap64 ((k : Int) + 2) = (k : Int) + 2 := by unfold wrap64; omega
    by_cases hl : k + 1 < s.size
    · have g1 : (k : Int) + 1 < (s.size : Int) := by omega
      have g2 : (k : Int) < (s.size : Int) := by omega
      have g3 : (0 : Int) ≤ (k : Int) := by omega
      have g4 : (0 : Int) ≤ (k : Int) + 1 := by omega
      have hk0 : k < s.size := by omega
      obtain ⟨a, ha⟩ : ∃ a : UInt8, s[k] = a := ⟨_, rfl⟩
      obtain ⟨b, hb⟩ : ∃ b : UInt8, s[k + 1] = b := ⟨_, rfl⟩
      have Ha := Lib.hid ((Hg.out k a).2 ⟨hk0, ha⟩)
      have Hb : Hid ((bl s)[k + 1]? = some b) := Lib.hid ((Hg.out (k + 1) b).2 ⟨hl, hb⟩)
      by_cases h0 : a.toNat = 0
      · have e1 : ((a.toNat : Int) == 0) = true := beq_iff_eq.2 (by omega)
        by_cases h1 : b.toNat = 1
        · have e2 : ((b.toNat : Int) == 1) = true := beq_iff_eq.2 (by omega)
          have hN := H1.out k Hn.out a b Ha.out Hb.out ⟨(u8_zero a).2 h0, (u8_one b).2 h1⟩
          have Hx : Hid (T = s.extract 0 (k + 2)) := Lib.hid (by rw [← HT.out]; unfold headT; rw [hN])
          have g5 : (0 : Int) ≤ (k : Int) + 2 := by omega
          have g6 : (k : Int) + 2 ≤ (s.size : Int) := by omega
          clear h0 h1 hN Ha Hb H1 H2 Hn Hg
          go_wp2_with fail
          go_ret
          exact ⟨by rw [Hx.out]; rfl, rfl⟩
        · have e2 : ((b.toNat : Int) == 1) = false := beq_eq_false_iff_ne.2 (by omega)
          have Hn2 : Hid (∀ i, i < k + 1 → ∀ a b, (bl s)[i]? = some a → (bl s)[i + 1]? = some b → ¬ (a = 0 ∧ b = 1)) := Lib.hid (by
            intro i hi x y hx hy
            by_cases e : i = k
            · subst e
              rw [Hb.out] at hy
              cases hy
              exact fun h => h1 ((u8_one b).1 h.2)
            · exact Hn.out i (by omega) x y hx hy)
          clear h0 h1 Ha Hb H1 H2 Hn Hg HT
          go_wp2_with fail
          go_roundw
          case rel => exact ⟨k + 1, by omega, by go_num, trivial, Hn2⟩
          case measure => simp [intOf]; omega
      · have e1 : ((a.toNat : Int) == 0) = false := beq_eq_false_iff_ne.2 (by omega)
        have Hn2 : Hid (∀ i, i < k + 1 → ∀ a b, (bl s)[i]? = some a → (bl s)[i + 1]? = some b → ¬ (a = 0 ∧ b = 1)) := Lib.hid (by
          intro i hi x y hx hy
          by_cases e : i = k
          · subst e
            rw [Ha.out] at hx
            cases hx
            exact fun h => h0 ((u8_zero a).1 h.1)
          · exact Hn.out i (by omega) x y hx hy)
        clear h0 Ha Hb H1 H2 Hn Hg HT
        go_wp2_with fail
        go_roundw
        case rel => exact ⟨k + 1, by omega, by go_num, trivial, Hn2⟩
        case measure => simp [intOf]; omega
    · have g1 : ¬ (k : Int) + 1 < (s.size : Int) := by omega
      have Hx : Hid (T = s) := Lib.hid (by
        rw [← HT.out]
        refine head_all (H2.out fun i a b ha hb => ?_)
        have hi := (List.getElem?_eq_some_iff.1 hb).1
        have hi : i + 1 < s.size := hi
        exact Hn.out i (by omega) a b ha hb)
      clear H1 H2 Hn Hg HT
      go_wp2_with fail
      go_ret
      exact ⟨by rw [Hx.out]; rfl, rfl⟩
theorem blkSt_take {L : List KV} {k : Nat} {m : KV} (hm : L[k]? = some m) : blkSt (L.take (k + 1)) = blkStep (blkSt (L.take k)) m := by
  rw [List.take_add_one, hm]
  exact blkSt_snoc _ _
/-- What is known of the blocks so far. -/
structure BkIn (L : List KV) (k b z : Nat) (t : Bool) : Prop where
  lt : t = true → z < 1024
  num : (blkSt (L.take k)).1 = b
  opn : (blkSt (L.take k)).2.2 = t
  siz : t = true → (blkSt (L.take k)).2.1 = z
end Go.Proofs.YtcbgflidlpmhcaaDoor

namespace Go.Proofs.YtcbgflidlpmhcaaDoor
open Go.RowKit

/-- Texts as cells. -/
def elTx : El ByteArray := ⟨fun x => [.string x], 1, by decide, fun _ => rfl, fun x u hu => by simp at hu; subst hu; rfl, fun _ _ => ⟨#[]⟩⟩
theorem infoTx : (Tryd.prog.info? 9).map (fun i => (i.zero, i.size, i.bytes)) = some (some (.string ⟨#[]⟩), elTx.sz, 16) := by kernel_rfl
theorem underTx : Tryd.prog.underlying 62 = some (.slice 9) := by kernel_rfl
def markT : ByteArray := ⟨#[109, 97, 114, 107]⟩
theorem TextsAt.row {w : World} {A : Option Addr} {n : Nat} {L : List ByteArray} (h : TextsAt w A n L) : (A = none → L = []) ∧ ∀ a, A = some a → ∀ j u, (elTx.row L)[j]? = some u → w.cell? (a.add j) = some u := by
  refine ⟨fun hA => ?_, fun a ha j u hu => ?_⟩
  · cases L with
    | nil => rfl
    | cons m r =>
      obtain ⟨g, off, e, _⟩ := h.at_ 0 m rfl
      rw [hA] at e; cases e
  · have hj := (List.getElem?_eq_some_iff.1 hu).1
    rw [elTx.row_length] at hj
    have hj : j < L.length * 1 := hj
    obtain ⟨m, hm⟩ : ∃ m, L[j]? = some m := ⟨_, List.getElem?_eq_getElem (by omega)⟩
    obtain ⟨g, off, e, _, x0⟩ := h.at_ _ _ hm
    rw [ha] at e
    cases e
    rw [Addr.add_lit]
    have hd : j = j * elTx.sz + 0 := by show j = j * 1 + 0; omega
    rw [hd, elTx.row_at L j 0 m hm (by decide)] at hu
    have hu : some (Value.string m) = some u := hu
    cases hu
    exact x0
/-- A list lent: its row, the mark behind it. -/
structure LentT (w : World) (B g n cap : Nat) (L : List ByteArray) : Prop where
  len : n = L.length
  row : Own elTx w B 9 (.slice (some ⟨g, 0, none⟩) (n + 1) cap) (L ++ [markT])
theorem LentT.below {w w' : World} {B g n cap : Nat} {L : List ByteArray} (h : LentT w B g n cap L) (hb : Below w.heap.size w w') : LentT w' B g n cap L := ⟨h.len, h.row.below hb⟩
theorem LentT.tn {w w' : World} {B g n cap : Nat} {L : List ByteArray} (h : LentT w B g n cap L) {B' : Nat} {T : Obj → Bool} (hb : Tn B' T w w') (hT : ∀ cs fr, T (.cells cs 9 fr) = false) : LentT w' B g n cap L := ⟨h.len, h.row.tn hb hT⟩
theorem own_capT {w : World} {B g n cap sz : Nat} {e : TypeId} {xs : List Value} (h : w.ownsRow B e sz (.slice (some ⟨g, 0, none⟩) n cap) n xs) : n ≤ cap := by
  rcases h.2 with ⟨h1, _⟩ | ⟨g', cap', cur, hv, _, _, hle, _⟩
  · cases h1
  · injection hv with e1 e2 e3
    omega
theorem LentT.cap {w : World} {B g n cap : Nat} {L : List ByteArray} (h : LentT w B g n cap L) : n + 1 ≤ cap := by
  have h1 := h.row
  unfold Own at h1
  rw [List.length_append, ← h.len] at h1
  exact own_capT h1
theorem LentT.at_ {w : World} {B g n cap : Nat} {L : List ByteArray} (h : LentT w B g n cap L) : TextsAt w (some ⟨g, 0, none⟩) n L := by
  have h1 := h.row
  rw [show (n + 1 : Nat) = (L ++ [markT]).length by rw [List.length_append, h.len]; rfl] at h1
  refine ⟨h.len, fun i m hm => ?_⟩
  have hi := (List.getElem?_eq_some_iff.1 hm).1
  have hm' : (L ++ [markT])[i]? = some m := by rw [List.getElem?_append_left hi]; exact hm
  have hc0 := Own.cells (i := i) (j := 0) h1 hm' (by decide) rfl
  obtain ⟨g', c', cur, hv, hg, hh⟩ := Own.some_ h1 (by rw [List.length_append]; simp)
  cases hv
  refine ⟨g, 0, rfl, (Array.getElem?_eq_some_iff.1 hh).1, ?_⟩
  rw [Nat.zero_add]
  rwa [show i * elTx.sz + 0 = i from by show i * 1 + 0 = _; omega] at hc0
theorem LentT.mark {w : World} {B g n cap : Nat} {L : List ByteArray} (h : LentT w B g n cap L) : w.cell? ⟨g, n, none⟩ = some (.string ⟨#[109, 97, 114, 107]⟩) := by
  have h1 := h.row
  rw [show (n + 1 : Nat) = (L ++ [markT]).length by rw [List.length_append, h.len]; rfl] at h1
  have hm' : (L ++ [markT])[n]? = some markT := by rw [h.len]; simp
  have := Own.cells (i := n) (j := 0) h1 hm' (by decide) rfl
  rwa [show n * elTx.sz + 0 = n from by show n * 1 + 0 = _; omega] at this

end Go.Proofs.YtcbgflidlpmhcaaDoor

namespace Go.Proofs.YtcbgflidlpmhcaaDoor
open Go.RowKit

theorem Own.textsAt {w : World} {B : Nat} {e : TypeId} {A : Option Addr} {n c : Nat} {L : List ByteArray} (h : Own elTx w B e (.slice A n c) L) (hn : n = L.length) : TextsAt w A n L := by
  refine ⟨hn, fun i m hm => ?_⟩
  have hi := (List.getElem?_eq_some_iff.1 hm).1
  subst hn
  obtain ⟨g', c', cur, hv, hg, hh⟩ := Own.some_ h (by omega)
  cases hv
  have hc0 := Own.cells (E := elTx) (i := i) (j := 0) h hm (by decide) rfl
  refine ⟨g', 0, rfl, (Array.getElem?_eq_some_iff.1 hh).1, ?_⟩
  rw [Nat.zero_add]
  rwa [show i * elTx.sz + 0 = i from by show i * 1 + 0 = _; omega] at hc0
theorem headsK_take {L : List KV} {k : Nat} {m : KV} (hm : L[k]? = some m) : headsK (L.take (k + 1)) = headsStep (headsK (L.take k)) m := by
  rw [List.take_add_one, hm]
  exact headsK_snoc _ _
theorem hasT_take {H : List ByteArray} {j : Nat} {t h : ByteArray} (ht : H[j]? = some t) : hasT (H.take (j + 1)) h = (hasT (H.take j) h || (t.toList == h.toList)) := by
  unfold hasT
  rw [List.take_add_one, ht, List.any_append]
  simp
end Go.Proofs.YtcbgflidlpmhcaaDoor

namespace Go.Proofs.YtcbgflidlpmhcaaDoor
open Go.RowKit

theorem takenN_drop {R : List KV} {k : Nat} {m : KV} (hm : R[k]? = some m) (z : Nat) : takenN z (R.drop k) = if 1024 ≤ z + m.1.size + m.2.size then 1 else takenN (z + m.1.size + m.2.size) (R.drop (k + 1)) + 1 := by
  obtain ⟨h1, h2⟩ := List.getElem?_eq_some_iff.1 hm
  rw [List.drop_eq_getElem_cons h1, h2, takenN]

set_option maxRecDepth 100000 in
set_option maxHeartbeats 2000000 in
theorem staken_any (A : Option Addr) (n c : Nat) (R : List KV) (w : World) (h : KeysAt w A n R) (hw : wtK R ≤ 60000) :
    Calls Tryd.prog 24 #[.slice A n c] w fun e w' => e = .returned (.int .i64 (takenN 0 R : Nat)) ∧ Below w.heap.size w w' := by
  have HK := Lib.hid h
  have Hlen := Lib.hid h.len
  have hn : n ≤ 3000 := by have := wtK_len R; have := h.len; omega
  have Hsz : Hid (∀ m ∈ R, m.1.size ≤ 60000 ∧ m.2.size ≤ 60000) := Lib.hid (fun m hm => by have := wtK_all R m hm; omega)
  obtain ⟨T, hT⟩ : ∃ T, takenN 0 R = T := ⟨_, rfl⟩
  rw [hT]
  have HT := Lib.hid hT
  clear h hw hT
  go_enter Tryd.func24, Tryd.ntmps24
  go_wp2_with fail
  go_loopw [3, 8] (fun x i wr => ∃ k z : Nat, k ≤ n ∧ z < 1024 ∧ i = .int .i64 (k : Int) ∧ x = .int .i64 (z : Int) ∧ Hid (T = k + takenN z (R.drop k)) ∧ Hid (Below w.heap.size w wr)) (fun _ i _ => n - (intOf i).toNat)
  case atStart => exact ⟨0, 0, by omega, by omega, rfl, rfl, Lib.hid (by rw [← HT.out, List.drop_zero, Nat.zero_add]), Lib.hid (Below.refl _ _)⟩
  case round =>
    obtain ⟨k, z, hk, hz, rfl, rfl, HE, HB⟩ := hrel
    by_cases hl : k < n
    · have g1 : (k : Int) < (n : Int) := by omega
      have g0 : (0 : Int) ≤ (k : Int) := by omega
      have hkL : k < R.length := by have := Hlen.out; omega
      have hm : R[k]? = some R[k] := List.getElem?_eq_getElem hkL
      have om := Hsz.out R[k] (List.getElem_mem hkL)
      generalize R[k] = mm at *
      obtain ⟨mk, mv⟩ := mm
      obtain ⟨om1, om2⟩ := om
      dsimp only at om1 om2
      obtain ⟨g, off, hA, hg, x0, x1⟩ := (HK.out.below HB.out).at_ k _ hm
      subst hA
      dsimp only at x0 x1
      have hd := takenN_drop hm z
      dsimp only at hd
      have hE := HE.out
      rw [hd] at hE
      have HE2 := Lib.hid hE
      clear hd hE HE hm hkL
      by_cases hc : 1024 ≤ z + mk.size + mv.size
      · have q1 : (1024 : Int) ≤ (z : Int) + ((mk.size : Int) + (mv.size : Int)) := by omega
        have q2 : decide ((1024 : Int) ≤ (z : Int) + ((mk.size : Int) + (mv.size : Int))) = true := decide_eq_true q1
        have hT1 : T = k + 1 := by have := HE2.out; rw [if_pos hc] at this; exact this
        clear HE2 hc
        go_wp2_with fail
        go_ret
        exact ⟨by rw [hT1]; push_cast; rfl, below_alloc HB.out (Nat.le_refl _) _⟩
      · have q1 : ¬ (1024 : Int) ≤ (z : Int) + ((mk.size : Int) + (mv.size : Int)) := by omega
        have q2 : decide ((1024 : Int) ≤ (z : Int) + ((mk.size : Int) + (mv.size : Int))) = false := decide_eq_false q1
        have HT1 : Hid (T = k + 1 + takenN (z + mk.size + mv.size) (R.drop (k + 1))) := Lib.hid (by have := HE2.out; rw [if_neg hc] at this; omega)
        have hz2 : z + mk.size + mv.size < 1024 := by omega
        clear HE2 hc
        go_wp2_with fail
        go_roundw
        case rel => exact ⟨k + 1, z + mk.size + mv.size, by omega, hz2, by go_num, by go_num, HT1, Lib.hid (below_alloc HB.out (Nat.le_refl _) _)⟩
        case measure => simp [intOf]; omega
    · obtain rfl : k = n := by omega
      have g1 : ¬ (k : Int) < (k : Int) := by omega
      have hT1 : T = k := by
        have := HE.out
        rw [List.drop_eq_nil_of_le (by have := Hlen.out; omega)] at this
        exact this
      clear HE HT
      go_wp2_with fail
      go_ret
      exact ⟨by first | rfl | rw [hT1], HB.out⟩

theorem map_take_snoc {L : List KV} {k : Nat} {m : KV} (hm : L[k]? = some m) : (L.take (k + 1)).map (fun m => headT m.1) = (L.take k).map (fun m => headT m.1) ++ [headT m.1] := by
  rw [List.take_add_one, hm, List.map_append]
  rfl
theorem elTx_row (H : List ByteArray) : elTx.row H = (H.map fun s => bl s).map encStr := by
  unfold El.row elTx
  induction H with
  | nil => rfl
  | cons x r ih => rw [List.flatMap_cons, ih]; rfl
theorem heads_len {L : List KV} (hR : risesK L = true) {k : Nat} (hk : L.length = k) : (Lib.compactUpTo (hdsA L) k).length = (headsK L).length := by
  have hcp := heads_compact hR L.length (Nat.le_refl _)
  rw [List.take_length, hk] at hcp
  rw [← hcp, List.length_map]
theorem heads_cells {L : List KV} (hR : risesK L = true) {k : Nat} (hk : L.length = k) : (headsK L).map (fun s => bl s) = Lib.compactUpTo (hdsA L) k := by
  have hcp := heads_compact hR L.length (Nat.le_refl _)
  rw [List.take_length, hk] at hcp
  rw [← hcp, List.map_map]
  exact List.map_id'' (fun l => rfl) _
theorem heads_end {L : List KV} {wr : World} {B k co : Nat} {ao : Option Addr} (HN : Own elTx wr B 9 (.slice ao k co) (L.map fun m => headT m.1)) (hk : L.length = k) (h0 : 0 < k) (hR : risesK L = true) :
    ∃ g, ao = some ⟨g, 0, none⟩ ∧ B ≤ g ∧ k ≤ co ∧ Sort.Holds encStr wr g 0 (hdsA L) ∧
      ∀ q, TextsAt (Sort.putRow encStr (Sort.ahead wr q) g 0 (Lib.compactUpTo (hdsA L) k ++ List.replicate (k - (headsK L).length) []).toArray) (some ⟨g, 0, none⟩) (headsK L).length (headsK L) := by
  have hlen : (L.map fun m => headT m.1).length = k := by rw [List.length_map, hk]
  have e9 : (L.map fun m => headT m.1).map (fun s => bl s) = L.map fun m => bl (headT m.1) := List.map_map ..
  have hO : wr.ownsRow B 9 1 (.slice ao k co) k ((L.map fun m => bl (headT m.1)).map encStr) := by
    have h := HN
    unfold Own at h
    rw [hlen, elTx_row, e9] at h
    exact h
  obtain ⟨g, cap, he, hbg, hg, hcap, hcm, hzl, hH⟩ := Lib.holds_of_ownsRow hO (fun e => by cases e; omega)
  injection he with q1 q2 q3
  subst q1
  subst q3
  refine ⟨g, rfl, hbg, hcap, hH, fun q => ?_⟩
  have hcl := heads_len hR hk
  have hle : (headsK L).length ≤ k := by have := headsK_len L; omega
  have h9 := Lib.ownsRow_putRow (q := q) (k := (headsK L).length) (ys := Lib.compactUpTo (hdsA L) k ++ List.replicate (k - (headsK L).length) []) hO (by rw [List.length_append, List.length_replicate, hcl]; omega) hle
  rw [← hcl, List.take_left, hcl, ← heads_cells hR hk, ← elTx_row] at h9
  rw [heads_cells hR hk] at h9
  exact Own.textsAt (L := headsK L) h9 rfl
set_option maxRecDepth 100000 in
set_option maxHeartbeats 2000000 in
theorem sheads_any (A : Option Addr) (n c : Nat) (L : List KV) (w : World) (h : KeysAt w A n L) (hw : wtK L ≤ 60000) (hne : L ≠ []) (hR : risesK L = true) (hT : LaidS w) :
    Calls Tryd.prog 28 #[.slice A n c] w fun e w' => ∃ A' c', e = .returned (.slice A' (headsK L).length c') ∧ TextsAt w' A' (headsK L).length (headsK L) ∧ Below w.heap.size w w' := by
  have HK := Lib.hid h
  have Hlen := Lib.hid h.len
  have hn : n ≤ 3000 := by have := wtK_len L; have := h.len; omega
  have hn0 : 0 < n := by have := List.length_pos_iff.2 hne; have := h.len; omega
  have Hsz : Hid (∀ m ∈ L, m.1.size ≤ 60000 ∧ m.2.size ≤ 60000) := Lib.hid (fun m hm => by have := wtK_all L m hm; omega)
  have HT := Lib.hid hT
  have HR := Lib.hid hR
  clear h hw hne hR hT
  go_enter Tryd.func28, Tryd.ntmps28
  go_wp2_with fail
  go_loopw [3, 8] (fun o i wr => ∃ k : Nat, k ≤ n ∧ i = .int .i64 (k : Int) ∧ Hid (Own elTx wr w.heap.size 9 o ((L.take k).map fun m => headT m.1)) ∧ Hid (Below w.heap.size w wr)) (fun _ i _ => n - (intOf i).toNat)
  case atStart => exact ⟨0, by omega, rfl, World.ownsRow_nil _ _ _ _, Lib.hid (Below.refl _ _)⟩
  case round =>
    obtain ⟨k, hk, rfl, HN, HB⟩ := hrel
    have hkl : ((L.take k).map fun m => headT m.1).length = k := by rw [List.length_map, List.length_take]; have := Hlen.out; omega
    by_cases hl : k < n
    · obtain ⟨ao, co, eo⟩ := HN.out.slice
      rw [hkl] at eo
      subst eo
      have g1 : (k : Int) < (n : Int) := by omega
      have g0 : (0 : Int) ≤ (k : Int) := by omega
      have hkL : k < L.length := by have := Hlen.out; omega
      have hm : L[k]? = some L[k] := List.getElem?_eq_getElem hkL
      have om := Hsz.out L[k] (List.getElem_mem hkL)
      generalize L[k] = mm at *
      obtain ⟨mk, mv⟩ := mm
      obtain ⟨om1, om2⟩ := om
      dsimp only at om1 om2
      obtain ⟨g, off, hA, hg, x0, x1⟩ := (HK.out.below HB.out).at_ k _ hm
      subst hA
      dsimp only at x0 x1
      have hsn := map_take_snoc hm
      dsimp only at hsn
      have HB1 := Lib.hid (below_alloc HB.out (Nat.le_refl _) (.cells #[.string mk, .string mv] 35))
      have CH := Lib.hid (shead_any mk (wr.alloc (.cells #[.string mk, .string mv] 35)) (by omega) (HT.out.on HB1.out))
      have HN1 : Own elTx (wr.alloc (.cells #[.string mk, .string mv] 35)) w.heap.size 9 (.slice ao k co) ((L.take k).map fun m => headT m.1) := World.ownsRow.alloc HN.out _
      have y0 : (wr.alloc (.cells #[.string mk, .string mv] 35)).cell? ⟨wr.heap.size, 0, none⟩ = some (.string mk) := (Blk.new _ _ _).cell 0
      generalize headT mk = hd at *
      obtain ⟨H, hH⟩ : ∃ H, (L.take k).map (fun m => headT m.1) = H := ⟨_, rfl⟩
      rw [hH] at hsn HN1 hkl
      have Hsn := Lib.hid hsn
      have HN2 := Lib.hid HN1
      have Hkl := Lib.hid hkl
      clear hsn HN1 HN HB hm hkL hkl hH
      go_wp2_with fail
      refine CH.out.mono ?_
      rintro e w5 ⟨rfl, rfl⟩
      clear CH x0 x1
      obtain ⟨w6, hw6⟩ : ∃ w6, wr.alloc (.cells #[.string mk, .string mv] 35) = w6 := ⟨_, rfl⟩
      rw [hw6] at HN2 HB1 y0 ⊢
      clear hw6
      obtain ⟨v', w2, hr, hown, hgr, _, _⟩ := app_own (P := Tryd.prog) elTx 62 9 (.string ⟨#[]⟩) 16 underTx infoTx rfl (w6.alloc (.cells #[.string hd] 9)) w.heap.size (.slice ao k co) H [hd] (World.ownsRow.alloc HN2.out _) (some ⟨w6.heap.size, 0, none⟩) 1 (fun h => by cases h) (fun a ha j' u hu => by
        cases ha
        rw [El.row_one] at hu
        refine cells_new w6 9 [.string hd] j' u ?_
        skip
        exact hu) (by rw [Hkl.out]; unfold maxLen; simp; omega) (by rw [Hkl.out]; simp; omega) (Nat.le_trans HB1.out.size (by simp)) 1 rfl
      rw [← Hsn.out] at hown
      have HR9 := fun ty => Lib.hid (hr ty)
      have HN3 := Lib.hid hown
      have HB3 : Hid (Below w.heap.size w w2) := Lib.hid ((below_alloc HB1.out (Nat.le_refl _) (.cells #[.string hd] 9)).grown hgr (Nat.le_trans HB1.out.size (by simp)) (fun j hj => (HN2.out.lt hj).1))
      clear hr hown hgr HN2 HB1
      go_wp2_with (at_builtin; refine wpList_append_k _ w2 rfl (.tmp 12) (.tmp 16) 62 rfl _ _ v' rfl rfl (fun ty => (HR9 ty).out) ?_)
      go_roundw
      case rel => exact ⟨k + 1, by omega, by go_num, HN3, HB3⟩
      case measure => simp [intOf]; omega
    · obtain rfl : k = n := by omega
      have g1 : ¬ (k : Int) < (k : Int) := by omega
      have hall : L.take k = L := List.take_of_length_le (Nat.le_of_eq Hlen.out.symm)
      rw [hall] at HN hkl
      obtain ⟨ao, co, eo⟩ := HN.out.slice
      rw [hkl] at eo
      subst eo
      obtain ⟨g, rfl, hbg, hcap, hH, hfin⟩ := heads_end (k := k) (co := co) HN.out Hlen.out.symm hn0 HR.out
      have C := Tryd.slices_Compact_string_arr g 0 co (hdsA L) wr hH (by rw [hdsA_size]; have := Hlen.out; omega) (by rw [hdsA_size]; have := Hlen.out; omega)
      rw [hdsA_size, Hlen.out.symm, heads_len HR.out Hlen.out.symm] at C
      have Hfin := Lib.hid hfin
      have HB2 : Hid (∀ q, Below w.heap.size w (Sort.putRow encStr (Sort.ahead wr q) g 0 (Lib.compactUpTo (hdsA L) k ++ List.replicate (k - (headsK L).length) []).toArray)) := Lib.hid (fun q => Lib.below_putRow HB.out hbg)
      have C := Lib.hid C
      clear hfin hH hkl HN hall
      go_wp2_with fail
      refine C.out.mono ?_
      rintro e w7 ⟨rfl, q, rfl⟩
      have F1 := Lib.hid (Hfin.out q)
      have F2 := Lib.hid (HB2.out q)
      clear Hfin HB2 C
      generalize Sort.putRow encStr (Sort.ahead wr q) g 0 (Lib.compactUpTo (hdsA L) k ++ List.replicate (k - (headsK L).length) []).toArray = w8 at *
      go_wp2_with fail
      go_ret
      exact ⟨_, _, rfl, F1.out, F2.out⟩
end Go.Proofs.YtcbgflidlpmhcaaDoor

namespace Go.Proofs.YtcbgflidlpmhcaaDoor
open Go.RowKit

/-- A table of these pairs, so many blocks, and this filter, as it lies. -/
structure TabN (W : World) (t : Nat) (L : List KV) (nb : Nat) (F : ByteArray) : Prop where
  ex : ∃ A c, Blk W t 46 #[.slice A L.length c, .int .i64 (nb : Int), .string F] ∧ Own elKeys W 0 35 (.slice A L.length c) L ∧ L.length ≤ c
  ne : L ≠ []
  rises : risesK L = true
  short : longK L = false
  len : L.length ≤ 1000000
  fil : F.size ≤ 1000000
theorem TabN.up {W W' : World} {t : Nat} {L : List KV} {nb : Nat} {F : ByteArray} (h : TabN W t L nb F) (hb : Below W.heap.size W W') : TabN W' t L nb F := by
  obtain ⟨A, c, h1, h2, h3⟩ := h.ex
  exact ⟨⟨A, c, h1.below hb h1.lt, h2.below hb, h3⟩, h.ne, h.rises, h.short, h.len, h.fil⟩
theorem TabN.tn {B : Nat} {W W' : World} {t : Nat} {L : List KV} {nb : Nat} {F : ByteArray} {T : Obj → Bool} (h : TabN W t L nb F) (g : Tn B T W W') (h1 : ∀ cs fr, T (.cells cs 46 fr) = false) (h2 : ∀ cs fr, T (.cells cs 35 fr) = false) : TabN W' t L nb F := by
  obtain ⟨A, c, k1, k2, k3⟩ := h.ex
  exact ⟨⟨A, c, g.blk k1 (h1 _ _), k2.tn g h2, k3⟩, h.ne, h.rises, h.short, h.len, h.fil⟩
theorem own_keysAt {W : World} {B : Nat} {A : Option Addr} {n c : Nat} {L : List KV} (h : Own elKeys W B 35 (.slice A n c) L) (hn : n = L.length) : KeysAt W A n L := by
  refine ⟨hn, fun i m hm => ?_⟩
  have hi := (List.getElem?_eq_some_iff.1 hm).1
  subst hn
  obtain ⟨g, c', cur, hv, hg, hh⟩ := Own.some_ h (by omega)
  cases hv
  have h0 := Own.cells (E := elKeys) (i := i) (j := 0) h hm (by decide) rfl
  have h1 := Own.cells (E := elKeys) (i := i) (j := 1) h hm (by decide) rfl
  have hlt := (Array.getElem?_eq_some_iff.1 hh).1
  refine ⟨g, 0, rfl, hlt, ?_, ?_⟩
  · rwa [show i * elKeys.sz + 0 = 0 + i * 2 from by show i * 2 + 0 = _; omega] at h0
  · rwa [show i * elKeys.sz + 1 = 0 + i * 2 + 1 from by show i * 2 + 1 = _; omega] at h1

/-! ### Of a nil table, of a zero one -/
set_option maxRecDepth 100000 in
set_option maxHeartbeats 1000000 in
theorem snone_nil (w : World) : Calls Tryd.prog 34 #[.pointer none] w fun e w' => e = .returned (.bool true) ∧ w' = w := by
  go_enter Tryd.func34, Tryd.ntmps34
  go_wp2_with fail
  go_ret
  exact ⟨rfl, rfl⟩
set_option maxRecDepth 100000 in
set_option maxHeartbeats 1000000 in
theorem snone_len (t : Nat) (A : Option Addr) (n c : Nat) (r : Bool) (hr : r = decide (n = 0)) (w : World) (h0 : w.cell? ⟨t, 0, none⟩ = some (.slice A n c)) :
    Calls Tryd.prog 34 #[.pointer (some ⟨t, 0, none⟩)] w fun e w' => e = .returned (.bool r) ∧ w' = w := by
  have g0 : ((n : Int) == 0) = r := by
    rw [hr]
    by_cases h : n = 0
    · rw [h]; rfl
    · rw [decide_eq_false h, beq_eq_false_iff_ne]; omega
  clear hr
  go_enter Tryd.func34, Tryd.ntmps34
  go_wp2_with fail
  go_ret
  exact ⟨rfl, rfl⟩

section
variable {W : World} {t : Nat} {L : List KV} {nb : Nat} {F : ByteArray}
theorem tab_none (h : TabN W t L nb F) : Calls Tryd.prog 34 #[.pointer (some ⟨t, 0, none⟩)] W fun e w' => e = .returned (.bool false) ∧ w' = W := by
  obtain ⟨A, c, h1, h2, h3⟩ := h.ex
  refine snone_len t A L.length c false ?_ W (h1.cell 0)
  rw [decide_eq_false]
  intro e
  exact h.ne (List.eq_nil_of_length_eq_zero e)
set_option maxRecDepth 100000 in
set_option maxHeartbeats 1000000 in
theorem scountN_any (h : TabN W t L nb F) : Calls Tryd.prog 19 #[.pointer (some ⟨t, 0, none⟩)] W fun e w' => e = .returned (.int .i64 (L.length : Nat)) ∧ w' = W := by
  have CN := Lib.hid (tab_none h)
  obtain ⟨A, c, h1, h2, h3⟩ := h.ex
  have c0 : W.cell? ⟨t, 0, none⟩ = some (.slice A L.length c) := h1.cell 0
  generalize L.length = n at *
  clear h1 h2 h3 h
  go_enter Tryd.func19, Tryd.ntmps19
  go_wp2_with fail
  refine CN.out.mono ?_
  rintro e w1 ⟨rfl, rfl⟩
  go_wp2_with fail
  go_ret
  exact ⟨rfl, rfl⟩
set_option maxRecDepth 100000 in
set_option maxHeartbeats 1000000 in
theorem sblocksN_any (h : TabN W t L nb F) : Calls Tryd.prog 20 #[.pointer (some ⟨t, 0, none⟩)] W fun e w' => e = .returned (.int .i64 (nb : Nat)) ∧ w' = W := by
  have CN := Lib.hid (tab_none h)
  obtain ⟨A, c, h1, h2, h3⟩ := h.ex
  have c0 : W.cell? ⟨t, 1, none⟩ = some (.int .i64 (nb : Int)) := h1.cell 1
  clear h1 h2 h3 h
  go_enter Tryd.func20, Tryd.ntmps20
  go_wp2_with fail
  refine CN.out.mono ?_
  rintro e w1 ⟨rfl, rfl⟩
  go_wp2_with fail
  go_ret
  exact ⟨rfl, rfl⟩
set_option maxRecDepth 100000 in
set_option maxHeartbeats 1000000 in
theorem sfirstN_any (h : TabN W t L nb F) {m : KV} (hm : L[0]? = some m) : Calls Tryd.prog 21 #[.pointer (some ⟨t, 0, none⟩)] W fun e w' => e = .returned (.string m.1) ∧ w' = W := by
  have CN := Lib.hid (tab_none h)
  obtain ⟨A, c, h1, h2, h3⟩ := h.ex
  obtain ⟨g, off, rfl, hg, x0, x1⟩ := (own_keysAt h2 rfl).at_ 0 m hm
  have c0 : W.cell? ⟨t, 0, none⟩ = some (.slice (some ⟨g, off, none⟩) L.length c) := h1.cell 0
  have hn : 0 < L.length := (List.getElem?_eq_some_iff.1 hm).1
  generalize L.length = n at *
  have g1 : (0 : Int) < (n : Int) := by omega
  rw [Nat.zero_mul, Nat.add_zero] at x0
  obtain ⟨mk, mv⟩ := m
  dsimp only at x0
  clear h1 h2 h3 h hm x1
  go_enter Tryd.func21, Tryd.ntmps21
  go_wp2_with fail
  refine CN.out.mono ?_
  rintro e w1 ⟨rfl, rfl⟩
  go_wp2_with fail
  go_ret
  exact ⟨rfl, rfl⟩
/-- The last pair, at a table whose first cell is this slice. -/
theorem slast_row (t g off n c k : Nat) (mk : ByteArray) (W : World) (hk : n = k + 1) (hn : n ≤ 1000000) (c0 : W.cell? ⟨t, 0, none⟩ = some (.slice (some ⟨g, off, none⟩) n c)) (x0 : W.cell? ⟨g, off + k * 2, none⟩ = some (.string mk)) :
    Calls Tryd.prog 22 #[.pointer (some ⟨t, 0, none⟩)] W fun e w' => e = .returned (.string mk) ∧ ∃ q, w' = W.drewN q := by
  have CN := Lib.hid (snone_len t _ n c false (by rw [decide_eq_false]; omega) W c0)
  have g1 : wrap64 ((n : Int) - 1) = (k : Int) := by unfold wrap64; omega
  have g2 : IntKind.i64.wrap ((n : Int) - 1) = (k : Int) := by rw [IntKind.wrap_i64]; omega
  have g3 : (k : Int) < (n : Int) := by omega
  have g4 : (0 : Int) ≤ (k : Int) := by omega
  have g5 : k < n := by omega
  have g6 : wrap64 (k : Int) = (k : Int) := by unfold wrap64; omega
  have g7 : IntKind.i64.wrap (k : Int) = (k : Int) := by rw [IntKind.wrap_i64]; omega
  clear hk hn
  go_enter Tryd.func22, Tryd.ntmps22
  go_wp2_with fail
  refine CN.out.mono ?_
  rintro e w1 ⟨rfl, rfl⟩
  go_wp2_with fail
  go_quiet (fail)
  go_wp2_with fail
  go_ret
  exact ⟨rfl, _, rfl⟩
theorem slastN_any (h : TabN W t L nb F) {m : KV} (hm : L[L.length - 1]? = some m) : Calls Tryd.prog 22 #[.pointer (some ⟨t, 0, none⟩)] W fun e w' => e = .returned (.string m.1) ∧ ∃ q, w' = W.drewN q := by
  obtain ⟨A, c, h1, h2, h3⟩ := h.ex
  obtain ⟨g, off, rfl, hg, x0, x1⟩ := (own_keysAt h2 rfl).at_ _ m hm
  have hn := (List.getElem?_eq_some_iff.1 hm).1
  exact slast_row t g off L.length c (L.length - 1) m.1 W (by omega) h.len (h1.cell 0) x0
set_option maxRecDepth 100000 in
set_option maxHeartbeats 1000000 in
theorem smayN_any (h : TabN W t L nb F) (hT : LaidS W) (key : ByteArray) (hk : key.size ≤ 9223372036854775807) : Calls Tryd.prog 14 #[.pointer (some ⟨t, 0, none⟩), .string key] W fun e w' => e = .returned (.bool (mayT F (crc key.data.toList))) ∧ Below W.heap.size W w' := by
  have CN := Lib.hid (tab_none h)
  have CM := Lib.hid (bmay_any F key W hT.m hk (by have := h.fil; omega))
  obtain ⟨A, c, h1, h2, h3⟩ := h.ex
  have c2 : W.cell? ⟨t, 2, none⟩ = some (.string F) := h1.cell 2
  generalize mayT F (crc key.data.toList) = r at *
  clear h1 h2 h3 h hT hk
  go_enter Tryd.func14, Tryd.ntmps14
  go_wp2_with fail
  refine CN.out.mono ?_
  rintro e w1 ⟨rfl, rfl⟩
  go_wp2_with fail
  refine CM.out.mono ?_
  rintro e w2 ⟨rfl, hb⟩
  go_wp2_with fail
  go_ret
  exact ⟨rfl, hb⟩
end
end Go.Proofs.YtcbgflidlpmhcaaDoor

namespace Go.Proofs.YtcbgflidlpmhcaaDoor
open Go.RowKit

set_option maxRecDepth 100000 in
set_option maxHeartbeats 1000000 in
theorem sat1_any (mk mv key : ByteArray) (w : World) :
    Calls Tryd.prog 57 #[.agg #[.string mk, .string mv], .string key] w fun e w' => e = .returned (.int .i64 (cmpT mk key)) ∧ Below w.heap.size w w' := by
  have C := fun W => Lib.hid (compare_T mk key W)
  go_enter Tryd.func57, Tryd.ntmps57
  go_wp2_with fail
  have hb := below_alloc (Below.refl w.heap.size w) (Nat.le_refl _) (.cells #[.string mk, .string mv] 35)
  refine (C _).out.mono ?_
  rintro e w1 ⟨rfl, rfl⟩
  go_wp2_with fail
  go_ret
  exact ⟨rfl, hb⟩

/-- Stands just this key at place i? -/
def foundB (L : List KV) (key : ByteArray) (i : Nat) : Bool := match L[i]? with
  | some m => cmpT m.1 key == 0
  | none => false
def SPosAt (L : List KV) (key : ByteArray) (e : Ending) : Prop := ∃ i : Nat, IsPos L key i ∧ e = .returned (.tuple #[.int .i64 (i : Int), .bool (foundB L key i)])
set_option maxRecDepth 100000 in
set_option maxHeartbeats 4000000 in
theorem ssearch_any (A : Option Addr) (n c : Nat) (L : List KV) (key : ByteArray) (w : World) (h : KeysAt w A n L) (hr : risesK L = true) (hn : n ≤ 1000000) :
    Calls Tryd.prog 56 #[.slice A n c, .string key, .func (.func 57) #[] #[]] w fun e w' => SPosAt L key e ∧ Below w.heap.size w w' := by
  have HK := Lib.hid h
  have Hlen := Lib.hid h.len
  have Hr := Lib.hid hr
  have C := fun mk mv W => Lib.hid (sat1_any mk mv key W)
  clear h hr
  go_enter Tryd.func56, Tryd.ntmps56
  go_wp2_with fail
  go_loopw [9, 10] (fun x y wr => ∃ i j : Nat, x = .int .i64 (i : Int) ∧ y = .int .i64 (j : Int) ∧ i ≤ j ∧ j ≤ n ∧ Hid (∀ (t : Nat) (m : KV), t < i → L[t]? = some m → cmpT m.1 key < 0) ∧ Hid (∀ (t : Nat) (m : KV), j ≤ t → L[t]? = some m → 0 ≤ cmpT m.1 key) ∧ Hid (Below w.heap.size w wr)) (fun x y _ => (intOf y - intOf x).toNat)
  case atStart => exact ⟨0, n, rfl, rfl, by omega, by omega, Lib.hid (fun t m ht => by omega), Lib.hid (fun t m ht hm => by
    have h1 := (List.getElem?_eq_some_iff.1 hm).1
    have := Hlen.out
    omega), Lib.hid (Below.refl _ _)⟩
  case round =>
    obtain ⟨i, j, rfl, rfl, hij, hjn, HI, HJ, HB⟩ := hrel
    by_cases hl : i < j
    · have g1 : (i : Int) < (j : Int) := by omega
      obtain ⟨d, hd⟩ : ∃ d, (i + j) / 2 = d := ⟨_, rfl⟩
      have hdn : d < n := by omega
      have hdL : d < L.length := by have := Hlen.out; omega
      have hm : L[d]? = some L[d] := List.getElem?_eq_getElem hdL
      generalize L[d] = mm at *
      obtain ⟨mk, mv⟩ := mm
      obtain ⟨g, off, hA, hg, x0, x1⟩ := (HK.out.below HB.out).at_ d _ hm
      subst hA
      dsimp only at x0 x1
      have g2 : ((i : Int) + (j : Int)) / 2 = (d : Int) := by omega
      have g3 : (d : Int) < (n : Int) := by omega
      have g4 : (0 : Int) ≤ (d : Int) := by omega
      have Hm := Lib.hid hm
      have Hd := Lib.hid hd
      clear hm hdL hd
      have Cd := Lib.hid (sat1_any mk mv key wr)
      by_cases he : cmpT mk key < 0
      · have e1 : decide (cmpT mk key < 0) = true := decide_eq_true he
        have HI2 : Hid (∀ (t : Nat) (m : KV), t < d + 1 → L[t]? = some m → cmpT m.1 key < 0) := Lib.hid (by
          intro t m ht hm
          rcases Nat.lt_or_ge t d with h | h
          · exact cmpT_trans (rises_get Hr.out h hm Hm.out) he
          · obtain rfl : t = d := by omega
            rw [Hm.out] at hm
            cases hm
            exact he)
        generalize cmpT mk key = cm at *
        go_wp2_with fail
        refine Cd.out.mono ?_
        rintro e w2 ⟨rfl, hb⟩
        have HB2 := Lib.hid (HB.out.trans (hb.mono HB.out.size))
        clear hb
        go_wp2_with fail
        go_roundw
        case rel => exact ⟨d + 1, j, by go_num, rfl, by omega, hjn, HI2, HJ, HB2⟩
        case measure => simp [intOf]; omega
      · have e1 : decide (cmpT mk key < 0) = false := decide_eq_false he
        have HJ2 : Hid (∀ (t : Nat) (m : KV), d ≤ t → L[t]? = some m → 0 ≤ cmpT m.1 key) := Lib.hid (by
          intro t m ht hm
          refine Int.not_lt.1 fun hc => ?_
          rcases Nat.lt_or_ge d t with h | h
          · exact he (cmpT_trans (rises_get Hr.out h Hm.out hm) hc)
          · obtain rfl : t = d := by omega
            rw [Hm.out] at hm
            cases hm
            exact he hc)
        generalize cmpT mk key = cm at *
        go_wp2_with fail
        refine Cd.out.mono ?_
        rintro e w2 ⟨rfl, hb⟩
        have HB2 := Lib.hid (HB.out.trans (hb.mono HB.out.size))
        clear hb
        go_wp2_with fail
        go_roundw
        case rel => exact ⟨i, d, rfl, by go_num, by omega, by omega, HI, HJ2, HB2⟩
        case measure => simp [intOf]; omega
    · obtain rfl : i = j := by omega
      have hpl : Hid (IsPos L key i) := Lib.hid ⟨by have := Hlen.out; omega, HI.out, HJ.out⟩
      have g1 : ¬ (i : Int) < (i : Int) := by omega
      clear HI HJ
      by_cases hin : i < n
      · have hdL : i < L.length := by have := Hlen.out; omega
        have hm : L[i]? = some L[i] := List.getElem?_eq_getElem hdL
        generalize L[i] = mm at *
        obtain ⟨mk, mv⟩ := mm
        obtain ⟨g, off, hA, hg, x0, x1⟩ := (HK.out.below HB.out).at_ i _ hm
        subst hA
        dsimp only at x0 x1
        have g3 : (i : Int) < (n : Int) := by omega
        have g4 : (0 : Int) ≤ (i : Int) := by omega
        have Cd := Lib.hid (sat1_any mk mv key wr)
        have Hf : Hid (foundB L key i = (cmpT mk key == 0)) := Lib.hid (by unfold foundB; rw [hm])
        clear hm hdL
        generalize cmpT mk key = cm at *
        obtain ⟨fb, hfb⟩ : ∃ fb, (cm == 0) = fb := ⟨_, rfl⟩
        rw [hfb] at Hf
        go_wp2_with fail
        refine Cd.out.mono ?_
        rintro e w2 ⟨rfl, hb⟩
        have HB2 := Lib.hid (HB.out.trans (hb.mono HB.out.size))
        clear hb
        go_wp2_with fail
        go_ret2
        exact ⟨⟨i, hpl.out, by rw [Hf.out]; rfl⟩, HB2.out⟩
      · have g3 : ¬ (i : Int) < (n : Int) := by omega
        have g5 : decide ((i : Int) < (n : Int)) = false := decide_eq_false g3
        have Hf : Hid (foundB L key i = false) := Lib.hid (by unfold foundB; rw [List.getElem?_eq_none (by have := Hlen.out; omega)])
        go_wp2_with fail
        go_ret2
        exact ⟨⟨i, hpl.out, by rw [Hf.out]; rfl⟩, HB.out⟩


section
variable {W : World} {t : Nat} {L : List KV} {nb : Nat} {F : ByteArray}
set_option maxRecDepth 100000 in
set_option maxHeartbeats 1000000 in
theorem satN_any (h : TabN W t L nb F) (key : ByteArray) : Calls Tryd.prog 35 #[.pointer (some ⟨t, 0, none⟩), .string key] W fun e w' => SPosAt L key e ∧ Below W.heap.size W w' := by
  obtain ⟨A, c, h1, h2, h3⟩ := h.ex
  have C := Lib.hid (ssearch_any A L.length c L key W (own_keysAt h2 rfl) h.rises h.len)
  have c0 : W.cell? ⟨t, 0, none⟩ = some (.slice A L.length c) := h1.cell 0
  generalize L.length = n at *
  clear h1 h2 h3 h
  go_enter Tryd.func35, Tryd.ntmps35
  go_wp2_with fail
  refine C.out.mono ?_
  rintro e w1 ⟨⟨i, hi, rfl⟩, hb⟩
  have Hi := Lib.hid hi
  clear hi
  go_wp2_with fail
  go_ret2
  exact ⟨⟨i, Hi.out, rfl⟩, hb⟩
set_option maxRecDepth 100000 in
set_option maxHeartbeats 1000000 in
theorem sgetN_any (h : TabN W t L nb F) (key : ByteArray) : Calls Tryd.prog 13 #[.pointer (some ⟨t, 0, none⟩), .string key] W fun e w' => e = .returned (.tuple #[.string (getK L key).1, .int .i64 (getK L key).2]) ∧ Below W.heap.size W w' := by
  have CN := Lib.hid (tab_none h)
  have CA := Lib.hid (satN_any h key)
  obtain ⟨rv, re, hr⟩ : ∃ rv re, getK L key = (rv, re) := ⟨_, _, rfl⟩
  rw [hr]
  have Hr := Lib.hid hr
  have HT := Lib.hid h
  clear h hr
  go_enter Tryd.func13, Tryd.ntmps13
  go_wp2_with fail
  refine CN.out.mono ?_
  rintro e w1 ⟨rfl, rfl⟩
  go_wp2_with fail
  refine CA.out.mono ?_
  rintro e w2 ⟨⟨i, hi, rfl⟩, hb⟩
  have hg := hi.get
  rw [Hr.out] at hg
  have HB := Lib.hid hb
  unfold foundB
  cases hm : L[i]? with
  | none =>
    rw [hm] at hg
    cases hg
    clear hi hb hm CN CA
    try dsimp only
    go_wp2_with fail
    go_ret2
    exact ⟨rfl, HB.out⟩
  | some m =>
    rw [hm] at hg
    dsimp only at hg ⊢
    by_cases hc : cmpT m.1 key = 0
    · rw [if_pos hc] at hg
      cases hg
      have hcb : (cmpT m.1 key == 0) = true := beq_iff_eq.2 hc
      rw [hcb]
      have hT2 := HT.out.up hb
      obtain ⟨A, c, h1, h2, h3⟩ := hT2.ex
      obtain ⟨g, off, rfl, hg0, x0, x1⟩ := (own_keysAt h2 rfl).at_ i m hm
      have c0 : w2.cell? ⟨t, 0, none⟩ = some (.slice (some ⟨g, off, none⟩) L.length c) := h1.cell 0
      have hil := (List.getElem?_eq_some_iff.1 hm).1
      obtain ⟨n, hn⟩ : ∃ n, L.length = n := ⟨_, rfl⟩
      rw [hn] at c0 hil
      have g1 : (i : Int) < (n : Int) := by omega
      have g2 : (0 : Int) ≤ (i : Int) := by omega
      obtain ⟨mk, mv⟩ := m
      dsimp only at x1
      clear hi hb hm hc hcb hT2 h1 h2 h3 x0 hn CN CA
      try dsimp only
      go_wp2_with fail
      go_ret2
      exact ⟨rfl, HB.out⟩
    · rw [if_neg hc] at hg
      cases hg
      have hcb : (cmpT m.1 key == 0) = false := beq_eq_false_iff_ne.2 hc
      rw [hcb]
      clear hi hb hm hc hcb CN CA
      go_wp2_with fail
      go_ret2
      exact ⟨rfl, HB.out⟩
end
set_option maxRecDepth 100000 in
set_option maxHeartbeats 1000000 in
theorem clone_keys (a : Addr) (n c : Nat) (M : List KV) (w : World) (hn : M.length = n) (hM : ∀ j u, (elKeys.row M)[j]? = some u → w.cell? (a.add j) = some u) (hl : n ≤ 1000000) :
    Calls Tryd.prog 36 #[.slice (some a) n c] w fun e w' => ∃ v, e = .returned v ∧ Own elKeys w' w.heap.size 35 v M ∧ w.grownBy w' none := by
  have G0 := World.grownBy_alloc w (.cells #[] 35) none
  have hown : Own elKeys (w.alloc (.cells #[] 35)) w.heap.size 35 (.slice (some ⟨w.heap.size, 0, none⟩) 0 0) [] := ⟨rfl, Or.inr ⟨w.heap.size, 0, #[], rfl, Nat.le_refl _, heap_alloc_new w _, Nat.le_refl _, Nat.zero_le _, rfl, rfl⟩⟩
  obtain ⟨v', w2, hr, ho, hg, _, _⟩ := app_own (P := Tryd.prog) elKeys 22 35 (.agg #[.string ⟨#[]⟩, .string ⟨#[]⟩]) 32 underKeys infoKeys rfl (w.alloc (.cells #[] 35)) w.heap.size (.slice (some ⟨w.heap.size, 0, none⟩) 0 0) [] M hown (some a) c (fun h => by cases h) (fun a' ha j u hu => by
    cases ha
    exact G0.cell (hM j u hu) (by simp)) (by unfold maxLen; simp; omega) (by simp; omega) G0.size n hn.symm
  have HR := fun ty => Lib.hid (hr ty)
  have HO := Lib.hid ho
  have HG := Lib.hid (grow_k G0 hown (Nat.le_refl _) hg)
  clear hr ho hg hown G0 hM hn
  have hnil : ∀ W, (binOp .eql 22 (.slice (some a) n c) (.slice none 0 0)).run Tryd.prog W = .ok (.bool false) W := fun W => Lib.run_eql_slice_some_nil W _ _ _ underKeys
  go_enter Tryd.func36, Tryd.ntmps36
  go_wp2_with (at_builtin; refine wpList_append_k _ w2 rfl (.tmp 5) (.tmp 6) 22 rfl _ _ v' rfl rfl (fun ty => (HR ty).out) ?_)
  go_ret
  exact ⟨v', rfl, by simpa using HO.out, HG.out⟩
end Go.Proofs.YtcbgflidlpmhcaaDoor

namespace Go.Proofs.YtcbgflidlpmhcaaDoor
open Go.RowKit

section
variable {W : World} {t : Nat} {L : List KV} {nb : Nat} {F : ByteArray}
theorem row_drop_cells {W : World} {g : Nat} {n c : Nat} {L : List KV} (h : Own elKeys W 0 35 (.slice (some ⟨g, 0, none⟩) n c) L) (i k : Nat) (o : Nat) (ho : ((L.drop i).take k) ≠ [] → o = i * 2) :
    ∀ j u, (elKeys.row ((L.drop i).take k))[j]? = some u → W.cell? ((⟨g, o, none⟩ : Addr).add j) = some u := by
  intro j u hu
  have hjl : j < (elKeys.row ((L.drop i).take k)).length := (List.getElem?_eq_some_iff.1 hu).1
  rw [elKeys.row_length] at hjl
  have hs : elKeys.sz = 2 := rfl
  rw [hs] at hjl
  have hne : (L.drop i).take k ≠ [] := fun e => by rw [e] at hjl; simp at hjl
  rw [ho hne]
  obtain ⟨q, r, hj, hr⟩ : ∃ q r, j = q * 2 + r ∧ r < 2 := ⟨j / 2, j % 2, by omega, Nat.mod_lt _ (by decide)⟩
  have hq : q < ((L.drop i).take k).length := by omega
  have hx : ((L.drop i).take k)[q]? = some ((L.drop i).take k)[q] := List.getElem?_eq_getElem hq
  generalize ((L.drop i).take k)[q] = x at hx
  have hrow := elKeys.row_at _ q r x hx (by rw [hs]; exact hr)
  rw [hs, ← hj, hu] at hrow
  have hxL : L[i + q]? = some x := by
    rw [List.getElem?_take, List.getElem?_drop] at hx
    split at hx
    · exact hx
    · cases hx
  have := Own.cells (E := elKeys) (i := i + q) (j := r) h hxL (by rw [hs]; exact hr) hrow.symm
  rw [hs] at this
  rw [Addr.add_lit]
  rw [hj]
  rwa [show i * 2 + (q * 2 + r) = (i + q) * 2 + r from by omega]

set_option maxRecDepth 100000 in
set_option maxHeartbeats 2000000 in
theorem sfromN_any (h : TabN W t L nb F) (key : ByteArray) (most : Int) : Calls Tryd.prog 12 #[.pointer (some ⟨t, 0, none⟩), .string key, .int .i64 most] W fun e w' => ∃ v, e = .returned v ∧ Own elKeys w' W.heap.size 35 v (fromK L key most) ∧ Below W.heap.size W w' := by
  have CN := Lib.hid (tab_none h)
  have CA := Lib.hid (satN_any h key)
  have HT := Lib.hid h
  clear h
  go_enter Tryd.func12, Tryd.ntmps12
  go_wp2_with fail
  refine CN.out.mono ?_
  rintro e w1 ⟨rfl, rfl⟩
  go_wp2_with fail
  refine CA.out.mono ?_
  rintro e w2 ⟨⟨i, hi, rfl⟩, hb⟩
  have hfr := hi.from_ most
  have HB := Lib.hid hb
  have hT2 := HT.out.up hb
  obtain ⟨A, c, h1, h2, h3⟩ := hT2.ex
  have hpos : 0 < L.length := List.length_pos_iff.2 hT2.ne
  obtain ⟨g, cc, cur, hv, hg0, hh⟩ := Own.some_ h2 hpos
  cases hv
  have c0 : w2.cell? ⟨t, 0, none⟩ = some (.slice (some ⟨g, 0, none⟩) L.length c) := h1.cell 0
  have hil := hi.le
  have hlen := hT2.len
  obtain ⟨n, hn⟩ : ∃ n, L.length = n := ⟨_, rfl⟩
  have HH2 := Lib.hid h2
  rw [hn] at c0 hil hlen hpos h3
  have Hn := Lib.hid hn
  obtain ⟨fb, hfb⟩ : ∃ fb, foundB L key i = fb := ⟨_, rfl⟩
  rw [hfb]
  have Hfr := Lib.hid hfr
  have g1 : (i : Int) ≤ (n : Int) := by omega
  have g2 : (0 : Int) ≤ (i : Int) := by omega
  have hw2 := hb.size
  have CK : Hid (∀ (o k q : Nat), k ≤ n - i → (0 < n - i → o = i * 2) → fromK L key most = (L.drop i).take k → Calls Tryd.prog 36 #[.slice (some ⟨g, o, none⟩) k q] w2 fun e w' => ∃ v, e = .returned v ∧ Own elKeys w' w1.heap.size 35 v (fromK L key most) ∧ Below w1.heap.size w1 w') := Lib.hid (by
    intro o k q hk ho hf
    have hdl : ((L.drop i).take k).length = k := by rw [List.length_take, List.length_drop]; omega
    refine (clone_keys ⟨g, o, none⟩ k q ((L.drop i).take k) w2 hdl (row_drop_cells h2 i k o (fun hne => ho (by
      rcases Nat.eq_zero_or_pos (n - i) with h0 | h0
      · exact absurd (List.eq_nil_of_length_eq_zero (by omega)) hne
      · exact h0))) (by omega)).mono ?_
    rintro e w' ⟨v, rfl, ho, hgr⟩
    rw [hf]
    exact ⟨v, rfl, ho.low hw2, HB.out.trans ((below_g hgr).mono hw2)⟩)
  have hdrop : (L.drop i).length = n - i := by rw [List.length_drop]; omega
  have K1 : most < 0 → fromK L key most = (L.drop i).take (n - i) := fun hm => by
    rw [hfr, if_pos hm, List.take_of_length_le (by omega)]
  have K2 : ¬ most < 0 → fromK L key most = (L.drop i).take (min most ((n - i : Nat) : Int)).toNat := fun hm => by
    rw [hfr, if_neg hm, List.take_eq_take_iff, hdrop]
    omega
  clear hi hb hT2 h1 h2 hn hfb hfr CN CA hh hg0 hw2 hdrop
  by_cases hm : most < 0
  · have K1 := Lib.hid (K1 hm)
    have m1 : ¬ (0 : Int) ≤ most := by omega
    have m2 : decide ((0 : Int) ≤ most) = false := decide_eq_false m1
    clear K2 hm
    by_cases hic : i = c
    · subst hic
      have e0 : n - i = 0 := by omega
      have CK1 := Lib.hid (CK.out 0 0 0 (Nat.zero_le _) (fun h => by omega) (by rw [K1.out, e0]))
      clear e0
      clear CK K1
      go_wp2_with fail
      refine CK1.out.mono ?_
      rintro e w3 ⟨v, rfl, h1⟩
      have H1 := Lib.hid h1
      clear h1
      go_wp2_with fail
      go_ret
      exact ⟨v, rfl, H1.out⟩
    · have CK1 := Lib.hid (CK.out (i * 2) (n - i) (c - i) (Nat.le_refl _) (fun _ => rfl) K1.out)
      clear CK K1
      go_wp2_with fail
      refine CK1.out.mono ?_
      rintro e w3 ⟨v, rfl, h1⟩
      have H1 := Lib.hid h1
      clear h1
      go_wp2_with fail
      go_ret
      exact ⟨v, rfl, H1.out⟩
  · have K2 := Lib.hid (K2 hm)
    have m1 : (0 : Int) ≤ most := by omega
    have m2 : decide ((0 : Int) ≤ most) = true := decide_eq_true m1
    have m3 : (min most ((n - i : Nat) : Int)).toNat ≤ n - i := by omega
    clear K1 hm
    by_cases hic : i = c
    · subst hic
      have e0 : n - i = 0 := by omega
      have CK1 := Lib.hid (CK.out 0 (min most 0).toNat 0 (by omega) (fun h => by omega) (by rw [K2.out, e0]; rfl))
      clear e0
      clear CK K2 m3
      go_wp2_with fail
      refine CK1.out.mono ?_
      rintro e w3 ⟨v, rfl, h1⟩
      have H1 := Lib.hid h1
      clear h1
      go_wp2_with fail
      go_ret
      exact ⟨v, rfl, H1.out⟩
    · have CK1 := Lib.hid (CK.out (i * 2) (min most ((n - i : Nat) : Int)).toNat (c - i) m3 (fun _ => rfl) K2.out)
      clear CK K2 m3
      go_wp2_with fail
      refine CK1.out.mono ?_
      rintro e w3 ⟨v, rfl, h1⟩
      have H1 := Lib.hid h1
      clear h1
      go_wp2_with fail
      go_ret
      exact ⟨v, rfl, H1.out⟩
end
end Go.Proofs.YtcbgflidlpmhcaaDoor

namespace Go.Proofs.YtcbgflidlpmhcaaDoor
open Go.RowKit Go.Shelf

/-- 'append(b, s...)': the bytes stay in their block, or lie in a new one. -/
theorem strF_block {P : Program} (w : World) (base : Nat) (t u ty e : TypeId) (i : TypeInfo) (ht : P.underlying t = some (.slice e)) (hu : P.underlying u = some .string) (hi : P.info? e = some i) (hz : i.zero = some (.int .u8 0)) (hsize : i.size = 1) (hby : i.bytes = 1)
    (v : Value) (n : Nat) (xs : List Value) (hown : w.ownsRowF base e 1 v n xs) (s : ByteArray) (h63 : n + s.size ≤ maxLen) (hbytes : n + s.size ≤ 140737488355328) (v' : Value) (w' : World) (hr : (Builtin.append_ #[t, u] ty #[v, .string s]).run P w = .ok v' w') :
    v'.ownBlock = v.ownBlock ∨ ∀ g, v'.ownBlock = some g → w.heap.size ≤ g := by
  have hsmall : n + s.size ≤ 9223372036854775807 := by simp only [maxLen] at h63; omega
  rcases hown.2 with ⟨rfl, rfl⟩ | ⟨g, cap, cur, fz, rfl, hbg, hg, hfz, hnc, hcm, hcs, htake⟩
  · have hx : xs = [] := List.eq_nil_of_length_eq_zero (by simpa using hown.1)
    subst hx
    obtain ⟨v2, w2, h1, h2, _, _⟩ := Lib.run_append_own_string (P := P) w w.heap.size t u ty e i ht hu hi hz hsize hby (.slice none 0 0) 0 [] (World.ownsRow_nil _ _ _ _) s h63 hbytes (Nat.le_refl _)
    rw [hr] at h1
    cases h1
    exact Or.inr fun g hg => (h2.lt g hg).1
  · have hxl : xs.length = n := by simpa using hown.1
    by_cases hroom : n + s.size ≤ cap
    · have hr2 := Lib.run_append_room_stringF (P := P) w t u ty e i ht hu hi hsize g n cap cur fz hg (by simpa using hfz) s hroom (by omega)
      rw [hr] at hr2
      cases hr2
      exact Or.inl rfl
    · have holds : ∀ j u, xs[j]? = some u → w.cell? ((⟨g, 0, none⟩ : Addr).add j) = some u := hown.cells (g := g) rfl
      have hr2 := Lib.run_append_grow_string (P := P) w t u ty e i (.int .u8 0) ht hu hi hz ⟨g, 0, none⟩ n cap xs (by rw [hsize]; simpa using hxl) holds s (by omega) (by omega) (by rw [hby]; exact growslice_fits (by omega) (by omega))
      rw [hr] at hr2
      cases hr2
      refine Or.inr fun k hk => ?_
      simp [Value.ownBlock] at hk
      omega

/-- An append whose run is known, of two types. -/
theorem wpList_append_k2 {P : Program} (w w' : World) {ops : Array Oper} {rest : List Oper} {o : Oper} {a : Act} {Q : Exit → Act → World → Prop} (hgd : o.guard = none) (s x : Operand) (t u : TypeId)
    (ho : o.op = .call { callee := .builtin .append, args := #[s, x], argTypes := #[t, u] }) (vs vx v : Value) (hs : a.eval s = vs) (hx : a.eval x = vx) (hrun : ∀ ty, (Builtin.append_ #[t, u] ty #[vs, vx]).run P w = .ok v w')
    (h : wpList P ops Q rest (a.put o.dst v) w') : wpList P ops Q (o :: rest) a w := by
  refine wpList_plain hgd fun _ hK => ?_
  unfold Oper.wp execOp
  simp only [ho, resolve, invoke, builtin, Sem.run_bind, Sem.run_pure, Result.andThen_ok, List.map_toArray, List.map_cons, List.map_nil, hs, hx, hrun]
  exact hK _ _ h

/-- The builder in block b holds the bytes l, at v. -/
structure Buf (w : World) (B b : Nat) (v : Value) (l : List UInt8) : Prop where
  low : B ≤ b
  at_ : ∃ p, (p = .pointer none ∨ p = .pointer (some ⟨b, 0, none⟩)) ∧ w.heap[b]? = some (.cells #[p, v] 54 (0, 0))
  own : w.ownsRowF B 5 1 v l.length (Lib.byteCells l)
theorem Buf.ne {w : World} {B b : Nat} {v : Value} {l : List UInt8} (h : Buf w B b v l) {b' : Nat} {p : Value} {v' : Value} (hb : w.heap[b']? = some (.cells #[p, v'] 54 (0, 0))) : v.ownBlock ≠ some b' := Lib.ownBlock_neF h.own hb (by decide)
theorem Buf.isF {w : World} {B b : Nat} {v : Value} {l : List UInt8} (h : Buf w B b v l) : IsF B b l w := by
  obtain ⟨p, hp, hb⟩ := h.at_
  have hx : Lib.BuilderAtF 54 5 B b p (Lib.byteCells l) w := ⟨h.low, v, hb, by rw [Lib.byteCells_length]; exact h.own, h.ne hb⟩
  rcases hp with rfl | rfl
  · exact Or.inl hx
  · exact Or.inr hx
theorem Buf.lt {w : World} {B b : Nat} {v : Value} {l : List UInt8} (h : Buf w B b v l) : b < w.heap.size ∧ ∀ k, v.ownBlock = some k → B ≤ k ∧ k < w.heap.size := by
  obtain ⟨p, _, hb⟩ := h.at_
  exact ⟨(Array.getElem?_eq_some_iff.1 hb).1, h.own.lt⟩
theorem Buf.same {w w' : World} {B b : Nat} {v : Value} {l : List UInt8} (h : Buf w B b v l) (hb : w'.heap[b]? = w.heap[b]?) (hv : ∀ k, v.ownBlock = some k → w'.heap[k]? = w.heap[k]?) : Buf w' B b v l := by
  obtain ⟨p, hp, hh⟩ := h.at_
  refine ⟨h.low, ⟨p, hp, hb.trans hh⟩, h.own.1, ?_⟩
  rcases h.own.2 with hn | ⟨g, cap, cur, fz, rfl, hbg, hgg, r⟩
  · exact Or.inl hn
  · exact Or.inr ⟨g, cap, cur, fz, rfl, hbg, (hv g rfl).trans hgg, r⟩
theorem Buf.new (w : World) : Buf (w.alloc (.cells #[.pointer none, .slice none 0 0] 54)) w.heap.size w.heap.size (.slice none 0 0) [] :=
  ⟨Nat.le_refl _, ⟨_, Or.inl rfl, heap_alloc_new w _⟩, World.ownsRowF_nil _ _ _ _⟩

/-- What a builder's text turns: the builder, and its bytes. -/
structure Trn (w w' : World) (b : Nat) (v : Value) : Prop where
  os : w'.os = w.os
  tape : w'.tape = w.tape
  output : w'.output = w.output
  size : w.heap.size ≤ w'.heap.size
  block : ∀ k, k < w.heap.size → k ≠ b → v.ownBlock ≠ some k → w'.heap[k]? = w.heap[k]?

set_option maxHeartbeats 2000000 in
set_option maxRecDepth 100000 in
theorem buf_str (B b : Nat) (v : Value) (l : List UInt8) (s : ByteArray) (w : World) (h : Buf w B b v l) (hlen : l.length + s.size ≤ 140737488355328) (hBw : B ≤ w.heap.size) :
    Calls Tryd.prog 25 #[.pointer (some ⟨b, 0, none⟩), .string s] w fun e w' => e = .returned (.tuple #[.int .i64 s.size, .nilIface]) ∧ ∃ v', Buf w' B b v' (l ++ s.data.toList) ∧ Trn w w' b v ∧ (v'.ownBlock = v.ownBlock ∨ ∀ g, v'.ownBlock = some g → w.heap.size ≤ g) := by
  obtain ⟨i0, hi, hz0, hz1, hz2⟩ := info_parts bu8
  obtain ⟨p, hp, hbk⟩ := h.at_
  have hne := h.ne hbk
  have hown := h.own
  have hlow := h.low
  have hlt := h.lt.1
  have C : Calls Tryd.prog 43 #[.pointer (some ⟨b, 0, none⟩)] w fun e w' => e = .returned (.tuple #[]) ∧ w'.heap[b]? = some (.cells #[.pointer (some ⟨b, 0, none⟩), v] 54 (0, 0)) ∧ w.grownBy w' (some b) := by
    have c0 : w.cell? ⟨b, 0, none⟩ = some p := by rw [Lib.cell_of_heap hbk]; rfl
    have sh : w.shape? b = some (54, 2) := by simp [World.shape?, hbk]
    have f0 : w.frozen? ⟨b, 0, none⟩ = false := Lib.frozen_of_heap hbk 0
    rcases hp with rfl | rfl
    · refine (bcheck_fresh b w c0 sh f0).mono fun _ w1 ⟨he, hw⟩ => ⟨he, ?_, ?_⟩
      · subst hw
        simp [World.setCell, Array.getElem?_modify, hbk]
      · subst hw
        exact only_setCell (grefl _ _) (Or.inl rfl) _
    · exact (bcheck_used b w c0).mono fun _ _ ⟨he, hw⟩ => ⟨he, by subst hw; exact hbk, by subst hw; exact grefl _ _⟩
  have C := Lib.hid C
  have Hown := Lib.hid hown
  clear h hp hown hbk
  go_enter Tryd.func25, Tryd.ntmps25
  go_wp2_with fail
  refine C.out.mono ?_
  rintro e w1 ⟨rfl, hbk, hg1⟩
  have hown1 : w1.ownsRowF B 5 1 v l.length (Lib.byteCells l) := Hown.out.kept hg1 (Or.inr hne)
  have c1 : w1.cell? ⟨b, 1, none⟩ = some v := by rw [Lib.cell_of_heap hbk]; rfl
  have hs1 := hg1.size
  obtain ⟨v', w2, hr, hown', hgrow, _⟩ := Lib.run_append_own_stringF (P := Tryd.prog) w1 B 38 9 0 5 i0 Tryd.underlying38 Tryd.underlying9 hi hz0 hz1 hz2 v l.length (Lib.byteCells l) hown1 s (by unfold maxLen; omega) hlen (by omega)
  have hr0 := hr
  have hblk := strF_block w1 B 38 9 0 5 i0 Tryd.underlying38 Tryd.underlying9 hi hz0 hz1 hz2 v l.length (Lib.byteCells l) hown1 s (by unfold maxLen; omega) hlen v' w2 hr
  have HR : ∀ ty, Hid ((Builtin.append_ #[38, 9] ty #[v, .string s]).run Tryd.prog w1 = .ok v' w2) := fun ty => hr
  clear hr
  have hb2 : w2.heap[b]? = some (.cells #[.pointer (some ⟨b, 0, none⟩), v] 54 (0, 0)) := by
    rw [hgrow.block b (by omega) (fun e => hne e.symm)]
    exact hbk
  have f1 : w2.frozen? ⟨b, 1, none⟩ = false := Lib.frozen_of_heap hb2 1
  have d1 : w2.cell? ⟨b, 1, none⟩ = some v := by rw [Lib.cell_of_heap hb2]; rfl
  have e9 : Lib.byteCells (l ++ s.data.toList) = Lib.byteCells l ++ Lib.strCells s := by unfold Lib.byteCells Lib.strCells; rw [List.map_append]
  have Hend : Hid (Buf (w2.setCell ⟨b, 1, none⟩ v') B b v' (l ++ s.data.toList) ∧ Trn w (w2.setCell ⟨b, 1, none⟩ v') b v ∧ (v'.ownBlock = v.ownBlock ∨ ∀ g, v'.ownBlock = some g → w.heap.size ≤ g)) := by
    have hne' : v'.ownBlock ≠ some b := by
      rcases hblk with h | h
      · rw [h]; exact hne
      · intro e; have := h b e; omega
    refine ⟨⟨hlow, ⟨_, Or.inr rfl, by simp [World.setCell, Array.getElem?_modify, hb2]⟩, ?_⟩, ?_, ?_⟩
    · rw [e9, List.length_append]
      exact hown'.kept (only_setCell (g := b) (grefl w2 _) (Or.inl rfl) v') (Or.inr hne')
    · refine ⟨hgrow.os.trans hg1.os, hgrow.tape.trans hg1.tape, hgrow.output.trans hg1.output, by have := hgrow.size; simp [World.setCell]; omega, fun k hk h1 h2 => ?_⟩
      rw [Below.heap_setCell w2 ⟨b, 1, none⟩ v' k h1, hgrow.block k (by omega) (fun e => h2 e.symm), hg1.block k hk (fun e => h1 (by injection e))]
    · rcases hblk with h | h
      · exact Or.inl h
      · exact Or.inr fun g hg => by have := h g hg; omega
  obtain ⟨ao, n', cap, rfl⟩ : ∃ ao n' cap, v' = .slice ao n' cap := by
    rcases hown'.2 with ⟨hv, _⟩ | ⟨g, cap, cur, fz, hv, _⟩
    · exact ⟨_, _, _, hv⟩
    · exact ⟨_, _, _, hv⟩
  clear hown' hgrow hblk hown1 Hown C hb2 hbk hg1 e9
  go_wp2_with (at_builtin; refine wpList_append_k2 _ w2 rfl _ _ 38 9 rfl _ _ _ rfl rfl (fun ty => (HR ty).out) ?_)
  go_ret2
  exact ⟨rfl, _, Hend.out⟩

/-- Two builders, apart. -/
structure Two (w : World) (B p q : Nat) (l m : List UInt8) : Prop where
  ne : p ≠ q
  bufs : ∃ u v, Buf w B p u l ∧ Buf w B q v m ∧ ∀ k, u.ownBlock = some k → v.ownBlock ≠ some k
theorem Two.swap {w : World} {B p q : Nat} {l m : List UInt8} (h : Two w B p q l m) : Two w B q p m l := by
  obtain ⟨u, v, h1, h2, h3⟩ := h.bufs
  exact ⟨h.ne.symm, v, u, h2, h1, fun k hk he => h3 k he hk⟩
theorem Two.up {w w' : World} {B p q : Nat} {l m : List UInt8} (h : Two w B p q l m) (hb : Below w.heap.size w w') : Two w' B p q l m := by
  obtain ⟨u, v, h1, h2, h3⟩ := h.bufs
  exact ⟨h.ne, u, v, h1.same (hb.block p h1.lt.1) (fun k hk => hb.block k (h1.lt.2 k hk).2), h2.same (hb.block q h2.lt.1) (fun k hk => hb.block k (h2.lt.2 k hk).2), h3⟩
theorem Two.isF {w : World} {B p q : Nat} {l m : List UInt8} (h : Two w B p q l m) : IsF B p l w ∧ IsF B q m w := by
  obtain ⟨u, v, h1, h2, h3⟩ := h.bufs
  exact ⟨h1.isF, h2.isF⟩
theorem Two.new (w : World) : Two ((w.alloc (.cells #[.pointer none, .slice none 0 0] 54)).alloc (.cells #[.pointer none, .slice none 0 0] 54)) w.heap.size w.heap.size (w.heap.size + 1) [] [] := by
  have h1 := Buf.new w
  have h2 := Buf.new (w.alloc (.cells #[.pointer none, .slice none 0 0] 54))
  have hs : (w.alloc (.cells #[.pointer none, .slice none 0 0] 54)).heap.size = w.heap.size + 1 := by simp
  rw [hs] at h2
  obtain ⟨p, hp, hb⟩ := h2.at_
  exact ⟨by omega, .slice none 0 0, .slice none 0 0, h1.same (Below.heap_alloc _ _ _ h1.lt.1) (fun k hk => by cases hk), ⟨by omega, ⟨p, hp, hb⟩, World.ownsRowF_nil _ _ _ _⟩, fun k hk => by cases hk⟩
/-- A text more in the first one. -/
theorem two_str (B p q : Nat) (l m : List UInt8) (s : ByteArray) (w : World) (h : Two w B p q l m) (hlen : l.length + s.size ≤ 140737488355328) (hBw : B ≤ w.heap.size) :
    Calls Tryd.prog 25 #[.pointer (some ⟨p, 0, none⟩), .string s] w fun e w' => e = .returned (.tuple #[.int .i64 s.size, .nilIface]) ∧ Two w' B p q (l ++ s.data.toList) m ∧ Below B w w' := by
  obtain ⟨u, v, h1, h2, h3⟩ := h.bufs
  have hpq := h.ne
  refine (buf_str B p u l s w h1 hlen hBw).mono ?_
  rintro e w' ⟨rfl, u', k1, k2, k3⟩
  obtain ⟨_, _, hb2⟩ := h2.at_
  obtain ⟨_, _, hb1⟩ := h1.at_
  refine ⟨rfl, ⟨hpq, u', v, k1, h2.same (k2.block q h2.lt.1 hpq.symm (h1.ne hb2)) (fun k hk => k2.block k (h2.lt.2 k hk).2 (fun e => h2.ne hb1 (by rw [hk, e])) (fun e => h3 k e hk)), fun k hk he => ?_⟩, ?_⟩
  · rcases k3 with e | e
    · exact h3 k (by rw [← e]; exact hk) he
    · have := e k hk
      have := (h2.lt.2 k he).2
      omega
  · exact ⟨k2.os, k2.tape, k2.output, k2.size, fun k hk => k2.block k (by omega) (by have := h1.low; omega) (fun e => by have := (h1.lt.2 k e).1; omega)⟩
theorem frz_of {w : World} {g n : Nat} {c : Array Value} {e : TypeId} {fz : Nat × Nat} (hg : w.heap[g]? = some (.cells c e fz)) (hf : fz.2 ≤ n) : ∃ fz', (w.freeze ⟨g, 0, none⟩ n).heap[g]? = some (.cells c e fz') ∧ fz'.2 ≤ n := by
  unfold World.freeze
  by_cases h0 : n = 0
  · rw [if_pos h0]
    exact ⟨fz, hg, hf⟩
  · rw [if_neg h0]
    obtain ⟨lo, hi⟩ := fz
    refine ⟨if lo == hi then (0, 0 + n) else (min lo 0, max hi (0 + n)), by simp [Array.getElem?_modify, hg], ?_⟩
    simp only at hf
    split <;> simp <;> omega
theorem frz_other (w : World) (g n k : Nat) (h : k ≠ g) : (w.freeze ⟨g, 0, none⟩ n).heap[k]? = w.heap[k]? := by
  unfold World.freeze
  by_cases h0 : n = 0
  · rw [if_pos h0]
  · rw [if_neg h0]
    simp only [Array.getElem?_modify]
    rw [if_neg (fun e => h e.symm)]
theorem frz_size (w : World) (g n : Nat) : (w.freeze ⟨g, 0, none⟩ n).heap.size = w.heap.size ∧ (w.freeze ⟨g, 0, none⟩ n).os = w.os ∧ (w.freeze ⟨g, 0, none⟩ n).tape = w.tape ∧ (w.freeze ⟨g, 0, none⟩ n).output = w.output := by
  unfold World.freeze
  split
  · exact ⟨rfl, rfl, rfl, rfl⟩
  · exact ⟨by simp, rfl, rfl, rfl⟩
set_option maxHeartbeats 2000000 in
set_option maxRecDepth 100000 in
/-- A builder is read: its bytes lie frozen, all else is as it was. -/
theorem buf_string (B b : Nat) (v : Value) (l : List UInt8) (w : World) (h : Buf w B b v l) (h0 : l ≠ []) :
    Calls Tryd.prog 29 #[.pointer (some ⟨b, 0, none⟩)] w fun e w' => e = .returned (.string ⟨l.toArray⟩) ∧ Buf w' B b v l ∧ Trn w w' b v := by
  obtain ⟨p, hp, hbk⟩ := h.at_
  have hne := h.ne hbk
  have hown := h.own
  have hlow := h.low
  have hl0 : l.length ≠ 0 := by simpa using h0
  obtain ⟨g, cap, cur, fz, rfl, hbg, hg, hfz, hnc, hcm, hcs, htake⟩ : ∃ g cap cur fz, v = .slice (some ⟨g, 0, none⟩) l.length cap ∧ B ≤ g ∧ w.heap[g]? = some (.cells cur 5 fz) ∧ fz.2 ≤ l.length * 1 ∧ l.length ≤ cap ∧ cap ≤ maxLen ∧ cur.size = cap * 1 ∧ cur.toList.take (l.length * 1) = Lib.byteCells l := by
    rcases hown.2 with ⟨_, hz⟩ | ⟨g, cap, cur, fz, hv, r⟩
    · exact absurd hz hl0
    · exact ⟨g, cap, cur, fz, hv, r⟩
  have hgb : b ≠ g := fun e => hne (by simp [Value.ownBlock, e])
  have c1 : w.drew.cell? ⟨b, 1, none⟩ = some (.slice (some ⟨g, 0, none⟩) l.length cap) := by
    have : w.drew.heap[b]? = some (.cells #[p, .slice (some ⟨g, 0, none⟩) l.length cap] 54 (0, 0)) := hbk
    rw [Lib.cell_of_heap this]; rfl
  have hSD : ∀ ts ty, (Builtin.unsafeSliceData_ ts ty #[.slice (some ⟨g, 0, none⟩) l.length cap]).run Tryd.prog w.drew = .ok (.pointer (some ⟨g, 0, none⟩)) w.drew :=
    fun ts ty => Lib.run_unsafeSliceData_row _ _ _ _ _ _ (by omega)
  have hUS : (Builtin.unsafeString_ #[79, 3] 9 #[.pointer (some ⟨g, 0, none⟩), .int .i64 l.length]).run Tryd.prog w.drew = .ok (.string ⟨l.toArray⟩) (w.drew.freeze ⟨g, 0, none⟩ l.length) := by
    refine Lib.run_unsafeString_row w.drew 79 3 9 5 Tryd.underlying79 (by kernel_rfl) g cur.size (by have hg' : w.drew.heap[g]? = some (.cells cur 5 fz) := hg; simp [World.shape?, hg']) l h0 (by omega) (by unfold maxLen at hcm; omega) ?_
    intro j x hx
    have := hown.cells (g := g) rfl j (.int .u8 x.toNat) (by simp [Lib.byteCells, hx])
    exact this
  have Hend : Hid (Buf (w.drew.freeze ⟨g, 0, none⟩ l.length) B b (.slice (some ⟨g, 0, none⟩) l.length cap) l ∧ Trn w (w.drew.freeze ⟨g, 0, none⟩ l.length) b (.slice (some ⟨g, 0, none⟩) l.length cap)) := by
    have hg' : w.drew.heap[g]? = some (.cells cur 5 fz) := hg
    obtain ⟨fz', k1, k2⟩ := frz_of (n := l.length) hg' (by omega)
    obtain ⟨z1, z2, z3, z4⟩ := frz_size w.drew g l.length
    refine ⟨⟨hlow, ⟨p, hp, (frz_other w.drew g l.length b hgb).trans hbk⟩, hown.1, Or.inr ⟨g, cap, cur, fz', rfl, hbg, k1, by omega, hnc, hcm, hcs, htake⟩⟩, z2, z3, z4, Nat.le_of_eq z1.symm, fun k _ _ h2 => frz_other w.drew g l.length k (fun e => h2 (by rw [e]; rfl))⟩
  clear h hp hbk hne hown hlow hl0 hbg hg hfz hnc hcm hcs htake hgb
  go_enter Tryd.func29, Tryd.ntmps29
  go_wp2_with fail
  go_region
  all_goals (go_wp2_with fail; go_ret; exact ⟨rfl, Hend.out⟩)
/-- The second one is read. -/
theorem two_string (B p q : Nat) (l m : List UInt8) (w : World) (h : Two w B p q l m) (h0 : l ≠ []) :
    Calls Tryd.prog 29 #[.pointer (some ⟨p, 0, none⟩)] w fun e w' => e = .returned (.string ⟨l.toArray⟩) ∧ Two w' B p q l m ∧ Below B w w' := by
  obtain ⟨u, v, h1, h2, h3⟩ := h.bufs
  have hpq := h.ne
  refine (buf_string B p u l w h1 h0).mono ?_
  rintro e w' ⟨rfl, k1, k2⟩
  obtain ⟨_, _, hb2⟩ := h2.at_
  obtain ⟨_, _, hb1⟩ := h1.at_
  exact ⟨rfl, ⟨hpq, u, v, k1, h2.same (k2.block q h2.lt.1 hpq.symm (h1.ne hb2)) (fun k hk => k2.block k (h2.lt.2 k hk).2 (fun e => h2.ne hb1 (by rw [hk, e])) (fun e => h3 k e hk)), h3⟩,
    ⟨k2.os, k2.tape, k2.output, k2.size, fun k hk => k2.block k (by have := h1.lt.1; have := h1.low; omega) (by have := h1.low; omega) (fun e => by have := (h1.lt.2 k e).1; omega)⟩⟩
end Go.Proofs.YtcbgflidlpmhcaaDoor

namespace Go.Proofs.YtcbgflidlpmhcaaDoor
open Go.RowKit

/-- The bytes that Write told. -/
def WrtP (L : List KV) (x : Nat) (b : ByteArray) : Prop := writeE L = 0 ∧ wtK L ≤ 60000 ∧ bl b = tabL (groupsK L) (bloomT (headsK L) x)
theorem wt_flat {L : List KV} {G : List (List KV)} (h : G.flatten = L) {g : List KV} (hg : g ∈ G) : wtK g ≤ wtK L := by
  obtain ⟨A, B, rfl⟩ := List.append_of_mem hg
  rw [← h, List.flatten_append, List.flatten_cons, wtK_append, wtK_append]
  omega
theorem flat_wt {G : List (List KV)} (h : ∀ g ∈ G, g ≠ []) : 20 * G.length ≤ wtK G.flatten := by
  have h1 := wtK_len G.flatten
  have h2 := flatten_len h
  omega
/-- How long the parts of a table are. -/
theorem cat_bounds {G : List (List KV)} (h : ∀ g ∈ G, g ≠ []) (hw : wtK G.flatten ≤ 60000) : (catB G).length ≤ 84000 ∧ (idxB G).length ≤ 12000 ∧ G.length ≤ 3000 := by
  have h1 := flat_wt h
  have h2 := catB_length (G := G) (light_short hw).1
  have h3 := sum_wt G.flatten
  have h4 := idxB_length G
  omega
theorem bloomT_sz (H : List ByteArray) (x : Nat) : (bloomT H x).size ≤ 65537 := by
  unfold bloomT
  rw [filterT_size]
  have := sizeN_le (H.length : Int) x
  omega
theorem cut_some {R : List KV} (hR : R ≠ []) : R.take (takenN 0 R) ≠ [] := by
  intro e
  have h1 := takenN_pos hR 0
  have h2 := takenN_le R 0
  have h3 : (R.take (takenN 0 R)).length = 0 := by rw [e]; rfl
  rw [List.length_take] at h3
  omega
/-- What a slice of the rest is. -/
theorem keysAt_drop {w : World} {g off n : Nat} {L : List KV} (h : KeysAt w (some ⟨g, off, none⟩) n L) (k : Nat) (off' : Nat) (ho : k < n → off' = off + k * 2) : KeysAt w (some ⟨g, off', none⟩) (n - k) (L.drop k) := by
  refine ⟨by rw [List.length_drop, h.len], fun i m hm => ?_⟩
  have hi := (List.getElem?_eq_some_iff.1 hm).1
  rw [List.length_drop] at hi
  have hl := h.len
  rw [List.getElem?_drop] at hm
  obtain ⟨g2, o2, e, hg, h1, h2⟩ := h.at_ (k + i) m hm
  cases e
  have ho := ho (by omega)
  refine ⟨g, off', rfl, hg, ?_, ?_⟩
  · rw [ho]; rwa [show off + (k + i) * 2 = off + k * 2 + i * 2 from by omega] at h1
  · rw [ho]; rwa [show off + (k + i) * 2 + 1 = off + k * 2 + i * 2 + 1 from by omega] at h2
theorem keysAt_take {w : World} {A : Option Addr} {n : Nat} {L : List KV} (h : KeysAt w A n L) (k : Nat) (hk : k ≤ n) : KeysAt w A k (L.take k) := by
  refine ⟨by rw [List.length_take, ← h.len]; omega, fun i m hm => ?_⟩
  have hi := (List.getElem?_eq_some_iff.1 hm).1
  rw [List.length_take] at hi
  rw [List.getElem?_take_of_lt (by omega)] at hm
  exact h.at_ i m hm
end Go.Proofs.YtcbgflidlpmhcaaDoor

namespace Go.Proofs.YtcbgflidlpmhcaaDoor
open Go.RowKit

/-- The length in a slice. -/
def lenS : Value → Nat
  | .slice _ n _ => n
  | _ => 0
/-- What stands between two blocks of Write. -/
structure WrSt (w : World) (B p q : Nat) (L : List KV) (G : List (List KV)) (R : List KV) (W : World) : Prop where
  cut : CutSt L G R
  some : ∀ g ∈ G, g ≠ []
  two : Two W B p q (catB G) (idxB G)
  low : B ≤ W.heap.size
  below : Below w.heap.size w W
theorem WrSt.sz {w : World} {B p q : Nat} {L : List KV} {G : List (List KV)} {R : List KV} {W : World} (h : WrSt w B p q L G R W) (hw : wtK L ≤ 60000) : (catB G).length ≤ 84000 ∧ (idxB G).length ≤ 12000 ∧ G.length ≤ 3000 := by
  refine cat_bounds h.some ?_
  rw [← h.cut.all, wtK_append] at hw
  omega
theorem WrSt.rest {w : World} {B p q : Nat} {L : List KV} {G : List (List KV)} {R : List KV} {W : World} (h : WrSt w B p q L G R W) (hw : wtK L ≤ 60000) (hR : risesK L = true) : wtK R ≤ 60000 ∧ risesK R = true := by
  rw [← h.cut.all] at hw hR
  rw [wtK_append] at hw
  exact ⟨by omega, (rises_both hR).2⟩
theorem take_rises {R : List KV} (hR : risesK R = true) (k : Nat) : risesK (R.take k) = true := rises_take R k hR
/-- Light pairs that rise are a block. -/
theorem build_light {R : List KV} (hw : wtK R ≤ 60000) (hR : risesK R = true) : buildP R = (⟨(blkL R).toArray⟩, 0) := by
  obtain ⟨k1, k2, _, _⟩ := light_short hw
  unfold buildP
  rw [if_neg (by rw [hR]; decide), if_neg (by rw [k1]; decide), if_neg (by omega)]
theorem blk_light {R : List KV} (hw : wtK R ≤ 60000) : (blkL R).length ≤ 60008 := by
  obtain ⟨k1, _, _, _⟩ := light_short hw
  have h1 := (blk_bounds k1).1
  have h2 := sum_wt R
  omega

set_option maxRecDepth 100000 in
set_option maxHeartbeats 8000000 in
/-- Write's loop, and what it lays behind: pairs that are few and rise. -/
theorem swrite_some (g off n c : Nat) (L : List KV) (x : Nat) (w : World) (h : KeysAt w (some ⟨g, off, none⟩) n L) (hc : n ≤ c) (hw : wtK L ≤ 60000) (hR : risesK L = true) (hne : L ≠ []) (hT : LaidS w) :
    Calls Tryd.prog 9 #[.slice (some ⟨g, off, none⟩) n c, .float .f64 x] w fun e w' => ∃ b, e = .returned (.tuple #[.string b, .int .i64 0]) ∧ bl b = tabL (groupsK L) (bloomT (headsK L) x) ∧ Below w.heap.size w w' := by
  obtain ⟨k1, k2, k3, k4⟩ := light_short hw
  obtain ⟨Tb, hTb⟩ : ∃ Tb, tabL (groupsK L) (bloomT (headsK L) x) = Tb := ⟨_, rfl⟩
  rw [hTb]
  have HTb := Lib.hid hTb
  clear hTb
  have HK := Lib.hid h
  have hlen := h.len
  have hn : n ≤ 3000 := by omega
  have hn0 : 0 < n := by have := List.length_pos_iff.2 hne; omega
  have CB := fun W (hb : Below w.heap.size w W) (o r cc : Nat) (R : List KV) (hk : KeysAt W (some ⟨g, o, none⟩) r R) (hwR : wtK R ≤ 60000) (hrR : risesK R = true) => Lib.hid (show Calls Tryd.prog 23 #[.slice (some ⟨g, o, none⟩) r cc] W fun e w' => e = .returned (.tuple #[.string ⟨(blkL R).toArray⟩, .int .i64 0]) ∧ Below W.heap.size W w' from by
    obtain ⟨q1, q2, q3, q4⟩ := light_short hwR
    have := build_any (some ⟨g, o, none⟩) r cc R W hk q3 (by have := hk.len; omega) q1 q2 (hT.on hb).b
    rw [build_light hwR hrR] at this
    exact this)
  have CK := fun W (o r cc : Nat) (R : List KV) (hk : KeysAt W (some ⟨g, o, none⟩) r R) (hwR : wtK R ≤ 60000) => Lib.hid (staken_any (some ⟨g, o, none⟩) r cc R W hk hwR)
  have C0 := CB w (Below.refl _ _) off n c L h hw hR
  have HT := Lib.hid hT
  have Hw := Lib.hid hw
  have HR := Lib.hid hR
  have Hne := Lib.hid hne
  have Hlen := Lib.hid hlen
  have e1 : ((n : Int) == 0) = false := by rw [beq_eq_false_iff_ne]; omega
  clear h k1 k2 k3 k4 hT hw hR hne hlen
  go_enter Tryd.func9, Tryd.ntmps9
  go_wp2_with fail
  refine C0.out.mono ?_
  rintro e w1 ⟨rfl, hb1⟩
  have HB1 := Lib.hid hb1
  clear hb1 C0
  go_wp2_with fail
  have T0 := Lib.hid (Two.new w1)
  have HB2 := Lib.hid (below_alloc (below_alloc HB1.out (Nat.le_refl _) (.cells #[.pointer none, .slice none 0 0] 54)) (Nat.le_refl _) (.cells #[.pointer none, .slice none 0 0] 54))
  have hs2 : w1.heap.size ≤ ((w1.alloc (.cells #[.pointer none, .slice none 0 0] 54)).alloc (.cells #[.pointer none, .slice none 0 0] 54)).heap.size := by simp; omega
  have hs1 : w.heap.size ≤ w1.heap.size := HB1.out.size
  generalize (w1.alloc (.cells #[.pointer none, .slice none 0 0] 54)).alloc (.cells #[.pointer none, .slice none 0 0] 54) = w2 at *
  generalize w1.heap.size = B at *
  go_loopw [10, 11] (fun nb rs wr => ∃ (G : List (List KV)) (R : List KV) (r o cc : Nat), nb = .int .i64 (G.length : Nat) ∧ rs = .slice (some ⟨g, o, none⟩) r cc ∧ r ≤ cc ∧ Hid (KeysAt w (some ⟨g, o, none⟩) r R) ∧ Hid (WrSt w B B (B + 1) L G R wr)) (fun _ rs _ => lenS rs)
  case atStart => exact ⟨[], L, n, off, c, rfl, rfl, hc, HK, Lib.hid ⟨cut_start L, fun g hg => (by cases hg), T0.out, hs2, HB2.out⟩⟩
  case round =>
    obtain ⟨G, R, r, o, cc, rfl, rfl, hrc, HKR, HS⟩ := hrel
    have hrl := HKR.out.len
    obtain ⟨z1, z2, z3⟩ := HS.out.sz Hw.out
    obtain ⟨wR, rR⟩ := HS.out.rest Hw.out HR.out
    by_cases hr0 : 0 < r
    · have g1 : (0 : Int) < (r : Int) := by omega
      have hRne : R ≠ [] := fun e => by rw [e] at hrl; simp at hrl; omega
      have tp := takenN_pos hRne 0
      have tl := takenN_le R 0
      rw [← hrl] at tl
      have CK1 := CK wr o r cc R (HKR.out.below HS.out.below) wR
      obtain ⟨k, hk⟩ : ∃ k, takenN 0 R = k := ⟨_, rfl⟩
      have hcs := cut_step HS.out.cut hRne
      have hsm := cut_some hRne
      rw [hk] at CK1 tp tl hcs hsm
      have wk : wtK (R.take k) ≤ 60000 := Nat.le_trans (wtK_take R k) wR
      have rk := rises_take R k rR
      have hlk := blk_light wk
      have hkk := keysAt_take HKR.out k tl
      have CB1 := fun W (hb : Below wr.heap.size wr W) => CB W (HS.out.below.trans (hb.mono HS.out.below.size)) o k cc (R.take k) (hkk.below (HS.out.below.trans (hb.mono HS.out.below.size))) wk rk
      have Hcs := Lib.hid hcs
      have Hsm := Lib.hid hsm
      have HbR := Lib.hid (show bl (⟨(blkL (R.take k)).toArray⟩ : ByteArray) = blkL (R.take k) from rfl)
      obtain ⟨one, hone⟩ : ∃ one : ByteArray, ⟨(blkL (R.take k)).toArray⟩ = one := ⟨_, rfl⟩
      rw [hone] at CB1 HbR
      have hosz : one.size = (blkL (R.take k)).length := by rw [← hone]; rfl
      have Hosz := Lib.hid hosz
      have hz : one.size ≤ 60008 := by omega
      have t1 : (k : Int) ≤ (r : Int) := by omega
      have t2 : (0 : Int) ≤ (k : Int) := by omega
      have t3 : (k : Int) ≤ (cc : Int) := by omega
      have t4 : k ≤ cc := by omega
      have CF := fun W => Lib.hid (sfixed_any one.size W (by omega))
      have CW := fun W (ht : Two W B B (B + 1) (catB G) (idxB G)) (hB : B ≤ W.heap.size) => Lib.hid (two_str B B (B + 1) (catB G) (idxB G) one W ht (by omega) hB)
      have CI := fun W (ht : Two W B B (B + 1) (catB G ++ bl one) (idxB G)) (hB : B ≤ W.heap.size) => Lib.hid (two_str B (B + 1) B (idxB G) (catB G ++ bl one) ⟨(be one.size 4).toArray⟩ W ht.swap (by rw [size_mk, be_length]; omega) hB)
      have Hrl := Lib.hid hrl
      clear hk hcs hsm hone hosz hrl hlk hkk rk wk rR wR hRne CK CB
      go_wp2_with fail
      refine CK1.out.mono ?_
      rintro e w3 ⟨rfl, hb3⟩
      have C3 := CB1 w3 hb3
      have HB3 := Lib.hid hb3
      clear hb3 CK1 CB1
      go_wp2_with fail
      refine C3.out.mono ?_
      rintro e w4 ⟨rfl, hb4⟩
      have HB4 := Lib.hid (HB3.out.trans (hb4.mono HB3.out.size))
      have C4 := CW w4 (HS.out.two.up HB4.out) (Nat.le_trans HS.out.low HB4.out.size)
      clear hb4 C3 CW HB3
      go_wp2_with fail
      refine C4.out.mono ?_
      rintro e w5 ⟨rfl, ht5, hb5⟩
      have HT5 := Lib.hid ht5
      have HB5 := Lib.hid (HS.out.below.trans (HB4.out.mono HS.out.below.size))
      have HB5 := Lib.hid (HB5.out.trans (hb5.mono hs1))
      have hl5 : B ≤ w5.heap.size := Nat.le_trans (Nat.le_trans HS.out.low HB4.out.size) hb5.size
      have C5 := CF w5
      clear ht5 hb5 C4 CF
      go_wp2_with fail
      refine C5.out.mono ?_
      rintro e w6 ⟨rfl, hb6⟩
      have C6 := CI w6 (HT5.out.up hb6) (Nat.le_trans hl5 hb6.size)
      have HB6 := Lib.hid (HB5.out.trans (hb6.mono HB5.out.size))
      have hl6 : B ≤ w6.heap.size := Nat.le_trans hl5 hb6.size
      clear hb6 C5 CI HB5 HT5
      go_wp2_with fail
      refine C6.out.mono ?_
      rintro e w7 ⟨rfl, ht7, hb7⟩
      have HB7 := Lib.hid (HB6.out.trans (hb7.mono hs1))
      have HS7 : Hid (WrSt w B B (B + 1) L (G ++ [R.take k]) (R.drop k) w7) := Lib.hid ⟨Hcs.out, fun g hg => by
        rcases List.mem_append.1 hg with h1 | h1
        · exact HS.out.some g h1
        · rw [List.mem_singleton] at h1; rw [h1]; exact Hsm.out, by
        have := ht7.swap
        rw [catB_snoc, idxB_snoc, ← HbR.out]
        exact this, Nat.le_trans hl6 hb7.size, HB7.out⟩
      have HKd : ∀ o', (k < r → o' = o + k * 2) → Hid (KeysAt w (some ⟨g, o', none⟩) (r - k) (R.drop k)) := fun o' ho => Lib.hid (keysAt_drop HKR.out k o' ho)
      have hGl : (G ++ [R.take k]).length = G.length + 1 := by rw [List.length_append]; rfl
      clear ht7 hb7 HB6 C6 HB7 HS HKR HB4 Hosz HbR Hcs Hsm
      by_cases hic : k = cc
      · subst hic
        obtain rfl : r = k := by omega
        have HK9 := HKd o (fun h => by omega)
        rw [Nat.sub_self] at HK9
        clear HKd
        go_wp2_with fail
        go_roundw
        case rel => exact ⟨_, _, _, _, _, by rw [hGl]; go_num, rfl, by omega, HK9, HS7⟩
        case measure => simp [lenS]; omega
      · have HK9 := HKd (o + k * 2) (fun h => rfl)
        clear HKd
        go_wp2_with fail
        go_roundw
        case rel => exact ⟨_, _, _, _, _, by rw [hGl]; go_num, rfl, by omega, HK9, HS7⟩
        case measure => simp [lenS]; omega
    · have r0 : r = 0 := by omega
      subst r0
      have hR0 : R = [] := List.eq_nil_of_length_eq_zero hrl.symm
      have hGK : groupsK L = G := HS.out.cut.fin hR0
      have hGL : G.flatten = L := by have := HS.out.cut.all; rw [hR0, List.append_nil] at this; exact this
      have hG0 : 0 < G.length := by
        cases G with
        | nil => exact absurd hGL.symm Hne.out
        | cons a r => simp
      have z4 := idxB_length G
      have g1 : ¬ (0 : Int) < ((0 : Nat) : Int) := by omega
      have CH := Lib.hid (sheads_any (some ⟨g, off, none⟩) n c L wr (HK.out.below HS.out.below) Hw.out Hne.out HR.out (HT.out.on HS.out.below))
      have hHl : (headsK L).length ≤ 3000 := by have := headsK_len L; have := Hlen.out; omega
      have hHs : ∀ s ∈ headsK L, s.size ≤ 9223372036854775807 := fun s hs => by
        obtain ⟨m, hm, rfl⟩ := (headsK_mem L s).1 hs
        have h1 := head_size m.1
        have h2 := wtK_all L m hm
        have := Hw.out
        omega
      have hFz := bloomT_sz (headsK L) x
      have CBl := fun W (hb : Below w.heap.size w W) A' c' (hA : TextsAt W A' (headsK L).length (headsK L)) => Lib.hid (bbuild_any A' (headsK L).length c' x (headsK L) W hA (by omega) hHs (HT.out.on hb).m)
      have hTe := HTb.out
      obtain ⟨F, hF⟩ : ∃ F, bloomT (headsK L) x = F := ⟨_, rfl⟩
      rw [hF] at CBl hFz hTe
      rw [hGK] at hTe
      obtain ⟨X1, hX1⟩ : ∃ X1, catB G = X1 := ⟨_, rfl⟩
      obtain ⟨X2, hX2⟩ : ∃ X2, idxB G = X2 := ⟨_, rfl⟩
      have HS2 := HS.out.two
      rw [hX1, hX2] at HS2
      rw [hX1] at z1
      rw [hX2] at z2 z4
      have hX0 : X2 ≠ [] := fun e => by rw [e] at z4; simp at z4; omega
      obtain ⟨nb, hnb⟩ : ∃ nb, G.length = nb := ⟨_, rfl⟩
      have htab : tabB G F = X1 ++ (bl F ++ (X2 ++ be nb 4)) := by unfold tabB; rw [hX1, hX2, hnb]
      have htabL : tabL G F = (X1 ++ (bl F ++ (X2 ++ be nb 4))) ++ be (crc (X1 ++ (bl F ++ (X2 ++ be nb 4)))) 4 := by unfold tabL; rw [htab]
      rw [htabL] at hTe
      rw [hnb] at z3 z4 hG0
      have Hlow := Lib.hid HS.out.low
      have HBw := Lib.hid HS.out.below
      have HS2 := Lib.hid HS2
      have bz4 := be_length nb 4
      have W1 := fun W (ht : Two W B B (B + 1) X1 X2) (hB : B ≤ W.heap.size) => Lib.hid (two_str B B (B + 1) X1 X2 F W ht (by omega) hB)
      have W2 := fun W (ht : Two W B B (B + 1) (X1 ++ bl F) X2) => Lib.hid (two_string B (B + 1) B X2 (X1 ++ bl F) W ht.swap hX0)
      have W3 := fun W (ht : Two W B B (B + 1) (X1 ++ bl F) X2) (hB : B ≤ W.heap.size) => Lib.hid (two_str B B (B + 1) (X1 ++ bl F) X2 ⟨X2.toArray⟩ W ht (by rw [List.length_append, size_mk, bl_len]; omega) hB)
      have W4 := fun W (ht : Two W B B (B + 1) ((X1 ++ bl F) ++ X2) X2) (hB : B ≤ W.heap.size) => Lib.hid (two_str B B (B + 1) ((X1 ++ bl F) ++ X2) X2 ⟨(be nb 4).toArray⟩ W ht (by rw [List.length_append, List.length_append, size_mk, bl_len]; omega) hB)
      have hYe : ((X1 ++ bl F) ++ X2) ++ be nb 4 = X1 ++ (bl F ++ (X2 ++ be nb 4)) := by simp only [List.append_assoc]
      obtain ⟨Y, hY⟩ : ∃ Y, X1 ++ (bl F ++ (X2 ++ be nb 4)) = Y := ⟨_, rfl⟩
      rw [hY] at hYe hTe
      have hYl : Y.length ≤ 200000 := by
        rw [← hY]
        simp only [List.length_append, bl_len, bz4]
        omega
      have hY0 : Y ≠ [] := fun e => by
        rw [← hY] at e
        have := congrArg List.length e
        simp only [List.length_append, bl_len, bz4, List.length_nil] at this
        omega
      have W5 := fun W (ht : Two W B B (B + 1) Y X2) => Lib.hid (two_string B B (B + 1) Y X2 W ht hY0)
      have WS := fun W (hb : Below w.heap.size w W) => Lib.hid (show Calls Tryd.prog 30 #[.string ⟨Y.toArray⟩] W fun e w' => e = .returned (.int .i64 (crc Y : Int)) ∧ W = w' from sum_any ⟨Y.toArray⟩ W (by rw [size_mk]; omega) (HT.out.on hb).halves)
      have hcl := crc_lt Y
      obtain ⟨cr, hcr⟩ : ∃ cr, crc Y = cr := ⟨_, rfl⟩
      rw [hcr] at WS hcl hTe
      have HTe := Lib.hid hTe
      have W6 := fun W (ht : Two W B B (B + 1) Y X2) (hB : B ≤ W.heap.size) => Lib.hid (two_str B B (B + 1) Y X2 ⟨(be cr 4).toArray⟩ W ht (by rw [size_mk, be_length]; omega) hB)
      have W7 := fun W (ht : Two W B B (B + 1) (Y ++ be cr 4) X2) => Lib.hid (two_string B B (B + 1) (Y ++ be cr 4) X2 W ht (fun e => hY0 (List.append_eq_nil_iff.1 e).1))
      have CF := fun W => Lib.hid (show Calls Tryd.prog 26 #[.int .i64 (G.length : Nat)] W fun e w' => e = .returned (.string ⟨(be nb 4).toArray⟩) ∧ Below W.heap.size W w' from by rw [hnb]; exact sfixed_any nb W (by omega))
      have CF2 := fun W => Lib.hid (sfixed_any cr W hcl)
      have HYe := Lib.hid hYe
      clear hTe HTb
      have hwB : w.heap.size ≤ B := hs1
      clear HS HKR hR0 hGK hGL hX1 hX2 hnb htab htabL hY hYe hYl hcr hcl hF hHs hHl hFz hX0 z1 z2 z3 z4 hG0 CB CK hrl
      go_wp2_with fail
      refine CH.out.mono ?_
      rintro e w3 ⟨A', c', rfl, hA, hb3⟩
      have HB3 := Lib.hid (HBw.out.trans (hb3.mono HBw.out.size))
      have ht3 := HS2.out.up hb3
      have hl3 := Nat.le_trans Hlow.out hb3.size
      have CBl3 := CBl w3 HB3.out A' c' hA
      have HT3 := Lib.hid ht3
      clear hA hb3 CBl CH ht3 HS2 HBw Hlow
      go_wp2_with fail
      refine CBl3.out.mono ?_
      rintro e w4 ⟨rfl, hb4⟩
      have HB4 := Lib.hid (HB3.out.trans (hb4.mono HB3.out.size))
      have V1 := W1 w4 (HT3.out.up hb4) (Nat.le_trans hl3 hb4.size)
      have hl4 := Nat.le_trans hl3 hb4.size
      clear hb4 CBl3 W1 HT3 HB3
      go_wp2_with fail
      refine V1.out.mono ?_
      rintro e w5 ⟨rfl, ht5, hb5⟩
      have HB5 := Lib.hid (HB4.out.trans (hb5.mono hwB))
      have hl5 := Nat.le_trans hl4 hb5.size
      have V2 := W2 w5 ht5
      clear hb5 W2 V1 HB4 ht5
      go_wp2_with fail
      refine V2.out.mono ?_
      rintro e w6 ⟨rfl, ht6, hb6⟩
      have HB6 := Lib.hid (HB5.out.trans (hb6.mono hwB))
      have hl6 := Nat.le_trans hl5 hb6.size
      have V3 := W3 w6 ht6.swap hl6
      clear hb6 W3 V2 HB5 ht6
      go_wp2_with fail
      refine V3.out.mono ?_
      rintro e w7 ⟨rfl, ht7, hb7⟩
      have HB7 := Lib.hid (HB6.out.trans (hb7.mono hwB))
      have hl7 := Nat.le_trans hl6 hb7.size
      have V4 := CF w7
      have HT7 := Lib.hid ht7
      clear hb7 CF V3 HB6 ht7
      go_wp2_with fail
      refine V4.out.mono ?_
      rintro e w8 ⟨rfl, hb8⟩
      have HB8 := Lib.hid (HB7.out.trans (hb8.mono HB7.out.size))
      have hl8 := Nat.le_trans hl7 hb8.size
      have V5 := W4 w8 (HT7.out.up hb8) hl8
      clear hb8 W4 V4 HB7 HT7
      go_wp2_with fail
      refine V5.out.mono ?_
      rintro e w9 ⟨rfl, ht9, hb9⟩
      have HB9 := Lib.hid (HB8.out.trans (hb9.mono hwB))
      have hl9 := Nat.le_trans hl8 hb9.size
      have ht9 : Two w9 B B (B + 1) (((X1 ++ bl F) ++ X2) ++ be nb 4) X2 := ht9
      rw [HYe.out] at ht9
      have V6 := W5 w9 ht9
      clear hb9 V5 HB8 ht9
      go_wp2_with fail
      refine V6.out.mono ?_
      rintro e wa ⟨rfl, hta, hba⟩
      have HBa := Lib.hid (HB9.out.trans (hba.mono hwB))
      have hla := Nat.le_trans hl9 hba.size
      have V7 := WS wa HBa.out
      have HTa := Lib.hid hta
      clear hba W5 V6 HB9 hta WS
      go_wp2_with fail
      refine V7.out.mono ?_
      rintro e wb ⟨rfl, rfl⟩
      have V8 := CF2 wa
      clear V7 CF2
      go_wp2_with fail
      refine V8.out.mono ?_
      rintro e wc ⟨rfl, hbc⟩
      have HBc := Lib.hid (HBa.out.trans (hbc.mono HBa.out.size))
      have hlc := Nat.le_trans hla hbc.size
      have V9 := W6 wc (HTa.out.up hbc) hlc
      clear hbc V8 HBa HTa W6
      go_wp2_with fail
      refine V9.out.mono ?_
      rintro e wd ⟨rfl, htd, hbd⟩
      have HBd := Lib.hid (HBc.out.trans (hbd.mono hwB))
      have Va := W7 wd htd
      clear hbd V9 HBc htd W7
      go_wp2_with fail
      refine Va.out.mono ?_
      rintro e we ⟨rfl, hte, hbe⟩
      have HBe := Lib.hid (HBd.out.trans (hbe.mono hwB))
      clear hte hbe Va HBd
      go_wp2_with fail
      go_ret2
      exact ⟨_, rfl, HTe.out, HBe.out⟩
end Go.Proofs.YtcbgflidlpmhcaaDoor
