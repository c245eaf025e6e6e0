/-
  Several texts in one: Package bloom, part 2: the iterator over a key's places.
  A region that draws its order, walked in the order of the text, within a class of worlds: one operation at a time. No program is named.
  The document's own answer to chapter 12, part 5: May.
  A region that draws its order, in a round of a range over a function: it is walked as everywhere. No program is named.
  Package bloom, part 3: May.
  A region that draws its order in a round of a range over a function, whose last operation waits for all ahead of it; what a function leaves behind that went through such loops as often as it liked. No program is named.
  The document's own answer to chapter 12, part 3: Size.
  A list of texts, as it can be read in a world. No program is named.
  The document's own answer to chapter 12, part 6: Bloom.
  Package bloom, part 4: Build.
  What a filter that was built tells (no program is named).
  The check sum, without the program: one byte changed changes it.
  The walk over the laws' first call (alive), and what the laws ask of the tables.
  RawShort: of a number in few bytes no beginning is taken for it.
  The order of texts, plain; the document's own Compare.
  Chapter 11, plain: what a block of pairs is, as bytes; which bytes are one. No program is named.
  Chapter 11, plain: bytes of which one is changed; what is sought; how long a block is. No program is named.
  Tables, as plain values: heads of keys, blocks of pairs, pairs from a key on, whether pairs may be written (no program is named).
  Chapter 11, plain: how bytes are read as pairs, three numbers at a time. No program is named.
  Tables, as plain values, 2: from the empty key on; a first part of the pairs; may they be written (no program is named).
  Tables, as plain values, 3: what Get answers; bytes whose last four are the sum of all ahead, and one of them changed (no program is named).
  Tables, as plain values, 4: the blocks that pairs stand in (no program is named).
-/
import Derived.Test.YtcbgflidlpmhcaaGreatDoorM2
import Derived.RangeFuncFrom
import Derived.RangeFuncLeaves
import Derived.Shelf.Abstract
import Derived.Shelf.RegionOpen
import Derived.WalkKit
import Derived.OwnWalkIn
import Derived.TacticsInMore
import Derived.LoopNIn
import Derived.LoopIn
import Derived.Test.YtcbgflidlpmhcaaGreatDoorM1
import Derived.Deep.QuietTactic
import Derived.BigQuiet
import Derived.RangeFuncCalls
import Derived.RegionTactic
import Derived.RangeFuncBox
import Derived.StillTailTactics
import Derived.Deep.RegionHeld3
import Derived.LoopTactic
import Derived.Deep.CutBlock
import Derived.Deep.CutRange
import Derived.Lib.Strings
import Derived.OpenShut
import Derived.Lib.Bytealg
namespace Go.Proofs.YtcbgflidlpmhcaaGreatDoor
open Go.RowKit Go.Shelf

/-- The table that package bloom reads. -/
structure LaidM (w : World) : Prop where
  halves : Lib.TabIs Tryz.prog w "bedrock/raw.halves" .u32 halvesL
theorem glob_halvesM : Tryz.prog.globalNamed "bedrock/raw.halves" = some 0 := by kernel_rfl
theorem LaidM.on {w w' : World} (h : LaidM w) (hb : Below w.heap.size w w') : LaidM w' :=
  ⟨var?_below hb glob_halvesM (lt_of_cell (h.halves.cell glob_halvesM 0 (by decide))) h.halves⟩
theorem LaidM.at_ {B : Nat} {w w' : World} (h : LaidM w) (hb : Below B w w') (hB : w.heap.size ≤ B) : LaidM w' := LaidM.on h (hb.mono hB)

theorem u32_or_nat (a b : Nat) (ha : a < 4294967296) (hb : b < 4294967296) : bits .or .u32 (a : Int) (b : Int) = ((a ||| b : Nat) : Int) := by
  have hx : a ||| b < 2 ^ 32 := Nat.or_lt_two_pow (by omega) (by omega)
  show IntKind.u32.wrap ((BitVec.ofInt 32 (a : Int) ||| BitVec.ofInt 32 (b : Int)).toNat : Int) = _
  rw [BitVec.toNat_or, ofInt_u32 a ha, ofInt_u32 b hb, IntKind.wrap_u32]
  omega
/-- A sum turned about. -/
theorem turn_or (h : Nat) (hh : h < 4294967296) : h * 32768 % 4294967296 ||| h / 131072 = turnH h := by
  unfold turnH
  have e1 : h * 32768 % 4294967296 = 2 ^ 15 * (h % 131072) := by omega
  have hb : h / 131072 < 2 ^ 15 := by omega
  rw [e1, ← Nat.two_pow_add_eq_or_of_lt hb]
  omega

/-- The bits of a filter of n bytes. -/
abbrev EltB (n : Nat) := { p : Nat // p < 8 * n }
def eltP (n : Nat) (hn : 0 < n) (v : Nat) : EltB n := ⟨v % (8 * n), Nat.mod_lt _ (by omega)⟩
/-- A key's places, the first k. -/
def eltsP (n : Nat) (hn : 0 < n) (h d k : Nat) : List (EltB n) := (List.range k).map fun i => eltP n hn ((h + i * d) % 4294967296)
theorem eltsP_succ (n : Nat) (hn : 0 < n) (h d k : Nat) : eltsP n hn h d (k + 1) = eltsP n hn h d k ++ [eltP n hn ((h + k * d) % 4294967296)] := by
  unfold eltsP
  rw [List.range_succ, List.map_append]
  rfl
theorem eltsP_len (n : Nat) (hn : 0 < n) (h d k : Nat) : (eltsP n hn h d k).length = k := by unfold eltsP; rw [List.length_map, List.length_range]
theorem eltsP_val (n : Nat) (hn : 0 < n) (h d : Nat) (hh : h < 4294967296) : ∀ k, (eltsP n hn h d k).map Subtype.val = placesP h d n k
  | 0 => rfl
  | k + 1 => by rw [eltsP_succ, List.map_append, eltsP_val n hn h d hh k, placesP_snoc _ _ _ _ hh]; rfl
theorem eltsP_take (n : Nat) (hn : 0 < n) (h d : Nat) {j k : Nat} (hj : j ≤ k) : eltsP n hn h d j <+: eltsP n hn h d k := by
  obtain ⟨m, rfl⟩ : ∃ m, k = j + m := ⟨k - j, by omega⟩
  unfold eltsP
  rw [List.range_add, List.map_append]
  exact List.prefix_append _ _

set_option maxRecDepth 100000 in
set_option maxHeartbeats 2000000 in
theorem bplaces_any (key : ByteArray) (n k : Nat) (w : World) :
    Calls Tryz.prog 118 #[.string key, .int .i64 (n : Int), .int .i64 (k : Int)] w fun e w' => e = .returned (.func (.func 168) #[] #[.pointer (some ⟨w.heap.size, 0, none⟩), .pointer (some ⟨w.heap.size + 2, 0, none⟩), .pointer (some ⟨w.heap.size + 1, 0, none⟩)]) ∧
      w' = ((w.alloc (.cells #[.string key] 9)).alloc (.cells #[.int .i64 (n : Int)] 3)).alloc (.cells #[.int .i64 (k : Int)] 3) := by
  have hmf : ∀ (fn : Fn) (first cap : Array Value) (w : World), (Instr.makeFunc fn first cap).run Tryz.prog w = .ok (.func fn first cap) w := fun _ _ _ _ => rfl
  go_enter Tryz.func118, Tryz.ntmps118
  go_wp2_with fail
  go_ret
  exact ⟨rfl, rfl⟩

/-- A cell that a round keeps. -/
def KpC (b : Nat) (W W' : World) : Prop := ∀ v, W.cell? ⟨b, 0, none⟩ = some v → W'.cell? ⟨b, 0, none⟩ = some v
theorem KpC.refl (b : Nat) (W : World) : KpC b W W := fun _ h => h
theorem kpC_t {b : Nat} {A B C : World} (h : KpC b A B) (k : KpC b B C) : KpC b A C := fun v hv => k v (h v hv)
theorem kpC_b {b : Nat} (W : World) (l : Nat) (o o' : Obj) (h : W.heap[l]? = some o) (ho : o.isCells = false) : KpC b W (W.putObj l o') :=
  fun _ hv => cell_kept hv (grownBy_putObj' W l o') (fun r e => by cases e; exact ⟨o, h, ho⟩)
set_option maxRecDepth 100000 in
set_option maxHeartbeats 4000000 in
theorem places1_in {m : Nat} (key : ByteArray) (hs : key.size ≤ 9223372036854775807) (n k h d : Nat) (hn0 : 0 < n) (hn : n ≤ 100000000000) (hk : k ≤ 1000) (hh : crc key.data.toList = h) (hd : turnH h = d) (hm : 1 ≤ m) (l b0 b1 b2 : Nat) (J Jx : List (EltB n) → World → Prop)
    (hY : ∀ pre x W, J pre W → pre.length < k → YieldAt Fence.wide (m - 1) Tryz.prog l #[.int .i64 (x.1 : Int)] W fun e W' =>
      (e = .returned (.bool true) ∧ J (pre ++ [x]) W' ∧ KpC b2 W W') ∨ (e = .returned (.bool false) ∧ Jx (pre ++ [x]) W'))
    (W : World) (hT : LaidM W) (c0 : W.cell? ⟨b0, 0, none⟩ = some (.string key)) (c1 : W.cell? ⟨b1, 0, none⟩ = some (.int .i64 (k : Int))) (c2 : W.cell? ⟨b2, 0, none⟩ = some (.int .i64 (n : Int))) (h0 : J [] W) :
    CallsIn Fence.wide m Tryz.prog 168 #[.func (.yield l) #[] #[], .pointer (some ⟨b0, 0, none⟩), .pointer (some ⟨b1, 0, none⟩), .pointer (some ⟨b2, 0, none⟩)] W fun e W' => (∃ v, e = .returned v) ∧
      ((∃ ys, ys = eltsP n hn0 h d k ∧ J ys W') ∨ (∃ pre, pre <+: eltsP n hn0 h d k ∧ Jx pre W')) := by
  have CS := Lib.hid (sum_any key W hs hT.halves)
  rw [hh] at CS
  have hlt : h < 4294967296 := by rw [← hh]; unfold crc; omega
  have hdl : d < 4294967296 := by rw [← hd]; unfold turnH; omega
  have hor : bits .or .u32 ((h : Int) * 32768 % 4294967296) ((h : Int) / 131072) = (d : Int) := by
    rw [show (h : Int) * 32768 % 4294967296 = ((h * 32768 % 4294967296 : Nat) : Int) from by omega, show (h : Int) / 131072 = ((h / 131072 : Nat) : Int) from by omega, u32_or_nat _ _ (by omega) (by omega), turn_or h hlt, hd]
  clear hh hd hs hT
  have HY := Lib.hid hY
  have H0 := Lib.hid h0
  have m1 : IntKind.i64.wrap (8 * (n : Int)) = 8 * (n : Int) := by rw [IntKind.wrap_i64]; omega
  have m2 : ¬ (8 * (n : Int)) = 0 := by omega
  have m3 : ¬ n = 0 := by omega
  have m4 : (0 : Int) ≤ 8 * (n : Int) := by omega
  clear hY h0
  refine callsIn_of_wp Tryz.func168 rfl trivial ?_ rfl
  simp only [Tryz.ntmps168, List.size_toArray, List.length_cons, List.length_nil, Nat.reduceAdd, Nat.reduceSub, Array.replicate_succ, Array.replicate_zero, List.push_toArray, List.append_toArray, List.nil_append, List.cons_append]
  gi_wp2_with (refine ⟨trivial, ?_⟩; gi_at_call 33; refine (callsIn_wide.2 CS.out).mono ?_; rintro e w1 ⟨rfl, rfl⟩)
  clear c0 c1 hor CS
  gi_loopw [5, 16] (fun s5 s16 wr => ∃ i hc : Nat, i ≤ k ∧ hc < 4294967296 ∧ s5 = .int .u32 (hc : Int) ∧ s16 = .int .i64 (i : Int) ∧ Hid (hc = (h + i * d) % 4294967296) ∧ Hid (J (eltsP n hn0 h d i) wr) ∧ wr.cell? ⟨b2, 0, none⟩ = some (.int .i64 (n : Int))) (fun _ s16 _ => k - (intOf s16).toNat)
  case atStart => exact ⟨0, h, by omega, hlt, rfl, rfl, Lib.hid (by omega), H0, c2⟩
  case round =>
    obtain ⟨i, hc, hi, hcl, rfl, rfl, HC, HJ, q2⟩ := hrel
    clear H0 c2
    by_cases hik : i < k
    · have i1 : (i : Int) < (k : Int) := by omega
      obtain ⟨fn, tmps, assign, body, hy, hR⟩ := HY.out _ (eltP n hn0 hc) wr HJ.out (by rw [eltsP_len]; exact hik)
      have hsn : eltsP n hn0 h d i ++ [eltP n hn0 hc] = eltsP n hn0 h d (i + 1) := by rw [eltsP_succ, HC.out]
      rw [hsn] at hR
      have hlen : eltsP n hn0 h d (i + 1) <+: eltsP n hn0 h d k := eltsP_take n hn0 h d hik
      have x1 : (hc : Int).tmod (8 * (n : Int)) = ((hc % (8 * n) : Nat) : Int) := by rw [Int.tmod_eq_emod_of_nonneg (by omega)]; push_cast; rfl
      have x2 : (hc : Int) % (8 * (n : Int)) = ((hc % (8 * n) : Nat) : Int) := by push_cast; rfl
      have hv : (eltP n hn0 hc).1 = hc % (8 * n) := rfl
      rw [hv] at hy
      obtain ⟨v, hve⟩ : ∃ v : Nat, hc % (8 * n) = v := ⟨_, rfl⟩
      rw [hve] at hy x1 x2
      have HC2 : Hid ((hc + d) % 4294967296 = (h + (i + 1) * d) % 4294967296) := Lib.hid (by rw [HC.out, Nat.mod_add_mod, Nat.add_mul]; congr 1; omega)
      clear hsn hv hve HJ HC
      gi_wp2
      refine hR.mono ?_
      rintro e W3 (⟨rfl, hJ3, hk3⟩ | ⟨rfl, hJx3⟩)
      · have q3 : W3.cell? ⟨b2, 0, none⟩ = some (.int .i64 (n : Int)) := hk3 _ q2
        have HJ3 := Lib.hid hJ3
        clear hJ3 hk3 hR hy q2
        gi_wp2
        go_roundw
        case rel => exact ⟨i + 1, (hc + d) % 4294967296, by omega, Nat.mod_lt _ (by decide), congrArg (Value.int .u32) (by omega), by go_num, HC2, HJ3, q3⟩
        case measure => simp [intOf]; omega
      · gi_wp2
        refine bodyPost_ret (results_none rfl _ _ _) rfl ?_
        exact ⟨⟨_, rfl⟩, .inr ⟨_, hlen, hJx3⟩⟩
    · obtain rfl : i = k := by omega
      gi_wp2
      all_goals (try (refine ⟨fun _ h => (by cases h), ?_⟩; gi_wp2))
      go_end0
      exact ⟨⟨_, rfl⟩, .inl ⟨_, rfl, HJ.out⟩⟩
/-- The iterator's contract. -/
theorem places_stops {m : Nat} (key : ByteArray) (hs : key.size ≤ 9223372036854775807) (n k : Nat) (hn0 : 0 < n) (hn : n ≤ 100000000000) (hk : k ≤ 1000) (hm : 1 ≤ m) (w w0 : World) (hT : LaidM w)
    (hB : Below w.heap.size w w0) (b0 b1 b2 : Nat) (h0 : b0 < w0.heap.size) (h1 : b1 < w0.heap.size) (h2 : b2 < w0.heap.size)
    (c0 : w0.cell? ⟨b0, 0, none⟩ = some (.string key)) (c1 : w0.cell? ⟨b1, 0, none⟩ = some (.int .i64 (k : Int))) (c2 : w0.cell? ⟨b2, 0, none⟩ = some (.int .i64 (n : Int))) :
    SeqStopsK Fence.wide m Tryz.prog 168 #[.pointer (some ⟨b0, 0, none⟩), .pointer (some ⟨b1, 0, none⟩), .pointer (some ⟨b2, 0, none⟩)] (fun x : EltB n => #[.int .i64 (x.1 : Int)]) (KpC b2)
      (fun ys => ys = eltsP n hn0 (crc key.data.toList) (turnH (crc key.data.toList)) k) (fun pre => pre <+: eltsP n hn0 (crc key.data.toList) (turnH (crc key.data.toList)) k) k w0 :=
  fun l J Jx W hW _ _ hY hJ0 => places1_in key hs n k _ _ hn0 hn hk rfl rfl hm l b0 b1 b2 J Jx hY W ((hT.on hB).on hW) ((hW.cell (p := ⟨b0, 0, none⟩) h0).trans c0) ((hW.cell (p := ⟨b1, 0, none⟩) h1).trans c1) ((hW.cell (p := ⟨b2, 0, none⟩) h2).trans c2) hJ0
end Go.Proofs.YtcbgflidlpmhcaaGreatDoor

namespace Go.Proofs.YtcbgflidlpmhcaaGreatDoor
section
variable {P : Program} {ops : Array Oper} {C : World → Prop} {Q : Act → Prop} {a : Act} {o : Oper} {rest : List Oper}
theorem wpQuiet_skip (hw : Region.wanted o (yielded ops a.tmps) = false) (h : wpQuiet P ops C Q rest (a.put o.dst undef)) : wpQuiet P ops C Q (o :: rest) a := by
  unfold wpQuiet
  rw [hw]
  exact h
theorem wpQuiet_take (hw : Region.wanted o (yielded ops a.tmps) = true) (v : Value) (hy : ∀ w, C w → o.quietAt P a C w v) (h : wpQuiet P ops C Q rest (a.put o.dst v)) : wpQuiet P ops C Q (o :: rest) a := by
  unfold wpQuiet
  rw [if_pos hw]
  exact ⟨v, hy, h⟩
theorem wp_region_class {id : Nat} {Q : Exit → Act → World → Prop} {a : Act} {w : World} {l : List Oper} (C : World → Prop) (hm : P.follows .mixedOrders = true) (hB : Region.lexB .any l.toArray = true) (hC : C w.drew)
    (h : wpQuiet P l.toArray C (fun a' => ∀ w', C w' → Q .normal a' w') l a) : (Code.region id l.toArray true).wp P Q a w :=
  wp_region_quiet (C := C) hm hB hC (by simpa using h)
end
open Go.RowKit
/-! ### A call within a class of worlds: all that come out of one world -/
theorem cls_call {P : Program} {f : FuncId} {args : Array Value} {W0 W : World} {R : Ending} (hW : Below W0.heap.size W0 W) (h : Calls P f args W fun e w' => e = R ∧ Below W.heap.size W w') :
    Calls P f args W fun e w' => e = R ∧ Below W0.heap.size W0 w' := h.mono fun _ _ ⟨he, hb⟩ => ⟨he, hW.trans (hb.mono hW.size)⟩
theorem below_of_eq {w w' : World} (h : w' = w) : Below w.heap.size w w' := by rw [h]; exact Below.refl _ _
theorem below_of_eq' {w w' : World} (h : w = w') : Below w.heap.size w w' := by rw [h]; exact Below.refl _ _
end Go.Proofs.YtcbgflidlpmhcaaGreatDoor

namespace Go.Proofs.YtcbgflidlpmhcaaGreatDoor
open Go.RowKit

/-- Is a byte's bit 0? -/
theorem bit_and : ∀ j : Nat, j < 8 → ∀ c : Nat, c < 256 → (bits .and .u8 (c : Int) ((2 : Int) ^ j % 256) == 0) = !c.testBit j := by decide +kernel
/-- May, of what came in. -/
def mayT (f : ByteArray) (h : Nat) : Bool :=
  if f.size < 2 then true
  else if (f.data.toList.getD (f.size - 1) 0).toNat < 1 ∨ 30 < (f.data.toList.getD (f.size - 1) 0).toNat then true
  else mayL (f.data.toList.map UInt8.toNat) h (f.size - 1) (f.data.toList.getD (f.size - 1) 0).toNat
theorem may_snoc (L : List Nat) (h d n k : Nat) (hh : h < 4294967296) : (placesP h d n (k + 1)).all (hasB L) = ((placesP h d n k).all (hasB L) && hasB L (((h + k * d) % 4294967296) % (8 * n))) := by
  rw [placesP_snoc _ _ _ _ hh, List.all_append, List.all_cons, List.all_nil, Bool.and_true]
theorem placesP_get (d n : Nat) : ∀ (k h i : Nat), h < 4294967296 → i < k → (placesP h d n k)[i]? = some (((h + i * d) % 4294967296) % (8 * n))
  | 0, h, i, h1, hi => by omega
  | k + 1, h, 0, h1, hi => by
    rw [placesP, List.getElem?_cons_zero, Nat.zero_mul, Nat.add_zero, Nat.mod_eq_of_lt h1]
  | k + 1, h, i + 1, h1, hi => by
    rw [placesP, List.getElem?_cons_succ, placesP_get d n k _ i (Nat.mod_lt _ (by decide)) (by omega), Nat.mod_add_mod, Nat.add_mul, Nat.one_mul, show h + d + i * d = h + (i * d + d) from by omega]
theorem getD_byte (f : ByteArray) (i : Nat) (h : i < f.size) : f.data.toList.getD i 0 = f[i] := by
  rw [List.getD_eq_getElem?_getD, List.getElem?_eq_getElem (by simpa using h)]
  rfl
set_option maxRecDepth 100000 in
set_option maxHeartbeats 4000000 in
theorem rmay_any (f key : ByteArray) (w : World) (hs : key.size ≤ 9223372036854775807) (hf : f.size ≤ 1000000) :
    Calls Tryz.prog 18 #[.string f, .string key] w fun e w' => e = .returned (.bool (mayT f (crc key.data.toList))) ∧ Below w.heap.size w w' := by
  obtain ⟨r, hr⟩ : ∃ r, mayT f (crc key.data.toList) = r := ⟨_, rfl⟩
  rw [hr]
  unfold mayT at hr
  by_cases h2 : f.size < 2
  · rw [if_pos h2] at hr
    subst hr
    have g1 : wrap64 ((f.size : Int) - 1) = (f.size : Int) - 1 := by unfold wrap64; omega
    have g2 : IntKind.i64.wrap ((f.size : Int) - 1) = (f.size : Int) - 1 := by rw [IntKind.wrap_i64]; omega
    have g3 : (f.size : Int) - 1 < 1 := by omega
    have g4 : decide ((f.size : Int) - 1 < 1) = true := decide_eq_true g3
    clear hs hf h2
    go_enter Tryz.func18, Tryz.ntmps18
    go_wp2_with fail
    go_ret
    exact ⟨rfl, Below.refl _ _⟩
  · rw [if_neg h2] at hr
    obtain ⟨n, hn⟩ : ∃ n, f.size = n + 1 := ⟨f.size - 1, by omega⟩
    have hnl : n < f.size := by omega
    rw [show f.size - 1 = n from by omega, getD_byte f n hnl] at hr
    obtain ⟨u, hu⟩ : ∃ u : UInt8, f[n] = u := ⟨_, rfl⟩
    have hu8 := UInt8.toNat_lt u
    rw [hu] at hr
    have g1 : wrap64 ((f.size : Int) - 1) = (n : Int) := by unfold wrap64; omega
    have g2 : IntKind.i64.wrap ((f.size : Int) - 1) = (n : Int) := by rw [IntKind.wrap_i64]; omega
    have g3 : ¬ (n : Int) < 1 := by omega
    have g4 : decide ((n : Int) < 1) = false := decide_eq_false g3
    have g5 : (n : Int) < (f.size : Int) := by omega
    have g6 : (0 : Int) ≤ (n : Int) := by omega
    have HN := Lib.hid hn
    have hsz : n + 1 ≤ 1000000 := by omega
    clear hn
    by_cases hb : u.toNat < 1 ∨ 30 < u.toNat
    · rw [if_pos hb] at hr
      subst hr
      rcases hb with hb | hb
      · have b1 : (u.toNat : Int) < 1 := by omega
        have b2 : decide ((u.toNat : Int) < 1) = true := decide_eq_true b1
        clear hs hf h2 hb hsz HN
        go_enter Tryz.func18, Tryz.ntmps18
        go_wp2_with fail
        go_ret
        exact ⟨rfl, Below.refl _ _⟩
      · have b1 : (30 : Int) < (u.toNat : Int) := by omega
        have b2 : decide ((30 : Int) < (u.toNat : Int)) = true := decide_eq_true b1
        have b3 : ¬ (u.toNat : Int) < 1 := by omega
        have b4 : decide ((u.toNat : Int) < 1) = false := decide_eq_false b3
        clear hs hf h2 hb hsz HN
        go_enter Tryz.func18, Tryz.ntmps18
        go_wp2_with fail
        go_ret
        exact ⟨rfl, Below.refl _ _⟩
    · rw [if_neg hb] at hr
      obtain ⟨k, hk⟩ : ∃ k, u.toNat = k := ⟨_, rfl⟩
      rw [hk] at hr hb
      have b1 : ¬ (k : Int) < 1 := by omega
      have b2 : decide ((k : Int) < 1) = false := decide_eq_false b1
      have b3 : ¬ (30 : Int) < (k : Int) := by omega
      have b4 : decide ((30 : Int) < (k : Int)) = false := decide_eq_false b3
      have CP := Lib.hid (rplaces_any key n k w hs (by omega) (by omega) (by omega))
      have hlt : crc key.data.toList < 4294967296 := by unfold crc; omega
      obtain ⟨h, hh⟩ : ∃ h, crc key.data.toList = h := ⟨_, rfl⟩
      rw [hh] at CP hlt hr
      clear hs hf h2 hb hh
      go_enter Tryz.func18, Tryz.ntmps18
      go_wp2_with fail
      refine CP.out.mono ?_
      rintro e w1 ⟨A, c, rfl, ho, hb1⟩
      have HO := Lib.hid ho
      have HB := Lib.hid hb1
      clear ho hb1 CP
      have n0 : 0 < n := by omega
      go_wp2_with fail
      go_loopw [7] (fun s7 wr => ∃ i : Nat, i ≤ k ∧ s7 = .int .i64 (i : Int) ∧ Hid ((placesP h (turnH h) n i).all (hasB (f.data.toList.map UInt8.toNat)) = true) ∧ Hid (Below w1.heap.size w1 wr)) (fun s7 _ => k - (intOf s7).toNat)
      case atStart => exact ⟨0, by omega, rfl, Lib.hid rfl, Lib.hid (Below.refl _ _)⟩
      case round =>
        obtain ⟨i, hi, rfl, HA, HW⟩ := hrel
        by_cases hik : i < k
        · as_aux_lemma =>
          have hil : i < (placesH h n k).length := by unfold placesH; rw [placesP_length]; exact hik
          obtain ⟨p, hp⟩ : ∃ p, (placesH h n k)[i]? = some p := ⟨_, List.getElem?_eq_getElem hil⟩
          have hpl : p < 8 * n := placesP_lt _ _ n0 _ _ p (List.mem_of_getElem? hp)
          have hpm : ((placesH h n k).map Int.ofNat)[i]? = some (Int.ofNat p) := by rw [List.getElem?_map, hp]; rfl
          have HO' := Lib.hid (HO.out.below HW.out)
          obtain ⟨g, c', cur, hv, hg, hh⟩ := Own.some_ HO'.out (by rw [List.length_map]; omega)
          injection hv with e1 e2 e3
          subst e1
          have y0 : wr.cell? ⟨g, i, none⟩ = some (.int .i64 (p : Int)) := by
            have h9 := Own.cells (j := 0) HO'.out hpm (by decide) rfl
            rwa [show i * elInts.sz + 0 = i from by show i * 1 + 0 = _; omega] at h9
          have i1 : (i : Int) < (k : Int) := by omega
          obtain ⟨q, hq⟩ : ∃ q, p / 8 = q := ⟨_, rfl⟩
          obtain ⟨j, hj⟩ : ∃ j, p % 8 = j := ⟨_, rfl⟩
          have z1 : (p : Int) / 8 = (q : Int) := by omega
          have z2 : (p : Int) % 8 = (j : Int) := by omega
          have z3 : (q : Int) < (f.size : Int) := by have := HN.out; omega
          have z4 : (0 : Int) ≤ (q : Int) := by omega
          have hqf : q < f.size := by have := HN.out; omega
          obtain ⟨b, hb⟩ : ∃ b : UInt8, f[q] = b := ⟨_, rfl⟩
          have hba := bit_and j (by omega) b.toNat (UInt8.toNat_lt b)
          have hbp : hasB (f.data.toList.map UInt8.toNat) p = b.toNat.testBit j := by
            unfold hasB
            rw [hq, hj, List.getD_eq_getElem?_getD, List.getElem?_map, List.getElem?_eq_getElem (by simpa using hqf), ← hb]
            rfl
          have hmem := List.mem_of_getElem? hp
          have hsn := may_snoc (f.data.toList.map UInt8.toNat) h (turnH h) n i hlt
          have hpv : ((h + i * turnH h) % 4294967296) % (8 * n) = p := by
            have e9 := placesP_get (turnH h) n k h i hlt hik
            unfold placesH at hp
            rw [e9] at hp
            exact Option.some.inj hp
          rw [hpv, HA.out, hbp, Bool.true_and] at hsn
          clear hh hg hpm hil e2 e3 hp hpv
          cases ht : b.toNat.testBit j
          · rw [ht] at hba hbp
            have hrf : r = false := by
              rw [← hr]
              unfold mayL
              rw [List.all_eq_false]
              exact ⟨p, hmem, by rw [hbp]; decide⟩
            subst hrf
            simp only [Bool.not_false] at hba
            clear ht hsn hbp hmem
            go_wp2_with fail
            go_quiet (fail)
            go_wp2_with fail
            go_ret
            exact ⟨rfl, HB.out.trans ((below_drewN HW.out _).mono HB.out.size)⟩
          · rw [ht] at hba hsn
            simp only [Bool.not_true] at hba
            have Hsn := Lib.hid hsn
            clear ht hsn hbp hmem
            go_wp2_with fail
            go_quiet (fail)
            go_wp2_with fail
            go_roundw
            case rel => exact ⟨i + 1, by omega, by go_num, Hsn, Lib.hid (below_drewN HW.out _)⟩
            case measure => simp [intOf]; omega
        · as_aux_lemma =>
          obtain rfl : i = k := by omega
          have hrt : r = true := by rw [← hr]; exact HA.out
          subst hrt
          go_wp2_with fail
          go_ret
          exact ⟨rfl, HB.out.trans (HW.out.mono HB.out.size)⟩
end Go.Proofs.YtcbgflidlpmhcaaGreatDoor

namespace Go.Proofs.YtcbgflidlpmhcaaGreatDoor

theorem rowsIn_round {l n : Nat} {P : Program} {row : String} {args : Array Value} {w : World} {R : Value → World → Prop} (h : _root_.Go.Rows P row args w R) : _root_.Go.RowsIn (Fence.wide.inRound l) n P row args w R :=
  fun c cs _ => let ⟨v, w', r, s⟩ := h c cs; ⟨v, w', r, stepsIn_wide.2 s⟩
theorem callsIn_round {l n : Nat} {P : Program} {f : FuncId} {args : Array Value} {w : World} {R : Ending → World → Prop} (h : Calls P f args w R) : CallsIn (Fence.wide.inRound l) n P f args w R := CallsIn.inRound l (callsIn_wide.2 h)
/-- An operation that is no defer statement. -/
theorem wp_round {l n : Nat} {P : Program} {o : Oper} {a : Act} {w : World} {K : Act → World → Prop} {Q : Exit → Act → World → Prop} (hd : ∀ c, o.op ≠ .defer c) (h : o.wp P a w K Q) : o.wpIn (Fence.wide.inRound l) n P a w K Q := by
  unfold Oper.wpIn
  refine ⟨fun _ _ => trivial, ?_⟩
  rw [Oper.semAt_plain _ _ _ hd]
  unfold Oper.wp at h
  generalize (execOp a.eval o).run P w = r at *
  cases r with
  | ok x w' =>
    cases x <;> simp only [Oper.upon, Oper.uponIn] at h ⊢ <;>
      first
        | exact h
        | exact ⟨fun e => (by cases e), callsIn_round h⟩
        | exact ⟨fun e => (by cases e), rowsIn_round h⟩
  | halt x w' => cases x <;> simp only [Oper.upon, Oper.uponIn] at h ⊢ <;> exact h
/-- Each operation is no defer statement, and has no guard. -/
def plainB (ops : Array Oper) : Bool := ops.toList.all fun o => (match o.op with | .defer _ => false | _ => true) && o.guard.isNone
theorem plainB_at {ops : Array Oper} (h : plainB ops = true) {i : Nat} {o : Oper} (ho : ops[i]? = some o) : (∀ c, o.op ≠ .defer c) ∧ o.guard = none := by
  unfold plainB at h
  rw [List.all_eq_true] at h
  have h1 := h o (Array.mem_toList_iff.2 (Array.mem_of_getElem? ho))
  rw [Bool.and_eq_true] at h1
  refine ⟨fun c hc => ?_, Option.isNone_iff_eq_none.1 h1.2⟩
  rw [hc] at h1
  exact absurd h1.1 (by simp)
/-- The orders of a region. -/
theorem wpAny_round {l n : Nat} {P : Program} {md : Region.Mode} {ops : Array Oper} {Q : Exit → Act → World → Prop} (hB : plainB ops = true) (hQ : ¬ LetsOut Q) :
    ∀ (fuel : Nat) (listed : Array Bool) (a : Act) (w : World), wpAny P md ops Q fuel listed a w → wpAnyIn (Fence.wide.inRound l) n P md ops Q fuel listed a w
  | 0, _, _, _, h => h
  | fuel + 1, listed, a, w, h => by
    refine ⟨h.1, fun i hi => ?_⟩
    have h1 := h.2 i hi
    unfold wpOp at h1
    unfold wpOpIn
    cases ho : ops[i]? with
    | none =>
      rw [ho] at h1
      exact wpAny_round hB hQ fuel _ _ _ h1
    | some o =>
      rw [ho] at h1
      have hw : Region.wanted o (yielded ops a.tmps) = true := by simp [Region.wanted, (plainB_at hB ho).2]
      simp only [hw, if_true] at h1 ⊢
      rcases h1 with h1 | ⟨_, h1⟩
      · exact wp_round (plainB_at hB ho).1 (Oper.wp_mono (fun a' w' h' => wpAny_round hB hQ fuel _ a' w' h') h1)
      · exact absurd h1 hQ
end Go.Proofs.YtcbgflidlpmhcaaGreatDoor

namespace Go.Proofs.YtcbgflidlpmhcaaGreatDoor
open Go.RowKit Go.Shelf

theorem blkM_row {W : World} {g B : Nat} {t : TypeId} {cs : Array Value} {row : Option Nat} (h : Blk W g t cs) (hr : ∀ r, row = some r → B ≤ r ∧ ∃ o : Obj, W.heap[r]? = some o ∧ o.isCells = false) : some g ≠ row := by
  intro e
  obtain ⟨_, o, h1, h2⟩ := hr g e.symm
  unfold Blk at h
  rw [h] at h1
  cases h1
  cases h2

/-- Is a byte's bit 0? -/
theorem bit_shr : ∀ j : Nat, j < 8 → ∀ c : Nat, c < 256 → (bits .and .u8 ((c : Int) / 2 ^ j) 1 == 0) = !c.testBit j := by decide +kernel
set_option maxRecDepth 100000 in
set_option maxHeartbeats 4000000 in
theorem bmay_any (f key : ByteArray) (w : World) (hT : LaidM w) (hs : key.size ≤ 9223372036854775807) (hf : f.size ≤ 100000000000) :
    Calls Tryz.prog 41 #[.string f, .string key] w fun e w' => e = .returned (.bool (mayT f (crc key.data.toList))) ∧ Below w.heap.size w w' := by
  obtain ⟨r, hr⟩ : ∃ r, mayT f (crc key.data.toList) = r := ⟨_, rfl⟩
  rw [hr]
  unfold mayT at hr
  have CP := fun (n k : Nat) W => Lib.hid (bplaces_any key n k W)
  refine (callsIn_wide (n := 5)).1 ?_
  by_cases h2 : f.size < 2
  · rw [if_pos h2] at hr
    subst hr
    have g1 : wrap64 ((f.size : Int) - 1) = (f.size : Int) - 1 := by unfold wrap64; omega
    have g2 : IntKind.i64.wrap ((f.size : Int) - 1) = (f.size : Int) - 1 := by rw [IntKind.wrap_i64]; omega
    have g3 : (f.size : Int) - 1 < 1 := by omega
    have g4 : decide ((f.size : Int) - 1 < 1) = true := decide_eq_true g3
    clear hs hf h2 CP hT
    refine callsIn_of_wp_marks Tryz.func41 rfl trivial ?_ rfl
    simp only [Tryz.ntmps41, List.size_toArray, List.length_cons, List.length_nil, Nat.reduceAdd, Nat.reduceSub, Array.replicate_succ, Array.replicate_zero, List.push_toArray, List.append_toArray, List.nil_append, List.cons_append]
    gi_wp2
    refine ⟨.bool true, ?_, rfl, (((Below.refl _ w).alloc (Nat.le_refl _) _).alloc (by simp) _)⟩
    simp [results, Tryz.f41, go_sem]
  · rw [if_neg h2] at hr
    obtain ⟨n, hn⟩ : ∃ n, f.size = n + 1 := ⟨f.size - 1, by omega⟩
    have hnl : n < f.size := by omega
    rw [show f.size - 1 = n from by omega, getD_byte f n hnl] at hr
    obtain ⟨u, hu⟩ : ∃ u : UInt8, f[n] = u := ⟨_, rfl⟩
    have hu8 := UInt8.toNat_lt u
    rw [hu] at hr
    have g1 : wrap64 ((f.size : Int) - 1) = (n : Int) := by unfold wrap64; omega
    have g2 : IntKind.i64.wrap ((f.size : Int) - 1) = (n : Int) := by rw [IntKind.wrap_i64]; omega
    have g3 : ¬ (n : Int) < 1 := by omega
    have g4 : decide ((n : Int) < 1) = false := decide_eq_false g3
    have g5 : (n : Int) < (f.size : Int) := by omega
    have g6 : (0 : Int) ≤ (n : Int) := by omega
    have HN := Lib.hid hn
    have hsz : n + 1 ≤ 100000000000 := by omega
    clear hn
    by_cases hb : u.toNat < 1 ∨ 30 < u.toNat
    · rw [if_pos hb] at hr
      subst hr
      rcases hb with hb | hb
      · have b1 : (u.toNat : Int) < 1 := by omega
        have b2 : decide ((u.toNat : Int) < 1) = true := decide_eq_true b1
        clear hs hf h2 hb hsz HN CP hT
        refine callsIn_of_wp_marks Tryz.func41 rfl trivial ?_ rfl
        simp only [Tryz.ntmps41, List.size_toArray, List.length_cons, List.length_nil, Nat.reduceAdd, Nat.reduceSub, Array.replicate_succ, Array.replicate_zero, List.push_toArray, List.append_toArray, List.nil_append, List.cons_append]
        gi_wp2
        refine ⟨.bool true, ?_, rfl, (((Below.refl _ w).alloc (Nat.le_refl _) _).alloc (by simp) _)⟩
        simp [results, Tryz.f41, go_sem]
      · have b1 : (30 : Int) < (u.toNat : Int) := by omega
        have b2 : decide ((30 : Int) < (u.toNat : Int)) = true := decide_eq_true b1
        have b3 : ¬ (u.toNat : Int) < 1 := by omega
        have b4 : decide ((u.toNat : Int) < 1) = false := decide_eq_false b3
        clear hs hf h2 hb hsz HN CP hT
        refine callsIn_of_wp_marks Tryz.func41 rfl trivial ?_ rfl
        simp only [Tryz.ntmps41, List.size_toArray, List.length_cons, List.length_nil, Nat.reduceAdd, Nat.reduceSub, Array.replicate_succ, Array.replicate_zero, List.push_toArray, List.append_toArray, List.nil_append, List.cons_append]
        gi_wp2
        refine ⟨.bool true, ?_, rfl, (((Below.refl _ w).alloc (Nat.le_refl _) _).alloc (by simp) _)⟩
        simp [results, Tryz.f41, go_sem]
    · rw [if_neg hb] at hr
      obtain ⟨k, hk⟩ : ∃ k, u.toNat = k := ⟨_, rfl⟩
      rw [hk] at hr hb
      have b1 : ¬ (k : Int) < 1 := by omega
      have b2 : decide ((k : Int) < 1) = false := decide_eq_false b1
      have b3 : ¬ (30 : Int) < (k : Int) := by omega
      have b4 : decide ((30 : Int) < (k : Int)) = false := decide_eq_false b3
      have n0 : 0 < n := by omega
      have CP := CP n k
      have HT := Lib.hid hT
      have Hs := Lib.hid hs
      have Hr := Lib.hid hr
      have Hk : Hid (k ≤ 30) := Lib.hid (by omega)
      have Hsz := Lib.hid hsz
      clear hs hf h2 hb hT hr hsz
      refine callsIn_of_wp_marks Tryz.func41 rfl trivial ?_ rfl
      simp only [Tryz.ntmps41, List.size_toArray, List.length_cons, List.length_nil, Nat.reduceAdd, Nat.reduceSub, Array.replicate_succ, Array.replicate_zero, List.push_toArray, List.append_toArray, List.nil_append, List.cons_append]
      gi_wp2_with (refine ⟨trivial, ?_⟩; gi_at_call 118; refine (callsIn_wide.2 (CP _).out).mono ?_; rintro e w' ⟨rfl, rfl⟩)
      have D0 : Blk (((((w.alloc (.cells #[.string f] 9)).alloc (.cells #[.bool false] 4)).alloc (.cells #[.string key] 9)).alloc (.cells #[.int .i64 (n : Int)] 3)).alloc (.cells #[.int .i64 (k : Int)] 3)) w.heap.size 9 #[.string f] := ((((Blk.new _ _ _).alloc _).alloc _).alloc _).alloc _
      have D1 : Blk (((((w.alloc (.cells #[.string f] 9)).alloc (.cells #[.bool false] 4)).alloc (.cells #[.string key] 9)).alloc (.cells #[.int .i64 (n : Int)] 3)).alloc (.cells #[.int .i64 (k : Int)] 3)) (w.heap.size + 1) 4 #[.bool false] := (((Blk.new' (by simp) _ _).alloc _).alloc _).alloc _
      have D2 : Blk (((((w.alloc (.cells #[.string f] 9)).alloc (.cells #[.bool false] 4)).alloc (.cells #[.string key] 9)).alloc (.cells #[.int .i64 (n : Int)] 3)).alloc (.cells #[.int .i64 (k : Int)] 3)) (w.heap.size + 1 + 1) 9 #[.string key] := ((Blk.new' (by simp) _ _).alloc _).alloc _
      have D3 : Blk (((((w.alloc (.cells #[.string f] 9)).alloc (.cells #[.bool false] 4)).alloc (.cells #[.string key] 9)).alloc (.cells #[.int .i64 (n : Int)] 3)).alloc (.cells #[.int .i64 (k : Int)] 3)) (w.heap.size + 1 + 1 + 1) 3 #[.int .i64 (n : Int)] := (Blk.new' (by simp) _ _).alloc _
      have D4 : Blk (((((w.alloc (.cells #[.string f] 9)).alloc (.cells #[.bool false] 4)).alloc (.cells #[.string key] 9)).alloc (.cells #[.int .i64 (n : Int)] 3)).alloc (.cells #[.int .i64 (k : Int)] 3)) (w.heap.size + 1 + 1 + 2) 3 #[.int .i64 (k : Int)] := Blk.new' (by simp) _ _
      have g4 : w.grownBy (((((w.alloc (.cells #[.string f] 9)).alloc (.cells #[.bool false] 4)).alloc (.cells #[.string key] 9)).alloc (.cells #[.int .i64 (n : Int)] 3)).alloc (.cells #[.int .i64 (k : Int)] 3)) none := gnone (gnone (gnone (gnone (World.grownBy_alloc _ _ _) (World.grownBy_alloc _ _ _)) (World.grownBy_alloc _ _ _)) (World.grownBy_alloc _ _ _)) (World.grownBy_alloc _ _ _)
      have hs4 : (((((w.alloc (.cells #[.string f] 9)).alloc (.cells #[.bool false] 4)).alloc (.cells #[.string key] 9)).alloc (.cells #[.int .i64 (n : Int)] 3)).alloc (.cells #[.int .i64 (k : Int)] 3)).heap.size = w.heap.size + 5 := by simp
      generalize (((((w.alloc (.cells #[.string f] 9)).alloc (.cells #[.bool false] 4)).alloc (.cells #[.string key] 9)).alloc (.cells #[.int .i64 (n : Int)] 3)).alloc (.cells #[.int .i64 (k : Int)] 3)) = w4 at *
      have hb4 := below_g g4
      have hS := places_stops (m := 4) key Hs.out n k n0 (by have := Hsz.out; omega) (by have := Hk.out; omega) (by decide) w w4 HT.out hb4 (w.heap.size + 1 + 1) (w.heap.size + 1 + 1 + 2) (w.heap.size + 1 + 1 + 1) (by omega) (by omega) (by omega) (D2.cell 0) (D4.cell 0) (D3.cell 0)
      have hlt : crc key.data.toList < 4294967296 := by unfold crc; omega
      have hval := eltsP_val n n0 (crc key.data.toList) (turnH (crc key.data.toList)) hlt k
      have HV := Lib.hid hval
      clear hval hlt D2 D3 D4 CP
      refine wpIn_rangeFunc_ownF (α := EltB n) rfl (by decide) (gf := 168) (lb := #[.pointer (some ⟨w.heap.size + 1 + 1, 0, none⟩), .pointer (some ⟨w.heap.size + 1 + 1 + 2, 0, none⟩), .pointer (some ⟨w.heap.size + 1 + 1 + 1, 0, none⟩)]) rfl trivial (enters_of Tryz.func168 (by kernel_rfl) rfl)
        hS kpC_t (fun W l o o' _ h ho _ => kpC_b W l o o' h ho) (Below.refl _ _) (fun _ => rfl)
        (fun pre W => (∀ x ∈ pre, hasB (f.data.toList.map UInt8.toNat) x.1 = true) ∧ Blk W w.heap.size 9 #[.string f] ∧ Blk W (w.heap.size + 1) 4 #[.bool false] ∧ Below w.heap.size w W)
        (fun c pre W => c = .ret ∧ (∃ x ∈ pre, hasB (f.data.toList.map UInt8.toNat) x.1 = false) ∧ Blk W (w.heap.size + 1) 4 #[.bool false] ∧ Below w.heap.size w W)
        (fun pre A C row hs hg hr => ⟨hs.1, hs.2.1.grown hg (blkM_row hs.2.1 hr), hs.2.2.1.grown hg (blkM_row hs.2.2.1 hr), hs.2.2.2.grown hg hs.2.2.2.size (fun k hk => by have := (hr k hk).1; omega)⟩)
        (fun c pre A C row hs hg hr => ⟨hs.1, hs.2.1, hs.2.2.1.grown hg (blkM_row hs.2.2.1 hr), hs.2.2.2.grown hg hs.2.2.2.size (fun k hk => by have := (hr k hk).1; omega)⟩)
        ⟨fun x hx => (by cases hx), D0, D1, hb4⟩
        (fun x => { tmps := #[.string f, .string key, .pointer (some ⟨w.heap.size, 0, none⟩), undef, .pointer (some ⟨w.heap.size + 1, 0, none⟩), .int .i64 (n : Int), .int .i64 (k : Int), .int .i64 (x.1 : Int), .string f, .int .i64 (f.size : Int), .int .i64 (n : Int), .int .i64 (n : Int), .bool false, .string f, .int .i64 (n : Int), .int .u8 (k : Int), .int .i64 (k : Int), .int .i64 (k : Int), .bool false, .bool false, .int .i64 (k : Int), .bool false, .bool false, .string key, .int .i64 (n : Int), .int .i64 (k : Int),
          .func (.func 168) #[] #[.pointer (some ⟨w.heap.size + 1 + 1, 0, none⟩), .pointer (some ⟨w.heap.size + 1 + 1 + 2, 0, none⟩), .pointer (some ⟨w.heap.size + 1 + 1 + 1, 0, none⟩)], .int .i64 (x.1 : Int), undef, undef, undef, undef, undef, undef, undef, undef, undef], defers := [] }) ?assign ?body ?done ?stop
      case assign =>
        intro l x W K hK
        have hsem := @Oper.semAt_some
        gi_wp2
        exact hK
      case body =>
        rintro l pre x W ⟨ha, h1, h3, h4⟩ hlt
        have hsem := @Oper.semAt_some
        have y0 := h1.cell 0
        have y1 := h3.cell 0
        have y2 := h3.frozen 0
        obtain ⟨p, hp⟩ := x
        obtain ⟨q, hq⟩ : ∃ q, p / 8 = q := ⟨_, rfl⟩
        obtain ⟨j, hj⟩ : ∃ j, p % 8 = j := ⟨_, rfl⟩
        have z1 : (p : Int) / 8 = (q : Int) := by omega
        have z2 : (p : Int) % 8 = (j : Int) := by omega
        have hqf : q < f.size := by have := HN.out; omega
        obtain ⟨b, hb⟩ : ∃ b : UInt8, f[q] = b := ⟨_, rfl⟩
        obtain ⟨Q, hQ⟩ : ∃ Q : Int, wrap64 (q : Int) = Q := ⟨_, rfl⟩
        have hQq : Q = (q : Int) := by have := Hsz.out; have := HN.out; rw [← hQ]; unfold wrap64; omega
        have z3 : Q < (f.size : Int) := by omega
        have z4 : (0 : Int) ≤ Q := by omega
        have hQl : Q.toNat < f.size := by omega
        have hbQ : f[Q.toNat] = b := by
          have e : Q.toNat = q := by omega
          rw [← hb]
          congr 1
        have hba := bit_shr j (by omega) b.toNat (UInt8.toNat_lt b)
        have hbp : hasB (f.data.toList.map UInt8.toNat) p = b.toNat.testBit j := by
          unfold hasB
          rw [hq, hj, List.getD_eq_getElem?_getD, List.getElem?_map, List.getElem?_eq_getElem (by simpa using hqf), ← hb]
          rfl
        dsimp only
        cases ht : b.toNat.testBit j
        · rw [ht] at hba hbp
          simp only [Bool.not_false] at hba
          clear ht hb hQq hq hqf
          gi_wp2
          exact ⟨KeepsOthers.setCell _ _ _, rfl, ⟨_, List.mem_append_right _ (List.mem_singleton_self _), hbp⟩, h3.set_ 0 _, h4.setCell (p := ⟨w.heap.size + 1, 0, none⟩) (by simp) _⟩
        · rw [ht] at hba hbp
          simp only [Bool.not_true] at hba
          clear ht hb hQq hq hqf
          gi_wp2
          exact ⟨KeepsOthers.refl _, KpC.refl _ _, fun x hx => (List.mem_append.1 hx).elim (ha x) (fun e => by rw [List.mem_singleton] at e; subst e; exact hbp), h1, h3, h4⟩
      case done =>
        rintro D xs W hD rfl ⟨ha, h1, h3, h4⟩ hK
        have y1 := h3.cell 0
        have y2 := h3.frozen 0
        have hrt : r = true := by
          rw [← Hr.out]
          unfold mayL placesH
          rw [← HV.out, List.all_map]
          rw [List.all_eq_true]
          exact fun x hx => ha x hx
        subst hrt
        gi_wp2
        have hK' := (KeepsOthers.setCell W ⟨w.heap.size + 1, 0, none⟩ (.bool true)).same D _ hK rfl
        have h5 := h3.set_ 0 (.bool true)
        refine ⟨by simp, .inl ⟨_, _, rfl, run_takeDeferred hK', ?_⟩⟩
        have hc5 := (h5.grown (grownBy_putObj' _ D (.deferred none)) (fun e => by cases e; unfold Blk at h5; rw [hK'] at h5; cases h5)).cell 0
        refine ⟨.bool true, ?_, rfl, (h4.setCell (p := ⟨w.heap.size + 1, 0, none⟩) (by simp) _).trans (belowK_b (w := w) (Nat.le_refl _) _ D _ _ (by omega) hK' rfl rfl)⟩
        simp [results, Tryz.f41, go_sem, hc5]
      case stop =>
        rintro D c xs W hD hpre ⟨rfl, ⟨x, hx, hb⟩, h3, h4⟩ hK
        have hrf : r = false := by
          rw [← Hr.out]
          unfold mayL placesH
          rw [← HV.out, List.all_map]
          rw [List.all_eq_false]
          exact ⟨x, hpre.subset hx, by show ¬ hasB _ x.1 = true; rw [hb]; decide⟩
        subst hrf
        gi_wp2
        refine ⟨by simp, .inl ⟨_, _, rfl, run_takeDeferred hK, ?_⟩⟩
        have hc5 := (h3.grown (grownBy_putObj' W D (.deferred none)) (fun e => by cases e; unfold Blk at h3; rw [hK] at h3; cases h3)).cell 0
        refine ⟨.bool false, ?_, rfl, h4.trans (belowK_b (w := w) (Nat.le_refl _) W D _ _ (by omega) hK rfl rfl)⟩
        simp [results, Tryz.f41, go_sem, hc5]
end Go.Proofs.YtcbgflidlpmhcaaGreatDoor

namespace Go.Proofs.YtcbgflidlpmhcaaGreatDoor
open Go.RowKit

theorem wpIn_round_still_tail {r nn : Nat} {P : Program} {id : Nat} {Q : Exit → Act → World → Prop} {a : Act} {w : World} {l : List Oper} (n : Nat) (hm : P.follows .mixedOrders = true) (hp : plainB l.toArray = true) (hQ : ¬ LetsOut Q) (hB : Region.lexTailB .any l.toArray n = true)
    (h : wpStill P l.toArray { w with drawn := w.drawn + 1 } (fun a' => wpList P l.toArray Q (l.drop n) a' { w with drawn := w.drawn + 1 }) (l.take n) a) : (Code.region id l.toArray true).wpIn (Fence.wide.inRound r) nn P Q a w := by
  simp only [Region.lexTailB, Bool.and_eq_true, decide_eq_true_eq] at hB
  obtain ⟨⟨⟨⟨hsel, hn⟩, hs⟩, hc⟩, hlex⟩ := hB
  have hn' : n < l.length := by simpa using hn
  have htl : (l.take n).length = n := by simp; omega
  have hdl : (l.drop n).length = l.toArray.size - n := by simp
  have inv0 : HeadInv .any l.toArray n (Array.replicate l.toArray.size false) :=
    ⟨by simp, fun j oj _ hl => (by rw [getD_replicate_false] at hl; cases hl), fun t _ ht => getD_in (by simpa using ht) (getD_replicate_false _ _)⟩
  have H := wpAnyL_lex (md := .any) (g := l.toArray.size - n) hsel hs hc hn (l.take n) 0 _ a (fun j hj => by
    have hj' : j < n := by rw [htl] at hj; exact hj
    simp [hj']) (by simpa using htl) inv0 (by rw [htl]; exact hlex) h
  refine wpIn_region_any hm (wpAny_round hp hQ _ _ _ _ ?_)
  have := wpAny_of_head (Q' := Q) (g := l.toArray.size - n) (fun listed a' hL => by
    have := wpAny_of_seq (md := .any) (Q' := Q) (l.drop n) n listed a' { w with drawn := w.drawn + 1 } (fun j => by simp [List.getElem?_drop]) (by rw [hdl]; exact hL.1) hL.2
    rwa [hdl] at this) _ _ _ H
  rw [htl, show n + (l.toArray.size - n) = l.toArray.size by omega] at this
  exact this

/-- The mark that a range over a function leaves. -/
def markD (D : Nat) : Deferred := { target := .collected D, args := #[] }
theorem leaves_marks {F : Fence} {n : Nat} {P : Program} {fn : Func} {tmps : Array Value} {R : Ending → World → Prop} (B : Nat) (w : World) (hend : ∀ W, Below B w W → LeavesInM F n P fn tmps R [] .returning W) :
    ∀ (ds : List Nat) (W : World), ds.Nodup → (∀ D ∈ ds, B ≤ D ∧ W.heap[D]? = some (.deferred (some []))) → Below B w W → LeavesInM F n P fn tmps R (ds.map markD) .returning W
  | [], W, _, _, hb => hend W hb
  | D :: ds, W, hn, hd, hb => by
    obtain ⟨h1, h2⟩ := hd D (List.mem_cons_self ..)
    obtain ⟨n1, n2⟩ := List.nodup_cons.1 hn
    refine ⟨by simp, .inl ⟨D, _, rfl, run_takeDeferred h2, ?_⟩⟩
    have hg := grownBy_putObj' W D (.deferred none)
    refine leaves_marks B w hend ds _ n2 (fun E hE => ?_) (hb.grown hg (Nat.le_trans h1 (Nat.le_of_lt (Array.getElem?_eq_some_iff.1 h2).1)) (fun k hk => by cases hk; exact h1))
    obtain ⟨h3, h4⟩ := hd E (List.mem_cons_of_mem _ hE)
    refine ⟨h3, ?_⟩
    rw [← h4]
    exact hg.block E (Array.getElem?_eq_some_iff.1 h4).1 (fun e => n1 (by cases e; exact hE))
theorem wpListIn_make_full {F : Fence} {n : Nat} {P : Program} (w : World) {ops : Array Oper} {rest : List Oper} {o : Oper} {a : Act} {Q : Exit → Act → World → Prop}
    (hg : o.guard = none) (l c : Operand) (t : TypeId) (hop : o.op = Op.makeSlice t l c)
    (base : Nat) (e : TypeId) (i : TypeInfo) (z : Value) (size : Nat) (h1 : P.underlying t = some (.slice e)) (h2 : P.info? e = some i) (h3 : i.zero = some z) (h4 : i.size = size)
    (kl kc : IntKind) (L C : Int) (m : Nat) (hl : a.eval l = .int kl L) (hc : a.eval c = .int kc C) (hL : L = (m : Int)) (hC : C = (m : Int)) (b2 : i.bytes * m ≤ 281474976710656) (b3 : m ≤ maxLen) (b4 : base ≤ w.heap.size)
    (hK : ∀ w', w'.ownsRow base e size (.slice (some ⟨w.heap.size, 0, none⟩) m m) m (madeCells z.cells (m * size)).toList → w.grownBy w' none → wpListIn F n P ops Q rest (a.put o.dst (.slice (some ⟨w.heap.size, 0, none⟩) m m)) w') :
    wpListIn F n P ops Q (o :: rest) a w := by
  refine wpListIn_plain hg fun K hK' => ?_
  obtain ⟨w', hrun, r1, r2⟩ := run_make_full (P := P) w base t e i z size h1 h2 h3 h4 kl kc m b2 b3 b4
  subst hL
  subst hC
  unfold Oper.wpIn
  refine ⟨?_, ?_⟩
  · simp [Oper.about, hop]
  · rw [Oper.semAt_plain F _ _ (by rw [hop]; intro c hc'; cases hc')]
    simp [execOp, hop, hl, hc, hrun, Result.andThen]
    exact hK' _ _ (hK w' r1 r2)
end Go.Proofs.YtcbgflidlpmhcaaGreatDoor

namespace Go.Proofs.YtcbgflidlpmhcaaGreatDoor
open Go.RowKit Ieee

theorem size_floor {v : Nat} (h1 : isN v = false) (h2 : ¬ nkey v ≤ 4634204016564240384) (h3 : ¬ (4692750811720056832 : Int) ≤ nkey v) (h64 : v < 18446744073709551616) :
    v < 4823355200913801216 ∧ floorN v 64 524288 = magOf v / 2 ^ 1074 ∧ bitsK v = ceilR v := by
  have hs : isNeg v = false ∧ rung v < 4823355200913801216 := by
    unfold nkey at h2 h3
    cases hn : isNeg v <;> rw [hn] at h2 h3 <;> simp at h2 h3 <;> first | exact ⟨rfl, by omega⟩ | omega
  obtain ⟨hs1, hs2⟩ := hs
  have hxr : rung v = v := by
    rcases word_parts v h64 with ⟨e1, _⟩ | ⟨_, e2⟩
    · rw [hs1] at e1; cases e1
    · exact e2.1.symm
  have e1 : fltR 64 = 4634204016564240384 := by decide +kernel
  have e2 : fltR 524288 = 4692750811720056832 := by decide +kernel
  refine ⟨by omega, ?_, ?_⟩
  · unfold floorN
    rw [h1, e1, e2]
    simp only [Bool.false_eq_true, if_false]
    rw [if_neg (show ¬ nkey v ≤ ((4634204016564240384 : Nat) : Int) by omega), if_neg (show ¬ ((4692750811720056832 : Nat) : Int) ≤ nkey v by omega), hxr]
  · unfold bitsK
    rw [h1]
    simp only [Bool.false_eq_true, if_false]
    rw [if_neg h2, if_neg h3, hxr]
def SizeP (w : World) (r : Nat) (e : Ending) (w' : World) : Prop := e = .returned (.int .i64 (r : Nat)) ∧ Below w.heap.size w w'
set_option maxRecDepth 100000 in
set_option maxHeartbeats 4000000 in
/-- n as it came, m as it counts. -/
theorem rsize_at (n : Int) (m : Nat) (x : Nat) (w : World) (hm : (n < 0 ∧ m = 0) ∨ (0 ≤ n ∧ n = m)) (hm63 : m ≤ 9223372036854775807) :
    Calls Tryz.prog 43 #[.int .i64 n, .float .f64 x] w fun e w' => SizeP w (sizeN n x) e w' := by
  have hb : bitsN n x = bitsN (m : Int) x := by
    rcases hm with ⟨h1, rfl⟩ | ⟨_, rfl⟩
    · rw [bitsN_low (Or.inr (Or.inl (by omega))), bitsN_low (Or.inr (Or.inl (by omega)))]
    · rfl
  have hsz : sizeN n x = (bitsN (m : Int) x + 7) / 8 := by unfold sizeN; rw [hb]
  rw [hsz]
  have f0 := floatOfInt_nat m (by omega)
  have f0' : (n < 0 → floatOfInt .f64 0 = fltR m) := fun h => by rcases hm with ⟨_, rfl⟩ | ⟨h', _⟩ <;> first | rfl | omega
  rcases mul_cases (m : Int) x (by omega) with ⟨hnone, h64⟩ | ⟨v, hv, hvn, hv64, hbk⟩
  · rw [Int.toNat_natCast] at hnone
    rw [h64]
    have hq := run_mul_nan _ _ hnone
    have hz := fun W => (tapeMul_is W (fltR m) x)
    have hne := fun W => neq_self (tapeMul W (fltR m) x)
    have hne2 : ∀ W : World, (FloatKind.f64.format.order (tapeMul W (fltR m) x) (tapeMul W (fltR m) x) != some .eq) = true := fun W => by rw [hne W, (hz W).1]
    clear hnone hz hne hb hsz h64
    rcases hm with ⟨h1, rfl⟩ | ⟨h1, rfl⟩
    · have f0'' := f0' h1
      clear f0'
      go_enter Tryz.func43, Tryz.ntmps43
      go_wp2_with fail
      go_ret
      exact ⟨rfl, (Below.refl _ _).drew⟩
    · have h2 : ¬ (m : Int) < 0 := by omega
      clear f0'
      go_enter Tryz.func43, Tryz.ntmps43
      go_wp2_with fail
      go_ret
      exact ⟨rfl, (Below.refl _ _).drew⟩
  · rw [Int.toNat_natCast] at hv
    have hq := fun W : World => run_float_arith (P := Tryz.prog) W .mul 23 .f64 _ _ _ hv
    have hne : (FloatKind.f64.format.order v v != some .eq) = false := by rw [neq_self v, hvn]
    have g1 := gtr_eq v 4634204016564240384
    have g2 := geq_eq v 4692750811720056832
    rw [hvn, show isN 4634204016564240384 = false from by decide, show nkey 4634204016564240384 = 4634204016564240384 from by decide] at g1
    rw [hvn, show isN 4692750811720056832 = false from by decide, show nkey 4692750811720056832 = 4692750811720056832 from by decide] at g2
    simp only [Bool.not_false, Bool.true_and] at g1 g2
    rw [hbk]
    by_cases b2 : (4692750811720056832 : Int) ≤ nkey v
    · rw [decide_eq_true b2] at g2
      have e : bitsK v = 524288 := by unfold bitsK; rw [hvn]; simp only [Bool.false_eq_true, if_false]; rw [if_neg (by omega), if_pos b2]
      rw [e]
      clear hv hbk hb hsz b2 hvn hv64 e
      rcases hm with ⟨h1, rfl⟩ | ⟨h1, rfl⟩
      · have f0'' := f0' h1
        clear f0'
        go_enter Tryz.func43, Tryz.ntmps43
        go_wp2_with fail
        go_ret
        exact ⟨rfl, Below.refl _ _⟩
      · have h2 : ¬ (m : Int) < 0 := by omega
        clear f0'
        go_enter Tryz.func43, Tryz.ntmps43
        go_wp2_with fail
        go_ret
        exact ⟨rfl, Below.refl _ _⟩
    · rw [decide_eq_false b2] at g2
      by_cases b1 : nkey v ≤ 4634204016564240384
      · rw [decide_eq_false (by omega)] at g1
        have e : bitsK v = 64 := by unfold bitsK; rw [hvn]; simp only [Bool.false_eq_true, if_false]; rw [if_pos b1]
        rw [e]
        clear hv hbk hb hsz b2 b1 hvn hv64 e
        rcases hm with ⟨h1, rfl⟩ | ⟨h1, rfl⟩
        · have f0'' := f0' h1
          clear f0'
          go_enter Tryz.func43, Tryz.ntmps43
          go_wp2_with fail
          go_ret
          exact ⟨rfl, Below.refl _ _⟩
        · have h2 : ¬ (m : Int) < 0 := by omega
          clear f0'
          go_enter Tryz.func43, Tryz.ntmps43
          go_wp2_with fail
          go_ret
          exact ⟨rfl, Below.refl _ _⟩
      · rw [decide_eq_true (by omega)] at g1
        obtain ⟨c1, c2, c3⟩ := size_floor hvn b1 b2 hv64
        have CF := qfloor_any v 64 524288 hv64 (by decide) (by decide) w
        rw [c2] at CF
        have CF := Lib.hid CF
        have hfl := floor_lt v c1
        have hq48 := (int_far v c1).2
        rw [c3, ceil_floor v]
        have f3 := floatOfInt_nat (magOf v / 2 ^ 1074) (by omega)
        obtain ⟨q, hqq⟩ : ∃ q, magOf v / 2 ^ 1074 = q := ⟨_, rfl⟩
        obtain ⟨t, ht⟩ : ∃ t, decide (q * 2 ^ 1074 < magOf v) = t := ⟨_, rfl⟩
        rw [hqq] at CF hfl hq48 f3 ⊢
        rw [ht] at hfl
        have hif : (if q * 2 ^ 1074 < magOf v then q + 1 else q) = if t = true then q + 1 else q := by rw [← ht]; simp only [decide_eq_true_eq]
        rw [hif]
        clear hv hbk hb hsz b2 b1 hvn hv64 c1 c2 c3 hqq ht hif
        have s1 : wrap64 ((q : Int) + 1) = (q : Int) + 1 := by unfold wrap64; omega
        have s2 : IntKind.i64.wrap ((q : Int) + 1) = (q : Int) + 1 := by rw [IntKind.wrap_i64]; omega
        have s3 : IntKind.i64.wrap ((q : Int) + 7) = (q : Int) + 7 := by rw [IntKind.wrap_i64]; omega
        have s4 : IntKind.i64.wrap ((q : Int) + 1 + 7) = (q : Int) + 1 + 7 := by rw [IntKind.wrap_i64]; omega
        have s5 : ((q : Int) + 7).tdiv 8 = (((q + 7) / 8 : Nat) : Int) := by rw [Int.tdiv_eq_ediv_of_nonneg (by omega)]; omega
        have s6 : ((q : Int) + 1 + 7).tdiv 8 = (((q + 1 + 7) / 8 : Nat) : Int) := by rw [Int.tdiv_eq_ediv_of_nonneg (by omega)]; omega
        cases t
        all_goals
          rcases hm with ⟨h1, rfl⟩ | ⟨h1, rfl⟩
          · have f0'' := f0' h1
            clear f0'
            go_enter Tryz.func43, Tryz.ntmps43
            go_wp2_with fail
            refine CF.out.mono ?_
            rintro e w' ⟨rfl, rfl⟩
            go_wp2_with fail
            go_ret
            exact ⟨rfl, Below.refl _ _⟩
          · have h2 : ¬ (m : Int) < 0 := by omega
            clear f0'
            go_enter Tryz.func43, Tryz.ntmps43
            go_wp2_with fail
            refine CF.out.mono ?_
            rintro e w' ⟨rfl, rfl⟩
            go_wp2_with fail
            go_ret
            exact ⟨rfl, Below.refl _ _⟩
theorem rsize_any (n : Int) (x : Nat) (w : World) (h : n ≤ 9223372036854775807) :
    Calls Tryz.prog 43 #[.int .i64 n, .float .f64 x] w fun e w' => SizeP w (sizeN n x) e w' := by
  by_cases h0 : n < 0
  · exact rsize_at n 0 x w (Or.inl ⟨h0, rfl⟩) (by omega)
  · exact rsize_at n n.toNat x w (Or.inr ⟨by omega, by omega⟩) (by omega)
end Go.Proofs.YtcbgflidlpmhcaaGreatDoor

namespace Go.Proofs.YtcbgflidlpmhcaaGreatDoor
open Go.RowKit

/-- Texts that can be read. -/
structure TextsAt (w : World) (A : Option Addr) (n : Nat) (L : List ByteArray) : Prop where
  len : n = L.length
  at_ : ∀ (i : Nat) (s : ByteArray), L[i]? = some s → ∃ g off, A = some ⟨g, off, none⟩ ∧ g < w.heap.size ∧ w.cell? ⟨g, off + i, none⟩ = some (.string s)
theorem TextsAt.below {w w' : World} {A : Option Addr} {n : Nat} {L : List ByteArray} (h : TextsAt w A n L) (hb : Below w.heap.size w w') : TextsAt w' A n L :=
  ⟨h.len, fun i s hs => by
    obtain ⟨g, off, e, hg, h1⟩ := h.at_ i s hs
    exact ⟨g, off, e, Nat.lt_of_lt_of_le hg hb.size, (hb.cell (p := ⟨g, off + i, none⟩) hg).trans h1⟩⟩
end Go.Proofs.YtcbgflidlpmhcaaGreatDoor

namespace Go.Proofs.YtcbgflidlpmhcaaGreatDoor
open Go.RowKit

/-- A byte of a filter in a cell. -/
def cU (v : Nat) : Value := .int .u8 (v : Int)
theorem bit_or : ∀ j : Nat, j < 8 → ∀ c : Nat, c < 256 → bits .or .u8 (c : Int) ((2 : Int) ^ j % 256) = ((c ||| 2 ^ j : Nat) : Int) := by decide +kernel
/-- A filter as a text. -/
def filterT (hs : List Nat) (n k : Nat) : ByteArray := ⟨((filterL hs n k ++ [k]).map UInt8.ofNat).toArray⟩
/-- What Bloom answers. -/
def bloomT (keys : List ByteArray) (x : Nat) : ByteArray := filterT (keys.map fun s => crc s.data.toList) (sizeN (keys.length : Int) x) (probesN x)
theorem madeU (n : Nat) : (madeCells #[Value.int IntKind.u8 0] n).toList = (List.replicate n 0).map cU := (toList_madeCells_one _ _).trans (by simp [cU])

theorem own_setB {w : World} {B p i n : Nat} {e : TypeId} {v : Value} {xs : List Value} {sz : Nat} (h : w.ownsRow B e sz v n xs) (hp : v.ownBlock = none ∨ v.ownBlock ≠ some p) (u : Value) : (w.setCell ⟨p, i, none⟩ u).ownsRow B e sz v n xs :=
  World.ownsRow.kept (row := some p) h (only_setCell (World.grownBy.refl _ _) (Or.inl rfl) u) hp
/-- What a call leaves of a row that lay ahead of it. -/
theorem own_upB {w w' : World} {B n sz : Nat} {e : TypeId} {v : Value} {xs : List Value} (h : w.ownsRow B e sz v n xs) (hb : Below w.heap.size w w') : w'.ownsRow B e sz v n xs :=
  (Tn.of_below (B := 0) (T := fun _ => false) hb).own h (fun _ _ => rfl)
/-- A filter as it lies. -/
def FilAt (w : World) (B g z : Nat) (M : List Nat) : Prop := w.ownsRow B 5 1 (.slice (some ⟨g, 0, none⟩) z z) z (M.map cU)
theorem set_map (M : List Nat) (q y : Nat) : (M.map cU).set q (cU y) = (M.set q y).map cU := (List.map_set).symm
theorem fill_snoc (M : List Nat) (n k h : Nat) (hs : List Nat) : fillL M n k (hs ++ [h]) = (placesH h n k).foldl markL (fillL M n k hs) := by
  unfold fillL
  rw [List.foldl_append]
  rfl
set_option maxRecDepth 100000 in
set_option maxHeartbeats 4000000 in
theorem rbloom_any (A : Option Addr) (n c x : Nat) (L : List ByteArray) (w : World) (hL : TextsAt w A n L) (hn : n ≤ 1000000) (hok : ∀ s ∈ L, s.size ≤ 9223372036854775807) :
    Calls Tryz.prog 19 #[.slice A n c, .float .f64 x] w fun e w' => e = .returned (.string (bloomT L x)) ∧ Below w.heap.size w w' := by
  obtain ⟨i0, hi0, hz0, hz1, hz2⟩ := info_parts u8info
  have HL := Lib.hid hL
  have Hok := Lib.hid hok
  have Hlen := Lib.hid hL.len
  have CS := Lib.hid (rsize_any (n : Int) x w (by omega))
  have CP := fun W => Lib.hid (rprobes_any x W)
  obtain ⟨z, hz⟩ : ∃ z, sizeN (n : Int) x = z := ⟨_, rfl⟩
  obtain ⟨k, hk⟩ : ∃ k, probesN x = k := ⟨_, rfl⟩
  have z1 := sizeN_ge (n : Int) x
  have z2 := sizeN_le (n : Int) x
  have k1 := probesN_ge x
  have k2 := probesN_le x
  obtain ⟨R, hR⟩ : ∃ R, bloomT L x = R := ⟨_, rfl⟩
  rw [hR]
  unfold bloomT at hR
  rw [← hL.len, hz, hk] at hR
  rw [hz] at CS z1 z2
  rw [hk] at k1 k2
  have CP : ∀ W, Hid (Calls Tryz.prog 44 #[.float .f64 x] W fun e w' => e = .returned (.int .i64 (k : Int)) ∧ W = w') := fun W => by rw [← hk]; exact CP W
  have HR := Lib.hid hR
  clear hz hk hL hok hR
  go_enter Tryz.func19, Tryz.ntmps19
  go_wp2_with fail
  refine CS.out.mono ?_
  rintro e w1 ⟨rfl, hb0⟩
  have HB0 := Lib.hid hb0
  have hw0 : w.heap.size ≤ w1.heap.size := hb0.size
  clear hb0 CS
  go_wp2_with (at_make; refine wpList_make_full _ rfl (.tmp 12) (.tmp 12) 68 rfl w.heap.size 5 i0 (.int .u8 0) 1 Tryz.underlying68 hi0 hz0 hz1 .i64 .i64 _ _ z rfl rfl rfl rfl ?b2 ?b3 ?b4 ?_)
  case b2 => rw [hz2]; omega
  case b3 => unfold maxLen; omega
  case b4 => exact hw0
  intro w2 hown hgr
  have hb1 : Below w.heap.size w w2 := HB0.out.grown hgr hw0 (by simp)
  have hlt := (World.ownsRow.lt hown w1.heap.size rfl).2
  rw [madeU] at hown
  generalize w1.heap.size = g at *
  have Hown := Lib.hid hown
  have HB1 := Lib.hid hb1
  clear hown hgr hb1 HB0 hw0 hlt
  go_wp2_with fail
  go_loopw [6] (fun x6 wr => ∃ i : Nat, i ≤ n ∧ x6 = .int .i64 (i : Int) ∧ Hid (FilAt wr w.heap.size g z (fillL (List.replicate z 0) z k ((L.map fun s => crc s.data.toList).take i))) ∧ Hid (Below w.heap.size w wr)) (fun x6 _ => n - (intOf x6).toNat)
  case atStart => exact ⟨0, by omega, rfl, Lib.hid (by rw [List.take_zero]; exact Hown.out), HB1⟩
  case round =>
    obtain ⟨i, hi, rfl, HF, HB⟩ := hrel
    clear Hown HB1
    by_cases hin : i < n
    · as_aux_lemma =>
      have hiL : i < L.length := by rw [← Hlen.out]; exact hin
      obtain ⟨s, hs⟩ : ∃ s, L[i]? = some s := ⟨_, List.getElem?_eq_getElem hiL⟩
      obtain ⟨g0, off, hA, hg0, y0⟩ := (HL.out.below HB.out).at_ i s hs
      subst hA
      have hso := Hok.out s (List.mem_of_getElem? hs)
      have CPL := fun W => Lib.hid (rplaces_any s z k W hso (by omega) (by omega) (by omega))
      have i1 : (i : Int) < (n : Int) := by omega
      have i2 : (0 : Int) ≤ (i : Int) := by omega
      go_upto_region 5 with fail
      go_region_held3 (fun W => W.cell? ⟨g0, off + i, none⟩ = some (.string s))
        (first | exact y0 | exact (S7.cell (p := ⟨g0, off + i, none⟩) hg0).trans y0 | assumption)
        (first
          | (go_at_call 44; refine (CP _).out.mono ?_; rintro e w5 ⟨rfl, rfl⟩)
          | (go_at_call 42; refine (CPL _).out.mono ?_; rintro e w6 ⟨A2, c2, rfl, S6, S7⟩))
      rename_i hHeld
      have hglt := (World.ownsRow.lt HF.out g rfl).2
      have HP := Lib.hid S6
      have HF6 : Hid (FilAt w6 w.heap.size g z (fillL (List.replicate z 0) z k ((L.map fun s => crc s.data.toList).take i))) := Lib.hid (own_upB (w := wr.drew) HF.out S7)
      have HB6 := Lib.hid (HB.out.drew.trans (S7.mono (show w.heap.size ≤ wr.heap.size from HB.out.size)))
      have hsn : fillL (List.replicate z 0) z k ((L.map fun s => crc s.data.toList).take (i + 1)) = (placesH (crc s.data.toList) z k).foldl markL (fillL (List.replicate z 0) z k ((L.map fun s => crc s.data.toList).take i)) := by
        rw [← fill_snoc, List.take_add_one, List.getElem?_map, hs]
        rfl
      have Hsn := Lib.hid hsn
      have hMl : (fillL (List.replicate z 0) z k ((L.map fun s => crc s.data.toList).take i)).length = z := by rw [fillL_length, List.length_replicate]
      have hMb : ∀ x ∈ fillL (List.replicate z 0) z k ((L.map fun s => crc s.data.toList).take i), x < 256 := fillL_byte _ _ _ _ (fun x hx => by rw [List.mem_replicate] at hx; omega)
      generalize fillL (List.replicate z 0) z k ((L.map fun s => crc s.data.toList).take i) = M0 at *
      generalize hlo : wr.drew.heap.size = lo at *
      have hglo : g < lo := by rw [← hlo]; exact hglt
      obtain ⟨h, hh⟩ : ∃ h, crc s.data.toList = h := ⟨_, rfl⟩
      have hh32 : h < 4294967296 := by rw [← hh]; unfold crc; omega
      rw [hh] at HP Hsn
      have hglow := Lib.hid (World.ownsRow.lt HF.out g rfl).1
      have HMl := Lib.hid hMl
      have HMb := Lib.hid hMb
      clear S6 S7 hHeld hsn hMl hMb HF HB CPL CP y0 hg0 hso hs hglt hlo hh
      go_wp2_with fail
      go_loopw [8] (fun x8 wi => ∃ m : Nat, m ≤ k ∧ x8 = .int .i64 (m : Int) ∧ Hid (FilAt wi w.heap.size g z (((placesH h z k).take m).foldl markL M0)) ∧ Hid (Own elInts wi lo 3 (.slice A2 k c2) ((placesH h z k).map Int.ofNat)) ∧ Hid (Below w.heap.size w wi)) (fun x8 _ => k - (intOf x8).toNat)
      case atStart => exact ⟨0, by omega, rfl, by rw [List.take_zero]; exact HF6, HP, HB6⟩
      case round =>
        obtain ⟨m, hm, rfl, HFm, HPm, HBm⟩ := hrel
        clear HF6 HP HB6
        by_cases hmk : m < k
        · as_aux_lemma =>
          have hml : m < (placesH h z k).length := by unfold placesH; rw [placesP_length]; exact hmk
          obtain ⟨p, hp⟩ : ∃ p, (placesH h z k)[m]? = some p := ⟨_, List.getElem?_eq_getElem hml⟩
          have hpl : p < 8 * z := placesP_lt _ _ (by omega) _ _ p (List.mem_of_getElem? hp)
          have hpm : ((placesH h z k).map Int.ofNat)[m]? = some (Int.ofNat p) := by rw [List.getElem?_map, hp]; rfl
          obtain ⟨g1, c', cur, hv, hg, hh⟩ := Own.some_ HPm.out (by rw [List.length_map]; omega)
          injection hv with e1 e2 e3
          subst e1
          have hgne : g1 ≠ g := by omega
          have y0 : wr.cell? ⟨g1, m, none⟩ = some (.int .i64 (p : Int)) := by
            have h9 := Own.cells (j := 0) HPm.out hpm (by decide) rfl
            rwa [show m * elInts.sz + 0 = m from by show m * 1 + 0 = _; omega] at h9
          have i3 : (m : Int) < (k : Int) := by omega
          obtain ⟨q, hq⟩ : ∃ q, p / 8 = q := ⟨_, rfl⟩
          obtain ⟨j, hj⟩ : ∃ j, p % 8 = j := ⟨_, rfl⟩
          have z3 : (p : Int) / 8 = (q : Int) := by omega
          have z4 : (p : Int) % 8 = (j : Int) := by omega
          have z5 : (q : Int) < (z : Int) := by omega
          have z6 : (0 : Int) ≤ (q : Int) := by omega
          have z7 : (p : Int).tmod 8 = (j : Int) := by rw [Int.tmod_eq_emod_of_nonneg (by omega)]; exact z4
          have z8 : (0 : Int) ≤ (j : Int) := by omega
          have z9 : ¬ (j : Int) < 0 := by omega
          have wq : IntKind.i64.wrap (q : Int) = (q : Int) := by rw [IntKind.wrap_i64]; omega
          have wj : IntKind.i64.wrap (j : Int) = (j : Int) := by rw [IntKind.wrap_i64]; omega
          have hsn : ((placesH h z k).take (m + 1)).foldl markL M0 = markL (((placesH h z k).take m).foldl markL M0) p := by
            rw [List.take_add_one, hp, List.foldl_append]
            rfl
          have hlM : (((placesH h z k).take m).foldl markL M0).length = z := by rw [marks_length]; exact HMl.out
          have hbM := marks_byte ((placesH h z k).take m) M0 HMb.out
          generalize ((placesH h z k).take m).foldl markL M0 = M at *
          have hqM : q < M.length := by rw [hlM]; omega
          have hby := getD_lt 256 M q (by decide) hbM
          obtain ⟨y, hy⟩ : ∃ y, M.getD q 0 = y := ⟨_, rfl⟩
          rw [hy] at hby
          have hMq : (M.map cU)[q]? = some (cU y) := by
            rw [List.getElem?_map, List.getElem?_eq_getElem hqM]
            rw [List.getD_eq_getElem?_getD, List.getElem?_eq_getElem hqM] at hy
            rw [← hy]; rfl
          have y1 := World.ownsRow.cellAt HFm.out q (by omega)
          rw [hMq] at y1
          have y2 := World.ownsRow.frozenAt HFm.out q
          have hor := bit_or j (by omega) y hby
          have hmk2 : M.set q (y ||| 2 ^ j) = markL M p := by unfold markL; rw [hq, hj, hy]
          have Hsn2 := Lib.hid (hsn.trans hmk2.symm)
          unfold cU at y1
          clear hh hg hpm hml e2 e3 hp hsn hlM hbM hqM hy hMq hmk2
          go_wp2_with fail
          go_still_tail 22, (by kernel_rfl)
          go_wp2_with fail
          go_roundw
          case rel =>
            have hst := (World.ownsRow.stored HFm.out q (.int .u8 ((y ||| 2 ^ j : Nat) : Int))).1
            refine ⟨m + 1, by omega, by go_num, Lib.hid ?_, Lib.hid (own_setB HPm.out (Or.inr fun e => hgne (Option.some.inj e)) _), Lib.hid (below_setCell HBm.out hglow.out _).drew⟩
            rw [Hsn2.out]
            show World.ownsRow _ _ _ _ _ _ ((M.set q (y ||| 2 ^ j)).map cU)
            rw [← set_map]
            exact hst
          case measure => simp [intOf]; omega
        · as_aux_lemma =>
          obtain rfl : m = k := by omega
          go_wp2_with fail
          go_roundw
          case rel => exact ⟨i + 1, by omega, by go_num, Lib.hid (by rw [Hsn.out]; have h1 := HFm.out; rwa [List.take_of_length_le (by unfold placesH; rw [placesP_length]; omega)] at h1), HBm⟩
          case measure => simp [intOf]; omega
    · as_aux_lemma =>
      obtain rfl : i = n := by omega
      have hall : (L.map fun s => crc s.data.toList).take i = L.map fun s => crc s.data.toList := List.take_of_length_le (by rw [List.length_map]; exact Nat.le_of_eq Hlen.out.symm)
      have hF := HF.out
      rw [hall] at hF
      have hMl : (fillL (List.replicate z 0) z k (L.map fun s => crc s.data.toList)).length = z := by rw [fillL_length, List.length_replicate]
      have hMb : ∀ x ∈ fillL (List.replicate z 0) z k (L.map fun s => crc s.data.toList), x < 256 := fillL_byte _ _ _ _ (fun x hx => by rw [List.mem_replicate] at hx; omega)
      have hRR := HR.out
      unfold filterT filterL at hRR
      generalize fillL (List.replicate z 0) z k (L.map fun s => crc s.data.toList) = M at *
      have hby : Byt wr w.heap.size 5 (.slice (some ⟨g, 0, none⟩) z z) (M.map UInt8.ofNat) := by
        unfold Byt
        rw [List.length_map, hMl, List.map_map]
        unfold FilAt at hF
        rwa [show M.map (b8 ∘ UInt8.ofNat) = M.map cU from List.map_congr_left fun x hx => by
          show Value.int .u8 ((UInt8.ofNat x).toNat : Int) = Value.int .u8 (x : Int)
          rw [UInt8.toNat_ofNat', Nat.mod_eq_of_lt (hMb x hx)]]
      have hglt := (World.ownsRow.lt hF g rfl).2
      have k256 : (k : Int) % 256 = (k : Int) := by omega
      have hlM : (M.map UInt8.ofNat).length = z := by rw [List.length_map, hMl]
      have Hby := Lib.hid (Byt.alloc hby (.cells #[.int .u8 (k : Int)] 5))
      have HlM := Lib.hid hlM
      have HRR := Lib.hid hRR
      clear hall hF hMl hMb hRR hby HF HR
      go_wp2_with fail
      refine (CP _).out.mono ?_
      rintro e w6 ⟨rfl, rfl⟩
      go_wp2_with (at_builtin; refine wpList_append_byte _ rfl (.tmp 57) (.tmp 61) 68 rfl Tryz.underlying68 u8info rfl Hby.out ⟨wr.heap.size, 0, none⟩ 1 rfl (k : Int) (cell_new _ _ _) (UInt8.ofNat k) (by rw [UInt8.toNat_ofNat', Nat.mod_eq_of_lt (by omega)]) (by rw [HlM.out]; omega) (Nat.le_trans HB.out.size (by simp)) ?_)
      intro v' w' hby2 hgr
      have hcv := hby2.string (src := 68) (dst := 9) Tryz.underlying68 Tryz.underlying5 Tryz.underlying9
      rw [show (M.map UInt8.ofNat ++ [UInt8.ofNat k]) = (M ++ [k]).map UInt8.ofNat from by rw [List.map_append]; rfl, HRR.out] at hcv
      have hb9 : Below w.heap.size w w' := Byt.grown Hby.out (below_alloc HB.out (Nat.le_refl _) _) (Nat.le_trans HB.out.size (by simp)) hgr
      clear hby2 hgr
      go_wp2_with fail
      go_ret
      exact ⟨rfl, hb9⟩
end Go.Proofs.YtcbgflidlpmhcaaGreatDoor

namespace Go.Proofs.YtcbgflidlpmhcaaGreatDoor
open Go.RowKit Go.Shelf

theorem ownM_row {W : World} {B0 B n sz : Nat} {e : TypeId} {v : Value} {xs : List Value} {row : Option Nat} (h : W.ownsRow B0 e sz v n xs) (hr : ∀ r, row = some r → B ≤ r ∧ ∃ o : Obj, W.heap[r]? = some o ∧ o.isCells = false) : v.ownBlock = none ∨ v.ownBlock ≠ row := by
  rcases h.2 with ⟨rfl, _⟩ | ⟨g, cap, cur, rfl, _, hh, _⟩
  · exact Or.inl rfl
  · exact Or.inr (blkM_row (cs := cur) (t := e) hh hr)
theorem wpListIn_append_byteM {F : Fence} {nn : Nat} {P : Program} {e : TypeId} {B : Nat} {v : Value} {l : List UInt8} (w : World) {ops : Array Oper} {rest : List Oper} {o : Oper} {a : Act} {Q : Exit → Act → World → Prop} (hgd : o.guard = none) (s x : Operand) (t : TypeId)
    (ho : o.op = .call { callee := .builtin .append, args := #[s, x], argTypes := #[t, t] }) (ht : P.underlying t = some (.slice e)) (hi : (P.info? e).map (fun i => (i.zero, i.size, i.bytes)) = some (some (.int .u8 0), 1, 1))
    (hs : a.eval s = v) (hown : Byt w B e v l) (ad : Addr) (cp : Nat) (hx : a.eval x = .slice (some ad) 1 cp) (z : Int) (hcell : w.cell? ad = some (.int .u8 z)) (c : UInt8) (hc : z = (c.toNat : Int))
    (hl : l.length < 140737488355328) (hB : B ≤ w.heap.size)
    (h : ∀ v' w', Byt w' B e v' (l ++ [c]) → w.grownBy w' v.ownBlock → wpListIn F nn P ops Q rest (a.put o.dst v') w') : wpListIn F nn P ops Q (o :: rest) a w := by
  obtain ⟨i0, hi0, hz0, hz1, hz2⟩ := info_parts hi
  refine wpListIn_append_own w hgd s x t ho B e i0 (.int .u8 0) 1 1 ht hi0 hz0 hz1 hz2 rfl (by decide) v l.length (l.map b8) hs hown ad 1 cp [b8 c] hx rfl ?_ ?_ ?_ ?_ hB ?_
  · intro j u hj
    match j, hj with
    | 0, hj =>
      simp at hj
      subst hj
      subst hc
      exact hcell
  · intro u hu
    simp at hu
    subst hu
    rfl
  · unfold maxLen; omega
  · omega
  · intro v' w' h1 h2 _
    refine h v' w' ?_ h2
    unfold Byt
    rw [List.length_append, List.map_append]
    exact h1

/-- What stands while a filter is built. -/
structure BldAt (w W : World) (g b z : Nat) (M : List Nat) (ds : List Nat) : Prop where
  fil : FilAt W w.heap.size g z M
  box : Blk W b 68 #[.slice (some ⟨g, 0, none⟩) z z]
  below : Below w.heap.size w W
  nd : ds.Nodup
  marks : ∀ D ∈ ds, w.heap.size ≤ D ∧ W.heap[D]? = some (.deferred (some []))

theorem BldAt.grown {w W W' : World} {g b z : Nat} {M ds : List Nat} {row : Option Nat} (h : BldAt w W g b z M ds) (hg : W.grownBy W' row) (hr : ∀ r, row = some r → w.heap.size ≤ r ∧ r ≠ g ∧ r ≠ b ∧ r ∉ ds) : BldAt w W' g b z M ds :=
  ⟨World.ownsRow.kept h.fil hg (Or.inr fun e => (hr g e.symm).2.1 rfl), h.box.grown hg (fun e => (hr b e.symm).2.2.1 rfl), h.below.grown hg h.below.size (fun k hk => (hr k hk).1), h.nd,
    fun D hD => ⟨(h.marks D hD).1, (hg.block D (Array.getElem?_eq_some_iff.1 (h.marks D hD).2).1 (fun e => (hr D e.symm).2.2.2 hD)).trans (h.marks D hD).2⟩⟩
theorem BldAt.alloc {w W : World} {g b z : Nat} {M ds : List Nat} (h : BldAt w W g b z M ds) (o : Obj) : BldAt w (W.alloc o) g b z M ds :=
  h.grown (World.grownBy_alloc W o none) (fun r e => by cases e)
theorem BldAt.ne {w W : World} {g b z : Nat} {M ds : List Nat} (h : BldAt w W g b z M ds) : ∀ D ∈ ds, D ≠ g := by
  rintro D hD rfl
  have h1 := (h.marks D hD).2
  rcases h.fil.2 with ⟨e, _⟩ | ⟨g', cap, cur, e, _, hh, _⟩
  · cases e
  · injection e with e1 _ _
    cases e1
    rw [hh] at h1
    cases h1
theorem BldAt.lt {w W : World} {g b z : Nat} {M ds : List Nat} (h : BldAt w W g b z M ds) : g < W.heap.size ∧ b < W.heap.size ∧ ∀ D ∈ ds, D < W.heap.size :=
  ⟨(World.ownsRow.lt h.fil g rfl).2, (Array.getElem?_eq_some_iff.1 h.box).1, fun D hD => (Array.getElem?_eq_some_iff.1 (h.marks D hD).2).1⟩

set_option maxRecDepth 100000 in
set_option maxHeartbeats 4000000 in
theorem bbuild_any (A : Option Addr) (n c x : Nat) (L : List ByteArray) (w : World) (hL : TextsAt w A n L) (hn : n ≤ 1000000) (hok : ∀ s ∈ L, s.size ≤ 9223372036854775807) (hT : LaidM w) :
    Calls Tryz.prog 30 #[.slice A n c, .float .f64 x] w fun e w' => e = .returned (.string (bloomT L x)) ∧ Below w.heap.size w w' := by
  obtain ⟨i0, hi0, hz0, hz1, hz2⟩ := info_parts u8info
  have HL := Lib.hid hL
  have Hok := Lib.hid hok
  have Hlen := Lib.hid hL.len
  have HT := Lib.hid hT
  have CS := fun W => Lib.hid (bsize_any (n : Int) x W (by omega))
  have CP := fun W => Lib.hid (bprobes_any x W)
  obtain ⟨z, hz⟩ : ∃ z, sizeN (n : Int) x = z := ⟨_, rfl⟩
  obtain ⟨k, hk⟩ : ∃ k, probesN x = k := ⟨_, rfl⟩
  have z1 := sizeN_ge (n : Int) x
  have z2 := sizeN_le (n : Int) x
  have k1 := probesN_ge x
  have k2 := probesN_le x
  obtain ⟨R, hR⟩ : ∃ R, bloomT L x = R := ⟨_, rfl⟩
  rw [hR]
  unfold bloomT at hR
  rw [← hL.len, hz, hk] at hR
  rw [hz] at CS z1 z2
  rw [hk] at k1 k2 CP
  have HR := Lib.hid hR
  clear hz hk hL hok hR hT
  refine (callsIn_wide (n := 5)).1 ?_
  refine callsIn_of_wp_marks Tryz.func30 rfl trivial ?_ rfl
  simp only [Tryz.ntmps30, List.size_toArray, List.length_cons, List.length_nil, Nat.reduceAdd, Nat.reduceSub, Array.replicate_succ, Array.replicate_zero, List.push_toArray, List.append_toArray, List.nil_append, List.cons_append]
  gi_wp2_with (first
    | (refine ⟨trivial, ?_⟩; gi_at_call 116; refine (callsIn_wide.2 (CP _).out).mono ?_; rintro e w1 ⟨rfl, hb0⟩)
    | (refine ⟨trivial, ?_⟩; gi_at_call 117; refine (callsIn_wide.2 (CS _).out).mono ?_; rintro e w2 ⟨rfl, hb1⟩)
    | (gi_at_make; refine wpListIn_make_full _ rfl (.tmp 15) (.tmp 15) 68 rfl w.heap.size 5 i0 (.int .u8 0) 1 Tryz.underlying68 hi0 hz0 hz1 .i64 .i64 _ _ z rfl rfl rfl rfl (by rw [hz2]; omega) (by unfold maxLen; omega) (Nat.le_trans hb0.size hb1.size) ?_; intro w3 hown hgr))
  have hb2 : Below w.heap.size w w3 := (hb0.trans (hb1.mono hb0.size)).grown hgr (Nat.le_trans hb0.size hb1.size) (by simp)
  rw [show (Value.int IntKind.u8 0).cells = #[Value.int .u8 0] from rfl, Nat.mul_one, madeU] at hown
  have hlt := World.ownsRow.lt hown w2.heap.size rfl
  have hbs := hb2.size
  have hB : BldAt w (w3.alloc (.cells #[.slice (some ⟨w2.heap.size, 0, none⟩) z z] 68)) w2.heap.size w3.heap.size z (List.replicate z 0) [] :=
    ⟨World.ownsRow.alloc hown _, Blk.new _ _ _, hb2.alloc hb2.size _, List.nodup_nil, fun D h => by cases h⟩
  generalize w3.alloc (.cells #[.slice (some ⟨w2.heap.size, 0, none⟩) z z] 68) = w5 at *
  generalize w2.heap.size = g at *
  generalize w3.heap.size = b at *
  have HB0 := Lib.hid hB
  obtain ⟨hg1, hgb⟩ := hlt
  clear hown hgr hb2 hb0 hb1 hB CS CP
  refine wpIn_loop (fun a' W => ∃ (i : Nat) (ds : List Nat) (u8 u19 u20 u21 u22 u23 u24 u25 u26 u27 u39 : Value), i ≤ n ∧ u19 = .int .i64 (i : Int) ∧
      a' = { tmps := #[.slice A n c, .float .f64 x, undef, undef, .string ⟨#[]⟩, .int .i64 (k : Int), .pointer (some ⟨b, 0, none⟩), undef, u8, undef, .float .f64 x, .int .i64 (k : Int), .slice A n c, .int .i64 (n : Int), .float .f64 x, .int .i64 (z : Int), .slice (some ⟨g, 0, none⟩) z z, .slice A n c, .int .i64 (n : Int),
        u19, u20, u21, u22, u23, u24, u25, u26, u27, undef, undef, undef, undef, undef, undef, undef, undef, undef, undef, undef, u39, undef, undef, undef, undef, undef, undef], defers := ds.map markD } ∧
      Hid (BldAt w W g b z (fillL (List.replicate z 0) z k ((L.map fun s => crc s.data.toList).take i)) ds)) (fun a' _ => n - (intOf (a'.tmps.getD 19 undef)).toNat) ?start ?round
  case start => exact ⟨0, [], _, _, _, _, _, _, _, _, _, _, _, by omega, rfl, rfl, Lib.hid (by rw [List.take_zero]; exact HB0.out)⟩
  case round =>
    rintro a' W ⟨i, ds, u8, u19, u20, u21, u22, u23, u24, u25, u26, u27, u39, hi, rfl, rfl, HB⟩
    clear HB0 w5
    by_cases hin : i < n
    · as_aux_lemma =>
      have hiL : i < L.length := by rw [← Hlen.out]; exact hin
      obtain ⟨s, hs⟩ : ∃ s, L[i]? = some s := ⟨_, List.getElem?_eq_getElem hiL⟩
      obtain ⟨g0, off, hA, hg0, y0⟩ := (HL.out.below HB.out.below).at_ i s hs
      subst hA
      have hso := Hok.out s (List.mem_of_getElem? hs)
      have CPL := fun W => Lib.hid (bplaces_any s z k W)
      have yb := HB.out.box.cell 0
      have i1 : (i : Int) < (n : Int) := by omega
      have i2 : (0 : Int) ≤ (i : Int) := by omega
      gi_wp2_with (refine ⟨trivial, ?_⟩; gi_at_call 118; refine (callsIn_wide.2 (CPL _).out).mono ?_; rintro e w6 ⟨rfl, rfl⟩)
      have D2 : Blk (((W.alloc (.cells #[.string s] 9)).alloc (.cells #[.int .i64 (z : Int)] 3)).alloc (.cells #[.int .i64 (k : Int)] 3)) W.heap.size 9 #[.string s] := ((Blk.new _ _ _).alloc _).alloc _
      have D3 : Blk (((W.alloc (.cells #[.string s] 9)).alloc (.cells #[.int .i64 (z : Int)] 3)).alloc (.cells #[.int .i64 (k : Int)] 3)) (W.heap.size + 1) 3 #[.int .i64 (z : Int)] := (Blk.new' (by simp) _ _).alloc _
      have D4 : Blk (((W.alloc (.cells #[.string s] 9)).alloc (.cells #[.int .i64 (z : Int)] 3)).alloc (.cells #[.int .i64 (k : Int)] 3)) (W.heap.size + 2) 3 #[.int .i64 (k : Int)] := Blk.new' (by simp) _ _
      have hB5 := ((HB.out.alloc (.cells #[.string s] 9)).alloc (.cells #[.int .i64 (z : Int)] 3)).alloc (.cells #[.int .i64 (k : Int)] 3)
      have hs5 : (((W.alloc (.cells #[.string s] 9)).alloc (.cells #[.int .i64 (z : Int)] 3)).alloc (.cells #[.int .i64 (k : Int)] 3)).heap.size = W.heap.size + 3 := by simp
      generalize ((W.alloc (.cells #[.string s] 9)).alloc (.cells #[.int .i64 (z : Int)] 3)).alloc (.cells #[.int .i64 (k : Int)] 3) = w5 at *
      have hlt := HB.out.lt
      have hM : fillL (List.replicate z 0) z k ((L.map fun s => crc s.data.toList).take (i + 1)) = (placesH (crc s.data.toList) z k).foldl markL (fillL (List.replicate z 0) z k ((L.map fun s => crc s.data.toList).take i)) := by
        rw [← fill_snoc, List.take_add_one, List.getElem?_map, hs]
        rfl
      have z0 : 0 < z := by omega
      have hh32 : crc s.data.toList < 4294967296 := by unfold crc; omega
      have hval := eltsP_val z z0 (crc s.data.toList) (turnH (crc s.data.toList)) hh32 k
      have hMl : (fillL (List.replicate z 0) z k ((L.map fun s => crc s.data.toList).take i)).length = z := by rw [fillL_length, List.length_replicate]
      have hMb : ∀ x ∈ fillL (List.replicate z 0) z k ((L.map fun s => crc s.data.toList).take i), x < 256 := fillL_byte _ _ _ _ (fun x hx => by rw [List.mem_replicate] at hx; omega)
      have hS := places_stops (m := 4) s hso z k z0 (by omega) (by omega) (by decide) w w5 HT.out hB5.below W.heap.size (W.heap.size + 2) (W.heap.size + 1) (by omega) (by omega) (by omega) (D2.cell 0) (D4.cell 0) (D3.cell 0)
      unfold placesH at hM
      rw [← hval] at hM
      generalize fillL (List.replicate z 0) z k ((L.map fun s => crc s.data.toList).take i) = M0 at *
      have Hsn := Lib.hid hM
      have HMl := Lib.hid hMl
      have HMb := Lib.hid hMb
      have Hlt := Lib.hid hlt
      have HB5 := Lib.hid hB5
      have hpx : w5.heap.size = W.heap.size + 3 := hs5
      have hb2 := D3
      clear hM hMl hMb hlt D2 D4 hB5 hs5 hval hh32 hs hso y0 yb CPL HB D3 hpx
      have Hs5 : Hid (g < w5.heap.size ∧ b < w5.heap.size ∧ ∀ D ∈ ds, D < w5.heap.size) := Lib.hid HB5.out.lt
      have Hne : Hid (g < W.heap.size ∧ b < W.heap.size) := Lib.hid ⟨Hlt.out.1, Hlt.out.2.1⟩
      refine wpIn_rangeFunc_ownF (α := EltB z) rfl (by decide) (gf := 168) (lb := #[.pointer (some ⟨W.heap.size, 0, none⟩), .pointer (some ⟨W.heap.size + 2, 0, none⟩), .pointer (some ⟨W.heap.size + 1, 0, none⟩)]) rfl trivial (enters_of Tryz.func168 (by kernel_rfl) rfl)
        hS kpC_t (fun W l o o' _ h ho _ => kpC_b W l o o' h ho) (Below.refl _ _) (fun _ => rfl)
        (fun pre W' => BldAt w W' g b z ((pre.map Subtype.val).foldl markL M0) ds)
        (fun _ _ _ => False)
        (fun pre A C row hs hg hr => hs.grown hg (fun r e => by
          have h1 := (hr r e).1
          have h2 := Hs5.out
          have h3 := HB5.out.below.size
          exact ⟨by omega, by omega, by omega, fun h4 => by have := h2.2.2 r h4; omega⟩))
        (fun c pre A C row hs hg hr => hs)
        HB5.out
        (fun y => { tmps := #[.slice (some ⟨g0, off, none⟩) n c, .float .f64 x, undef, undef, .string ⟨#[]⟩, .int .i64 (k : Int), .pointer (some ⟨b, 0, none⟩), undef, .string s, .int .i64 (y.1 : Int), .float .f64 x, .int .i64 (k : Int), .slice (some ⟨g0, off, none⟩) n c, .int .i64 (n : Int), .float .f64 x, .int .i64 (z : Int), .slice (some ⟨g, 0, none⟩) z z, .slice (some ⟨g0, off, none⟩) n c, .int .i64 (n : Int),
          .int .i64 (i : Int), .bool true, .pointer (some ⟨g0, off + i, none⟩), .string s, .string s, .slice (some ⟨g, 0, none⟩) z z, .int .i64 (z : Int), .int .i64 (k : Int),
          .func (.func 168) #[] #[.pointer (some ⟨W.heap.size, 0, none⟩), .pointer (some ⟨W.heap.size + 2, 0, none⟩), .pointer (some ⟨W.heap.size + 1, 0, none⟩)], .int .i64 (y.1 : Int), undef, undef, undef, undef, undef, undef, undef, undef, undef, undef, u39, undef, undef, undef, undef, undef, undef], defers := [] }) ?assign ?body ?done ?stop
      case assign =>
        intro l y W' K hK
        have hsem := @Oper.semAt_some
        gi_wp2
        exact hK
      case body =>
        rintro l pre ⟨p, hp⟩ W' hI hlt
        have hmx : Tryz.prog.follows .mixedOrders = true := by kernel_rfl
        have hsem := @Oper.semAt_some
        have yb := hI.box.cell 0
        obtain ⟨q, hq⟩ : ∃ q, p / 8 = q := ⟨_, rfl⟩
        obtain ⟨j, hj⟩ : ∃ j, p % 8 = j := ⟨_, rfl⟩
        have z3 : (p : Int) / 8 = (q : Int) := by omega
        have z4 : (p : Int) % 8 = (j : Int) := by omega
        have z5 : (q : Int) < (z : Int) := by omega
        have z6 : (0 : Int) ≤ (q : Int) := by omega
        have z7 : (p : Int).tmod 8 = (j : Int) := by rw [Int.tmod_eq_emod_of_nonneg (by omega)]; exact z4
        have z8 : (0 : Int) ≤ (j : Int) := by omega
        have z9 : ¬ (j : Int) < 0 := by omega
        have wq : IntKind.i64.wrap (q : Int) = (q : Int) := by rw [IntKind.wrap_i64]; omega
        have wj : IntKind.i64.wrap (j : Int) = (j : Int) := by rw [IntKind.wrap_i64]; omega
        have hsn : ((pre ++ [(⟨p, hp⟩ : EltB z)]).map Subtype.val).foldl markL M0 = markL ((pre.map Subtype.val).foldl markL M0) p := by
          rw [List.map_append, List.foldl_append]
          rfl
        have hlM : ((pre.map Subtype.val).foldl markL M0).length = z := by rw [marks_length]; exact HMl.out
        have hbM := marks_byte (pre.map Subtype.val) M0 HMb.out
        generalize (pre.map Subtype.val).foldl markL M0 = M at *
        have hqM : q < M.length := by rw [hlM]; omega
        have hby := getD_lt 256 M q (by decide) hbM
        obtain ⟨y, hy⟩ : ∃ y, M.getD q 0 = y := ⟨_, rfl⟩
        rw [hy] at hby
        have hMq : (M.map cU)[q]? = some (cU y) := by
          rw [List.getElem?_map, List.getElem?_eq_getElem hqM]
          rw [List.getD_eq_getElem?_getD, List.getElem?_eq_getElem hqM] at hy
          rw [← hy]; rfl
        have y1 := World.ownsRow.cellAt hI.fil q (by omega)
        rw [hMq] at y1
        have y2 := World.ownsRow.frozenAt hI.fil q
        have hor := bit_or j (by omega) y hby
        have hmk2 : M.set q (y ||| 2 ^ j) = markL M p := by unfold markL; rw [hq, hj, hy]
        have Hsn2 := Lib.hid (hsn.trans hmk2.symm)
        unfold cU at y1
        have HI := Lib.hid hI
        clear hsn hlM hbM hqM hy hMq hmk2 hI hS
        dsimp only
        gi_wp2
        refine wpIn_round_still_tail 10 hmx (by kernel_rfl) (fun h => ?_) (by kernel_rfl) ?_
        · obtain ⟨a9, w9, h9⟩ := h
          exact h9
        simp only [List.take_succ_cons, List.take_zero, List.drop_succ_cons, List.drop_zero]
        repeat still_step
        try refine wpStill_nil ?_
        go_wp2_with fail
        rw [hor]
        have hst := (World.ownsRow.stored HI.out.fil q (.int .u8 ((y ||| 2 ^ j : Nat) : Int))).1
        have hgl := (World.ownsRow.lt HI.out.fil g rfl).1
        refine ⟨(KeepsOthers.setCell W' _ _).trans (KeepsOthers.drew _), fun v hv => ?_, ⟨?_, ?_, ?_, HI.out.nd, fun D hD => ⟨(HI.out.marks D hD).1, ?_⟩⟩⟩
        · exact (World.cell?_setCell_far W' ⟨g, q, none⟩ ⟨W.heap.size + 1, 0, none⟩ _ (by show g ≠ W.heap.size + 1; have := Hne.out.1; omega)).trans hv
        · rw [Hsn2.out]
          show World.ownsRow _ _ _ _ _ _ ((M.set q (y ||| 2 ^ j)).map cU)
          rw [← set_map]
          exact hst
        · exact HI.out.box.far (p := ⟨g, q, none⟩) (by show b ≠ g; omega) _
        · exact (below_setCell HI.out.below (p := ⟨g, q, none⟩) hgl _).drew
        · exact (KeepsOthers.setCell W' _ _).same D _ (HI.out.marks D hD).2 rfl
      case done =>
        rintro D ys W' hD rfl hI hK
        rw [← Hsn.out] at hI
        have HI := Lib.hid hI
        have HK := Lib.hid hK
        clear hI hK
        gi_wp2
        refine ⟨⟨i + 1, D :: ds, _, .int .i64 ((i : Int) + 1), _, _, _, _, _, _, _, _, _, by omega, rfl, rfl, Lib.hid ⟨HI.out.fil, HI.out.box, HI.out.below, List.nodup_cons.2 ⟨fun h => by have := Hs5.out.2.2 D h; omega, HI.out.nd⟩, fun E hE => ?_⟩⟩, ?_⟩
        · rcases List.mem_cons.1 hE with rfl | hE
          · exact ⟨Nat.le_trans HB5.out.below.size hD, HK.out⟩
          · exact HI.out.marks E hE
        · show n - (intOf (.int .i64 ((i : Int) + 1))).toNat < n - (intOf (.int .i64 (i : Int))).toNat
          simp [intOf]
          omega
      case stop =>
        rintro D c pre W' _ _ h _
        exact h.elim
    · as_aux_lemma =>
      obtain rfl : i = n := by omega
      have hall : (L.map fun s => crc s.data.toList).take i = L.map fun s => crc s.data.toList := List.take_of_length_le (by rw [List.length_map]; exact Nat.le_of_eq Hlen.out.symm)
      have hF := HB.out.fil
      rw [hall] at hF
      have hMl : (fillL (List.replicate z 0) z k (L.map fun s => crc s.data.toList)).length = z := by rw [fillL_length, List.length_replicate]
      have hMb : ∀ x ∈ fillL (List.replicate z 0) z k (L.map fun s => crc s.data.toList), x < 256 := fillL_byte _ _ _ _ (fun x hx => by rw [List.mem_replicate] at hx; omega)
      have hRR := HR.out
      unfold filterT filterL at hRR
      have Hm : Hid ((∀ D ∈ ds, w.heap.size ≤ D ∧ W.heap[D]? = some (.deferred (some []))) ∧ ds.Nodup ∧ Below w.heap.size w W) := Lib.hid ⟨HB.out.marks, HB.out.nd, HB.out.below⟩
      have Hng := Lib.hid HB.out.ne
      have yb := HB.out.box.cell 0
      generalize fillL (List.replicate z 0) z k (L.map fun s => crc s.data.toList) = M at *
      have hby : Byt W w.heap.size 5 (.slice (some ⟨g, 0, none⟩) z z) (M.map UInt8.ofNat) := by
        unfold Byt
        rw [List.length_map, hMl, List.map_map]
        unfold FilAt at hF
        rwa [show M.map (b8 ∘ UInt8.ofNat) = M.map cU from List.map_congr_left fun x hx => by
          show Value.int .u8 ((UInt8.ofNat x).toNat : Int) = Value.int .u8 (x : Int)
          rw [UInt8.toNat_ofNat', Nat.mod_eq_of_lt (hMb x hx)]]
      have k256 : (k : Int) % 256 = (k : Int) := by omega
      have hlM : (M.map UInt8.ofNat).length = z := by rw [List.length_map, hMl]
      have Hby := Lib.hid (Byt.alloc hby (.cells #[.int .u8 (k : Int)] 5))
      have HlM := Lib.hid hlM
      have HRR := Lib.hid hRR
      clear hall hF hMl hMb hRR hby HB HR
      have hi1 : ¬ (i : Int) < (i : Int) := by omega
      gi_wp2_with (gi_at_builtin; refine wpListIn_append_byteM _ rfl (.tmp 40) (.tmp 43) 68 rfl Tryz.underlying68 u8info rfl Hby.out ⟨W.heap.size, 0, none⟩ 1 rfl (k : Int) (cell_new _ _ _) (UInt8.ofNat k) (by rw [UInt8.toNat_ofNat', Nat.mod_eq_of_lt (by omega)]) (by rw [HlM.out]; omega) (Nat.le_trans Hm.out.2.2.size (by simp)) ?_; intro v' w' hby2 hgr; have hcv := hby2.string (src := 68) (dst := 9) Tryz.underlying68 Tryz.underlying5 Tryz.underlying9; rw [show (M.map UInt8.ofNat ++ [UInt8.ofNat k]) = (M ++ [k]).map UInt8.ofNat from by rw [List.map_append]; rfl, HRR.out] at hcv)
      have hb8 : Below w.heap.size w (W.alloc (.cells #[.int .u8 (k : Int)] 5)) := below_alloc Hm.out.2.2 (Nat.le_refl _) _
      have hb9 : Below w.heap.size w w' := Byt.grown Hby.out hb8 (Nat.le_trans Hm.out.2.2.size (by simp)) hgr
      refine leaves_marks w.heap.size w (fun W2 hb => ⟨_, results_tmp rfl _ _ _, rfl, hb⟩) ds w' Hm.out.2.1 (fun D hD => ⟨(Hm.out.1 D hD).1, ?_⟩) hb9
      have h1 := (Hm.out.1 D hD).2
      have h2 : (W.alloc (.cells #[.int .u8 (k : Int)] 5)).heap[D]? = some (.deferred (some [])) := ((World.grownBy_alloc W _ none).block D (Array.getElem?_eq_some_iff.1 h1).1 (fun e => by cases e)).trans h1
      exact (hgr.block D (Array.getElem?_eq_some_iff.1 h2).1 (fun e => Hng.out D hD (by cases e; rfl))).trans h2
end Go.Proofs.YtcbgflidlpmhcaaGreatDoor

namespace Go.Proofs.YtcbgflidlpmhcaaGreatDoor
open Go.RowKit Ieee

theorem filterT_size (hs : List Nat) (n k : Nat) : (filterT hs n k).size = n + 1 := by
  show ((filterL hs n k ++ [k]).map UInt8.ofNat).toArray.size = n + 1
  simp [filterL_length]
theorem hasB_snoc (L : List Nat) (k p : Nat) (h : p / 8 < L.length) : hasB (L ++ [k]) p = hasB L p := by
  unfold hasB
  rw [List.getD_eq_getElem?_getD, List.getD_eq_getElem?_getD, List.getElem?_append_left h]
/-- What May tells of a filter that was built. -/
theorem may_filter (hs : List Nat) (z k h : Nat) (hz : 1 ≤ z) (hk : 1 ≤ k) (hk2 : k ≤ 30) : mayT (filterT hs z k) h = mayL (filterL hs z k) h z k := by
  have hsz := filterT_size hs z k
  have hd : (filterT hs z k).data.toList = (filterL hs z k ++ [k]).map UInt8.ofNat := by unfold filterT; simp
  have hn : ((filterL hs z k ++ [k]).map UInt8.ofNat).map UInt8.toNat = filterL hs z k ++ [k] := by
    rw [List.map_map]
    have hall : ∀ x ∈ filterL hs z k ++ [k], (UInt8.toNat ∘ UInt8.ofNat) x = x := fun x hx => by
      have hx2 : x < 256 := by
        rcases List.mem_append.1 hx with h1 | h1
        · exact filterL_byte hs z k x h1
        · rw [List.mem_singleton] at h1; omega
      show (UInt8.ofNat x).toNat = x
      rw [UInt8.toNat_ofNat', Nat.mod_eq_of_lt hx2]
    rw [List.map_congr_left hall, List.map_id']
  have hlast : (((filterL hs z k ++ [k]).map UInt8.ofNat).getD z 0).toNat = k := by
    have hl := filterL_length hs z k
    rw [List.getD_eq_getElem?_getD, List.getElem?_map, List.getElem?_append_right (by omega), hl, Nat.sub_self]
    show (UInt8.ofNat k).toNat = k
    rw [UInt8.toNat_ofNat', Nat.mod_eq_of_lt (by omega)]
  unfold mayT
  rw [hsz, if_neg (by omega), show z + 1 - 1 = z from by omega, hd, hlast, if_neg (by omega), hn]
  unfold mayL
  rw [Bool.eq_iff_iff, List.all_eq_true, List.all_eq_true]
  have hh : ∀ p ∈ placesH h z k, hasB (filterL hs z k ++ [k]) p = hasB (filterL hs z k) p := fun p hp => by
    have := placesP_lt _ _ (by omega) _ _ p hp
    exact hasB_snoc _ _ _ (by rw [filterL_length]; omega)
  constructor
  · intro h1 p hp; rw [← hh p hp]; exact h1 p hp
  · intro h1 p hp; rw [hh p hp]; exact h1 p hp
/-- Of each key that was built in. -/
theorem may_built (L : List ByteArray) (x : Nat) (s : ByteArray) (hs : s ∈ L) : mayT (bloomT L x) (crc s.data.toList) = true := by
  have z1 := sizeN_ge (L.length : Int) x
  unfold bloomT
  rw [may_filter _ _ _ _ (by omega) (probesN_ge x) (probesN_le x)]
  exact may_member _ _ _ _ (by omega) (List.mem_map.2 ⟨s, hs, rfl⟩)
end Go.Proofs.YtcbgflidlpmhcaaGreatDoor

namespace Go.Proofs.YtcbgflidlpmhcaaGreatDoor
open Go.RowKit

/-! ### One byte changed changes the sum -/
theorem half_top : ∀ i < 16, halfN i / 268435456 = i := by decide
theorem nib_top (b : Nat) (hb : b < 4294967296) : nib b / 268435456 = b % 16 := by
  have h1 := half_top (b % 16) (by omega)
  have e : ∀ x : Nat, x / 268435456 = x >>> 28 := fun x => (Nat.shiftRight_eq_div_pow x 28).symm
  unfold nib
  rw [e] at h1 ⊢
  rw [Nat.shiftRight_xor_distrib, h1, Nat.shiftRight_eq_div_pow, show b / 16 / 2 ^ 28 = 0 from by omega, Nat.zero_xor]
theorem xor_cancel (a b c : Nat) (h : a ^^^ c = b ^^^ c) : a = b := by
  have := congrArg (· ^^^ c) h
  simp only [Nat.xor_assoc, Nat.xor_self, Nat.xor_zero] at this
  exact this
theorem nib_inj (b c : Nat) (hb : b < 4294967296) (hc : c < 4294967296) (h : nib b = nib c) : b = c := by
  have h1 := nib_top b hb
  have h2 := nib_top c hc
  rw [h, h2] at h1
  unfold nib at h
  rw [h1] at h
  have h3 := xor_cancel _ _ _ h
  omega
theorem xor_byte_lt (a : Nat) (c : UInt8) (ha : a < 4294967296) : a ^^^ c.toNat < 4294967296 := Nat.xor_lt_two_pow (n := 32) ha (by have := UInt8.toNat_lt c; omega)
theorem step_inj (a b : Nat) (c : UInt8) (ha : a < 4294967296) (hb : b < 4294967296) (h : sumStep a c = sumStep b c) : a = b := by
  have h1 := xor_byte_lt a c ha
  have h2 := xor_byte_lt b c hb
  exact xor_cancel _ _ _ (nib_inj _ _ h1 h2 (nib_inj _ _ (nib_lt _ h1) (nib_lt _ h2) h))
theorem step_inj_byte (a : Nat) (c d : UInt8) (ha : a < 4294967296) (h : sumStep a c = sumStep a d) : c = d := by
  have h1 := xor_byte_lt a c ha
  have h2 := xor_byte_lt a d ha
  have h3 := nib_inj _ _ h1 h2 (nib_inj _ _ (nib_lt _ h1) (nib_lt _ h2) h)
  rw [Nat.xor_comm a, Nat.xor_comm a] at h3
  exact UInt8.toNat_inj.1 (xor_cancel _ _ _ h3)
theorem foldl_inj (l : List UInt8) : ∀ a b, a < 4294967296 → b < 4294967296 → l.foldl sumStep a = l.foldl sumStep b → a = b := by
  induction l with
  | nil => intro a b _ _ h; exact h
  | cons c r ih => intro a b ha hb h; exact step_inj a b c ha hb (ih _ _ (sumStep_lt a c ha) (sumStep_lt b c hb) h)

theorem crc_changed (l : List UInt8) (k : Nat) (hk : k < l.length) (d : UInt8) (hd : l[k] ≠ d) : crc l ≠ crc (l.set k d) := by
  intro h
  have h1 := sumL_lt l
  have h2 := sumL_lt (l.set k d)
  have h3 : sumL l = sumL (l.set k d) := by unfold crc at h; omega
  have e1 : l = l.take k ++ l[k] :: l.drop (k + 1) := by rw [List.getElem_cons_drop, List.take_append_drop]
  have e2 : l.set k d = l.take k ++ d :: l.drop (k + 1) := List.set_eq_take_append_cons_drop.trans (by rw [if_pos hk])
  rw [e2] at h3
  conv at h3 => lhs; rw [e1]
  unfold sumL at h3
  rw [List.foldl_append, List.foldl_append, List.foldl_cons, List.foldl_cons] at h3
  have hp := foldl_sum_lt (l.take k) 4294967295 (by decide)
  have h4 := foldl_inj _ _ _ (sumStep_lt _ _ hp) (sumStep_lt _ _ hp) h3
  exact hd (step_inj_byte _ _ _ hp h4)

theorem ofInt_u8 (a : Nat) (ha : a < 256) : (BitVec.ofInt 8 (a : Int)).toNat = a := by
  rw [BitVec.ofInt_natCast, BitVec.toNat_ofNat]; exact Nat.mod_eq_of_lt (by omega)
theorem u8_xor (a : Nat) (ha : a < 256) (b : Nat) (hb : b < 256) : bits .xor .u8 (a : Int) (b : Int) = ((a ^^^ b : Nat) : Int) := by
  have hx : a ^^^ b < 2 ^ 8 := Nat.xor_lt_two_pow (by omega) (by omega)
  show IntKind.u8.wrap ((BitVec.ofInt 8 (a : Int) ^^^ BitVec.ofInt 8 (b : Int)).toNat : Int) = _
  rw [BitVec.toNat_xor, ofInt_u8 a ha, ofInt_u8 b hb, IntKind.wrap_u8]
  omega
end Go.Proofs.YtcbgflidlpmhcaaGreatDoor

namespace Go.Proofs.YtcbgflidlpmhcaaGreatDoor
open Go.RowKit

theorem glob_halves : Tryz.prog.globalNamed "bedrock/raw.halves" = some 0 := by kernel_rfl

/-- The tables that the laws' first call reads. -/
structure Laid (w : World) : Prop where
  halves : Lib.TabIs Tryz.prog w "bedrock/raw.halves" .u32 halvesL
  pow10 : Lib.TabIs Tryz.prog w "internal/strconv.uint64pow10" .u64 Lib.pow10Tab

theorem crc_9 : crc [49, 50, 51, 52, 53, 54, 55, 56, 57] = 3808858755 := by decide +kernel
theorem itoa_50 : Lib.itoa (-50) = [45, 53, 48] := by decide +kernel
theorem gv_300 : gv [172, 2, 120] 0 0 = .ok 300 2 := by rfl
theorem be_258 : be 258 2 = [1, 2] := by decide +kernel

end Go.Proofs.YtcbgflidlpmhcaaGreatDoor

namespace Go.Proofs.YtcbgflidlpmhcaaGreatDoor
open Go.RowKit

theorem gv_begin (l : List UInt8) : ∀ i v, (∀ c ∈ l, 128 ≤ c.toNat) → i + l.length < 9 → gv l i v = .err 3 := by
  induction l with
  | nil => intro i v _ h; exact gv_short _ _ _ (by simpa using h) rfl
  | cons c r ih =>
    intro i v hc hl
    rw [List.length_cons] at hl
    have hc' := hc c (by simp)
    rw [gv, if_neg (by omega), if_pos hc']
    exact ih _ _ (fun d hd => hc d (by simp [hd])) (by omega)

theorem pv_high (v : Nat) : ∀ i < (pv v).length, ∀ c ∈ (pv v).take i, 128 ≤ c.toNat := by
  induction v using Nat.strongRecOn with
  | _ v ih =>
    intro i hi c hc
    by_cases h : v < 128
    · rw [pv_last v h] at hi hc
      obtain rfl : i = 0 := by simpa using hi
      simp at hc
    · rw [pv_more v (by omega)] at hi hc
      match i, hc with
      | 0, hc => simp at hc
      | i + 1, hc =>
        rw [List.take_succ_cons, List.mem_cons] at hc
        rcases hc with rfl | hc
        · rw [UInt8.toNat_ofNat']; omega
        · exact ih (v / 128) (by omega) i (by simpa using hi) c hc

theorem pv_len (k v : Nat) (h : v < 2 ^ (7 * k)) (hk : 1 ≤ k) : (pv v).length ≤ k := by
  induction k generalizing v with
  | zero => omega
  | succ k ih =>
    by_cases hv : v < 128
    · rw [pv_last v hv]; simp
    · rw [pv_more v (by omega), List.length_cons]
      rcases Nat.eq_zero_or_pos k with h0 | h0
      · subst h0; simp at h; omega
      · have h2 : 2 ^ (7 * (k + 1)) = 128 * 2 ^ (7 * k) := by rw [Nat.mul_add, Nat.pow_add]; omega
        have := ih (v / 128) (by rw [Nat.div_lt_iff_lt_mul (by decide)]; omega) h0
        omega
theorem pv_pos (v : Nat) : 1 ≤ (pv v).length := by
  by_cases hv : v < 128
  · rw [pv_last v hv]; simp
  · rw [pv_more v (by omega)]; simp
theorem pv_len9 (v : Nat) (h : v < 9223372036854775808) : (pv v).length ≤ 9 := pv_len 9 v (by omega) (by decide)

theorem gv_pv (r : List UInt8) (u : Nat) : ∀ i a, i + (pv u).length ≤ 9 → (0 < i → 0 < u) → gv (pv u ++ r) i a = .ok (a + u * 2 ^ (7 * i)) (i + (pv u).length) := by
  induction u using Nat.strongRecOn with
  | _ u ih =>
    intro i a hi h0
    by_cases h : u < 128
    · rw [pv_last u h] at hi ⊢
      rw [List.length_singleton] at hi ⊢
      have e : (UInt8.ofNat u).toNat = u := by rw [UInt8.toNat_ofNat']; omega
      show gv (UInt8.ofNat u :: r) i a = _
      rw [gv, e, if_neg (by omega), if_neg (by omega), if_neg (by omega), Nat.mod_eq_of_lt h]
    · have hp := pv_more u (by omega)
      rw [hp] at hi ⊢
      rw [List.length_cons] at hi ⊢
      have hq := pv_pos (u / 128)
      have e : (UInt8.ofNat (u % 128 + 128)).toNat = u % 128 + 128 := by rw [UInt8.toNat_ofNat']; omega
      rw [List.cons_append, gv, e, if_neg (by omega), if_pos (by omega), ih (u / 128) (by omega) (i + 1) _ (by omega) (fun _ => by omega)]
      have e2 : (u % 128 + 128) % 128 = u % 128 := by omega
      have e3 : 2 ^ (7 * (i + 1)) = 128 * 2 ^ (7 * i) := by rw [Nat.mul_add, Nat.pow_add]; omega
      have e4 : u % 128 * 2 ^ (7 * i) + u / 128 * (128 * 2 ^ (7 * i)) = u * 2 ^ (7 * i) := by
        rw [← Nat.mul_assoc, ← Nat.add_mul]
        congr 1
        omega
      rw [e2, e3]
      congr 1
      · omega
      · omega



set_option maxRecDepth 100000 in
set_option maxHeartbeats 1000000 in
theorem putvar_neg (v : Int) (w : World) (hv : v < 0) :
    Calls Tryz.prog 163 #[.int .i64 v] w fun e w' => e = .returned (.string ByteArray.empty) ∧ w = w' := by
  go_enter Tryz.func163, Tryz.ntmps163
  go_wp2
  go_ret
  exact ⟨rfl, rfl⟩

end Go.Proofs.YtcbgflidlpmhcaaGreatDoor

namespace Go.Proofs.YtcbgflidlpmhcaaGreatDoor
open Go.RowKit

theorem cmp9_cons (a b : UInt8) (r t : List UInt8) : Lib.compareBytes (a :: r) (b :: t) = if a.toNat < b.toNat then -1 else if b.toNat < a.toNat then 1 else Lib.compareBytes r t := by
  rw [Lib.compareBytes]
  simp only [UInt8.lt_iff_toNat_lt]
/-- The order of two texts, by their bytes. -/
def cmpT (a b : ByteArray) : Int := Lib.compareBytes a.data.toList b.data.toList

set_option maxRecDepth 100000 in
set_option maxHeartbeats 2000000 in
theorem rcompare9 (a b : ByteArray) (w : World) (ha : a.size ≤ 9223372036854775807) (hb : b.size ≤ 9223372036854775807) :
    Calls Tryz.prog 48 #[.string a, .string b] w fun e w' => e = .returned (.int .i64 (cmpT a b)) ∧ ∃ j, w' = w.drewN j := by
  have hla : a.data.toList.length = a.size := rfl
  have hlb : b.data.toList.length = b.size := rfl
  obtain ⟨g, hg⟩ : ∃ g, g = Lib.compareBytes a.data.toList b.data.toList := ⟨_, rfl⟩
  unfold cmpT
  rw [← hg]
  have Hg := Lib.hid hg
  have Hla := Lib.hid hla
  have Hlb := Lib.hid hlb
  clear hg hla hlb
  go_enter Tryz.func48, Tryz.ntmps48
  go_wp2_with fail
  go_loopw [5] (fun i wr => ∃ k j : Nat, k ≤ a.size ∧ k ≤ b.size ∧ i = .int .i64 (k : Int) ∧ Hid (g = Lib.compareBytes (a.data.toList.drop k) (b.data.toList.drop k)) ∧ Hid (wr = w.drewN j)) (fun i _ => a.size - (intOf i).toNat)
  case atStart => exact ⟨0, 0, by omega, by omega, rfl, Hg, Lib.hid rfl⟩
  case round =>
    obtain ⟨k, j0, hka, hkb, rfl, Hk, HW⟩ := hrel
    by_cases hl : k < a.size
    · by_cases hm : k < b.size
      · have hda : a.data.toList.drop k = a[k] :: a.data.toList.drop (k + 1) := List.drop_eq_getElem_cons (by simpa using hl)
        have hdb : b.data.toList.drop k = b[k] :: b.data.toList.drop (k + 1) := List.drop_eq_getElem_cons (by simpa using hm)
        have hk := Hk.out
        rw [hda, hdb, cmp9_cons] at hk
        have hka' : (k : Int) < (a.size : Int) := by omega
        have hkb' : (k : Int) < (b.size : Int) := by omega
        have hk0 : (0 : Int) ≤ (k : Int) := by omega
        clear hda hdb
        by_cases h1 : a[k].toNat < b[k].toNat
        · rw [if_pos h1] at hk
          have Hk2 := Lib.hid hk
          have e1 : decide (a[k].toNat < b[k].toNat) = true := decide_eq_true (by omega)
          clear hk h1
          go_wp2_with fail
          go_quiet (fail)
          go_wp2_with fail
          go_ret
          exact ⟨by rw [Hk2.out]; rfl, _, by rw [HW.out]; simp only [World.drewN_drewN]; rfl⟩
        · rw [if_neg h1] at hk
          have e1 : decide (a[k].toNat < b[k].toNat) = false := decide_eq_false (by omega)
          by_cases h2 : b[k].toNat < a[k].toNat
          · rw [if_pos h2] at hk
            have Hk2 := Lib.hid hk
            have e2 : decide (b[k].toNat < a[k].toNat) = true := decide_eq_true (by omega)
            clear hk h1 h2
            go_wp2_with fail
            go_quiet (fail)
            go_wp2_with fail
            go_quiet (fail)
            go_wp2_with fail
            go_ret
            exact ⟨by rw [Hk2.out]; rfl, _, by rw [HW.out]; simp only [World.drewN_drewN]; rfl⟩
          · rw [if_neg h2] at hk
            have Hk2 := Lib.hid hk
            have e2 : decide (b[k].toNat < a[k].toNat) = false := decide_eq_false (by omega)
            clear hk h1 h2
            go_wp2_with fail
            go_quiet (fail)
            go_wp2_with fail
            go_quiet (fail)
            go_wp2_with fail
            go_roundw
            case rel => exact ⟨k + 1, _, by omega, by omega, by go_num, Hk2, Lib.hid (by rw [HW.out]; simp only [World.drewN_drewN]; rfl)⟩
            case measure => simp [intOf]; omega
      · obtain rfl : k = b.size := by omega
        have hgg : g = 1 := by
          rw [Hk.out, List.drop_of_length_le (Nat.le_of_eq Hlb.out), show a.data.toList.drop b.size = a[b.size] :: a.data.toList.drop (b.size + 1) from List.drop_eq_getElem_cons (by simpa using hl)]
          rfl
        have Hgg := Lib.hid hgg
        clear hgg
        go_wp2_with fail
        go_ret
        exact ⟨by rw [Hgg.out]; rfl, j0, HW.out⟩
    · obtain rfl : k = a.size := by omega
      by_cases hm : a.size < b.size
      · have hgg : g = -1 := by
          rw [Hk.out, List.drop_of_length_le (Nat.le_of_eq Hla.out), show b.data.toList.drop a.size = b[a.size] :: b.data.toList.drop (a.size + 1) from List.drop_eq_getElem_cons (by simpa using hm)]
          rfl
        have Hgg := Lib.hid hgg
        clear hgg
        go_wp2_with fail
        go_ret
        exact ⟨by rw [Hgg.out]; rfl, j0, HW.out⟩
      · have heq : a.size = b.size := by omega
        have hgg : g = 0 := by
          rw [Hk.out, List.drop_of_length_le (Nat.le_of_eq Hla.out), List.drop_of_length_le (by rw [Hlb.out]; omega)]
          rfl
        have Hgg := Lib.hid hgg
        clear hgg
        have h3 : ¬ (b.size < a.size) := by omega
        go_wp2_with fail
        go_ret
        exact ⟨by rw [Hgg.out]; rfl, j0, HW.out⟩

theorem cmpT_range (a b : ByteArray) : -1 ≤ cmpT a b ∧ cmpT a b ≤ 1 := cmp_range _ _
theorem cmpT_swap (a b : ByteArray) : cmpT b a = -cmpT a b := cmp_swap _ _
theorem cmpT_eq (a b : ByteArray) : cmpT a b = 0 ↔ a = b := by
  unfold cmpT
  rw [cmp_eq]
  exact ⟨fun h => ByteArray.ext (Array.toList_inj.1 h), fun h => by rw [h]⟩
theorem cmpT_trans {a b c : ByteArray} (h : cmpT a b < 0) (h' : cmpT b c < 0) : cmpT a c < 0 := (cmp_trans _ _ _ (by unfold cmpT at h; omega) (by unfold cmpT at h'; omega)).2 h
theorem cmpT_le_lt {a b c : ByteArray} (h : cmpT a b ≤ 0) (h' : cmpT b c < 0) : cmpT a c < 0 := by
  by_cases e : cmpT a b = 0
  · rw [(cmpT_eq a b).1 e]; exact h'
  · exact cmpT_trans (by omega) h'
theorem cmpT_ge_gt {a b c : ByteArray} (h : 0 ≤ cmpT a c) (h' : cmpT a b < 0) : 0 < cmpT b c := by
  have h1 := cmpT_swap a c
  have h2 := cmpT_swap b c
  have h3 : cmpT c b < 0 := cmpT_le_lt (by omega) h'
  omega
end Go.Proofs.YtcbgflidlpmhcaaGreatDoor

namespace Go.Proofs.YtcbgflidlpmhcaaGreatDoor
open Go.RowKit

/-- A pair. -/
abbrev KV := ByteArray × ByteArray
abbrev bl (s : ByteArray) : List UInt8 := s.data.toList
theorem bl_len (s : ByteArray) : (bl s).length = s.size := rfl
theorem bl_mk (l : List UInt8) : bl ⟨l.toArray⟩ = l := rfl
theorem bl_inj {a b : ByteArray} (h : bl a = bl b) : a = b := by
  cases a; cases b
  have := Array.toList_inj.1 h
  simpa using this

/-- How many bytes two texts have in common at their beginnings. -/
def comL : List UInt8 → List UInt8 → Nat
  | a :: x, b :: y => if a = b then comL x y + 1 else 0
  | _, _ => 0
theorem comL_le : ∀ a b : List UInt8, comL a b ≤ a.length ∧ comL a b ≤ b.length
  | [], b => by cases b <;> simp [comL]
  | a :: x, [] => by simp [comL]
  | a :: x, b :: y => by
    have := comL_le x y
    rw [comL]
    split <;> simp <;> omega
theorem comL_take : ∀ a b : List UInt8, a.take (comL a b) = b.take (comL a b)
  | [], b => by cases b <;> simp [comL]
  | a :: x, [] => by simp [comL]
  | a :: x, b :: y => by
    rw [comL]
    split
    · rename_i h
      rw [List.take_succ_cons, List.take_succ_cons, comL_take x y, h]
    · simp
theorem comL_step (a b : List UInt8) (k : Nat) (ha : k < a.length) (hb : k < b.length) (h : a[k] = b[k]) : comL (a.drop k) (b.drop k) = comL (a.drop (k + 1)) (b.drop (k + 1)) + 1 := by
  rw [List.drop_eq_getElem_cons ha, List.drop_eq_getElem_cons hb, comL, if_pos h]
theorem comL_stop (a b : List UInt8) (k : Nat) (h : a.length ≤ k ∨ b.length ≤ k ∨ ∃ (ha : k < a.length) (hb : k < b.length), a[k] ≠ b[k]) : comL (a.drop k) (b.drop k) = 0 := by
  rcases h with h | h | ⟨ha, hb, h⟩
  · rw [List.drop_eq_nil_of_le h]; cases b.drop k <;> simp [comL]
  · rw [List.drop_eq_nil_of_le h]; cases a.drop k <;> simp [comL]
  · rw [List.drop_eq_getElem_cons ha, List.drop_eq_getElem_cons hb, comL, if_neg h]

/-- How many bytes the pair number i takes from the key ahead. -/
def comI (i : Nat) (prev k : List UInt8) : Nat := if i % 8 = 0 then 0 else comL k prev
theorem comI_le (i : Nat) (prev k : List UInt8) : comI i prev k ≤ k.length ∧ comI i prev k ≤ prev.length := by
  unfold comI
  split
  · exact ⟨Nat.zero_le _, Nat.zero_le _⟩
  · exact comL_le k prev
theorem comI_take (i : Nat) (prev k : List UInt8) : prev.take (comI i prev k) ++ k.drop (comI i prev k) = k := by
  unfold comI
  split
  · simp
  · rw [← comL_take k prev]; exact List.take_append_drop _ _
/-- The bytes of the pair number i. -/
def onePair (i : Nat) (prev k v : List UInt8) : List UInt8 :=
  pv (comI i prev k) ++ (pv (k.length - comI i prev k) ++ (pv v.length ++ (k.drop (comI i prev k) ++ v)))
/-- The bytes of pairs, from number i on. -/
def bodyL : Nat → List UInt8 → List KV → List UInt8
  | _, _, [] => []
  | i, prev, m :: r => onePair i prev (bl m.1) (bl m.2) ++ bodyL (i + 1) (bl m.1) r
/-- The last key. -/
def lastK (prev : List UInt8) : List KV → List UInt8
  | [] => prev
  | m :: r => lastK (bl m.1) r
theorem lastK_snoc (l : List KV) (m : KV) : ∀ prev, lastK prev (l ++ [m]) = bl m.1 := by
  induction l with
  | nil => intro prev; rfl
  | cons x r ih => intro prev; exact ih _
theorem bodyL_snoc (l : List KV) (m : KV) : ∀ i prev, bodyL i prev (l ++ [m]) = bodyL i prev l ++ onePair (i + l.length) (lastK prev l) (bl m.1) (bl m.2) := by
  induction l with
  | nil => intro i prev; simp [bodyL, lastK]
  | cons x r ih =>
    intro i prev
    rw [List.cons_append, bodyL, ih, bodyL, List.append_assoc, lastK, List.length_cons]
    rw [show i + 1 + r.length = i + (r.length + 1) from by omega]

/-- The pairs that bytes tell, from the last key on. -/
def readL : Nat → List UInt8 → List UInt8 → Option (List KV)
  | _, _, [] => some []
  | 0, _, _ :: _ => none
  | f + 1, last, c :: r =>
    match gv (c :: r) 0 0 with
    | .err _ => none
    | .ok x n1 => match gv ((c :: r).drop n1) 0 0 with
      | .err _ => none
      | .ok y n2 => match gv (((c :: r).drop n1).drop n2) 0 0 with
        | .err _ => none
        | .ok z n3 =>
          if last.length < x ∨ ((((c :: r).drop n1).drop n2).drop n3).length < y ∨ ((((c :: r).drop n1).drop n2).drop n3).length - y < z then none
          else (readL f (last.take x ++ ((((c :: r).drop n1).drop n2).drop n3).take y) (((((c :: r).drop n1).drop n2).drop n3).drop (y + z))).map
            fun q => (⟨(last.take x ++ ((((c :: r).drop n1).drop n2).drop n3).take y).toArray⟩, ⟨(((((c :: r).drop n1).drop n2).drop n3).drop y |>.take z).toArray⟩) :: q
theorem gv_pv0 (r : List UInt8) (u : Nat) (h : u < 9223372036854775808) : gv (pv u ++ r) 0 0 = .ok u (pv u).length := by
  have := gv_pv r u 0 0 (by have := pv_len9 u h; omega) (by omega)
  rw [this]
  congr 1 <;> omega
/-- Pairs whose sizes Go can hold. -/
def okP (l : List KV) : Prop := ∀ m ∈ l, m.1.size < 9223372036854775808 ∧ m.2.size < 9223372036854775808
/-- What pairs are as bytes is read as these pairs. -/
theorem readL_body : ∀ (l : List KV) (i f : Nat) (prev : List UInt8), okP l → l.length ≤ f → prev.length < 9223372036854775808 → readL f prev (bodyL i prev l) = some l := by
  intro l
  induction l with
  | nil => intro i f prev _ _ _; cases f <;> rfl
  | cons m l ih =>
    intro i f prev hok hf hp
    obtain ⟨f, rfl⟩ : ∃ g, f = g + 1 := ⟨f - 1, by simp at hf; omega⟩
    obtain ⟨h1, h2⟩ := hok m (List.mem_cons_self ..)
    obtain ⟨c1, c2⟩ := comI_le i prev (bl m.1)
    have ht := comI_take i prev (bl m.1)
    have hl1 : (bl m.1).length = m.1.size := rfl
    have hl2 : (bl m.2).length = m.2.size := rfl
    obtain ⟨n, hn⟩ : ∃ n, comI i prev (bl m.1) = n := ⟨_, rfl⟩
    obtain ⟨R, hR⟩ : ∃ R, bodyL (i + 1) (bl m.1) l = R := ⟨_, rfl⟩
    have hih := ih (i + 1) f (bl m.1) (fun x hx => hok x (List.mem_cons_of_mem _ hx)) (by simpa using hf) (by omega)
    rw [hR] at hih
    rw [bodyL, hR, onePair, hn]
    rw [hn] at c1 c2 ht
    have hpos := pv_pos n
    obtain ⟨B, hB⟩ : ∃ B, pv n ++ (pv ((bl m.1).length - n) ++ (pv (bl m.2).length ++ ((bl m.1).drop n ++ bl m.2))) ++ R = B := ⟨_, rfl⟩
    have g1 : gv B 0 0 = .ok n (pv n).length := by rw [← hB, List.append_assoc]; exact gv_pv0 _ n (by omega)
    have e1 : B.drop (pv n).length = pv ((bl m.1).length - n) ++ (pv (bl m.2).length ++ ((bl m.1).drop n ++ (bl m.2 ++ R))) := by
      rw [← hB, List.append_assoc, List.drop_append_of_le_length (Nat.le_refl _), List.drop_length]; simp
    have g2 : gv (B.drop (pv n).length) 0 0 = .ok ((bl m.1).length - n) (pv ((bl m.1).length - n)).length := by rw [e1]; exact gv_pv0 _ _ (by omega)
    have e2 : (B.drop (pv n).length).drop (pv ((bl m.1).length - n)).length = pv (bl m.2).length ++ ((bl m.1).drop n ++ (bl m.2 ++ R)) := by
      rw [e1, List.drop_append_of_le_length (Nat.le_refl _), List.drop_length]; simp
    have g3 : gv ((B.drop (pv n).length).drop (pv ((bl m.1).length - n)).length) 0 0 = .ok (bl m.2).length (pv (bl m.2).length).length := by rw [e2]; exact gv_pv0 _ _ (by omega)
    have e3 : ((B.drop (pv n).length).drop (pv ((bl m.1).length - n)).length).drop (pv (bl m.2).length).length = (bl m.1).drop n ++ (bl m.2 ++ R) := by
      rw [e2, List.drop_append_of_le_length (Nat.le_refl _), List.drop_length]; simp
    have hBne : B ≠ [] := by
      intro h
      have := congrArg List.length hB
      rw [h] at this
      simp only [List.length_append, List.length_nil] at this
      omega
    rw [hB]
    obtain ⟨c, r, rfl⟩ := List.exists_cons_of_ne_nil hBne
    rw [readL, g1]
    dsimp only
    rw [g2]
    dsimp only
    rw [g3]
    dsimp only
    rw [e3]
    have hd : ((bl m.1).drop n).length = (bl m.1).length - n := List.length_drop ..
    rw [if_neg (by simp; omega)]
    have t1 : ((bl m.1).drop n ++ (bl m.2 ++ R)).take ((bl m.1).length - n) = (bl m.1).drop n := by rw [← hd]; exact List.take_left
    have t2 : ((bl m.1).drop n ++ (bl m.2 ++ R)).drop ((bl m.1).length - n) = bl m.2 ++ R := by rw [← hd]; exact List.drop_left
    have t3 : ((bl m.1).drop n ++ (bl m.2 ++ R)).drop ((bl m.1).length - n + (bl m.2).length) = R := by
      rw [← List.drop_drop, t2]; exact List.drop_left
    rw [t1, t2, t3, ht, hih, List.take_left]
    rfl

/-- The bytes of a block. -/
def blkL (l : List KV) : List UInt8 := (bodyL 0 [] l ++ be l.length 4) ++ be (crc (bodyL 0 [] l ++ be l.length 4)) 4
theorem blkL_length (l : List KV) : (blkL l).length = (bodyL 0 [] l).length + 8 := by
  unfold blkL
  rw [List.length_append, List.length_append, be_length, be_length]
theorem blkL_body (l : List KV) : (blkL l).take ((blkL l).length - 8) = bodyL 0 [] l := by
  rw [blkL_length, Nat.add_sub_cancel]
  unfold blkL
  rw [List.append_assoc]
  exact List.take_left
/-- Do the keys rise? -/
def risesK : List KV → Bool
  | a :: b :: r => decide (cmpT a.1 b.1 < 0) && risesK (b :: r)
  | _ => true
/-- Is a key or a value too long? -/
def longK (l : List KV) : Bool := l.any fun m => decide (65536 < m.1.size) || decide (65536 < m.2.size)
/-- What Build answers. -/
def buildP (l : List KV) : ByteArray × Int :=
  if risesK l = false then (ByteArray.empty, 32) else if longK l = true then (ByteArray.empty, 2) else if 524288 < (blkL l).length then (ByteArray.empty, 2) else (⟨(blkL l).toArray⟩, 0)
theorem buildP_ok {l : List KV} {b : ByteArray} (h : buildP l = (b, 0)) : risesK l = true ∧ longK l = false ∧ (blkL l).length ≤ 524288 ∧ b = ⟨(blkL l).toArray⟩ := by
  unfold buildP at h
  split at h
  · simp at h
  · split at h
    · simp at h
    · split at h
      · simp at h
      · rename_i h1 h2 h3
        exact ⟨by simpa using h1, by simpa using h2, by omega, (congrArg Prod.fst h).symm⟩
theorem longK_ok {l : List KV} (h : longK l = false) : ∀ m ∈ l, m.1.size ≤ 65536 ∧ m.2.size ≤ 65536 := by
  intro m hm
  unfold longK at h
  rw [List.any_eq_false] at h
  have := h m hm
  simp at this
  exact this
/-- What Parse answers. -/
def parseP (b : ByteArray) : List KV × Int :=
  if b.size < 8 then ([], 31) else match readL b.size [] ((bl b).take (b.size - 8)) with
    | none => ([], 31)
    | some l => if buildP l = (b, 0) then (l, 0) else ([], 31)
theorem body_count : ∀ (l : List KV) (i : Nat) (prev : List UInt8), l.length ≤ (bodyL i prev l).length := by
  intro l
  induction l with
  | nil => intro i prev; exact Nat.zero_le _
  | cons m l ih =>
    intro i prev
    have h1 := ih (i + 1) (bl m.1)
    have h2 := pv_pos (comI i prev (bl m.1))
    rw [bodyL, onePair]
    simp only [List.length_append, List.length_cons]
    omega
theorem parse_build {l : List KV} {b : ByteArray} (h : buildP l = (b, 0)) : parseP b = (l, 0) := by
  obtain ⟨h1, h2, h3, h4⟩ := buildP_ok h
  have hb : bl b = blkL l := by rw [h4]
  have hs : b.size = (blkL l).length := by rw [← hb]; rfl
  have h8 := blkL_length l
  have hc := body_count l 0 []
  have hr : readL b.size [] ((bl b).take (b.size - 8)) = some l := by
    rw [hs, hb, blkL_body]
    refine readL_body l 0 _ [] (fun m hm => ?_) (by omega) (by decide)
    have := longK_ok h2 m hm
    omega
  unfold parseP
  rw [if_neg (by omega), hr]
  dsimp only
  rw [if_pos h]
theorem parse_ok {l : List KV} {b : ByteArray} {e : Int} (h : parseP b = (l, e)) : (e = 0 ∧ buildP l = (b, 0)) ∨ (e = 31 ∧ l = []) := by
  unfold parseP at h
  split at h
  · exact Or.inr ⟨(congrArg Prod.snd h).symm, (congrArg Prod.fst h).symm⟩
  · split at h
    · exact Or.inr ⟨(congrArg Prod.snd h).symm, (congrArg Prod.fst h).symm⟩
    · split at h
      · rename_i h1
        obtain rfl := (congrArg Prod.fst h)
        exact Or.inl ⟨(congrArg Prod.snd h).symm, h1⟩
      · exact Or.inr ⟨(congrArg Prod.snd h).symm, (congrArg Prod.fst h).symm⟩
theorem parse_no {b : ByteArray} (h : ∀ l, buildP l ≠ (b, 0)) : parseP b = ([], 31) := by
  obtain ⟨l, e, hp⟩ : ∃ l e, parseP b = (l, e) := ⟨_, _, rfl⟩
  rcases parse_ok hp with ⟨_, h1⟩ | ⟨h1, h2⟩
  · exact absurd h1 (h l)
  · rw [hp, h1, h2]
/-- What Seek answers. -/
def seekL : List KV → ByteArray → ByteArray × ByteArray × Int
  | [], _ => (ByteArray.empty, ByteArray.empty, 22)
  | m :: r, key => if cmpT m.1 key < 0 then seekL r key else (m.1, m.2, 0)
def seekP (b key : ByteArray) : ByteArray × ByteArray × Int := if (parseP b).2 = 0 then seekL (parseP b).1 key else (ByteArray.empty, ByteArray.empty, (parseP b).2)
end Go.Proofs.YtcbgflidlpmhcaaGreatDoor

namespace Go.Proofs.YtcbgflidlpmhcaaGreatDoor
open Go.RowKit

theorem be4_inj {v u : Nat} (hv : v < 4294967296) (hu : u < 4294967296) (h : be v 4 = be u 4) : v = u := by
  have g : ∀ k, k < 4 → v / 2 ^ (8 * (4 - 1 - k)) % 256 = u / 2 ^ (8 * (4 - 1 - k)) % 256 := by
    intro k hk
    have := (be_get v 4 k hk).symm.trans ((congrArg (·[k]?) h).trans (be_get u 4 k hk))
    have := congrArg UInt8.toNat (Option.some.inj this)
    rw [UInt8.toNat_ofNat', UInt8.toNat_ofNat'] at this
    omega
  have g0 : v / 16777216 % 256 = u / 16777216 % 256 := g 0 (by decide)
  have g1 : v / 65536 % 256 = u / 65536 % 256 := g 1 (by decide)
  have g2 : v / 256 % 256 = u / 256 % 256 := g 2 (by decide)
  have g3 : v / 1 % 256 = u / 1 % 256 := g 3 (by decide)
  omega
theorem crc_lt (l : List UInt8) : crc l < 4294967296 := by unfold crc; omega
/-- Of bytes of which one is changed Parse tells that they are none. -/
theorem parse_changed {l : List KV} {b b' : ByteArray} (h : buildP l = (b, 0)) {k : Nat} {c : UInt8} (hk : k < (bl b).length) (hc : (bl b)[k] ≠ c) (hb' : bl b' = (bl b).set k c) : parseP b' = ([], 31) := by
  refine parse_no fun l' h' => ?_
  obtain ⟨_, _, _, e1⟩ := buildP_ok h
  obtain ⟨_, _, _, e2⟩ := buildP_ok h'
  have f1 : bl b = blkL l := by rw [e1]
  have f2 : bl b' = blkL l' := by rw [e2]
  obtain ⟨P, hP⟩ : ∃ P, bodyL 0 [] l ++ be l.length 4 = P := ⟨_, rfl⟩
  obtain ⟨Q, hQ⟩ : ∃ Q, bodyL 0 [] l' ++ be l'.length 4 = Q := ⟨_, rfl⟩
  unfold blkL at f1 f2
  rw [hP] at f1
  rw [hQ, hb'] at f2
  have hl := congrArg List.length f2
  have hl1 := congrArg List.length f1
  rw [List.length_set] at hl
  rw [List.length_append, be_length] at hl hl1
  have hPQ : Q.length = P.length := by omega
  by_cases hkP : k < P.length
  · have g : (P ++ be (crc P) 4).set k c = P.set k c ++ be (crc P) 4 := List.set_append_left _ _ hkP
    rw [f1, g] at f2
    obtain ⟨q1, q2⟩ := List.append_inj f2 (by rw [List.length_set]; omega)
    have hcr := be4_inj (crc_lt _) (crc_lt _) q2
    have hne : P[k] ≠ c := by
      intro e
      refine hc ?_
      rw [← e]
      have : (bl b)[k]? = P[k]? := by rw [f1, List.getElem?_append_left hkP]
      rw [List.getElem?_eq_getElem hk, List.getElem?_eq_getElem hkP] at this
      exact Option.some.inj this
    rw [← q1] at hcr
    exact crc_changed P k hkP c hne hcr
  · have g : (P ++ be (crc P) 4).set k c = P ++ (be (crc P) 4).set (k - P.length) c := List.set_append_right _ _ (by omega)
    rw [f1, g] at f2
    obtain ⟨q1, q2⟩ := List.append_inj f2 hPQ.symm
    rw [← q1] at q2
    have hk2 : k - P.length < (be (crc P) 4).length := by rw [be_length]; omega
    have e1 : (bl b)[k]? = (be (crc P) 4)[k - P.length]? := by rw [f1, List.getElem?_append_right (by omega)]
    have e2 : (be (crc P) 4)[k - P.length]? = some c := by rw [← q2, List.getElem?_set_self (by rw [be_length]; rw [be_length] at hk2; exact hk2)]
    rw [e2, List.getElem?_eq_getElem hk] at e1
    exact hc (Option.some.inj e1)

/-! ### What is sought -/
theorem rises_tail {a : KV} {l : List KV} (h : risesK (a :: l) = true) : risesK l = true ∧ ∀ m ∈ l, cmpT a.1 m.1 < 0 := by
  induction l generalizing a with
  | nil => exact ⟨rfl, fun m hm => by cases hm⟩
  | cons b r ih =>
    rw [risesK, Bool.and_eq_true, decide_eq_true_eq] at h
    obtain ⟨h1, h2⟩ := ih h.2
    refine ⟨h.2, fun m hm => ?_⟩
    rcases List.mem_cons.1 hm with rfl | hm
    · exact h.1
    · exact cmpT_trans h.1 (h2 m hm)
theorem rises_get : ∀ {l : List KV} {i j : Nat} {a b : KV}, risesK l = true → i < j → l[i]? = some a → l[j]? = some b → cmpT a.1 b.1 < 0
  | [], _, _, _, _, _, _, ha, _ => by simp at ha
  | x :: r, 0, j + 1, a, b, h, _, ha, hb => by
    simp at ha hb
    subst ha
    exact (rises_tail h).2 b (List.mem_of_getElem? hb)
  | x :: r, i + 1, j + 1, a, b, h, hij, ha, hb => rises_get (l := r) (i := i) (j := j) (rises_tail h).1 (by omega) (by simpa using ha) (by simpa using hb)
theorem seek_at : ∀ {l : List KV} {i : Nat} {a : KV} {key : ByteArray}, l[i]? = some a → (∀ j m, j < i → l[j]? = some m → cmpT m.1 key < 0) → ¬ cmpT a.1 key < 0 → seekL l key = (a.1, a.2, 0)
  | [], _, _, _, h, _, _ => by simp at h
  | x :: r, 0, a, key, h, _, hn => by
    simp at h
    subst h
    rw [seekL, if_neg hn]
  | x :: r, i + 1, a, key, h, hj, hn => by
    rw [seekL, if_pos (hj 0 x (by omega) rfl)]
    exact seek_at (l := r) (i := i) (by simpa using h) (fun j m hjm hm => hj (j + 1) m (by omega) (by simpa using hm)) hn
theorem seek_none : ∀ {l : List KV} {key : ByteArray}, (∀ m ∈ l, cmpT m.1 key < 0) → seekL l key = (ByteArray.empty, ByteArray.empty, 22)
  | [], _, _ => rfl
  | x :: r, key, h => by
    rw [seekL, if_pos (h x (List.mem_cons_self ..))]
    exact seek_none fun m hm => h m (List.mem_cons_of_mem _ hm)
theorem seek_cases : ∀ (l : List KV) (key : ByteArray), (∃ (i : Nat) (a : KV), l[i]? = some a ∧ seekL l key = (a.1, a.2, 0) ∧ 0 ≤ cmpT a.1 key) ∨ (seekL l key = (ByteArray.empty, ByteArray.empty, 22) ∧ ∀ m ∈ l, cmpT m.1 key < 0)
  | [], key => Or.inr ⟨rfl, fun m hm => by cases hm⟩
  | x :: r, key => by
    by_cases h : cmpT x.1 key < 0
    · rcases seek_cases r key with ⟨i, a, h1, h2, h3⟩ | ⟨h1, h2⟩
      · exact Or.inl ⟨i + 1, a, by simpa using h1, by rw [seekL, if_pos h]; exact h2, h3⟩
      · refine Or.inr ⟨by rw [seekL, if_pos h]; exact h1, fun m hm => ?_⟩
        rcases List.mem_cons.1 hm with rfl | hm
        · exact h
        · exact h2 m hm
    · exact Or.inl ⟨0, x, rfl, by rw [seekL, if_neg h], by omega⟩
/-- A key with a zero byte behind it stands just behind the key. -/
theorem cmp_zero_lt : ∀ a : List UInt8, Lib.compareBytes a (a ++ [0]) < 0
  | [] => by decide
  | a :: r => by
    rw [List.cons_append, cmp9_cons, if_neg (by omega), if_neg (by omega)]
    exact cmp_zero_lt r
theorem cmp_zero_le : ∀ a b : List UInt8, Lib.compareBytes a b < 0 → Lib.compareBytes (a ++ [0]) b ≤ 0
  | [], [], h => absurd h (by decide)
  | [], c :: r, _ => by
    rw [List.nil_append, cmp9_cons]
    split
    · decide
    · split
      · rename_i h2; exact absurd h2 (by simp)
      · cases r <;> simp [Lib.compareBytes]
  | a :: x, [], h => absurd h (by simp [Lib.compareBytes])
  | a :: x, b :: y, h => by
    rw [cmp9_cons] at h
    rw [List.cons_append, cmp9_cons]
    split
    · decide
    · rename_i h1
      rw [if_neg h1] at h
      split
      · rename_i h2; rw [if_pos h2] at h; exact absurd h (by decide)
      · rename_i h2; rw [if_neg h2] at h; exact cmp_zero_le x y h
theorem cmpT_zero {a z : ByteArray} (hz : bl z = bl a ++ [0]) : cmpT a z < 0 ∧ ∀ b, cmpT a b < 0 → cmpT z b ≤ 0 := by
  unfold cmpT
  rw [show z.data.toList = a.data.toList ++ [0] from hz]
  exact ⟨cmp_zero_lt _, fun b h => cmp_zero_le _ _ h⟩
/-- What BlockSeeks asks of each key. -/
theorem seeks_at {l : List KV} (hR : risesK l = true) {i : Nat} {a : KV} (ha : l[i]? = some a) {z : ByteArray} (hz : bl z = bl a.1 ++ [0]) :
    seekL l a.1 = (a.1, a.2, 0) ∧ (∀ b, l[i + 1]? = some b → seekL l z = (b.1, b.2, 0)) ∧ (l.length = i + 1 → seekL l z = (ByteArray.empty, ByteArray.empty, 22)) := by
  obtain ⟨z1, z2⟩ := cmpT_zero hz
  have hself : ¬ cmpT a.1 a.1 < 0 := by rw [(cmpT_eq _ _).2 rfl]; decide
  refine ⟨seek_at ha (fun j m hj hm => rises_get hR hj hm ha) hself, fun b hb => ?_, fun hl => ?_⟩
  · refine seek_at hb (fun j m hj hm => ?_) ?_
    · rcases Nat.lt_or_ge j i with h | h
      · exact cmpT_trans (rises_get hR h hm ha) z1
      · obtain rfl : j = i := by omega
        rw [ha] at hm
        cases hm
        exact z1
    · have h1 := z2 b.1 (rises_get hR (Nat.lt_succ_self i) ha hb)
      have h2 := cmpT_swap z b.1
      omega
  · refine seek_none fun m hm => ?_
    obtain ⟨j, hj⟩ := List.mem_iff_getElem?.1 hm
    have hjl := (List.getElem?_eq_some_iff.1 hj).1
    rcases Nat.lt_or_ge j i with h | h
    · exact cmpT_trans (rises_get hR h hj ha) z1
    · obtain rfl : j = i := by omega
      rw [ha] at hj
      cases hj
      exact z1

/-! ### How long a block is -/
theorem pv_three (n : Nat) (h : n < 2097152) : 1 ≤ (pv n).length ∧ (pv n).length ≤ 3 := ⟨pv_pos n, pv_len 3 n (by omega) (by decide)⟩
/-- What keys and values have together, with nine bytes for each pair. -/
def sumK : List KV → Nat
  | [] => 0
  | m :: r => 9 + m.1.size + m.2.size + sumK r
/-- What keys have in common with those ahead. -/
def comK : Nat → List UInt8 → List KV → Nat
  | _, _, [] => 0
  | i, prev, m :: r => comI i prev (bl m.1) + comK (i + 1) (bl m.1) r
theorem body_bounds : ∀ (l : List KV) (i : Nat) (prev : List UInt8), (∀ m ∈ l, m.1.size ≤ 65536 ∧ m.2.size ≤ 65536) → (bodyL i prev l).length + comK i prev l ≤ sumK l ∧ 3 * l.length ≤ (bodyL i prev l).length
  | [], _, _, _ => ⟨Nat.zero_le _, Nat.zero_le _⟩
  | m :: r, i, prev, h => by
    obtain ⟨h1, h2⟩ := body_bounds r (i + 1) (bl m.1) fun x hx => h x (List.mem_cons_of_mem _ hx)
    obtain ⟨s1, s2⟩ := h m (List.mem_cons_self ..)
    have c1 := (comI_le i prev (bl m.1)).1
    have l1 : (bl m.1).length = m.1.size := rfl
    have l2 : (bl m.2).length = m.2.size := rfl
    have p1 := pv_three (comI i prev (bl m.1)) (by omega)
    have p2 := pv_three ((bl m.1).length - comI i prev (bl m.1)) (by omega)
    have p3 := pv_three (bl m.2).length (by omega)
    rw [bodyL, onePair, comK, sumK]
    simp only [List.length_append, List.length_cons, List.length_drop]
    omega
theorem blk_bounds {l : List KV} (h : longK l = false) : (blkL l).length + comK 0 [] l ≤ 8 + sumK l ∧ 8 + 3 * l.length ≤ (blkL l).length := by
  have := body_bounds l 0 [] (longK_ok h)
  rw [blkL_length]
  omega
theorem sumK_snoc (l : List KV) (m : KV) : sumK (l ++ [m]) = sumK l + (9 + m.1.size + m.2.size) := by
  induction l with
  | nil => simp [sumK]
  | cons x r ih => rw [List.cons_append, sumK, sumK, ih]; omega
theorem comK_snoc (l : List KV) (m : KV) : ∀ i prev, comK i prev (l ++ [m]) = comK i prev l + comI (i + l.length) (lastK prev l) (bl m.1) := by
  induction l with
  | nil => intro i prev; simp [comK, lastK]
  | cons x r ih =>
    intro i prev
    rw [List.cons_append, comK, ih, comK, lastK, List.length_cons]
    rw [show i + 1 + r.length = i + (r.length + 1) from by omega]
    omega
end Go.Proofs.YtcbgflidlpmhcaaGreatDoor

namespace Go.Proofs.YtcbgflidlpmhcaaGreatDoor
open Go.RowKit

/-- How long a key's head is: up to and with its first bytes 0 and 1 beside each other. -/
def headN : List UInt8 → Nat
  | a :: b :: r => if a = 0 ∧ b = 1 then 2 else headN (b :: r) + 1
  | l => l.length
theorem headN_le : ∀ l : List UInt8, headN l ≤ l.length
  | [] => Nat.le_refl _
  | [_] => Nat.le_refl _
  | a :: b :: r => by
    have h := headN_le (b :: r)
    rw [headN]
    split
    · simp
    · rw [List.length_cons]; omega
/-- A head. -/
def headT (s : ByteArray) : ByteArray := s.extract 0 (headN (bl s))
theorem headN_at (l : List UInt8) : ∀ k : Nat, (∀ i, i < k → ∀ a b, l[i]? = some a → l[i + 1]? = some b → ¬ (a = 0 ∧ b = 1)) → ∀ a b, l[k]? = some a → l[k + 1]? = some b → a = 0 ∧ b = 1 → headN l = k + 2 := by
  induction l with
  | nil => intro k _ a b ha; simp at ha
  | cons x r ih =>
    intro k hno a b ha hb hab
    cases r with
    | nil => simp at hb
    | cons y r =>
      cases k with
      | zero =>
        simp at ha hb
        subst ha hb
        rw [headN, if_pos hab]
      | succ k =>
        rw [headN, if_neg (hno 0 (by omega) x y rfl rfl), ih k (fun i hi a b h1 h2 => hno (i + 1) (by omega) a b h1 h2) a b ha hb hab]
theorem headN_none (l : List UInt8) (hno : ∀ i a b, l[i]? = some a → l[i + 1]? = some b → ¬ (a = 0 ∧ b = 1)) : headN l = l.length := by
  induction l with
  | nil => rfl
  | cons x r ih =>
    cases r with
    | nil => rfl
    | cons y r =>
      rw [headN, if_neg (hno 0 x y rfl rfl), ih (fun i a b h1 h2 => hno (i + 1) a b h1 h2)]
      rfl
/-- The heads of all keys, each once, in order. -/
def hasT (out : List ByteArray) (h : ByteArray) : Bool := out.any fun t => t.toList == h.toList
theorem hasT_mem (out : List ByteArray) (h : ByteArray) : hasT out h = true ↔ h ∈ out := by
  unfold hasT
  rw [List.any_eq_true]
  constructor
  · rintro ⟨t, ht, he⟩
    have he := beq_iff_eq.1 he
    rw [Lib.toList_data, Lib.toList_data] at he
    rw [← show t = h from ByteArray.ext (Array.ext' he)]
    exact ht
  · intro hm
    exact ⟨h, hm, beq_self_eq_true _⟩
def headsStep (out : List ByteArray) (m : KV) : List ByteArray := if hasT out (headT m.1) = true then out else out ++ [headT m.1]
def headsK (L : List KV) : List ByteArray := L.foldl headsStep []
theorem headsK_snoc (L : List KV) (m : KV) : headsK (L ++ [m]) = headsStep (headsK L) m := by
  unfold headsK
  rw [List.foldl_append]
  rfl
theorem headsStep_len (out : List ByteArray) (m : KV) : (headsStep out m).length ≤ out.length + 1 := by
  unfold headsStep
  split
  · omega
  · rw [List.length_append]; simp
theorem headsK_len (L : List KV) : (headsK L).length ≤ L.length := by
  have key : ∀ (L : List KV) (out : List ByteArray), (L.foldl headsStep out).length ≤ out.length + L.length := by
    intro L
    induction L with
    | nil => intro out; simp
    | cons m r ih =>
      intro out
      have h1 := ih (headsStep out m)
      have h2 := headsStep_len out m
      rw [List.foldl_cons, List.length_cons]
      omega
  have := key L []
  simpa [headsK] using this
theorem headsStep_mem (out : List ByteArray) (m : KV) (s : ByteArray) : s ∈ headsStep out m ↔ s ∈ out ∨ s = headT m.1 := by
  unfold headsStep
  split
  · rename_i h
    constructor
    · exact Or.inl
    · rintro (h1 | rfl)
      · exact h1
      · exact (hasT_mem _ _).1 h
  · rw [List.mem_append, List.mem_singleton]
theorem headsK_mem (L : List KV) (s : ByteArray) : s ∈ headsK L ↔ ∃ m ∈ L, s = headT m.1 := by
  have key : ∀ (L : List KV) (out : List ByteArray), s ∈ L.foldl headsStep out ↔ s ∈ out ∨ ∃ m ∈ L, s = headT m.1 := by
    intro L
    induction L with
    | nil => intro out; simp
    | cons m r ih =>
      intro out
      rw [List.foldl_cons, ih, headsStep_mem]
      constructor
      · rintro ((h | h) | ⟨m', h1, h2⟩)
        · exact Or.inl h
        · exact Or.inr ⟨m, List.mem_cons_self .., h⟩
        · exact Or.inr ⟨m', List.mem_cons_of_mem _ h1, h2⟩
      · rintro (h | ⟨m', h1, h2⟩)
        · exact Or.inl (Or.inl h)
        · rcases List.mem_cons.1 h1 with rfl | h1
          · exact Or.inl (Or.inr h2)
          · exact Or.inr ⟨m', h1, h2⟩
  have := key L []
  simpa [headsK] using this
theorem head_size (s : ByteArray) : (headT s).size ≤ s.size := by
  unfold headT
  rw [ByteArray.size_extract]
  omega

/-- Blocks: how many, the bytes of the last one, whether it takes more. -/
def blkStep (s : Nat × Nat × Bool) (m : KV) : Nat × Nat × Bool :=
  let z := (if s.2.2 then s.2.1 else 0) + m.1.size + m.2.size
  (if s.2.2 then s.1 else s.1 + 1, z, decide (z < 1024))
def blkSt (L : List KV) : Nat × Nat × Bool := L.foldl blkStep (0, 0, false)
def blocksK (L : List KV) : Nat := (blkSt L).1
theorem blkSt_snoc (L : List KV) (m : KV) : blkSt (L ++ [m]) = blkStep (blkSt L) m := by
  unfold blkSt
  rw [List.foldl_append]
  rfl
theorem blkStep_le (s : Nat × Nat × Bool) (m : KV) : s.1 ≤ (blkStep s m).1 ∧ (blkStep s m).1 ≤ s.1 + 1 := by
  unfold blkStep
  dsimp only
  split <;> omega
theorem blocks_le (L R : List KV) : blocksK L ≤ blocksK (L ++ R) := by
  have key : ∀ (R : List KV) (s : Nat × Nat × Bool), s.1 ≤ (R.foldl blkStep s).1 := by
    intro R
    induction R with
    | nil => intro s; exact Nat.le_refl _
    | cons m r ih =>
      intro s
      rw [List.foldl_cons]
      exact Nat.le_trans (blkStep_le s m).1 (ih _)
  unfold blocksK blkSt
  rw [List.foldl_append]
  exact key _ _
theorem blocks_len (L : List KV) : blocksK L ≤ L.length := by
  have key : ∀ (R : List KV) (s : Nat × Nat × Bool), (R.foldl blkStep s).1 ≤ s.1 + R.length := by
    intro R
    induction R with
    | nil => intro s; simp
    | cons m r ih =>
      intro s
      have h1 := ih (blkStep s m)
      have h2 := (blkStep_le s m).2
      rw [List.foldl_cons, List.length_cons]
      omega
  have := key L (0, 0, false)
  simpa [blocksK, blkSt] using this

/-- Pairs from a key on, at most so many. -/
def fromK (L : List KV) (key : ByteArray) (most : Int) : List KV :=
  if most < 0 then L.filter fun m => decide (0 ≤ cmpT m.1 key) else (L.filter fun m => decide (0 ≤ cmpT m.1 key)).take most.toNat
theorem fromK_len (L : List KV) (key : ByteArray) (most : Int) : (fromK L key most).length ≤ L.length := by
  have h := List.length_filter_le (fun m : KV => decide (0 ≤ cmpT m.1 key)) L
  unfold fromK
  split
  · exact h
  · rw [List.length_take]; omega
theorem fromK_mem {L : List KV} {key : ByteArray} {most : Int} {m : KV} (h : m ∈ fromK L key most) : m ∈ L ∧ 0 ≤ cmpT m.1 key := by
  have key2 : m ∈ L.filter (fun m => decide (0 ≤ cmpT m.1 key)) := by
    unfold fromK at h
    split at h
    · exact h
    · exact List.mem_of_mem_take h
  rw [List.mem_filter] at key2
  exact ⟨key2.1, of_decide_eq_true key2.2⟩
/-- What Write answers beside the bytes. -/
def writeE (L : List KV) : Int := if risesK L = false then 32 else if (buildP L).2 = 0 then (if L = [] then 1 else 0) else (buildP L).2
end Go.Proofs.YtcbgflidlpmhcaaGreatDoor

namespace Go.Proofs.YtcbgflidlpmhcaaGreatDoor
open Go.RowKit

theorem gv_ok : ∀ (l : List UInt8) (i a v n : Nat), gv l i a = .ok v n → i < n ∧ n ≤ i + l.length
  | [], i, a, v, n, h => by
    rw [gv] at h
    split at h <;> cases h
  | c :: r, i, a, v, n, h => by
    rw [gv] at h
    split at h
    · cases h
    · split at h
      · have := gv_ok r _ _ _ _ h
        simp only [List.length_cons]
        omega
      · split at h
        · cases h
        · cases h
          simp only [List.length_cons]
          omega
/-- Numbers read one behind the other. -/
def thr : Nat → List UInt8 → List Nat → Option (List Nat × List UInt8)
  | 0, r, acc => some (acc, r)
  | m + 1, r, acc => match gv r 0 0 with
    | .err _ => none
    | .ok v n => thr m (r.drop n) (acc ++ [v])
theorem thr_err {m : Nat} {r : List UInt8} {acc : List Nat} {e : Int} (h : gv r 0 0 = .err e) : thr (m + 1) r acc = none := by rw [thr, h]
theorem thr_ok {m : Nat} {r : List UInt8} {acc : List Nat} {v n : Nat} (h : gv r 0 0 = .ok v n) : thr (m + 1) r acc = thr m (r.drop n) (acc ++ [v]) := by rw [thr, h]
/-- What a pair's three numbers make of the rest. -/
def pairOf (last : List UInt8) (x y z : Nat) (t : List UInt8) : Option KV :=
  if last.length < x ∨ t.length < y ∨ t.length - y < z then none else some (⟨(last.take x ++ t.take y).toArray⟩, ⟨(t.drop y |>.take z).toArray⟩)
theorem readL_three (f : Nat) (last : List UInt8) (r : List UInt8) (hr : r ≠ []) :
    readL (f + 1) last r = match thr 3 r [] with
      | some ([x, y, z], t) => match pairOf last x y z t with
        | none => none
        | some m => (readL f (bl m.1) (t.drop (y + z))).map (m :: ·)
      | _ => none := by
  obtain ⟨c, r, rfl⟩ := List.exists_cons_of_ne_nil hr
  rw [readL, thr]
  cases h1 : gv (c :: r) 0 0 with
  | err e => rfl
  | ok x n1 =>
    dsimp only
    rw [thr]
    cases h2 : gv ((c :: r).drop n1) 0 0 with
    | err e => rfl
    | ok y n2 =>
      dsimp only
      rw [thr]
      cases h3 : gv (((c :: r).drop n1).drop n2) 0 0 with
      | err e => rfl
      | ok z n3 =>
        dsimp only
        rw [thr]
        dsimp only [List.nil_append, List.append_assoc, List.cons_append]
        unfold pairOf
        split
        · rfl
        · rfl
theorem readL_nil (f : Nat) (last : List UInt8) : readL f last [] = some [] := by cases f <;> rfl
/-- The pairs so far, and what the rest tells. -/
def goOn (l : List KV) : Option (List KV) → Option (List KV)
  | none => none
  | some r => some (l ++ r)
theorem goOn_nil (o : Option (List KV)) : goOn [] o = o := by cases o <;> rfl
theorem goOn_cons (l : List KV) (m : KV) (o : Option (List KV)) : goOn l (o.map (m :: ·)) = goOn (l ++ [m]) o := by
  cases o <;> simp [goOn]
end Go.Proofs.YtcbgflidlpmhcaaGreatDoor

namespace Go.Proofs.YtcbgflidlpmhcaaGreatDoor
open Go.RowKit

theorem cmp_empty (a : ByteArray) : 0 ≤ cmpT a ⟨#[]⟩ := by
  unfold cmpT
  cases h : a.data.toList with
  | nil => decide
  | cons x r => 
    show (0 : Int) ≤ 1
    decide
theorem fromK_empty (L : List KV) : fromK L ⟨#[]⟩ (-1) = L := by
  unfold fromK
  rw [if_pos (by decide)]
  exact List.filter_eq_self.2 fun m _ => decide_eq_true (cmp_empty m.1)
theorem fromK_first (L : List KV) (k : Nat) : fromK L ⟨#[]⟩ (k : Int) = L.take k := by
  unfold fromK
  rw [if_neg (by omega), show L.filter (fun m => decide (0 ≤ cmpT m.1 ⟨#[]⟩)) = L from List.filter_eq_self.2 fun m _ => decide_eq_true (cmp_empty m.1)]
  rfl
theorem rises_take : ∀ (L : List KV) (k : Nat), risesK L = true → risesK (L.take k) = true
  | _, 0, _ => rfl
  | [], _ + 1, _ => rfl
  | [a], k + 1, _ => by cases k <;> rfl
  | a :: b :: r, 1, _ => rfl
  | a :: b :: r, k + 2, h => by
    have h1 : decide (cmpT a.1 b.1 < 0) = true ∧ risesK (b :: r) = true := by
      rw [risesK, Bool.and_eq_true] at h
      exact h
    have h2 := rises_take (b :: r) (k + 1) h1.2
    show (decide (cmpT a.1 b.1 < 0) && risesK (b :: r.take k)) = true
    rw [h1.1, Bool.true_and]
    exact h2
end Go.Proofs.YtcbgflidlpmhcaaGreatDoor

namespace Go.Proofs.YtcbgflidlpmhcaaGreatDoor
open Go.RowKit

/-- What Get answers. -/
def getK (L : List KV) (key : ByteArray) : ByteArray × Int :=
  match fromK L key 1 with
  | m :: _ => if (m.1.toList == key.toList) = true then (m.2, 0) else (⟨#[]⟩, 22)
  | [] => (⟨#[]⟩, 22)
theorem cmpL_refl : ∀ l : List UInt8, Lib.compareBytes l l = 0
  | [] => rfl
  | a :: r => by
    rw [Lib.compareBytes, if_neg (by simp), if_neg (by simp)]
    exact cmpL_refl r
/-- The least pair at or behind one of the list's own keys is that pair. -/
theorem fromK_one {L : List KV} (hR : risesK L = true) {m : KV} (hm : m ∈ L) : fromK L m.1 1 = [m] := by
  obtain ⟨A, B, rfl⟩ := List.append_of_mem hm
  have hA : A.filter (fun a => decide (0 ≤ cmpT a.1 m.1)) = [] := by
    rw [List.filter_eq_nil_iff]
    intro a ha
    obtain ⟨j, hj⟩ := List.mem_iff_getElem?.1 ha
    have hjl := (List.getElem?_eq_some_iff.1 hj).1
    have h1 : (A ++ m :: B)[j]? = some a := by rw [List.getElem?_append_left hjl]; exact hj
    have h2 : (A ++ m :: B)[A.length]? = some m := by rw [List.getElem?_append_right (Nat.le_refl _), Nat.sub_self]; rfl
    have h3 := rises_get hR hjl h1 h2
    simp
    exact h3
  unfold fromK
  rw [if_neg (by decide), List.filter_append, hA, List.nil_append, List.filter_cons_of_pos (by simp [cmpT, cmpL_refl])]
  rfl
theorem getK_mem {L : List KV} (hR : risesK L = true) {m : KV} (hm : m ∈ L) : getK L m.1 = (m.2, 0) := by
  unfold getK
  rw [fromK_one hR hm]
  show (if (m.1.toList == m.1.toList) = true then (m.2, (0 : Int)) else (⟨#[]⟩, 22)) = _
  rw [if_pos (beq_self_eq_true _)]
theorem write_rises {L : List KV} (he : writeE L = 0) : risesK L = true := by
  cases h : risesK L
  · unfold writeE at he
    rw [if_pos h] at he
    cases he
  · rfl
theorem write_ne {L : List KV} (he : writeE L = 0) : L ≠ [] := by
  rintro rfl
  have h9 : writeE [] = 1 := by decide +kernel
  rw [h9] at he
  cases he

/-- The last four bytes are the sum of all ahead. -/
def fitsB (b : ByteArray) : Prop := ∃ P, bl b = P ++ be (crc P) 4
theorem fits_size {b : ByteArray} (h : fitsB b) : 4 ≤ b.size := by
  obtain ⟨P, h⟩ := h
  have h1 := congrArg List.length h
  rw [List.length_append, be_length, bl_len] at h1
  omega
theorem fits_changed {b b' : ByteArray} (h : fitsB b) {k : Nat} {c : UInt8} (hk : k < (bl b).length) (hc : (bl b)[k] ≠ c) (hb' : bl b' = (bl b).set k c) : ¬ fitsB b' := by
  rintro ⟨Q, f2⟩
  obtain ⟨P, f1⟩ := h
  rw [hb'] at f2
  have hl := congrArg List.length f2
  have hl1 := congrArg List.length f1
  rw [List.length_set] at hl
  rw [List.length_append, be_length] at hl hl1
  have hPQ : Q.length = P.length := by omega
  by_cases hkP : k < P.length
  · have g : (P ++ be (crc P) 4).set k c = P.set k c ++ be (crc P) 4 := List.set_append_left _ _ hkP
    rw [f1, g] at f2
    obtain ⟨q1, q2⟩ := List.append_inj f2 (by rw [List.length_set]; omega)
    have hcr := be4_inj (crc_lt _) (crc_lt _) q2
    have hne : P[k] ≠ c := by
      intro e
      refine hc ?_
      rw [← e]
      have : (bl b)[k]? = P[k]? := by rw [f1, List.getElem?_append_left hkP]
      rw [List.getElem?_eq_getElem hk, List.getElem?_eq_getElem hkP] at this
      exact Option.some.inj this
    rw [← q1] at hcr
    exact crc_changed P k hkP c hne hcr
  · have g : (P ++ be (crc P) 4).set k c = P ++ (be (crc P) 4).set (k - P.length) c := List.set_append_right _ _ (by omega)
    rw [f1, g] at f2
    obtain ⟨q1, q2⟩ := List.append_inj f2 hPQ.symm
    rw [← q1] at q2
    have hk2 : k - P.length < (be (crc P) 4).length := by rw [be_length]; omega
    have e1 : (bl b)[k]? = (be (crc P) 4)[k - P.length]? := by rw [f1, List.getElem?_append_right (by omega)]
    have e2 : (be (crc P) 4)[k - P.length]? = some c := by rw [← q2, List.getElem?_set_self (by rw [be_length]; rw [be_length] at hk2; exact hk2)]
    rw [e2, List.getElem?_eq_getElem hk] at e1
    exact hc (Option.some.inj e1)
/-- Do they fit, told by the last four bytes as a number. -/
theorem fits_iff (b : ByteArray) (h4 : 4 ≤ b.size) : fitsB b ↔ (bl b).drop (b.size - 4) = be (crc ((bl b).take (b.size - 4))) 4 := by
  constructor
  · rintro ⟨P, h⟩
    have h1 := congrArg List.length h
    rw [List.length_append, be_length, bl_len] at h1
    have e : b.size - 4 = P.length := by omega
    rw [e, h, List.drop_left, List.take_left]
  · intro h
    refine ⟨(bl b).take (b.size - 4), ?_⟩
    rw [← h, List.take_append_drop]
end Go.Proofs.YtcbgflidlpmhcaaGreatDoor

namespace Go.Proofs.YtcbgflidlpmhcaaGreatDoor
open Go.RowKit

/-- The blocks that are full, the one that still takes pairs, and its bytes. -/
structure GrpS where
  full : List (List KV)
  cur : List KV
  z : Nat
def grpStep (s : GrpS) (m : KV) : GrpS :=
  if s.z + m.1.size + m.2.size < 1024 then ⟨s.full, s.cur ++ [m], s.z + m.1.size + m.2.size⟩ else ⟨s.full ++ [s.cur ++ [m]], [], 0⟩
def grpSt (L : List KV) : GrpS := L.foldl grpStep ⟨[], [], 0⟩
def grpEnd (s : GrpS) : List (List KV) := if s.cur = [] then s.full else s.full ++ [s.cur]
/-- The blocks of pairs, one behind the other. -/
def groupsK (L : List KV) : List (List KV) := grpEnd (grpSt L)
theorem grpSt_snoc (L : List KV) (m : KV) : grpSt (L ++ [m]) = grpStep (grpSt L) m := by
  unfold grpSt
  rw [List.foldl_append]
  rfl
/-- What stands of the blocks so far. -/
structure GrpOk (L : List KV) (s : GrpS) : Prop where
  all : s.full.flatten ++ s.cur = L
  some : ∀ g ∈ s.full, g ≠ []
  none : s.cur = [] → s.z = 0
  lt : s.z < 1024
  num : (blkSt L).1 = s.full.length + if s.cur = [] then 0 else 1
  opn : (blkSt L).2.2 = decide (s.cur ≠ [])
  siz : s.cur ≠ [] → (blkSt L).2.1 = s.z
theorem grpOk_step {L : List KV} {s : GrpS} (h : GrpOk L s) (m : KV) : GrpOk (L ++ [m]) (grpStep s m) := by
  have hb := blkSt_snoc L m
  have hz : (if (blkSt L).2.2 then (blkSt L).2.1 else 0) = s.z := by
    rw [h.opn]
    by_cases hc : s.cur = []
    · rw [if_neg (by simp [hc]), h.none hc]
    · rw [if_pos (by simp [hc]), h.siz hc]
  have hn : (if (blkSt L).2.2 then (blkSt L).1 else (blkSt L).1 + 1) = s.full.length + 1 := by
    rw [h.opn, h.num]
    by_cases hc : s.cur = []
    · rw [if_neg (by simp [hc]), if_pos hc]
    · rw [if_pos (by simp [hc]), if_neg hc]
  have hst : blkSt (L ++ [m]) = (s.full.length + 1, s.z + m.1.size + m.2.size, decide (s.z + m.1.size + m.2.size < 1024)) := by
    rw [hb]
    unfold blkStep
    dsimp only
    rw [hz, hn]
  unfold grpStep
  by_cases hl : s.z + m.1.size + m.2.size < 1024
  · rw [if_pos hl]
    have hne : s.cur ++ [m] ≠ [] := by simp
    refine ⟨?_, h.some, fun e => absurd e hne, hl, ?_, ?_, fun _ => by rw [hst]⟩
    · rw [← List.append_assoc, h.all]
    · rw [hst]
      show _ = s.full.length + if s.cur ++ [m] = [] then 0 else 1
      rw [if_neg hne]
    · rw [hst]
      show decide _ = decide _
      rw [decide_eq_true hl, decide_eq_true hne]
  · rw [if_neg hl]
    refine ⟨?_, ?_, fun _ => rfl, (by decide : 0 < 1024), ?_, ?_, fun e => absurd rfl e⟩
    · show (s.full ++ [s.cur ++ [m]]).flatten ++ [] = _
      rw [List.flatten_append, List.append_nil, ← h.all]
      simp
    · intro g hg
      rcases List.mem_append.1 hg with h1 | h1
      · exact h.some g h1
      · rw [List.mem_singleton] at h1
        rw [h1]
        simp
    · rw [hst]
      show s.full.length + 1 = (s.full ++ [s.cur ++ [m]]).length + if ([] : List KV) = [] then 0 else 1
      rw [if_pos rfl, List.length_append]
      rfl
    · rw [hst]
      show decide _ = decide (([] : List KV) ≠ [])
      rw [decide_eq_false hl]
      rfl
theorem grpOk_all (L : List KV) : GrpOk L (grpSt L) := by
  have key : ∀ (R : List KV) (L : List KV) (s : GrpS), GrpOk L s → GrpOk (L ++ R) (R.foldl grpStep s) := by
    intro R
    induction R with
    | nil => intro L s h; rw [List.append_nil]; exact h
    | cons m r ih =>
      intro L s h
      rw [List.foldl_cons, show L ++ m :: r = (L ++ [m]) ++ r by simp]
      exact ih _ _ (grpOk_step h m)
  have h0 : GrpOk [] ⟨[], [], 0⟩ := ⟨rfl, fun g hg => (by cases hg), fun _ => rfl, by decide, rfl, rfl, fun e => absurd rfl e⟩
  have := key L [] _ h0
  rwa [List.nil_append] at this
theorem groups_all (L : List KV) : (groupsK L).flatten = L := by
  have h := grpOk_all L
  unfold groupsK grpEnd
  split
  · rename_i hc
    have := h.all
    rw [hc, List.append_nil] at this
    exact this
  · rw [List.flatten_append]
    have := h.all
    simpa using this
theorem groups_len (L : List KV) : (groupsK L).length = blocksK L := by
  have h := grpOk_all L
  have h1 := h.num
  unfold groupsK grpEnd blocksK
  rw [h1]
  split
  · omega
  · rw [List.length_append]
    rfl
theorem groups_some (L : List KV) : ∀ g ∈ groupsK L, g ≠ [] := by
  have h := grpOk_all L
  unfold groupsK grpEnd
  split
  · exact h.some
  · rename_i hc
    intro g hg
    rcases List.mem_append.1 hg with h1 | h1
    · exact h.some g h1
    · rw [List.mem_singleton] at h1
      rw [h1]
      exact hc
end Go.Proofs.YtcbgflidlpmhcaaGreatDoor
