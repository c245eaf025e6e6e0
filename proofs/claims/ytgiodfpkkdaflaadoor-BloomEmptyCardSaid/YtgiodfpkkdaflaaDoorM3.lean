/-
  Several texts in one: Package bloom, part 4: Build.
  Sizes and probes of some numbers of bits (no program is named).
  Walks over package real, part 1: nan, sign, rank, the order.
  Walks over package raw: Quote.
  Walks over package raw: what stands in quotes is read.
  Walks over package raw: Get, Number.
  Walks over package real, part 2: Put, Get.
  Walks over package real, part 9: Ratio.
  Slices of texts that came in, with what they hold together: what a walk asks of them, out of how they read. No program is named.
  The laws of chapter 12: how heavy a list of texts is; math's numbers; their first call.
  Lists of texts that are lent with a mark behind them: SameTexts, LentTexts, StaysTexts.
  A walk over the document's own answer to chapter 2: isNan.
  Walks over package real, part 4: the parts of a number, its text.
  Walks over package raw: Number, with its deferred closure.
  A number's digits are read as the number, if it is small enough (plain lists).
  Walks over package real, part 5: split, the text of a number.
  The walk over the laws' first call (alive), and what the laws ask of the tables.
  RawShort: of a number in few bytes no beginning is taken for it.
  Walks over the document's own answer to chapter 1: Get, PutVar, Put.
  Walks over the document's own answer to chapter 2: key, Compare, Same, Max, Min, Put, Ratio.
  The greatest and the least of numbers, by their ranks (no program is named).
  The last step of a law's row: the call leaves all that was there as it was.
  'There is an input that fits' for a row with a condition and listed variables, at a world whose shape is shown as one likes. No program is named.
-/
import Derived.Test.YtgiodfpkkdaflaaDoorM1
import Derived.Test.YtgiodfpkkdaflaaDoorM2
import Derived.Test.YtgiodfpkkdaflaaDoorRows
import Derived.WalkKit
import Derived.WalkSpells
import Derived.WalkLawsBesides
import Derived.Laws.Externs
import Derived.Lib.Hide
import Derived.Deep.RegionLaw
import Derived.Lib.Strings
import Derived.LoopTactic
import Derived.Lib.LaidTab
import Derived.Lib.ItoaNum
import Derived.Lib.TrailingZeros
import Derived.Lib.BitFns
import Derived.Laws.Bits64b
import Derived.Defers
import Derived.Recover
import Derived.Laws.Concat
import Derived.OpenShut
import Derived.RowKit
import Derived.Below
import Derived.ChangeSame
import Derived.ProofKit
import Derived.Deep.DeepHandedRow
namespace Go.Proofs.YtgiodfpkkdaflaaDoor
open Go.RowKit Go.Shelf

theorem ownM_row {W : World} {B0 B n sz : Nat} {e : TypeId} {v : Value} {xs : List Value} {row : Option Nat} (h : W.ownsRow B0 e sz v n xs) (hr : ∀ r, row = some r → B ≤ r ∧ ∃ o : Obj, W.heap[r]? = some o ∧ o.isCells = false) : v.ownBlock = none ∨ v.ownBlock ≠ row := by
  rcases h.2 with ⟨rfl, _⟩ | ⟨g, cap, cur, rfl, _, hh, _⟩
  · exact Or.inl rfl
  · exact Or.inr (blkM_row (cs := cur) (t := e) hh hr)
theorem wpListIn_append_byteM {F : Fence} {nn : Nat} {P : Program} {e : TypeId} {B : Nat} {v : Value} {l : List UInt8} (w : World) {ops : Array Oper} {rest : List Oper} {o : Oper} {a : Act} {Q : Exit → Act → World → Prop} (hgd : o.guard = none) (s x : Operand) (t : TypeId)
    (ho : o.op = .call { callee := .builtin .append, args := #[s, x], argTypes := #[t, t] }) (ht : P.underlying t = some (.slice e)) (hi : (P.info? e).map (fun i => (i.zero, i.size, i.bytes)) = some (some (.int .u8 0), 1, 1))
    (hs : a.eval s = v) (hown : Byt w B e v l) (ad : Addr) (cp : Nat) (hx : a.eval x = .slice (some ad) 1 cp) (z : Int) (hcell : w.cell? ad = some (.int .u8 z)) (c : UInt8) (hc : z = (c.toNat : Int))
    (hl : l.length < 140737488355328) (hB : B ≤ w.heap.size)
    (h : ∀ v' w', Byt w' B e v' (l ++ [c]) → w.grownBy w' v.ownBlock → wpListIn F nn P ops Q rest (a.put o.dst v') w') : wpListIn F nn P ops Q (o :: rest) a w := by
  obtain ⟨i0, hi0, hz0, hz1, hz2⟩ := info_parts hi
  refine wpListIn_append_own w hgd s x t ho B e i0 (.int .u8 0) 1 1 ht hi0 hz0 hz1 hz2 rfl (by decide) v l.length (l.map b8) hs hown ad 1 cp [b8 c] hx rfl ?_ ?_ ?_ ?_ hB ?_
  · intro j u hj
    match j, hj with
    | 0, hj =>
      simp at hj
      subst hj
      subst hc
      exact hcell
  · intro u hu
    simp at hu
    subst hu
    rfl
  · unfold maxLen; omega
  · omega
  · intro v' w' h1 h2 _
    refine h v' w' ?_ h2
    unfold Byt
    rw [List.length_append, List.map_append]
    exact h1

/-- What stands while a filter is built. -/
structure BldAt (w W : World) (g b z : Nat) (M : List Nat) (ds : List Nat) : Prop where
  fil : FilAt W w.heap.size g z M
  box : Blk W b 41 #[.slice (some ⟨g, 0, none⟩) z z]
  below : Below w.heap.size w W
  nd : ds.Nodup
  marks : ∀ D ∈ ds, w.heap.size ≤ D ∧ W.heap[D]? = some (.deferred (some []))

theorem BldAt.grown {w W W' : World} {g b z : Nat} {M ds : List Nat} {row : Option Nat} (h : BldAt w W g b z M ds) (hg : W.grownBy W' row) (hr : ∀ r, row = some r → w.heap.size ≤ r ∧ r ≠ g ∧ r ≠ b ∧ r ∉ ds) : BldAt w W' g b z M ds :=
  ⟨World.ownsRow.kept h.fil hg (Or.inr fun e => (hr g e.symm).2.1 rfl), h.box.grown hg (fun e => (hr b e.symm).2.2.1 rfl), h.below.grown hg h.below.size (fun k hk => (hr k hk).1), h.nd,
    fun D hD => ⟨(h.marks D hD).1, (hg.block D (Array.getElem?_eq_some_iff.1 (h.marks D hD).2).1 (fun e => (hr D e.symm).2.2.2 hD)).trans (h.marks D hD).2⟩⟩
theorem BldAt.alloc {w W : World} {g b z : Nat} {M ds : List Nat} (h : BldAt w W g b z M ds) (o : Obj) : BldAt w (W.alloc o) g b z M ds :=
  h.grown (World.grownBy_alloc W o none) (fun r e => by cases e)
theorem BldAt.ne {w W : World} {g b z : Nat} {M ds : List Nat} (h : BldAt w W g b z M ds) : ∀ D ∈ ds, D ≠ g := by
  rintro D hD rfl
  have h1 := (h.marks D hD).2
  rcases h.fil.2 with ⟨e, _⟩ | ⟨g', cap, cur, e, _, hh, _⟩
  · cases e
  · injection e with e1 _ _
    cases e1
    rw [hh] at h1
    cases h1
theorem BldAt.lt {w W : World} {g b z : Nat} {M ds : List Nat} (h : BldAt w W g b z M ds) : g < W.heap.size ∧ b < W.heap.size ∧ ∀ D ∈ ds, D < W.heap.size :=
  ⟨(World.ownsRow.lt h.fil g rfl).2, (Array.getElem?_eq_some_iff.1 h.box).1, fun D hD => (Array.getElem?_eq_some_iff.1 (h.marks D hD).2).1⟩

set_option maxRecDepth 100000 in
set_option maxHeartbeats 4000000 in
theorem bbuild_any (A : Option Addr) (n c x : Nat) (L : List ByteArray) (w : World) (hL : TextsAt w A n L) (hn : n ≤ 1000000) (hok : ∀ s ∈ L, s.size ≤ 9223372036854775807) (hT : LaidM w) :
    Calls Tryd.prog 10 #[.slice A n c, .float .f64 x] w fun e w' => e = .returned (.string (bloomT L x)) ∧ Below w.heap.size w w' := by
  obtain ⟨i0, hi0, hz0, hz1, hz2⟩ := info_parts u8info
  have HL := Lib.hid hL
  have Hok := Lib.hid hok
  have Hlen := Lib.hid hL.len
  have HT := Lib.hid hT
  have CS := fun W => Lib.hid (bsize_any (n : Int) x W (by omega))
  have CP := fun W => Lib.hid (bprobes_any x W)
  obtain ⟨z, hz⟩ : ∃ z, sizeN (n : Int) x = z := ⟨_, rfl⟩
  obtain ⟨k, hk⟩ : ∃ k, probesN x = k := ⟨_, rfl⟩
  have z1 := sizeN_ge (n : Int) x
  have z2 := sizeN_le (n : Int) x
  have k1 := probesN_ge x
  have k2 := probesN_le x
  obtain ⟨R, hR⟩ : ∃ R, bloomT L x = R := ⟨_, rfl⟩
  rw [hR]
  unfold bloomT at hR
  rw [← hL.len, hz, hk] at hR
  rw [hz] at CS z1 z2
  rw [hk] at k1 k2 CP
  have HR := Lib.hid hR
  clear hz hk hL hok hR hT
  refine (callsIn_wide (n := 5)).1 ?_
  refine callsIn_of_wp_marks Tryd.func10 rfl trivial ?_ rfl
  simp only [Tryd.ntmps10, List.size_toArray, List.length_cons, List.length_nil, Nat.reduceAdd, Nat.reduceSub, Array.replicate_succ, Array.replicate_zero, List.push_toArray, List.append_toArray, List.nil_append, List.cons_append]
  gi_wp2_with (first
    | (refine ⟨trivial, ?_⟩; gi_at_call 13; refine (callsIn_wide.2 (CP _).out).mono ?_; rintro e w1 ⟨rfl, hb0⟩)
    | (refine ⟨trivial, ?_⟩; gi_at_call 15; refine (callsIn_wide.2 (CS _).out).mono ?_; rintro e w2 ⟨rfl, hb1⟩)
    | (gi_at_make; refine wpListIn_make_full _ rfl (.tmp 15) (.tmp 15) 41 rfl w.heap.size 5 i0 (.int .u8 0) 1 Tryd.underlying41 hi0 hz0 hz1 .i64 .i64 _ _ z rfl rfl rfl rfl (by rw [hz2]; omega) (by unfold maxLen; omega) (Nat.le_trans hb0.size hb1.size) ?_; intro w3 hown hgr))
  have hb2 : Below w.heap.size w w3 := (hb0.trans (hb1.mono hb0.size)).grown hgr (Nat.le_trans hb0.size hb1.size) (by simp)
  rw [show (Value.int IntKind.u8 0).cells = #[Value.int .u8 0] from rfl, Nat.mul_one, madeU] at hown
  have hlt := World.ownsRow.lt hown w2.heap.size rfl
  have hbs := hb2.size
  have hB : BldAt w (w3.alloc (.cells #[.slice (some ⟨w2.heap.size, 0, none⟩) z z] 41)) w2.heap.size w3.heap.size z (List.replicate z 0) [] :=
    ⟨World.ownsRow.alloc hown _, Blk.new _ _ _, hb2.alloc hb2.size _, List.nodup_nil, fun D h => by cases h⟩
  generalize w3.alloc (.cells #[.slice (some ⟨w2.heap.size, 0, none⟩) z z] 41) = w5 at *
  generalize w2.heap.size = g at *
  generalize w3.heap.size = b at *
  have HB0 := Lib.hid hB
  obtain ⟨hg1, hgb⟩ := hlt
  clear hown hgr hb2 hb0 hb1 hB CS CP
  refine wpIn_loop (fun a' W => ∃ (i : Nat) (ds : List Nat) (u8 u19 u20 u21 u22 u23 u24 u25 u26 u27 u39 : Value), i ≤ n ∧ u19 = .int .i64 (i : Int) ∧
      a' = { tmps := #[.slice A n c, .float .f64 x, undef, undef, .string ⟨#[]⟩, .int .i64 (k : Int), .pointer (some ⟨b, 0, none⟩), undef, u8, undef, .float .f64 x, .int .i64 (k : Int), .slice A n c, .int .i64 (n : Int), .float .f64 x, .int .i64 (z : Int), .slice (some ⟨g, 0, none⟩) z z, .slice A n c, .int .i64 (n : Int),
        u19, u20, u21, u22, u23, u24, u25, u26, u27, undef, undef, undef, undef, undef, undef, undef, undef, undef, undef, undef, u39, undef, undef, undef, undef, undef, undef], defers := ds.map markD } ∧
      Hid (BldAt w W g b z (fillL (List.replicate z 0) z k ((L.map fun s => crc s.data.toList).take i)) ds)) (fun a' _ => n - (intOf (a'.tmps.getD 19 undef)).toNat) ?start ?round
  case start => exact ⟨0, [], _, _, _, _, _, _, _, _, _, _, _, by omega, rfl, rfl, Lib.hid (by rw [List.take_zero]; exact HB0.out)⟩
  case round =>
    rintro a' W ⟨i, ds, u8, u19, u20, u21, u22, u23, u24, u25, u26, u27, u39, hi, rfl, rfl, HB⟩
    clear HB0 w5
    by_cases hin : i < n
    · as_aux_lemma =>
      have hiL : i < L.length := by rw [← Hlen.out]; exact hin
      obtain ⟨s, hs⟩ : ∃ s, L[i]? = some s := ⟨_, List.getElem?_eq_getElem hiL⟩
      obtain ⟨g0, off, hA, hg0, y0⟩ := (HL.out.below HB.out.below).at_ i s hs
      subst hA
      have hso := Hok.out s (List.mem_of_getElem? hs)
      have CPL := fun W => Lib.hid (bplaces_any s z k W)
      have yb := HB.out.box.cell 0
      have i1 : (i : Int) < (n : Int) := by omega
      have i2 : (0 : Int) ≤ (i : Int) := by omega
      gi_wp2_with (refine ⟨trivial, ?_⟩; gi_at_call 25; refine (callsIn_wide.2 (CPL _).out).mono ?_; rintro e w6 ⟨rfl, rfl⟩)
      have D2 : Blk (((W.alloc (.cells #[.string s] 9)).alloc (.cells #[.int .i64 (z : Int)] 3)).alloc (.cells #[.int .i64 (k : Int)] 3)) W.heap.size 9 #[.string s] := ((Blk.new _ _ _).alloc _).alloc _
      have D3 : Blk (((W.alloc (.cells #[.string s] 9)).alloc (.cells #[.int .i64 (z : Int)] 3)).alloc (.cells #[.int .i64 (k : Int)] 3)) (W.heap.size + 1) 3 #[.int .i64 (z : Int)] := (Blk.new' (by simp) _ _).alloc _
      have D4 : Blk (((W.alloc (.cells #[.string s] 9)).alloc (.cells #[.int .i64 (z : Int)] 3)).alloc (.cells #[.int .i64 (k : Int)] 3)) (W.heap.size + 2) 3 #[.int .i64 (k : Int)] := Blk.new' (by simp) _ _
      have hB5 := ((HB.out.alloc (.cells #[.string s] 9)).alloc (.cells #[.int .i64 (z : Int)] 3)).alloc (.cells #[.int .i64 (k : Int)] 3)
      have hs5 : (((W.alloc (.cells #[.string s] 9)).alloc (.cells #[.int .i64 (z : Int)] 3)).alloc (.cells #[.int .i64 (k : Int)] 3)).heap.size = W.heap.size + 3 := by simp
      generalize ((W.alloc (.cells #[.string s] 9)).alloc (.cells #[.int .i64 (z : Int)] 3)).alloc (.cells #[.int .i64 (k : Int)] 3) = w5 at *
      have hlt := HB.out.lt
      have hM : fillL (List.replicate z 0) z k ((L.map fun s => crc s.data.toList).take (i + 1)) = (placesH (crc s.data.toList) z k).foldl markL (fillL (List.replicate z 0) z k ((L.map fun s => crc s.data.toList).take i)) := by
        rw [← fill_snoc, List.take_add_one, List.getElem?_map, hs]
        rfl
      have z0 : 0 < z := by omega
      have hh32 : crc s.data.toList < 4294967296 := by unfold crc; omega
      have hval := eltsP_val z z0 (crc s.data.toList) (turnH (crc s.data.toList)) hh32 k
      have hMl : (fillL (List.replicate z 0) z k ((L.map fun s => crc s.data.toList).take i)).length = z := by rw [fillL_length, List.length_replicate]
      have hMb : ∀ x ∈ fillL (List.replicate z 0) z k ((L.map fun s => crc s.data.toList).take i), x < 256 := fillL_byte _ _ _ _ (fun x hx => by rw [List.mem_replicate] at hx; omega)
      have hS := places_stops (m := 4) s hso z k z0 (by omega) (by omega) (by decide) w w5 HT.out hB5.below W.heap.size (W.heap.size + 2) (W.heap.size + 1) (by omega) (by omega) (by omega) (D2.cell 0) (D4.cell 0) (D3.cell 0)
      unfold placesH at hM
      rw [← hval] at hM
      generalize fillL (List.replicate z 0) z k ((L.map fun s => crc s.data.toList).take i) = M0 at *
      have Hsn := Lib.hid hM
      have HMl := Lib.hid hMl
      have HMb := Lib.hid hMb
      have Hlt := Lib.hid hlt
      have HB5 := Lib.hid hB5
      have hpx : w5.heap.size = W.heap.size + 3 := hs5
      have hb2 := D3
      clear hM hMl hMb hlt D2 D4 hB5 hs5 hval hh32 hs hso y0 yb CPL HB D3 hpx
      have Hs5 : Hid (g < w5.heap.size ∧ b < w5.heap.size ∧ ∀ D ∈ ds, D < w5.heap.size) := Lib.hid HB5.out.lt
      have Hne : Hid (g < W.heap.size ∧ b < W.heap.size) := Lib.hid ⟨Hlt.out.1, Hlt.out.2.1⟩
      refine wpIn_rangeFunc_ownF (α := Elt z) rfl (by decide) (gf := 36) (lb := #[.pointer (some ⟨W.heap.size, 0, none⟩), .pointer (some ⟨W.heap.size + 2, 0, none⟩), .pointer (some ⟨W.heap.size + 1, 0, none⟩)]) rfl trivial (enters_of Tryd.func36 (by kernel_rfl) rfl)
        hS kpC_t (fun W l o o' _ h ho _ => kpC_b W l o o' h ho) (Below.refl _ _) (fun _ => rfl)
        (fun pre W' => BldAt w W' g b z ((pre.map Subtype.val).foldl markL M0) ds)
        (fun _ _ _ => False)
        (fun pre A C row hs hg hr => hs.grown hg (fun r e => by
          have h1 := (hr r e).1
          have h2 := Hs5.out
          have h3 := HB5.out.below.size
          exact ⟨by omega, by omega, by omega, fun h4 => by have := h2.2.2 r h4; omega⟩))
        (fun c pre A C row hs hg hr => hs)
        HB5.out
        (fun y => { tmps := #[.slice (some ⟨g0, off, none⟩) n c, .float .f64 x, undef, undef, .string ⟨#[]⟩, .int .i64 (k : Int), .pointer (some ⟨b, 0, none⟩), undef, .string s, .int .i64 (y.1 : Int), .float .f64 x, .int .i64 (k : Int), .slice (some ⟨g0, off, none⟩) n c, .int .i64 (n : Int), .float .f64 x, .int .i64 (z : Int), .slice (some ⟨g, 0, none⟩) z z, .slice (some ⟨g0, off, none⟩) n c, .int .i64 (n : Int),
          .int .i64 (i : Int), .bool true, .pointer (some ⟨g0, off + i, none⟩), .string s, .string s, .slice (some ⟨g, 0, none⟩) z z, .int .i64 (z : Int), .int .i64 (k : Int),
          .func (.func 36) #[] #[.pointer (some ⟨W.heap.size, 0, none⟩), .pointer (some ⟨W.heap.size + 2, 0, none⟩), .pointer (some ⟨W.heap.size + 1, 0, none⟩)], .int .i64 (y.1 : Int), undef, undef, undef, undef, undef, undef, undef, undef, undef, undef, u39, undef, undef, undef, undef, undef, undef], defers := [] }) ?assign ?body ?done ?stop
      case assign =>
        intro l y W' K hK
        have hsem := @Oper.semAt_some
        gi_wp2
        exact hK
      case body =>
        rintro l pre ⟨p, hp⟩ W' hI hlt
        have hmx : Tryd.prog.follows .mixedOrders = true := by kernel_rfl
        have hsem := @Oper.semAt_some
        have yb := hI.box.cell 0
        obtain ⟨q, hq⟩ : ∃ q, p / 8 = q := ⟨_, rfl⟩
        obtain ⟨j, hj⟩ : ∃ j, p % 8 = j := ⟨_, rfl⟩
        have z3 : (p : Int) / 8 = (q : Int) := by omega
        have z4 : (p : Int) % 8 = (j : Int) := by omega
        have z5 : (q : Int) < (z : Int) := by omega
        have z6 : (0 : Int) ≤ (q : Int) := by omega
        have z7 : (p : Int).tmod 8 = (j : Int) := by rw [Int.tmod_eq_emod_of_nonneg (by omega)]; exact z4
        have z8 : (0 : Int) ≤ (j : Int) := by omega
        have z9 : ¬ (j : Int) < 0 := by omega
        have wq : IntKind.i64.wrap (q : Int) = (q : Int) := by rw [IntKind.wrap_i64]; omega
        have wj : IntKind.i64.wrap (j : Int) = (j : Int) := by rw [IntKind.wrap_i64]; omega
        have hsn : ((pre ++ [(⟨p, hp⟩ : Elt z)]).map Subtype.val).foldl markL M0 = markL ((pre.map Subtype.val).foldl markL M0) p := by
          rw [List.map_append, List.foldl_append]
          rfl
        have hlM : ((pre.map Subtype.val).foldl markL M0).length = z := by rw [marks_length]; exact HMl.out
        have hbM := marks_byte (pre.map Subtype.val) M0 HMb.out
        generalize (pre.map Subtype.val).foldl markL M0 = M at *
        have hqM : q < M.length := by rw [hlM]; omega
        have hby := getD_lt 256 M q (by decide) hbM
        obtain ⟨y, hy⟩ : ∃ y, M.getD q 0 = y := ⟨_, rfl⟩
        rw [hy] at hby
        have hMq : (M.map cU)[q]? = some (cU y) := by
          rw [List.getElem?_map, List.getElem?_eq_getElem hqM]
          rw [List.getD_eq_getElem?_getD, List.getElem?_eq_getElem hqM] at hy
          rw [← hy]; rfl
        have y1 := World.ownsRow.cellAt hI.fil q (by omega)
        rw [hMq] at y1
        have y2 := World.ownsRow.frozenAt hI.fil q
        have hor := bit_or j (by omega) y hby
        have hmk2 : M.set q (y ||| 2 ^ j) = markL M p := by unfold markL; rw [hq, hj, hy]
        have Hsn2 := Lib.hid (hsn.trans hmk2.symm)
        unfold cU at y1
        have HI := Lib.hid hI
        clear hsn hlM hbM hqM hy hMq hmk2 hI hS
        dsimp only
        gi_wp2
        refine wpIn_round_still_tail 10 hmx (by kernel_rfl) (fun h => ?_) (by kernel_rfl) ?_
        · obtain ⟨a9, w9, h9⟩ := h
          exact h9
        simp only [List.take_succ_cons, List.take_zero, List.drop_succ_cons, List.drop_zero]
        repeat still_step
        try refine wpStill_nil ?_
        go_wp2_with fail
        rw [hor]
        have hst := (World.ownsRow.stored HI.out.fil q (.int .u8 ((y ||| 2 ^ j : Nat) : Int))).1
        have hgl := (World.ownsRow.lt HI.out.fil g rfl).1
        refine ⟨(KeepsOthers.setCell W' _ _).trans (KeepsOthers.drew _), fun v hv => ?_, ⟨?_, ?_, ?_, HI.out.nd, fun D hD => ⟨(HI.out.marks D hD).1, ?_⟩⟩⟩
        · exact (World.cell?_setCell_far W' ⟨g, q, none⟩ ⟨W.heap.size + 1, 0, none⟩ _ (by show g ≠ W.heap.size + 1; have := Hne.out.1; omega)).trans hv
        · rw [Hsn2.out]
          show World.ownsRow _ _ _ _ _ _ ((M.set q (y ||| 2 ^ j)).map cU)
          rw [← set_map]
          exact hst
        · exact HI.out.box.far (p := ⟨g, q, none⟩) (by show b ≠ g; omega) _
        · exact (below_setCell HI.out.below (p := ⟨g, q, none⟩) hgl _).drew
        · exact (KeepsOthers.setCell W' _ _).same D _ (HI.out.marks D hD).2 rfl
      case done =>
        rintro D ys W' hD rfl hI hK
        rw [← Hsn.out] at hI
        have HI := Lib.hid hI
        have HK := Lib.hid hK
        clear hI hK
        gi_wp2
        refine ⟨⟨i + 1, D :: ds, _, .int .i64 ((i : Int) + 1), _, _, _, _, _, _, _, _, _, by omega, rfl, rfl, Lib.hid ⟨HI.out.fil, HI.out.box, HI.out.below, List.nodup_cons.2 ⟨fun h => by have := Hs5.out.2.2 D h; omega, HI.out.nd⟩, fun E hE => ?_⟩⟩, ?_⟩
        · rcases List.mem_cons.1 hE with rfl | hE
          · exact ⟨Nat.le_trans HB5.out.below.size hD, HK.out⟩
          · exact HI.out.marks E hE
        · show n - (intOf (.int .i64 ((i : Int) + 1))).toNat < n - (intOf (.int .i64 (i : Int))).toNat
          simp [intOf]
          omega
      case stop =>
        rintro D c pre W' _ _ h _
        exact h.elim
    · as_aux_lemma =>
      obtain rfl : i = n := by omega
      have hall : (L.map fun s => crc s.data.toList).take i = L.map fun s => crc s.data.toList := List.take_of_length_le (by rw [List.length_map]; exact Nat.le_of_eq Hlen.out.symm)
      have hF := HB.out.fil
      rw [hall] at hF
      have hMl : (fillL (List.replicate z 0) z k (L.map fun s => crc s.data.toList)).length = z := by rw [fillL_length, List.length_replicate]
      have hMb : ∀ x ∈ fillL (List.replicate z 0) z k (L.map fun s => crc s.data.toList), x < 256 := fillL_byte _ _ _ _ (fun x hx => by rw [List.mem_replicate] at hx; omega)
      have hRR := HR.out
      unfold filterT filterL at hRR
      have Hm : Hid ((∀ D ∈ ds, w.heap.size ≤ D ∧ W.heap[D]? = some (.deferred (some []))) ∧ ds.Nodup ∧ Below w.heap.size w W) := Lib.hid ⟨HB.out.marks, HB.out.nd, HB.out.below⟩
      have Hng := Lib.hid HB.out.ne
      have yb := HB.out.box.cell 0
      generalize fillL (List.replicate z 0) z k (L.map fun s => crc s.data.toList) = M at *
      have hby : Byt W w.heap.size 5 (.slice (some ⟨g, 0, none⟩) z z) (M.map UInt8.ofNat) := by
        unfold Byt
        rw [List.length_map, hMl, List.map_map]
        unfold FilAt at hF
        rwa [show M.map (b8 ∘ UInt8.ofNat) = M.map cU from List.map_congr_left fun x hx => by
          show Value.int .u8 ((UInt8.ofNat x).toNat : Int) = Value.int .u8 (x : Int)
          rw [UInt8.toNat_ofNat', Nat.mod_eq_of_lt (hMb x hx)]]
      have k256 : (k : Int) % 256 = (k : Int) := by omega
      have hlM : (M.map UInt8.ofNat).length = z := by rw [List.length_map, hMl]
      have Hby := Lib.hid (Byt.alloc hby (.cells #[.int .u8 (k : Int)] 5))
      have HlM := Lib.hid hlM
      have HRR := Lib.hid hRR
      clear hall hF hMl hMb hRR hby HB HR
      have hi1 : ¬ (i : Int) < (i : Int) := by omega
      gi_wp2_with (gi_at_builtin; refine wpListIn_append_byteM _ rfl (.tmp 40) (.tmp 43) 41 rfl Tryd.underlying41 u8info rfl Hby.out ⟨W.heap.size, 0, none⟩ 1 rfl (k : Int) (cell_new _ _ _) (UInt8.ofNat k) (by rw [UInt8.toNat_ofNat', Nat.mod_eq_of_lt (by omega)]) (by rw [HlM.out]; omega) (Nat.le_trans Hm.out.2.2.size (by simp)) ?_; intro v' w' hby2 hgr; have hcv := hby2.string (src := 41) (dst := 9) Tryd.underlying41 Tryd.underlying5 Tryd.underlying9; rw [show (M.map UInt8.ofNat ++ [UInt8.ofNat k]) = (M ++ [k]).map UInt8.ofNat from by rw [List.map_append]; rfl, HRR.out] at hcv)
      have hb8 : Below w.heap.size w (W.alloc (.cells #[.int .u8 (k : Int)] 5)) := below_alloc Hm.out.2.2 (Nat.le_refl _) _
      have hb9 : Below w.heap.size w w' := Byt.grown Hby.out hb8 (Nat.le_trans Hm.out.2.2.size (by simp)) hgr
      refine leaves_marks w.heap.size w (fun W2 hb => ⟨_, results_tmp rfl _ _ _, rfl, hb⟩) ds w' Hm.out.2.1 (fun D hD => ⟨(Hm.out.1 D hD).1, ?_⟩) hb9
      have h1 := (Hm.out.1 D hD).2
      have h2 : (W.alloc (.cells #[.int .u8 (k : Int)] 5)).heap[D]? = some (.deferred (some [])) := ((World.grownBy_alloc W _ none).block D (Array.getElem?_eq_some_iff.1 h1).1 (fun e => by cases e)).trans h1
      exact (hgr.block D (Array.getElem?_eq_some_iff.1 h2).1 (fun e => Hng.out D hD (by cases e; rfl))).trans h2
end Go.Proofs.YtgiodfpkkdaflaaDoor

namespace Go.Proofs.YtgiodfpkkdaflaaDoor
open Go.RowKit

theorem probes_ten : probesN 4621819117588971520 = 7 := by decide +kernel
theorem probes_inf : probesN 9218868437227405312 = 30 := by decide +kernel
theorem size_ten : sizeN 100 4621819117588971520 = 125 := by decide +kernel
theorem size_one : sizeN 1 4621819117588971520 = 8 := by decide +kernel
theorem size_none_inf : sizeN 0 9218868437227405312 = 8 := by decide +kernel
theorem size_minus (n : Int) : sizeN n 9223372036854775808 = 8 := sizeN_nul n _ (by decide)
end Go.Proofs.YtgiodfpkkdaflaaDoor

namespace Go.Proofs.YtgiodfpkkdaflaaDoor
open Go.RowKit

theorem run_float64bits (x : Nat) (w : World) : (callFunc 35 #[.float .f64 x]).run Tryd.prog w = .ok (.value (.int .u64 (x : Int))) w := by
  rw [run_callFunc_extern (e := Extern.MathFloatBits.float64bits) Tryd.func35 (by kernel_rfl) (by kernel_rfl) (by kernel_rfl) (by kernel_rfl)]
  rfl
theorem run_neg_float (x : Nat) (w : World) : (Op.unary .neg (.float .f64 x)).run Tryd.prog w = .ok (.float .f64 (Op.negFloat .f64 x)) w := rfl

theorem xor_max_int (x : Nat) (hx : x < 18446744073709551616) : bits .xor .u64 18446744073709551615 (x : Int) = ((18446744073709551615 - x : Nat) : Int) := u64_not_nat x hx

def sgnC (s t : Bool) : Int := if s == t then 0 else if s then -1 else 1

def maxN (x y : Nat) : Nat := if cmpN x y < 0 then y else x
def minN (x y : Nat) : Nat := if cmpN x y > 0 then y else x

end Go.Proofs.YtgiodfpkkdaflaaDoor

namespace Go.Proofs.YtgiodfpkkdaflaaDoor
open Go.RowKit

/-- A digit of sixteen. -/
def hx (n : Nat) : UInt8 := if n < 10 then UInt8.ofNat (48 + n) else UInt8.ofNat (87 + n)
/-- A byte in quotes. -/
def qb (c : UInt8) : List UInt8 :=
  if c.toNat < 32 ∨ 126 < c.toNat then [92, 120, hx (c.toNat / 16), hx (c.toNat % 16)] else if c.toNat = 34 ∨ c.toNat = 92 then [92, c] else [c]
def quoteL (l : List UInt8) : List UInt8 := 34 :: (l.map qb).flatten ++ [34]
theorem qb_len (c : UInt8) : 1 ≤ (qb c).length ∧ (qb c).length ≤ 4 := by
  unfold qb
  split
  · simp
  · split <;> simp
theorem flat_len (l : List UInt8) : (l.map qb).flatten.length ≤ 4 * l.length := by
  induction l with
  | nil => simp
  | cons c r ih =>
    have := (qb_len c).2
    rw [List.map_cons, List.flatten_cons, List.length_append, List.length_cons]
    omega
theorem flat_snoc (s : ByteArray) (k : Nat) (h : k < s.size) : ((s.data.toList.take (k + 1)).map qb).flatten = ((s.data.toList.take k).map qb).flatten ++ qb s[k] := by
  rw [List.take_succ_eq_append_getElem (by simpa using h), List.map_append, List.flatten_append]
  simp; rfl

theorem hexidx0 (W : World) : (Instr.index 9 (.string ⟨#[48, 49, 50, 51, 52, 53, 54, 55, 56, 57, 97, 98, 99, 100, 101, 102]⟩) (.int .u8 0)).run Tryd.prog W = .ok (.int .u8 48) W := by kernel_rfl
theorem hexidx1 (W : World) : (Instr.index 9 (.string ⟨#[48, 49, 50, 51, 52, 53, 54, 55, 56, 57, 97, 98, 99, 100, 101, 102]⟩) (.int .u8 1)).run Tryd.prog W = .ok (.int .u8 49) W := by kernel_rfl
theorem hexidx2 (W : World) : (Instr.index 9 (.string ⟨#[48, 49, 50, 51, 52, 53, 54, 55, 56, 57, 97, 98, 99, 100, 101, 102]⟩) (.int .u8 2)).run Tryd.prog W = .ok (.int .u8 50) W := by kernel_rfl
theorem hexidx3 (W : World) : (Instr.index 9 (.string ⟨#[48, 49, 50, 51, 52, 53, 54, 55, 56, 57, 97, 98, 99, 100, 101, 102]⟩) (.int .u8 3)).run Tryd.prog W = .ok (.int .u8 51) W := by kernel_rfl
theorem hexidx4 (W : World) : (Instr.index 9 (.string ⟨#[48, 49, 50, 51, 52, 53, 54, 55, 56, 57, 97, 98, 99, 100, 101, 102]⟩) (.int .u8 4)).run Tryd.prog W = .ok (.int .u8 52) W := by kernel_rfl
theorem hexidx5 (W : World) : (Instr.index 9 (.string ⟨#[48, 49, 50, 51, 52, 53, 54, 55, 56, 57, 97, 98, 99, 100, 101, 102]⟩) (.int .u8 5)).run Tryd.prog W = .ok (.int .u8 53) W := by kernel_rfl
theorem hexidx6 (W : World) : (Instr.index 9 (.string ⟨#[48, 49, 50, 51, 52, 53, 54, 55, 56, 57, 97, 98, 99, 100, 101, 102]⟩) (.int .u8 6)).run Tryd.prog W = .ok (.int .u8 54) W := by kernel_rfl
theorem hexidx7 (W : World) : (Instr.index 9 (.string ⟨#[48, 49, 50, 51, 52, 53, 54, 55, 56, 57, 97, 98, 99, 100, 101, 102]⟩) (.int .u8 7)).run Tryd.prog W = .ok (.int .u8 55) W := by kernel_rfl
theorem hexidx8 (W : World) : (Instr.index 9 (.string ⟨#[48, 49, 50, 51, 52, 53, 54, 55, 56, 57, 97, 98, 99, 100, 101, 102]⟩) (.int .u8 8)).run Tryd.prog W = .ok (.int .u8 56) W := by kernel_rfl
theorem hexidx9 (W : World) : (Instr.index 9 (.string ⟨#[48, 49, 50, 51, 52, 53, 54, 55, 56, 57, 97, 98, 99, 100, 101, 102]⟩) (.int .u8 9)).run Tryd.prog W = .ok (.int .u8 57) W := by kernel_rfl
theorem hexidx10 (W : World) : (Instr.index 9 (.string ⟨#[48, 49, 50, 51, 52, 53, 54, 55, 56, 57, 97, 98, 99, 100, 101, 102]⟩) (.int .u8 10)).run Tryd.prog W = .ok (.int .u8 97) W := by kernel_rfl
theorem hexidx11 (W : World) : (Instr.index 9 (.string ⟨#[48, 49, 50, 51, 52, 53, 54, 55, 56, 57, 97, 98, 99, 100, 101, 102]⟩) (.int .u8 11)).run Tryd.prog W = .ok (.int .u8 98) W := by kernel_rfl
theorem hexidx12 (W : World) : (Instr.index 9 (.string ⟨#[48, 49, 50, 51, 52, 53, 54, 55, 56, 57, 97, 98, 99, 100, 101, 102]⟩) (.int .u8 12)).run Tryd.prog W = .ok (.int .u8 99) W := by kernel_rfl
theorem hexidx13 (W : World) : (Instr.index 9 (.string ⟨#[48, 49, 50, 51, 52, 53, 54, 55, 56, 57, 97, 98, 99, 100, 101, 102]⟩) (.int .u8 13)).run Tryd.prog W = .ok (.int .u8 100) W := by kernel_rfl
theorem hexidx14 (W : World) : (Instr.index 9 (.string ⟨#[48, 49, 50, 51, 52, 53, 54, 55, 56, 57, 97, 98, 99, 100, 101, 102]⟩) (.int .u8 14)).run Tryd.prog W = .ok (.int .u8 101) W := by kernel_rfl
theorem hexidx15 (W : World) : (Instr.index 9 (.string ⟨#[48, 49, 50, 51, 52, 53, 54, 55, 56, 57, 97, 98, 99, 100, 101, 102]⟩) (.int .u8 15)).run Tryd.prog W = .ok (.int .u8 102) W := by kernel_rfl
theorem hexidx (n : Nat) (h : n < 16) (W : World) : (Instr.index 9 (.string ⟨#[48, 49, 50, 51, 52, 53, 54, 55, 56, 57, 97, 98, 99, 100, 101, 102]⟩) (.int .u8 (n : Int))).run Tryd.prog W = .ok (.int .u8 ((hx n).toNat : Int)) W := by
  match n, h with
  | 0, _ => exact hexidx0 W
  | 1, _ => exact hexidx1 W
  | 2, _ => exact hexidx2 W
  | 3, _ => exact hexidx3 W
  | 4, _ => exact hexidx4 W
  | 5, _ => exact hexidx5 W
  | 6, _ => exact hexidx6 W
  | 7, _ => exact hexidx7 W
  | 8, _ => exact hexidx8 W
  | 9, _ => exact hexidx9 W
  | 10, _ => exact hexidx10 W
  | 11, _ => exact hexidx11 W
  | 12, _ => exact hexidx12 W
  | 13, _ => exact hexidx13 W
  | 14, _ => exact hexidx14 W
  | 15, _ => exact hexidx15 W
  | n + 16, h => omega
theorem and_15 : ∀ c : Nat, c < 256 → bits .and .u8 (c : Int) 15 = ((c % 16 : Nat) : Int) := by decide +kernel

end Go.Proofs.YtgiodfpkkdaflaaDoor

namespace Go.Proofs.YtgiodfpkkdaflaaDoor
open Go.RowKit

/-! ### The reader's steps, of its whole block -/
/-! ### Digits -/
/-- The worth of a digit of sixteen. -/
def hexv (c : Nat) : Option Nat := if 97 ≤ c ∧ c ≤ 102 then some (c - 87) else if 65 ≤ c ∧ c ≤ 70 then some (c - 55) else if 48 ≤ c ∧ c ≤ 57 then some (c - 48) else none

/-! ### What stands behind a backslash -/
def escx : List UInt8 → Option (UInt8 × Nat)
  | a :: b :: _ => (hexv a.toNat).bind fun x => (hexv b.toNat).map fun y => (UInt8.ofNat (16 * x + y), 3)
  | _ => none
def esc : List UInt8 → Option (UInt8 × Nat)
  | [] => none
  | c :: r => if c.toNat = 34 ∨ c.toNat = 92 then some (c, 1) else if c.toNat = 120 then escx r else none

theorem escx_cons (a b : UInt8) (t : List UInt8) : escx (a :: b :: t) = (hexv a.toNat).bind fun x => (hexv b.toNat).map fun y => (UInt8.ofNat (16 * x + y), 3) := rfl
theorem hexv_lt {c v : Nat} (h : hexv c = some v) : v < 16 := by
  unfold hexv at h
  split at h
  · injection h; omega
  · split at h
    · injection h; omega
    · split at h
      · injection h; omega
      · cases h

theorem grown_trans {a b c : World} {p : Nat} (h : a.grownBy b (some p)) (k : b.grownBy c (some p)) : a.grownBy c (some p) :=
  ⟨k.os.trans h.os, k.tape.trans h.tape, k.output.trans h.output, Nat.le_trans h.size k.size, fun i hi hne => (k.block i (Nat.lt_of_lt_of_le hi h.size) hne).trans (h.block i hi hne)⟩

theorem or_nib (x y : Nat) (hx : x < 16) (hy : y < 16) : bits .or .u8 ((x : Int) * 16) (y : Int) = ((UInt8.ofNat (16 * x + y)).toNat : Int) := by
  have h : ∀ x < 16, ∀ y < 16, bits .or .u8 (((x * 16 : Nat) : Int)) ((y : Nat) : Int) = ((16 * x + y : Nat) : Int) := by decide +kernel
  rw [show ((x : Int) * 16) = ((x * 16 : Nat) : Int) from by omega, h x hx y hy, u8_of _ (by omega)]

/-! ### What stands in quotes, behind the first of them -/
theorem esc_pos {l : List UInt8} {c : UInt8} {n : Nat} (h : esc l = some (c, n)) : 1 ≤ n ∧ n ≤ l.length := by
  cases l with
  | nil => cases h
  | cons a r =>
    rw [esc] at h
    split at h
    · injection h with h; injection h with _ h; subst h; simp
    · split at h
      · cases r with
        | nil => cases h
        | cons b t =>
          cases t with
          | nil => cases h
          | cons d t =>
            rw [escx_cons] at h
            cases hx : hexv b.toNat with
            | none => rw [hx] at h; cases h
            | some x =>
              cases hy : hexv d.toNat with
              | none => rw [hx, hy] at h; cases h
              | some y =>
                rw [hx, hy] at h
                injection h with h; injection h with _ h; subst h; simp
      · cases h

def uq (l : List UInt8) : Option (List UInt8 × Nat) :=
  match l with
  | [] => none
  | c :: r => if c.toNat = 34 then some ([], 1) else if c.toNat = 92 then
      match _h : esc r with
      | some (d, n) => (uq (r.drop n)).map fun x => (d :: x.1, x.2 + n + 1)
      | none => none
    else if 32 ≤ c.toNat ∧ c.toNat ≤ 126 then (uq r).map fun x => (c :: x.1, x.2 + 1) else none
  termination_by l.length
  decreasing_by
    · simp; omega
    · simp
/-- acc has been gathered out of n bytes; the rest says x. -/
def onto (acc : List UInt8) (n : Nat) (x : Option (List UInt8 × Nat)) : Option (List UInt8 × Nat) := x.map fun x => (acc ++ x.1, n + x.2)

theorem uq_end (c : UInt8) (r : List UInt8) (h : c.toNat = 34) : uq (c :: r) = some ([], 1) := by rw [uq, if_pos h]
theorem uq_esc (c : UInt8) (r : List UInt8) (d : UInt8) (n : Nat) (h : c.toNat = 92) (he : esc r = some (d, n)) (acc : List UInt8) (m : Nat) : onto acc m (uq (c :: r)) = onto (acc ++ [d]) (m + 1 + n) (uq (r.drop n)) := by
  rw [uq, if_neg (by omega), if_pos h]
  split
  · rename_i d' n' h'
    rw [he] at h'
    injection h' with h'
    injection h' with h1 h2
    subst h1; subst h2
    unfold onto
    cases uq (r.drop n) with
    | none => rfl
    | some x =>
      simp
      omega
  · rename_i h'
    rw [he] at h'
    cases h'
theorem uq_bad (c : UInt8) (r : List UInt8) (h : c.toNat = 92) (he : esc r = none) : uq (c :: r) = none := by
  rw [uq, if_neg (by omega), if_pos h]
  split
  · rename_i d' n' h'
    rw [he] at h'
    cases h'
  · rfl
theorem uq_plain (c : UInt8) (r : List UInt8) (h1 : c.toNat ≠ 34) (h2 : c.toNat ≠ 92) (h : 32 ≤ c.toNat ∧ c.toNat ≤ 126) (acc : List UInt8) (m : Nat) : onto acc m (uq (c :: r)) = onto (acc ++ [c]) (m + 1) (uq r) := by
  rw [uq, if_neg h1, if_neg h2, if_pos h]
  unfold onto
  cases uq r with
  | none => rfl
  | some x =>
    simp
    omega
theorem uq_not (c : UInt8) (r : List UInt8) (h1 : c.toNat ≠ 34) (h2 : c.toNat ≠ 92) (h : ¬ (32 ≤ c.toNat ∧ c.toNat ≤ 126)) : uq (c :: r) = none := by
  rw [uq, if_neg h1, if_neg h2, if_neg h]

def unq : List UInt8 → Option (List UInt8 × Nat)
  | [] => none
  | c :: r => if c.toNat = 34 then onto [] 1 (uq r) else none

end Go.Proofs.YtgiodfpkkdaflaaDoor

namespace Go.Proofs.YtgiodfpkkdaflaaDoor
open Go.RowKit

/-! ### Get -/
def getL (l : List UInt8) : Nat := l.foldl (fun a c => a * 256 + c.toNat) 0
theorem getL_snoc (s : ByteArray) (k : Nat) (h : k < s.size) : getL (s.data.toList.take (k + 1)) = getL (s.data.toList.take k) * 256 + s[k].toNat := by
  unfold getL
  rw [List.take_succ_eq_append_getElem (by simpa using h), List.foldl_append]
  rfl

/-! ### Number -/
def digs : List UInt8 → Nat → Option Nat
  | [], a => some a
  | c :: r, a => if 48 ≤ c.toNat ∧ c.toNat ≤ 57 then digs r (a * 10 + (c.toNat - 48)) else none
def natL (l : List UInt8) : Option Nat := if l.length < 1 ∨ 16 < l.length ∨ (l.headD 0).toNat = 48 then none else digs l 0

end Go.Proofs.YtgiodfpkkdaflaaDoor

namespace Go.Proofs.YtgiodfpkkdaflaaDoor
open Go.RowKit

theorem be_step7 (v k : Nat) (h : k < 8) : (((be v 8).take k ++ List.replicate (8 - k) (0 : UInt8)).map b8).set k (.int .u8 ((v : Int) / 2 ^ (8 * (7 - k)) % 256)) =
    ((be v 8).take (k + 1) ++ List.replicate (8 - (k + 1)) (0 : UInt8)).map b8 := be_step v 8 k h

theorem run_float64frombits (z : Int) (w : World) : (callFunc 34 #[.int .u64 z]).run Tryd.prog w = .ok (.value (.float .f64 z.toNat)) w := by
  rw [run_callFunc_extern (e := Extern.MathFloatBits.float64frombits) Tryd.func34 (by kernel_rfl) (by kernel_rfl) (by kernel_rfl) (by kernel_rfl)]
  rfl
theorem ret_float {a b : Nat} (h : a = b) : Ending.returned (.float .f64 a) = .returned (.float .f64 b) := by rw [h]

def getF (r : Nat) : Nat × Int := if rankN (unrankN r) = r then (unrankN r, 0) else (0, 4)

end Go.Proofs.YtgiodfpkkdaflaaDoor

namespace Go.Proofs.YtgiodfpkkdaflaaDoor
open Go.RowKit

/-- The NaN that the model's tape gives where a quotient is none. -/
def tapeNan (w : World) (x y : Nat) : Nat := (Question.nanBits .f64 x y).cut (w.tape w.drawn (.nanBits .f64 x y))
theorem tapeNan_is (w : World) (x y : Nat) : isN (tapeNan w x y) = true ∧ tapeNan w x y < 18446744073709551616 := by
  have e : tapeNan w x y = (w.tape w.drawn (.nanBits .f64 x y) % 2) * 2 ^ 63 + 0x7ff0000000000000 + 1 + (w.tape w.drawn (.nanBits .f64 x y) / 2) % (2 ^ 52 - 1) := rfl
  rw [e]
  generalize w.tape w.drawn (.nanBits .f64 x y) = t
  have h1 : t / 2 % (2 ^ 52 - 1) < 2 ^ 52 - 1 := Nat.mod_lt _ (by decide)
  generalize t / 2 % (2 ^ 52 - 1) = u at *
  unfold isN rung infR
  refine ⟨decide_eq_true ?_, ?_⟩ <;> omega
theorem run_quo_nan (x y : Nat) (h : floatBits .quo .f64 x y = none) (w : World) : (binOp .quo 23 (.float .f64 x) (.float .f64 y)).run Tryd.prog w = .ok (.float .f64 (tapeNan w x y)) w.drew := by
  have h : FloatKind.f64.format.div x y = none := h
  simp [binOp, Op.floatArith, h, Question.forced]
  rfl

def RatP (w : World) (g : Option Nat) (e : Ending) (w' : World) : Prop :=
  match g with
  | some r => e = .returned (.float .f64 r) ∧ w = w'
  | none => ∃ z, e = .returned (.float .f64 z) ∧ Hid (isN z = true) ∧ z < 18446744073709551616 ∧ Below w.heap.size w w'

set_option maxRecDepth 100000 in
set_option maxHeartbeats 1000000 in
theorem fratio_any (a b : Int) (w : World) :
    Calls Tryd.prog 33 #[.int .i64 a, .int .i64 b] w fun e w' => RatP w (floatBits .quo .f64 (floatOfInt .f64 a) (floatOfInt .f64 b)) e w' := by
  cases h : floatBits .quo .f64 (floatOfInt .f64 a) (floatOfInt .f64 b) with
  | some r =>
    have hq := fun W : World => run_float_arith (P := Tryd.prog) W .quo 23 .f64 _ _ _ h
    clear h
    go_enter Tryd.func33, Tryd.ntmps33
    go_wp2_with fail
    go_ret
    exact ⟨rfl, rfl⟩
  | none =>
    have hq := run_quo_nan _ _ h
    have hz := Lib.hid (fun W => tapeNan_is W (floatOfInt .f64 a) (floatOfInt .f64 b))
    clear h
    go_enter Tryd.func33, Tryd.ntmps33
    go_wp2_with fail
    go_ret
    exact ⟨_, rfl, (hz.out _).1, (hz.out _).2, (Below.refl _ _).drew⟩
end Go.Proofs.YtgiodfpkkdaflaaDoor

namespace Go.Proofs.YtgiodfpkkdaflaaDoor
open Go.RowKit Go.WideShapes Go.ChangeShapes

/-- What texts hold together, as the second form counts it. -/
def bulkT : List ByteArray → Nat
  | [] => 0
  | s :: r => s.size + 1 + bulkT r
theorem bulk_strs {H : Type} : ∀ L : List ByteArray, Rows.uptoBulkAll (strs (H := H) L) = bulkT L
  | [] => by simp [strs, Rows.uptoBulkAll, bulkT]
  | s :: r => by
    have h := bulk_strs (H := H) r
    unfold strs at h ⊢
    rw [List.map_cons, Rows.uptoBulkAll, h, bulkT]
    simp only [Rows.uptoBulk]
    rfl
section
variable {H : Type} {enc : TypeId × Value → H} {P : Program} {w : World} {t e : TypeId} {A : Option Addr} {n cp : Nat} {d : DataW H} {p : List MemPlace}
theorem texts_view (ht : P.underlying t = some (.slice e)) (he : P.underlying e = some .string) (hc : P.cellsOf e = 1) (h : DataW.Trod enc P w 0 (fun _ => true) true t (.slice A n cp) d p) :
    ∃ L, TextsAt w A n L ∧ bulkT L ≤ Rows.uptoBulk d := by
  obtain ⟨fuel, hf⟩ := h
  rcases open_strings ht he hc hf with ⟨hcs, _⟩ | ⟨a, len', cap', ss, hcs, _, hl, hm, hz, hx, hcell, hwz⟩
  · simp [Value.cells] at hcs
    obtain ⟨rfl, rfl, rfl⟩ := hcs
    exact ⟨[], ⟨rfl, fun i s hs => by simp at hs⟩, Nat.zero_le _⟩
  · simp [Value.cells] at hcs
    obtain ⟨rfl, rfl, rfl⟩ := hcs
    rw [if_pos rfl] at hz
    have hd : d = .slice (strs (ss.take n)) (strs (ss.drop n)) := congrArg Prod.fst hx
    refine ⟨ss.take n, ⟨by simp; omega, fun i s hs => ?_⟩, ?_⟩
    · have hi := (List.getElem?_eq_some_iff.1 hs).1
      have hil : i < n := by rw [List.length_take] at hi; omega
      obtain ⟨b, off, spot⟩ := a
      have hspot : spot = none := by simpa [Addr.add] using World.cell?_spot (hcell 0 (by omega))
      subst hspot
      have hcc := hcell i (by omega)
      rw [Go.WideShapes.add_plain] at hcc
      have hsg : ss.getD i ByteArray.empty = s := by
        rw [List.getElem?_take, if_pos hil] at hs
        rw [List.getD_eq_getElem?_getD, hs]
        rfl
      rw [hsg] at hcc
      exact ⟨b, off, rfl, block_lt hcc, hcc⟩
    · rw [hd, Rows.uptoBulk, bulk_strs]
      omega
end
theorem bulk_len : ∀ L : List ByteArray, L.length ≤ bulkT L
  | [] => Nat.zero_le _
  | s :: r => by have := bulk_len r; rw [bulkT, List.length_cons]; omega
theorem bulk_mem : ∀ (L : List ByteArray), ∀ s ∈ L, s.size ≤ bulkT L
  | x :: r, s, h => by
    rw [bulkT]
    rcases List.mem_cons.1 h with rfl | h
    · omega
    · have := bulk_mem r s h; omega
end Go.Proofs.YtgiodfpkkdaflaaDoor

namespace Go.Proofs.YtgiodfpkkdaflaaDoor
open Go.RowKit Ieee

/-- What weight counts. -/
def wtT : List ByteArray → Nat
  | [] => 0
  | s :: r => 10 + s.size + wtT r
theorem wtT_snoc (l : List ByteArray) (s : ByteArray) : wtT (l ++ [s]) = wtT l + (10 + s.size) := by
  induction l with
  | nil => simp [wtT]
  | cons x r ih => rw [List.cons_append, wtT, wtT, ih]; omega
theorem wtT_bulk : ∀ L : List ByteArray, wtT L ≤ 10 * bulkT L
  | [] => Nat.zero_le _
  | s :: r => by have := wtT_bulk r; rw [bulkT, wtT]; omega
theorem wtT_len : ∀ L : List ByteArray, 10 * L.length ≤ wtT L
  | [] => Nat.zero_le _
  | s :: r => by have := wtT_len r; rw [List.length_cons, wtT]; omega
theorem wtT_mem : ∀ (L : List ByteArray), ∀ s ∈ L, s.size ≤ wtT L
  | x :: r, s, h => by
    rw [wtT]
    rcases List.mem_cons.1 h with rfl | h
    · omega
    · have := wtT_mem r s h; omega
theorem wtT_append (l r : List ByteArray) : wtT (l ++ r) = wtT l + wtT r := by
  induction l with
  | nil => simp [wtT]
  | cons x l ih => rw [List.cons_append, wtT, wtT, ih]; omega
theorem wtT_take (L : List ByteArray) (k : Nat) : wtT (L.take k) ≤ wtT L := by
  have := wtT_append (L.take k) (L.drop k)
  rw [List.take_append_drop] at this
  omega
theorem ttake_snoc {L : List ByteArray} {k : Nat} {s : ByteArray} (hs : L[k]? = some s) : L.take (k + 1) = L.take k ++ [s] := by
  rw [List.take_add_one, hs]; rfl

set_option maxRecDepth 100000 in
set_option maxHeartbeats 2000000 in
theorem weight_any (A : Option Addr) (n c : Nat) (L : List ByteArray) (w : World) (h : TextsAt w A n L) (hb : bulkT L ≤ 1048576) :
    Calls Tryd.prog 7 #[.slice A n c] w fun e w' => e = .returned (.int .i64 (wtT L : Nat)) ∧ Below w.heap.size w w' := by
  have HK := Lib.hid h
  have Hlen := Lib.hid h.len
  have hn : n ≤ 1048576 := by have := bulk_len L; have := h.len; omega
  have hw := wtT_bulk L
  have Hw := Lib.hid (show wtT L ≤ 10485760 by omega)
  clear h hw hb
  go_enter Tryd.func7, Tryd.ntmps7
  go_wp2_with fail
  go_loopw [3, 4] (fun x i wr => ∃ k t : Nat, k ≤ n ∧ t ≤ 10485760 ∧ i = .int .i64 (k : Int) ∧ x = .int .i64 (t : Int) ∧ Hid (t = wtT (L.take k)) ∧ Hid (Below w.heap.size w wr)) (fun _ i _ => n - (intOf i).toNat)
  case atStart => exact ⟨0, 0, by omega, by omega, rfl, rfl, Lib.hid rfl, Lib.hid (Below.refl _ _)⟩
  case round =>
    obtain ⟨k, t, hk, ht, rfl, rfl, Ht, HB⟩ := hrel
    by_cases hl : k < n
    · have g1 : (k : Int) < (n : Int) := by omega
      have g0 : (0 : Int) ≤ (k : Int) := by omega
      have hkL : k < L.length := by have := Hlen.out; omega
      have hm : L[k]? = some L[k] := List.getElem?_eq_getElem hkL
      generalize L[k] = s at *
      obtain ⟨g, off, hA, hg, x0⟩ := (HK.out.below HB.out).at_ k _ hm
      subst hA
      have hw : wtT (L.take (k + 1)) = wtT (L.take k) + (10 + s.size) := by rw [ttake_snoc hm, wtT_snoc]
      rw [← Ht.out] at hw
      have hle := wtT_take L (k + 1)
      have h3 : t + 10 + s.size ≤ 10485760 := by have := Hw.out; omega
      have Hw2 := Lib.hid hw
      clear hw hm hkL Ht hle
      go_wp2_with fail
      go_roundw
      case rel => exact ⟨k + 1, t + 10 + s.size, by omega, h3, by go_num, by go_num, Lib.hid (by rw [Hw2.out]; omega), HB⟩
      case measure => simp [intOf]; omega
    · obtain rfl : k = n := by omega
      have hall : L.take k = L := List.take_of_length_le (Nat.le_of_eq Hlen.out.symm)
      rw [hall] at Ht
      obtain rfl : t = wtT L := Ht.out
      clear Ht hall
      go_wp2_with fail
      go_ret
      exact ⟨rfl, HB.out⟩

set_option maxRecDepth 100000 in
theorem bnan_any (w : World) : Calls Tryd.prog 22 #[] w fun e w' => e = .returned (.float .f64 9221120237041090561) ∧ w = w' := by
  have hfb := run_float64frombits
  go_enter Tryd.func22, Tryd.ntmps22
  go_wp2_with fail
  go_ret
  exact ⟨rfl, rfl⟩
set_option maxRecDepth 100000 in
theorem binf_any (w : World) : Calls Tryd.prog 24 #[.int .i64 1] w fun e w' => e = .returned (.float .f64 9218868437227405312) ∧ w = w' := by
  have hfb := run_float64frombits
  go_enter Tryd.func24, Tryd.ntmps24
  go_wp2_with fail
  go_ret
  exact ⟨rfl, rfl⟩
theorem minus_or : (bits .or .u64 (bits .andNot .u64 (0 : Int) 9223372036854775808) (bits .and .u64 (13830554455654793216 : Int) 9223372036854775808)).toNat = 9223372036854775808 := by decide +kernel
set_option maxRecDepth 100000 in
theorem bminus_any (w : World) : Calls Tryd.prog 23 #[.float .f64 0, .float .f64 13830554455654793216] w fun e w' => e = .returned (.float .f64 9223372036854775808) ∧ w = w' := by
  have hfx := run_float64bits 0
  have hfy := run_float64bits 13830554455654793216
  have hfb := run_float64frombits
  have H4 := Lib.hid minus_or
  go_enter Tryd.func23, Tryd.ntmps23
  go_wp2_with fail
  go_ret
  exact ⟨by first | rfl | exact ret_float H4.out, rfl⟩
set_option maxRecDepth 100000 in
set_option maxHeartbeats 1000000 in
theorem brate_any (a b : Int) (w : World) :
    Calls Tryd.prog 20 #[.int .i64 a, .int .i64 b] w fun e w' => RatP w (floatBits .quo .f64 (floatOfInt .f64 b) (floatOfInt .f64 a)) e w' := by
  have CR := Lib.hid (fratio_any b a w)
  cases h : floatBits .quo .f64 (floatOfInt .f64 b) (floatOfInt .f64 a) with
  | some r =>
    rw [h] at CR
    clear h
    go_enter Tryd.func20, Tryd.ntmps20
    go_wp2_with fail
    refine CR.out.mono ?_
    rintro e w' ⟨rfl, rfl⟩
    go_wp2_with fail
    go_ret
    exact ⟨rfl, rfl⟩
  | none =>
    rw [h] at CR
    clear h
    go_enter Tryd.func20, Tryd.ntmps20
    go_wp2_with fail
    refine CR.out.mono ?_
    rintro e w' ⟨z, rfl, h1, h2, h3⟩
    have H1 := Lib.hid h1
    have H2 := Lib.hid h2
    have H3 := Lib.hid h3
    clear h1 h2 h3
    go_wp2_with fail
    go_ret
    exact ⟨_, rfl, H1.out, H2.out, H3.out⟩
theorem filterT_size (hs : List Nat) (n k : Nat) : (filterT hs n k).size = n + 1 := by
  show ((filterL hs n k ++ [k]).map UInt8.ofNat).toArray.size = n + 1
  simp [filterL_length]
theorem probes_nan : probesN 9221120237041090561 = 1 := by decide +kernel
theorem rate_inf : floatBits .quo .f64 (floatOfInt .f64 5) (floatOfInt .f64 0) = some 9218868437227405312 := by decide +kernel
theorem inf_gtr : (FloatKind.f64.format.order 9218868437227405312 9094988921128908188 == some .gt) = true := by decide +kernel

/-- The one key of the first call. -/
def aliveT : List ByteArray := [⟨#[97]⟩]
theorem alive_size : (bloomT aliveT 4621819117588971520).size = 9 := by
  unfold bloomT
  rw [filterT_size]
  show sizeN 1 _ + 1 = 9
  rw [size_one]

set_option maxRecDepth 100000 in
set_option maxHeartbeats 4000000 in
theorem alive12_any (w : World) (hT : LaidM w) :
    Calls Tryd.prog 8 #[] w fun e w' => e = .returned (.bool true) ∧ Below w.heap.size w w' := by
  have CP10 := fun W => Lib.hid (probes_ten ▸ bprobes_any 4621819117588971520 W)
  have CPn := fun W => Lib.hid (probes_nan ▸ bprobes_any 9221120237041090561 W)
  have CPi := fun W => Lib.hid (probes_inf ▸ bprobes_any 9218868437227405312 W)
  have CS1 := fun W => Lib.hid (size_ten ▸ bsize_any 100 4621819117588971520 W (by decide))
  have CS0 := fun W => Lib.hid (size_none_inf ▸ bsize_any 0 9218868437227405312 W (by decide))
  have CR := fun W => Lib.hid (show Calls Tryd.prog 20 #[.int .i64 0, .int .i64 5] W fun e w' => e = .returned (.float .f64 9218868437227405312) ∧ W = w' from by have := brate_any 0 5 W; rw [rate_inf] at this; exact this)
  have CN := fun W => Lib.hid (bnan_any W)
  have CI := fun W => Lib.hid (binf_any W)
  have CB := fun W (hb : Below w.heap.size w W) => Lib.hid (show Calls Tryd.prog 10 #[.slice (some ⟨W.heap.size, 0, none⟩) 1 1, .float .f64 4621819117588971520] (W.alloc (.cells #[.string ⟨#[97]⟩] 9)) fun e w' => e = .returned (.string (bloomT aliveT 4621819117588971520)) ∧ Below w.heap.size (W.alloc (.cells #[.string ⟨#[97]⟩] 9)) w' from
    (bbuild_any (some ⟨W.heap.size, 0, none⟩) 1 1 4621819117588971520 aliveT _ ⟨rfl, fun i s hs => by
      match i, hs with
      | 0, hs => cases hs; exact ⟨_, 0, rfl, by simp, cell_new _ _ _⟩
      | i + 1, hs => simp [aliveT] at hs⟩ (by decide) (fun s hs => by simp [aliveT] at hs; subst hs; decide) (hT.on (hb.alloc hb.size _))).mono fun e w' ⟨h1, h2⟩ => ⟨h1, h2.mono (by have := hb.size; simp; omega)⟩)
  have Hsz := alive_size
  generalize bloomT aliveT 4621819117588971520 = s at *
  have hgt := inf_gtr
  clear hT
  go_enter Tryd.func8, Tryd.ntmps8
  go_wp2_with fail
  refine (CP10 _).out.mono ?_
  rintro e w1 ⟨rfl, hb1⟩
  go_wp2_with fail
  refine (CN _).out.mono ?_
  rintro e w2 ⟨rfl, rfl⟩
  go_wp2_with fail
  refine (CPn _).out.mono ?_
  rintro e w2 ⟨rfl, hb2⟩
  have hb2 := hb1.trans (hb2.mono hb1.size)
  go_wp2_with fail
  refine (CI _).out.mono ?_
  rintro e w3 ⟨rfl, rfl⟩
  go_wp2_with fail
  refine (CPi _).out.mono ?_
  rintro e w3 ⟨rfl, hb3⟩
  have hb3 := hb2.trans (hb3.mono hb2.size)
  go_wp2_with fail
  refine (CS1 _).out.mono ?_
  rintro e w4 ⟨rfl, hb4⟩
  have hb4 := hb3.trans (hb4.mono hb3.size)
  go_wp2_with fail
  refine (CI _).out.mono ?_
  rintro e w5 ⟨rfl, rfl⟩
  go_wp2_with fail
  refine (CS0 _).out.mono ?_
  rintro e w5 ⟨rfl, hb5⟩
  have hb5 := hb4.trans (hb5.mono hb4.size)
  have C6 := CB _ hb5
  clear CB
  go_wp2_with fail
  refine C6.out.mono ?_
  rintro e w6 ⟨rfl, hb6⟩
  have hb6 := (hb5.alloc hb5.size _).trans hb6
  go_wp2_with fail
  refine (CR _).out.mono ?_
  rintro e w7 ⟨rfl, rfl⟩
  go_wp2_with fail
  go_ret
  exact ⟨rfl, hb6⟩
end Go.Proofs.YtgiodfpkkdaflaaDoor

namespace Go.Proofs.YtgiodfpkkdaflaaDoor
open Go.RowKit

/-- Texts as cells. -/
def elTx : El ByteArray := ⟨fun x => [.string x], 1, by decide, fun _ => rfl, fun x u hu => by simp at hu; subst hu; rfl, fun _ _ => ⟨#[]⟩⟩
theorem infoTx : (Tryd.prog.info? 9).map (fun i => (i.zero, i.size, i.bytes)) = some (some (.string ⟨#[]⟩), elTx.sz, 16) := by kernel_rfl
theorem underTx : Tryd.prog.underlying 22 = some (.slice 9) := by kernel_rfl
def markT : ByteArray := ⟨#[109, 97, 114, 107]⟩
theorem TextsAt.row {w : World} {A : Option Addr} {n : Nat} {L : List ByteArray} (h : TextsAt w A n L) : (A = none → L = []) ∧ ∀ a, A = some a → ∀ j u, (elTx.row L)[j]? = some u → w.cell? (a.add j) = some u := by
  refine ⟨fun hA => ?_, fun a ha j u hu => ?_⟩
  · cases L with
    | nil => rfl
    | cons m r =>
      obtain ⟨g, off, e, _⟩ := h.at_ 0 m rfl
      rw [hA] at e; cases e
  · have hj := (List.getElem?_eq_some_iff.1 hu).1
    rw [elTx.row_length] at hj
    have hj : j < L.length * 1 := hj
    obtain ⟨m, hm⟩ : ∃ m, L[j]? = some m := ⟨_, List.getElem?_eq_getElem (by omega)⟩
    obtain ⟨g, off, e, _, x0⟩ := h.at_ _ _ hm
    rw [ha] at e
    cases e
    rw [Addr.add_lit]
    have hd : j = j * elTx.sz + 0 := by show j = j * 1 + 0; omega
    rw [hd, elTx.row_at L j 0 m hm (by decide)] at hu
    have hu : some (Value.string m) = some u := hu
    cases hu
    exact x0
/-- A list lent: its row, the mark behind it. -/
structure LentT (w : World) (B g n cap : Nat) (L : List ByteArray) : Prop where
  len : n = L.length
  row : Own elTx w B 9 (.slice (some ⟨g, 0, none⟩) (n + 1) cap) (L ++ [markT])
theorem LentT.below {w w' : World} {B g n cap : Nat} {L : List ByteArray} (h : LentT w B g n cap L) (hb : Below w.heap.size w w') : LentT w' B g n cap L := ⟨h.len, h.row.below hb⟩
theorem LentT.tn {w w' : World} {B g n cap : Nat} {L : List ByteArray} (h : LentT w B g n cap L) {B' : Nat} {T : Obj → Bool} (hb : Tn B' T w w') (hT : ∀ cs fr, T (.cells cs 9 fr) = false) : LentT w' B g n cap L := ⟨h.len, h.row.tn hb hT⟩
theorem own_capT {w : World} {B g n cap sz : Nat} {e : TypeId} {xs : List Value} (h : w.ownsRow B e sz (.slice (some ⟨g, 0, none⟩) n cap) n xs) : n ≤ cap := by
  rcases h.2 with ⟨h1, _⟩ | ⟨g', cap', cur, hv, _, _, hle, _⟩
  · cases h1
  · injection hv with e1 e2 e3
    omega
theorem LentT.cap {w : World} {B g n cap : Nat} {L : List ByteArray} (h : LentT w B g n cap L) : n + 1 ≤ cap := by
  have h1 := h.row
  unfold Own at h1
  rw [List.length_append, ← h.len] at h1
  exact own_capT h1
theorem LentT.at_ {w : World} {B g n cap : Nat} {L : List ByteArray} (h : LentT w B g n cap L) : TextsAt w (some ⟨g, 0, none⟩) n L := by
  have h1 := h.row
  rw [show (n + 1 : Nat) = (L ++ [markT]).length by rw [List.length_append, h.len]; rfl] at h1
  refine ⟨h.len, fun i m hm => ?_⟩
  have hi := (List.getElem?_eq_some_iff.1 hm).1
  have hm' : (L ++ [markT])[i]? = some m := by rw [List.getElem?_append_left hi]; exact hm
  have hc0 := Own.cells (i := i) (j := 0) h1 hm' (by decide) rfl
  obtain ⟨g', c', cur, hv, hg, hh⟩ := Own.some_ h1 (by rw [List.length_append]; simp)
  cases hv
  refine ⟨g, 0, rfl, (Array.getElem?_eq_some_iff.1 hh).1, ?_⟩
  rw [Nat.zero_add]
  rwa [show i * elTx.sz + 0 = i from by show i * 1 + 0 = _; omega] at hc0
theorem LentT.mark {w : World} {B g n cap : Nat} {L : List ByteArray} (h : LentT w B g n cap L) : w.cell? ⟨g, n, none⟩ = some (.string ⟨#[109, 97, 114, 107]⟩) := by
  have h1 := h.row
  rw [show (n + 1 : Nat) = (L ++ [markT]).length by rw [List.length_append, h.len]; rfl] at h1
  have hm' : (L ++ [markT])[n]? = some markT := by rw [h.len]; simp
  have := Own.cells (i := n) (j := 0) h1 hm' (by decide) rfl
  rwa [show n * elTx.sz + 0 = n from by show n * 1 + 0 = _; omega] at this

set_option maxRecDepth 100000 in
set_option maxHeartbeats 2000000 in
theorem sametexts_at (A1 A2 : Option Addr) (n c1 c2 : Nat) (L : List ByteArray) (w : World) (h1 : TextsAt w A1 n L) (h2 : TextsAt w A2 n L) (hn : n ≤ 1000000) :
    Calls Tryd.prog 27 #[.slice A1 n c1, .slice A2 n c2] w fun e w' => e = .returned (.bool true) ∧ Below w.heap.size w w' := by
  have H1 := Lib.hid h1
  have H2 := Lib.hid h2
  have HL := Lib.hid h1.len
  have hL' : (n : Int) ≤ 1000000 := by omega
  clear h1 h2
  go_enter Tryd.func27, Tryd.ntmps27
  go_wp2_with fail
  go_loopw [5] (fun i wr => ∃ k : Nat, k ≤ n ∧ i = .int .i64 (k : Int) ∧ Hid (Below w.heap.size w wr)) (fun i _ => n - (intOf i).toNat)
  case atStart => exact ⟨0, by omega, rfl, Lib.hid (Below.refl _ _)⟩
  case round =>
    obtain ⟨k, hk, rfl, HB⟩ := hrel
    by_cases hl : k < n
    · have hkL : k < L.length := by rw [← HL.out]; exact hl
      obtain ⟨x, hx⟩ : ∃ x, L[k]? = some x := ⟨_, List.getElem?_eq_getElem hkL⟩
      obtain ⟨g1, o1, hA1, _, y0⟩ := (H1.out.below HB.out).at_ k x hx
      obtain ⟨g2, o2, hA2, _, z0⟩ := (H2.out.below HB.out).at_ k x hx
      subst hA1 hA2
      have hl1 : (k : Int) < (n : Int) := by omega
      have hl0 : (0 : Int) ≤ (k : Int) := by omega
      clear hx hkL
      go_wp2_with fail
      go_quiet (fail)
      go_wp2_with fail
      go_roundw
      case rel => exact ⟨k + 1, by omega, by go_num, Lib.hid (below_drewN HB.out _)⟩
      case measure => simp [intOf]; omega
    · obtain rfl : k = n := by omega
      go_wp2_with fail
      go_ret
      exact ⟨rfl, HB.out⟩

set_option maxRecDepth 100000 in
set_option maxHeartbeats 2000000 in
theorem lenttexts_any (A : Option Addr) (n c : Nat) (L : List ByteArray) (w : World) (h : TextsAt w A n L) (hn : n ≤ 100000) :
    Calls Tryd.prog 9 #[.slice A n c] w fun e w' => ∃ g cap, e = .returned (.slice (some ⟨g, 0, none⟩) n cap) ∧ LentT w' w.heap.size g n cap L ∧ Below w.heap.size w w' := by
  have hlen := h.len
  obtain ⟨hA, hM⟩ := h.row
  obtain ⟨v1, w1, hr1, ho1, hg1, _, _⟩ := app_own (P := Tryd.prog) elTx 22 9 (.string ⟨#[]⟩) 16 underTx infoTx rfl w w.heap.size (.slice none 0 0) [] L (World.ownsRow_nil _ _ _ _) A c hA hM (by unfold maxLen; simp; omega) (by simp; omega) (Nat.le_refl _) n hlen
  rw [List.nil_append] at ho1
  obtain ⟨a1, c1, rfl⟩ := ho1.slice
  have hb1 : Below w.heap.size w w1 := below_g (by simpa [Value.ownBlock] using hg1)
  obtain ⟨v2, w2, hr2, ho2, hg2, _, _⟩ := app_own (P := Tryd.prog) elTx 22 9 (.string ⟨#[]⟩) 16 underTx infoTx rfl (w1.alloc (.cells #[.string ⟨#[109, 97, 114, 107]⟩] 9)) w.heap.size (.slice a1 L.length c1) L [markT] (World.ownsRow.alloc ho1 _) (some ⟨w1.heap.size, 0, none⟩) 1 (fun h => by cases h) (fun a ha j' u hu => by
    cases ha
    rw [El.row_one] at hu
    exact cells_new w1 9 [.string ⟨#[109, 97, 114, 107]⟩] j' u hu) (by unfold maxLen; simp; omega) (by simp; omega) (by have := hb1.size; simp; omega) 1 rfl
  have hb2 : Below w.heap.size w w2 := (hb1.alloc hb1.size _).grown hg2 (by have := hb1.size; simp; omega) (fun k hk => ((World.ownsRow.alloc ho1 _ : (w1.alloc (.cells #[.string ⟨#[109, 97, 114, 107]⟩] 9)).ownsRow _ 9 _ _ _ _).lt k hk).1)
  obtain ⟨g, cap, cur, rfl, _, _⟩ := Own.some_ ho2 (by rw [List.length_append]; simp)
  have hL : LentT w2 w.heap.size g n cap L := ⟨hlen, by rw [hlen]; rw [List.length_append] at ho2; exact ho2⟩
  rw [← hlen] at hr2 hr1
  rw [show (L ++ [markT]).length = n + 1 by rw [List.length_append, hlen]; rfl] at hr2
  have hcap := hL.cap
  have HR1 := fun ty => Lib.hid (hr1 ty)
  have HR2 := fun ty => Lib.hid (hr2 ty)
  have HL := Lib.hid hL
  have HB := Lib.hid hb2
  have s1 : (n : Int) ≤ (cap : Int) := by omega
  have s2 : (0 : Int) ≤ (n : Int) := by omega
  clear h hA hM hr1 hr2 ho1 ho2 hg1 hg2 hb1 hb2 hL hlen
  go_enter Tryd.func9, Tryd.ntmps9
  go_wp2_with (at_builtin; first
    | refine wpList_append_k _ w1 rfl (.const (.slice none 0 0)) (.tmp 3) 22 rfl _ _ (.slice a1 n c1) rfl rfl (fun ty => (HR1 ty).out) ?_
    | refine wpList_append_k _ w2 rfl (.tmp 4) (.tmp 5) 22 rfl _ _ (.slice (some ⟨g, 0, none⟩) (n + 1) cap) rfl rfl (fun ty => (HR2 ty).out) ?_)
  go_ret
  exact ⟨g, cap, rfl, HL.out, HB.out⟩

set_option maxRecDepth 100000 in
set_option maxHeartbeats 2000000 in
theorem staystexts_any (A : Option Addr) (n c B g cap : Nat) (L : List ByteArray) (w : World) (h : TextsAt w A n L) (hx : LentT w B g n cap L) (hn : n ≤ 100000) :
    Calls Tryd.prog 12 #[.slice (some ⟨g, 0, none⟩) n cap, .slice A n c] w fun e w' => e = .returned (.bool true) ∧ Below w.heap.size w w' := by
  have CS := Lib.hid (sametexts_at (some ⟨g, 0, none⟩) A n cap c L w hx.at_ h (by omega))
  have HX := Lib.hid hx
  have hcap := hx.cap
  have s1 : (n : Int) + 1 ≤ (cap : Int) := by omega
  have s2 : (0 : Int) ≤ (n : Int) + 1 := by omega
  have s3 : (n : Int) < (n : Int) + 1 := by omega
  have s4 : (0 : Int) ≤ (n : Int) := by omega
  clear h hx
  go_enter Tryd.func12, Tryd.ntmps12
  go_wp2_with fail
  refine CS.out.mono ?_
  rintro e w1 ⟨rfl, hb1⟩
  have c0 := (HX.out.below hb1).mark
  have HB := Lib.hid hb1
  clear hb1 CS
  go_wp2_with fail
  go_ret
  exact ⟨rfl, HB.out⟩
end Go.Proofs.YtgiodfpkkdaflaaDoor

namespace Go.Proofs.YtgiodfpkkdaflaaDoor
open Go.RowKit

set_option maxHeartbeats 400000 in
theorem qisnan_any (x : Nat) (w : World) : Calls Tryd.prog 47 #[.float .f64 x] w fun e w' => e = .returned (.bool (isN x)) ∧ w = w' := by
  rw [← neq_self x]
  go_enter Tryd.func47, Tryd.ntmps47
  go_wp2_with fail
  go_ret
  exact ⟨rfl, rfl⟩

end Go.Proofs.YtgiodfpkkdaflaaDoor

namespace Go.Proofs.YtgiodfpkkdaflaaDoor
open Go.RowKit

def tz64L : List Int := Lib.deBruijn64tab.map fun (n : Nat) => (n : Int)
/-- The tables that chapter 2's laws read. -/
structure LaidR (w : World) : Prop where
  tz64 : Lib.TabIs Tryd.prog w "math/bits.deBruijn64tab" .u8 tz64L
  pow10 : Lib.TabIs Tryd.prog w "internal/strconv.uint64pow10" .u64 Lib.pow10Tab

theorem tz64_at (i : Nat) (hi : i < 64) : tz64L.getD i 0 = (Lib.deBruijn64tab.getD i 0 : Int) := by
  have : ∀ i, i < 64 → tz64L.getD i 0 = (Lib.deBruijn64tab.getD i 0 : Int) := by decide +kernel
  exact this i hi

theorem tz64_idx (x a : Nat) (hx : x < 18446744073709551616) (hx0 : x ≠ 0) (hlow : x &&& (18446744073709551616 - x) = a) :
    IntKind.u64.wrap (bits BinOp.and IntKind.u64 (x : Int) (IntKind.u64.wrap (-(x : Int))) * 285870213051353865) / 288230376151711744 = ((a * 285870213051353865 % 18446744073709551616 / 288230376151711744 : Nat) : Int) := by
  have e1 : IntKind.u64.wrap (-(x : Int)) = ((18446744073709551616 - x : Nat) : Int) := by rw [IntKind.wrap_u64]; omega
  rw [e1, bits_and_u64_nat x _ hx (by omega), hlow, IntKind.wrap_u64]
  omega

/-- All twos out of m. -/
def tzN (m : Nat) : Nat := Lib.ctz 64 m
def oddN (m : Nat) : Nat := m / 2 ^ tzN m

end Go.Proofs.YtgiodfpkkdaflaaDoor

namespace Go.Proofs.YtgiodfpkkdaflaaDoor
open Go.RowKit

def numL (l : List UInt8) : Option Int := if l = [48] then some 0 else (natL (Lib.trimPrefix l [45])).map fun (v : Nat) => if Lib.hasPrefix l [45] then -(v : Int) else (v : Int)

theorem digs_lt (l : List UInt8) : ∀ a v, digs l a = some v → v < (a + 1) * 10 ^ l.length := by
  induction l with
  | nil => intro a v h; injection h with h; subst h; simp
  | cons c r ih =>
    intro a v h
    rw [digs] at h
    split at h
    · have := ih _ _ h
      rw [List.length_cons, Nat.pow_succ]
      have h2 : (a * 10 + (c.toNat - 48) + 1) * 10 ^ r.length ≤ ((a + 1) * 10) * 10 ^ r.length := Nat.mul_le_mul_right _ (by omega)
      rw [Nat.mul_assoc, Nat.mul_comm 10] at h2
      omega
    · cases h
theorem natL_lt {l : List UInt8} {v : Nat} (h : natL l = some v) : v < 10000000000000000 := by
  unfold natL at h
  split at h
  · cases h
  · rename_i hn
    have := digs_lt l 0 v h
    have h2 : (10 : Nat) ^ l.length ≤ 10 ^ 16 := Nat.pow_le_pow_right (by decide) (by omega)
    omega

end Go.Proofs.YtgiodfpkkdaflaaDoor

namespace Go.Proofs.YtgiodfpkkdaflaaDoor
open Go.RowKit

theorem dec_digit (u : Nat) : ∀ c ∈ Lib.decDigits u, 48 ≤ c.toNat ∧ c.toNat ≤ 57 := by
  induction u using Nat.strongRecOn with
  | _ u ih =>
    intro c hc
    rw [Lib.decDigits] at hc
    split at hc
    · obtain rfl := List.mem_singleton.1 hc
      rw [UInt8.toNat_ofNat']; omega
    · rcases List.mem_append.1 hc with h | h
      · exact ih (u / 10) (by omega) c h
      · obtain rfl := List.mem_singleton.1 h
        rw [UInt8.toNat_ofNat']; omega

theorem digs_dec (u : Nat) : ∀ (r : List UInt8) (a : Nat), digs (Lib.decDigits u ++ r) a = digs r (a * 10 ^ Lib.nDigits u + u) := by
  induction u using Nat.strongRecOn with
  | _ u ih =>
    intro r a
    rw [Lib.decDigits]
    split
    · rename_i h
      have e : (UInt8.ofNat (48 + u)).toNat = 48 + u := by rw [UInt8.toNat_ofNat']; omega
      rw [Lib.nDigits_small h, List.cons_append, List.nil_append, digs, e, if_pos (by omega)]
      congr 1
      omega
    · rename_i h
      have e : (UInt8.ofNat (48 + u % 10)).toNat = 48 + u % 10 := by rw [UInt8.toNat_ofNat']; omega
      rw [Lib.nDigits_big h, List.append_assoc, ih (u / 10) (by omega), List.cons_append, List.nil_append, digs, e, if_pos (by omega)]
      congr 1
      rw [Nat.pow_succ, ← Nat.mul_assoc]
      omega

theorem dec_ne (u : Nat) : Lib.decDigits u ≠ [] := by
  intro h
  have := Lib.decDigits_length u
  have h2 := Lib.nDigits_pos u
  rw [h] at this
  simp at this
  omega

theorem dec_head (u : Nat) (hu : u ≠ 0) : ((Lib.decDigits u).headD 0).toNat ≠ 48 := by
  induction u using Nat.strongRecOn with
  | _ u ih =>
    rw [Lib.decDigits]
    split
    · rw [List.headD_cons, UInt8.toNat_ofNat']; omega
    · have := ih (u / 10) (by omega) (by omega)
      cases h : Lib.decDigits (u / 10) with
      | nil => exact absurd h (dec_ne _)
      | cons c r => rw [h] at this; exact this

theorem pow_le_nDigits (u : Nat) (hu : u ≠ 0) : 10 ^ (Lib.nDigits u - 1) ≤ u := by
  induction u using Nat.strongRecOn with
  | _ u ih =>
    by_cases h : u < 10
    · rw [Lib.nDigits_small h]; simp; omega
    · have h1 := ih (u / 10) (by omega) (by omega)
      have h2 := Lib.nDigits_pos (u / 10)
      rw [Lib.nDigits_big h, show Lib.nDigits (u / 10) + 1 - 1 = (Lib.nDigits (u / 10) - 1) + 1 from by omega, Nat.pow_succ]
      omega

theorem natL_dec (u : Nat) (hu : u ≠ 0) : natL (Lib.decDigits u) = if u < 10000000000000000 then some u else none := by
  have h1 := dec_head u hu
  have h2 := Lib.nDigits_pos u
  unfold natL
  rw [Lib.decDigits_length]
  by_cases h : u < 10000000000000000
  · have h3 : Lib.nDigits u ≤ 16 := by
      rcases Nat.lt_or_ge 16 (Lib.nDigits u) with hl | hl
      · have := pow_le_nDigits u hu
        have : (10 : Nat) ^ 16 ≤ 10 ^ (Lib.nDigits u - 1) := Nat.pow_le_pow_right (by decide) (by omega)
        omega
      · exact hl
    have := digs_dec u [] 0
    rw [List.append_nil] at this
    rw [if_pos h, if_neg (by omega), this]
    show some (0 * _ + u) = _
    congr 1
    omega
  · have h3 : 16 < Lib.nDigits u := by
      rcases Nat.lt_or_ge 16 (Lib.nDigits u) with hl | hl
      · exact hl
      · have := Lib.lt_pow_nDigits u
        have : (10 : Nat) ^ (Lib.nDigits u) ≤ 10 ^ 16 := Nat.pow_le_pow_right (by decide) hl
        omega
    rw [if_neg h, if_pos (Or.inr (Or.inl h3))]

theorem numL_itoa (v : Int) : numL (Lib.itoa v) = if -10000000000000000 < v ∧ v < 10000000000000000 then some v else none := by
  rcases Int.lt_trichotomy v 0 with h | h | h
  · have hi : Lib.itoa v = 45 :: Lib.decDigits v.natAbs := by unfold Lib.itoa; rw [if_pos h]
    have hp : Lib.hasPrefix (45 :: Lib.decDigits v.natAbs) [45] = true := by simp [Lib.hasPrefix]
    unfold numL
    rw [hi, if_neg (by simp)]
    unfold Lib.trimPrefix
    rw [if_pos hp, hp]
    show (natL (Lib.decDigits v.natAbs)).map _ = _
    rw [natL_dec _ (by omega)]
    by_cases hv : -10000000000000000 < v
    · rw [if_pos (by omega), if_pos (by omega)]
      simp
      omega
    · rw [if_neg (by omega), if_neg (by omega)]
      rfl
  · subst h
    have hi : Lib.itoa 0 = [48] := by unfold Lib.itoa; rw [if_neg (by decide)]; exact Lib.decDigits_one (by decide)
    rw [hi, if_pos (by decide)]
    rfl
  · have hi : Lib.itoa v = Lib.decDigits v.toNat := by unfold Lib.itoa; rw [if_neg (by omega)]
    have hd := dec_head v.toNat (by omega)
    have hn : Lib.decDigits v.toNat ≠ [48] := by intro e; rw [e] at hd; exact hd rfl
    have hp : Lib.hasPrefix (Lib.decDigits v.toNat) [45] = false := by
      cases hc : Lib.decDigits v.toNat with
      | nil => exact absurd hc (dec_ne _)
      | cons c r =>
        have := dec_digit v.toNat c (by rw [hc]; simp)
        simp only [Lib.hasPrefix, List.isPrefixOf, Bool.and_true, beq_eq_false_iff_ne]
        intro e
        rw [← e] at this
        exact absurd this (by decide)
    unfold numL
    rw [hi, if_neg hn]
    unfold Lib.trimPrefix
    rw [hp, if_neg (by decide), natL_dec _ (by omega)]
    by_cases hv : v < 10000000000000000
    · rw [if_pos (by omega), if_pos (by omega)]
      simp
      omega
    · rw [if_neg (by omega), if_neg (by omega)]
      rfl

theorem dec_len (u : Nat) (hu : u ≤ 9223372036854775808) : (Lib.decDigits u).length ≤ 39 := by
  rw [Lib.decDigits_length]
  rcases Nat.eq_zero_or_pos u with h | h
  · subst h; rw [Lib.nDigits_small (by decide)]; decide
  · rcases Nat.lt_or_ge 39 (Lib.nDigits u) with hl | hl
    · have := pow_le_nDigits u (by omega)
      have : (10 : Nat) ^ 39 ≤ 10 ^ (Lib.nDigits u - 1) := Nat.pow_le_pow_right (by decide) (by omega)
      omega
    · exact hl

theorem itoa_len (v : Int) (h0 : -9223372036854775808 ≤ v) (h1 : v ≤ 9223372036854775807) : (Lib.itoa v).length ≤ 40 := by
  unfold Lib.itoa
  split
  · have := dec_len v.natAbs (by omega)
    simp; omega
  · have := dec_len v.toNat (by omega)
    omega
end Go.Proofs.YtgiodfpkkdaflaaDoor

namespace Go.Proofs.YtgiodfpkkdaflaaDoor
open Go.RowKit

/-- The digits and the power of a rung, all twos still in. -/
def rawM (r : Nat) : Nat := if r < 4503599627370496 then r else 4503599627370496 + r % 4503599627370496
def rawE (r : Nat) : Int := if r < 4503599627370496 then -1074 else (r / 4503599627370496 : Nat) - 1075
theorem rawM_lt (r : Nat) : rawM r < 9007199254740992 := by unfold rawM; split <;> omega
theorem rawM_pos (r : Nat) (h : r ≠ 0) : rawM r ≠ 0 := by unfold rawM; split <;> omega
theorem rawE_lt (r : Nat) (h : r < infR) : -1074 ≤ rawE r ∧ rawE r ≤ 971 := by
  have hc : infR = 9218868437227405312 := rfl
  unfold rawE; split <;> omega
def spM (r : Nat) : Nat := oddN (rawM r)
def spE (r : Nat) : Int := rawE r + (tzN (rawM r) : Int)

/-- The text of a number without a sign. -/
def whole (r : Nat) : Bool := decide (0 ≤ spE r ∧ (Lib.bitLen (spM r) : Int) + spE r ≤ 53)
def unsN (r : Nat) : List UInt8 :=
  if r = 0 then [48] else if r = infR then [105, 110, 102] else if whole r then Lib.itoa ((spM r * 2 ^ (spE r).toNat : Nat) : Int)
  else Lib.itoa (spM r : Int) ++ 112 :: Lib.itoa (spE r)
def textN (x : Nat) : List UInt8 := if isN x then [110, 97, 110] else if isNeg x then 45 :: unsN (rung x) else unsN (rung x)

theorem unsN_zero : unsN 0 = [48] := by unfold unsN; rw [if_pos rfl]

theorem spM_lt (r : Nat) : spM r < 9007199254740992 := Nat.lt_of_le_of_lt (Nat.div_le_self _ _) (rawM_lt r)
theorem spE_lt (r : Nat) (h0 : r ≠ 0) (h : r < infR) : -1074 ≤ spE r ∧ spE r ≤ 1035 := by
  have h1 := rawE_lt r h
  have h2 : tzN (rawM r) < 64 := (Lib.lowest_bit 64 _ (rawM_pos r h0) (Nat.lt_trans (rawM_lt r) (by decide))).2
  unfold spE
  omega

theorem len_lt (m e : Nat) (hm : m < 18446744073709551616) (h : Lib.bitLen m + e ≤ 53) : m * 2 ^ e < 9007199254740992 := by
  by_cases h0 : m = 0
  · subst h0; rw [Nat.zero_mul]; decide
  · have hb := (Lib.bitLenAux_bounds 64 m hm h0).2.2
    have h1 : m * 2 ^ e < 2 ^ Lib.bitLen m * 2 ^ e := Nat.mul_lt_mul_of_pos_right hb (Nat.two_pow_pos _)
    rw [← Nat.pow_add] at h1
    exact Nat.lt_of_lt_of_le h1 (Nat.pow_le_pow_right (by decide) h)

theorem run_cat (a b : List UInt8) (ha : a.length ≤ 1000000) (hb : b.length ≤ 1000000) (w : World) : (Op.stringOp .add ⟨a.toArray⟩ ⟨b.toArray⟩).run Tryd.prog w = .ok (.string ⟨(a ++ b).toArray⟩) w := by
  rw [run_string_add_sum _ _ _ (by rw [size_mk, size_mk]; omega), ByteArray.mk_append_mk]

theorem unsN_len (r : Nat) (h : r ≤ infR) : (unsN r).length ≤ 100 := by
  unfold unsN
  split
  · decide
  · split
    · decide
    · rename_i h0 h1
      have hM := spM_lt r
      have hE := spE_lt r h0 (by omega)
      split
      · rename_i hw
        unfold whole at hw
        have hw := of_decide_eq_true hw
        have hlt := len_lt (spM r) (spE r).toNat (by omega) (by omega)
        have := itoa_len ((spM r * 2 ^ (spE r).toNat : Nat) : Int) (by omega) (by omega)
        omega
      · have hl1 := itoa_len (spM r : Int) (by omega) (by omega)
        have hl2 := itoa_len (spE r) (by omega) (by omega)
        simp only [List.length_append, List.length_cons]
        omega

end Go.Proofs.YtgiodfpkkdaflaaDoor

namespace Go.Proofs.YtgiodfpkkdaflaaDoor
open Go.RowKit

theorem glob_halves : Tryd.prog.globalNamed "bedrock/raw.halves" = some 1 := by kernel_rfl

/-- The tables that the laws' first call reads. -/
structure Laid (w : World) : Prop where
  halves : Lib.TabIs Tryd.prog w "bedrock/raw.halves" .u32 halvesL
  pow10 : Lib.TabIs Tryd.prog w "internal/strconv.uint64pow10" .u64 Lib.pow10Tab

theorem crc_9 : crc [49, 50, 51, 52, 53, 54, 55, 56, 57] = 3808858755 := by decide +kernel
theorem itoa_50 : Lib.itoa (-50) = [45, 53, 48] := by decide +kernel
theorem gv_300 : gv [172, 2, 120] 0 0 = .ok 300 2 := by rfl
theorem be_258 : be 258 2 = [1, 2] := by decide +kernel

end Go.Proofs.YtgiodfpkkdaflaaDoor

namespace Go.Proofs.YtgiodfpkkdaflaaDoor
open Go.RowKit

theorem gv_begin (l : List UInt8) : ∀ i v, (∀ c ∈ l, 128 ≤ c.toNat) → i + l.length < 9 → gv l i v = .err 3 := by
  induction l with
  | nil => intro i v _ h; exact gv_short _ _ _ (by simpa using h) rfl
  | cons c r ih =>
    intro i v hc hl
    rw [List.length_cons] at hl
    have hc' := hc c (by simp)
    rw [gv, if_neg (by omega), if_pos hc']
    exact ih _ _ (fun d hd => hc d (by simp [hd])) (by omega)

theorem pv_high (v : Nat) : ∀ i < (pv v).length, ∀ c ∈ (pv v).take i, 128 ≤ c.toNat := by
  induction v using Nat.strongRecOn with
  | _ v ih =>
    intro i hi c hc
    by_cases h : v < 128
    · rw [pv_last v h] at hi hc
      obtain rfl : i = 0 := by simpa using hi
      simp at hc
    · rw [pv_more v (by omega)] at hi hc
      match i, hc with
      | 0, hc => simp at hc
      | i + 1, hc =>
        rw [List.take_succ_cons, List.mem_cons] at hc
        rcases hc with rfl | hc
        · rw [UInt8.toNat_ofNat']; omega
        · exact ih (v / 128) (by omega) i (by simpa using hi) c hc

theorem pv_len (k v : Nat) (h : v < 2 ^ (7 * k)) (hk : 1 ≤ k) : (pv v).length ≤ k := by
  induction k generalizing v with
  | zero => omega
  | succ k ih =>
    by_cases hv : v < 128
    · rw [pv_last v hv]; simp
    · rw [pv_more v (by omega), List.length_cons]
      rcases Nat.eq_zero_or_pos k with h0 | h0
      · subst h0; simp at h; omega
      · have h2 : 2 ^ (7 * (k + 1)) = 128 * 2 ^ (7 * k) := by rw [Nat.mul_add, Nat.pow_add]; omega
        have := ih (v / 128) (by rw [Nat.div_lt_iff_lt_mul (by decide)]; omega) h0
        omega
theorem pv_pos (v : Nat) : 1 ≤ (pv v).length := by
  by_cases hv : v < 128
  · rw [pv_last v hv]; simp
  · rw [pv_more v (by omega)]; simp
theorem pv_len9 (v : Nat) (h : v < 9223372036854775808) : (pv v).length ≤ 9 := pv_len 9 v (by omega) (by decide)

theorem gv_pv (r : List UInt8) (u : Nat) : ∀ i a, i + (pv u).length ≤ 9 → (0 < i → 0 < u) → gv (pv u ++ r) i a = .ok (a + u * 2 ^ (7 * i)) (i + (pv u).length) := by
  induction u using Nat.strongRecOn with
  | _ u ih =>
    intro i a hi h0
    by_cases h : u < 128
    · rw [pv_last u h] at hi ⊢
      rw [List.length_singleton] at hi ⊢
      have e : (UInt8.ofNat u).toNat = u := by rw [UInt8.toNat_ofNat']; omega
      show gv (UInt8.ofNat u :: r) i a = _
      rw [gv, e, if_neg (by omega), if_neg (by omega), if_neg (by omega), Nat.mod_eq_of_lt h]
    · have hp := pv_more u (by omega)
      rw [hp] at hi ⊢
      rw [List.length_cons] at hi ⊢
      have hq := pv_pos (u / 128)
      have e : (UInt8.ofNat (u % 128 + 128)).toNat = u % 128 + 128 := by rw [UInt8.toNat_ofNat']; omega
      rw [List.cons_append, gv, e, if_neg (by omega), if_pos (by omega), ih (u / 128) (by omega) (i + 1) _ (by omega) (fun _ => by omega)]
      have e2 : (u % 128 + 128) % 128 = u % 128 := by omega
      have e3 : 2 ^ (7 * (i + 1)) = 128 * 2 ^ (7 * i) := by rw [Nat.mul_add, Nat.pow_add]; omega
      have e4 : u % 128 * 2 ^ (7 * i) + u / 128 * (128 * 2 ^ (7 * i)) = u * 2 ^ (7 * i) := by
        rw [← Nat.mul_assoc, ← Nat.add_mul]
        congr 1
        omega
      rw [e2, e3]
      congr 1
      · omega
      · omega



end Go.Proofs.YtgiodfpkkdaflaaDoor

namespace Go.Proofs.YtgiodfpkkdaflaaDoor
open Go.RowKit

theorem be_bytes (v n j : Nat) (h : j < n) : (be v n).drop j = UInt8.ofNat (v / 2 ^ (8 * (n - 1 - j)) % 256) :: (be v n).drop (j + 1) := by
  have hl : j < (be v n).length := by rw [be_length]; exact h
  have hg := be_get v n j h
  rw [List.getElem?_eq_getElem hl] at hg
  injection hg with hg
  rw [List.drop_eq_getElem_cons hl, hg]

theorem be_back (v n j k : Nat) (h : j + 1 + k = n) (x : Int) (hx : x = ((v / 2 ^ (8 * k) : Nat) : Int) % 256) :
    ((List.replicate (j + 1) (0 : UInt8) ++ (be v n).drop (j + 1)).map b8).set j (.int .u8 x) = (List.replicate j (0 : UInt8) ++ (be v n).drop j).map b8 := by
  have hb : Value.int .u8 x = b8 (UInt8.ofNat (v / 2 ^ (8 * k) % 256)) := by
    unfold b8
    rw [← u8_of _ (by omega), hx]
    congr 1
  rw [be_bytes v n j (by omega), show n - 1 - j = k from by omega, hb, ← List.map_set]
  congr 1
  rw [List.replicate_succ', List.append_assoc, List.set_append_right _ _ (by simp)]
  simp

theorem putIs_of (v n _k : Nat) (h1 : 1 ≤ n) (h7 : n ≤ 7) (s : ByteArray) (hs : s = ⟨(be v n).toArray⟩) (h : v / 2 ^ (8 * n) = 0) : PutIs v n s 0 := by
  refine Or.inl ⟨rfl, by omega, by omega, by omega, ?_, ?_⟩
  · have h2 : v < 2 ^ (8 * n) := by
      rcases Nat.lt_or_ge v (2 ^ (8 * n)) with h3 | h3
      · exact h3
      · have := (Nat.le_div_iff_mul_le (Nat.two_pow_pos (8 * n))).2 (show 1 * 2 ^ (8 * n) ≤ v by omega)
        omega
    rw [Int.toNat_natCast]
    exact_mod_cast h2
  · rw [Int.toNat_natCast, Int.toNat_natCast]; exact hs

theorem putIs_not (v n : Nat) (h : 0 < v / 2 ^ (8 * n)) : PutIs v n ByteArray.empty 1 := by
  refine Or.inr ⟨rfl, rfl, Or.inr (Or.inr (Or.inr ?_))⟩
  rw [Int.toNat_natCast]
  have h2 : 2 ^ (8 * n) ≤ v := by
    have := (Nat.le_div_iff_mul_le (Nat.two_pow_pos (8 * n))).1 h
    omega
  exact_mod_cast h2

theorem putIs_one {v n : Int} {s t : ByteArray} {e f : Int} (h : PutIs v n s e) (k : PutIs v n t f) : s = t ∧ e = f := by
  rcases h with ⟨h0, h1, h2, h3, h4, h5⟩ | ⟨h0, h1, h2⟩
  · rcases k with ⟨k0, k1, k2, k3, k4, k5⟩ | ⟨k0, k1, k2⟩
    · exact ⟨h5.trans k5.symm, h0.trans k0.symm⟩
    · omega
  · rcases k with ⟨k0, k1, k2, k3, k4, k5⟩ | ⟨k0, k1, k2⟩
    · omega
    · exact ⟨h1.trans k1.symm, h0.trans k0.symm⟩

end Go.Proofs.YtgiodfpkkdaflaaDoor

namespace Go.Proofs.YtgiodfpkkdaflaaDoor
open Go.RowKit

set_option maxRecDepth 100000 in
set_option maxHeartbeats 1000000 in
theorem qkey_any (x : Nat) (hx : x < 18446744073709551616) (w : World) :
    Calls Tryd.prog 43 #[.float .f64 x] w fun e w' => e = .returned (.tuple #[.int .i64 ((rankN x / 4294967296 : Nat) : Int), .int .i64 ((rankN x % 4294967296 : Nat) : Int)]) ∧ w = w' := by
  have C := Lib.hid (qisnan_any x w)
  have hfb := run_float64bits x
  cases hn : isN x
  · rw [hn] at C
    rcases word_parts x hx with ⟨h1, h2, h3⟩ | ⟨h1, h2, h3⟩
    · have hr : rankN x = 18446744073709551615 - x := by unfold rankN; rw [hn, h1]; rfl
      have r1 : ((rankN x / 4294967296 : Nat) : Int) = 4294967295 - (x : Int) / 4294967296 := by rw [hr]; omega
      have r2 : ((rankN x % 4294967296 : Nat) : Int) = 4294967295 - (x : Int) % 4294967296 := by rw [hr]; omega
      rw [r1, r2]
      have hd : decide ((2147483648 : Int) ≤ (x : Int) / 4294967296) = true := decide_eq_true (by omega)
      have hq : (x : Int) / 4294967296 ≤ 4294967295 := by omega
      have hq0 : 0 ≤ (x : Int) / 4294967296 := by omega
      clear hr r1 r2 h1 h2 h3 hn
      go_enter Tryd.func43, Tryd.ntmps43
      go_wp2_with fail
      refine C.out.mono ?_
      rintro e w' ⟨rfl, rfl⟩
      go_wp2_with fail
      go_ret2
      exact ⟨rfl, rfl⟩
    · have hr : rankN x = x + 9223372036854775808 := by unfold rankN; rw [hn, h1]; rfl
      have r1 : ((rankN x / 4294967296 : Nat) : Int) = (x : Int) / 4294967296 + 2147483648 := by rw [hr]; omega
      have r2 : ((rankN x % 4294967296 : Nat) : Int) = (x : Int) % 4294967296 := by rw [hr]; omega
      rw [r1, r2]
      have hd : decide ((2147483648 : Int) ≤ (x : Int) / 4294967296) = false := decide_eq_false (by omega)
      have hq : (x : Int) / 4294967296 ≤ 4294967295 := by omega
      have hq0 : 0 ≤ (x : Int) / 4294967296 := by omega
      clear hr r1 r2 h1 h2 h3 hn
      go_enter Tryd.func43, Tryd.ntmps43
      go_wp2_with fail
      refine C.out.mono ?_
      rintro e w' ⟨rfl, rfl⟩
      go_wp2_with fail
      go_ret2
      exact ⟨rfl, rfl⟩
  · rw [hn] at C
    rw [rank_nan x hn]
    go_enter Tryd.func43, Tryd.ntmps43
    go_wp2_with fail
    refine C.out.mono ?_
    rintro e w' ⟨rfl, rfl⟩
    go_wp2_with fail
    go_ret2
    exact ⟨rfl, rfl⟩

set_option maxRecDepth 100000 in
set_option maxHeartbeats 2000000 in
theorem qcompare_any (x y : Nat) (hx : x < 18446744073709551616) (hy : y < 18446744073709551616) (w : World) :
    Calls Tryd.prog 32 #[.float .f64 x, .float .f64 y] w fun e w' => e = .returned (.int .i64 (cmpN x y)) ∧ w = w' := by
  have C := fun W => Lib.hid (qkey_any x hx W)
  have D := fun W => Lib.hid (qkey_any y hy W)
  have hc : (((rankN x / 4294967296 : Nat) : Int) < ((rankN y / 4294967296 : Nat) : Int) ∧ cmpN x y = -1) ∨
      (((rankN x / 4294967296 : Nat) : Int) = ((rankN y / 4294967296 : Nat) : Int) ∧ ((rankN x % 4294967296 : Nat) : Int) < ((rankN y % 4294967296 : Nat) : Int) ∧ cmpN x y = -1) ∨
      (((rankN x / 4294967296 : Nat) : Int) = ((rankN y / 4294967296 : Nat) : Int) ∧ ((rankN x % 4294967296 : Nat) : Int) = ((rankN y % 4294967296 : Nat) : Int) ∧ cmpN x y = 0) ∨
      (((rankN x / 4294967296 : Nat) : Int) = ((rankN y / 4294967296 : Nat) : Int) ∧ ((rankN y % 4294967296 : Nat) : Int) < ((rankN x % 4294967296 : Nat) : Int) ∧ cmpN x y = 1) ∨
      (((rankN y / 4294967296 : Nat) : Int) < ((rankN x / 4294967296 : Nat) : Int) ∧ cmpN x y = 1) := by
    rcases Nat.lt_trichotomy (rankN x) (rankN y) with h | h | h
    · rw [cmpN_lt h]; omega
    · rw [cmpN_eq h]; omega
    · rw [cmpN_gt h]; omega
  generalize cmpN x y = c at *
  generalize ((rankN x / 4294967296 : Nat) : Int) = a at *
  generalize ((rankN x % 4294967296 : Nat) : Int) = b at *
  generalize ((rankN y / 4294967296 : Nat) : Int) = p at *
  generalize ((rankN y % 4294967296 : Nat) : Int) = q at *
  clear hx hy
  rcases hc with ⟨h1, rfl⟩ | ⟨rfl, h2, rfl⟩ | ⟨rfl, rfl, rfl⟩ | ⟨rfl, h2, rfl⟩ | ⟨h1, rfl⟩
  all_goals
    go_enter Tryd.func32, Tryd.ntmps32
    go_wp2_with fail
    refine (C _).out.mono ?_
    rintro e w' ⟨rfl, rfl⟩
    go_wp2_with fail
    refine (D _).out.mono ?_
    rintro e w' ⟨rfl, rfl⟩
    go_wp2_with fail
    go_ret
    exact ⟨rfl, rfl⟩

set_option maxHeartbeats 400000 in
theorem qsame_any (x y : Nat) (hx : x < 18446744073709551616) (hy : y < 18446744073709551616) (w : World) :
    Calls Tryd.prog 19 #[.float .f64 x, .float .f64 y] w fun e w' => e = .returned (.bool (cmpN x y == 0)) ∧ w = w' := by
  have S := Lib.hid (qcompare_any x y hx hy w)
  go_enter Tryd.func19, Tryd.ntmps19
  go_wp2_with fail
  refine S.out.mono ?_
  rintro e w' ⟨rfl, rfl⟩
  go_wp2_with fail
  go_ret
  exact ⟨rfl, rfl⟩

set_option maxRecDepth 100000 in
set_option maxHeartbeats 1000000 in
theorem qratio_any (a b : Int) (w : World) :
    Calls Tryd.prog 21 #[.int .i64 a, .int .i64 b] w fun e w' => RatP w (floatBits .quo .f64 (floatOfInt .f64 a) (floatOfInt .f64 b)) e w' := by
  cases h : floatBits .quo .f64 (floatOfInt .f64 a) (floatOfInt .f64 b) with
  | some r =>
    have hq := fun W : World => run_float_arith (P := Tryd.prog) W .quo 23 .f64 _ _ _ h
    clear h
    go_enter Tryd.func21, Tryd.ntmps21
    go_wp2_with fail
    go_ret
    exact ⟨rfl, rfl⟩
  | none =>
    have hq := run_quo_nan _ _ h
    have hz := Lib.hid (fun W => tapeNan_is W (floatOfInt .f64 a) (floatOfInt .f64 b))
    clear h
    go_enter Tryd.func21, Tryd.ntmps21
    go_wp2_with fail
    go_ret
    exact ⟨_, rfl, (hz.out _).1, (hz.out _).2, (Below.refl _ _).drew⟩

/-! ### Put -/
theorem be_cat (m : Nat) : ∀ (n v : Nat), be v (n + m) = be (v / 2 ^ (8 * m)) n ++ be v m
  | 0, v => by simp [be]
  | n + 1, v => by
    rw [show n + 1 + m = (n + m) + 1 from by omega, be_succ, be_succ, be_cat m n v, List.cons_append, Nat.div_div_eq_div_mul, ← Nat.pow_add]
    congr 6
    omega
theorem be_half (v : Nat) : be v 8 = be (v / 4294967296) 4 ++ be (v % 4294967296) 4 := by
  have h := be_cat 4 4 v
  have h2 := be_mod v 4
  rw [show (2 : Nat) ^ (8 * 4) = 4294967296 from by decide] at h h2
  rw [← h2]
  exact h

end Go.Proofs.YtgiodfpkkdaflaaDoor

namespace Go.Proofs.YtgiodfpkkdaflaaDoor
open Go.RowKit

theorem wf_f64 {a : Nat} (h : (Lit.float .f64 a).wf = true) : a < 18446744073709551616 := by
  simp [Lit.wf] at h
  exact h

theorem maxN_lt {a b : Nat} (ha : a < 18446744073709551616) (hb : b < 18446744073709551616) : maxN a b < 18446744073709551616 := by unfold maxN; split <;> assumption
theorem minN_lt {a b : Nat} (ha : a < 18446744073709551616) (hb : b < 18446744073709551616) : minN a b < 18446744073709551616 := by unfold minN; split <;> assumption

theorem rank_max (a b : Nat) : rankN (maxN a b) = max (rankN a) (rankN b) := by
  unfold maxN
  rcases Nat.lt_trichotomy (rankN a) (rankN b) with h | h | h
  · rw [cmpN_lt h, if_pos (by decide)]; omega
  · rw [cmpN_eq h, if_neg (by decide)]; omega
  · rw [cmpN_gt h, if_neg (by decide)]; omega
theorem rank_min (a b : Nat) : rankN (minN a b) = min (rankN a) (rankN b) := by
  unfold minN
  rcases Nat.lt_trichotomy (rankN a) (rankN b) with h | h | h
  · rw [cmpN_lt h, if_neg (by decide)]; omega
  · rw [cmpN_eq h, if_neg (by decide)]; omega
  · rw [cmpN_gt h, if_pos (by decide)]; omega

theorem same_true {a b : Nat} (h : rankN a = rankN b) : (cmpN a b == 0) = true := by rw [beq_iff_eq]; exact cmpN_eq h
theorem same_false {a b : Nat} (h : rankN a ≠ rankN b) : (cmpN a b == 0) = false := by rw [beq_eq_false_iff_ne]; intro e; exact h ((cmpN_zero a b).1 e)
theorem cmp_le {a b : Nat} (h : rankN a ≤ rankN b) : cmpN a b ≤ 0 := by unfold cmpN; split <;> (try split) <;> omega
theorem rank_nanw : rankN 9221120237041090561 = 0 := by decide
end Go.Proofs.YtgiodfpkkdaflaaDoor

namespace Go.Proofs.YtgiodfpkkdaflaaDoor
open Go.RowKit Go.WideShapes Go.ChangeShapes
section
variable {H : Type} {enc : TypeId × Value → H} {P : Program}
theorem post_of_below {f : Func} {s : ChangeSpec} {apart fresh handsOn again : Bool} {W W' : World} {args : Array Value} {v : Value} {ds gs : List (DataW H)} {before pa pv : List MemPlace}
    (hW : DataW.Whole enc P f.params.toList s.vars apart W args.toList ds gs before)
    (hres : ∀ (b : Nat) (sp : Nat → Bool) (hd : Bool), DataW.TrodAll enc P W' b sp hd f.resultTypes.toList (v.resultList f.resultTypes.size) (s.fn H (ds ++ gs)).results [])
    (hargs : ∀ sp : Nat → Bool, (∀ p ∈ before, sp p.block = true) → DataW.TrodAll enc P W' 0 sp true f.params.toList args.toList (s.fn H (ds ++ gs)).args pa)
    (hvars : ∀ sp : Nat → Bool, (∀ p ∈ before, sp p.block = true) → DataW.TrodVars enc P W' sp s.vars (s.fn H (ds ++ gs)).vars pv)
    (hps : before = pa ++ pv) (hb : Below W.heap.size W W')
    (hok : ∀ (j : Nat) (t : TypeId) (r : Value), f.resultTypes[j]? = some t → (v.resultList f.resultTypes.size)[j]? = some r → Value.okWide P W' .any 0 t r) :
    s.post enc P f apart fresh handsOn again W args v W' := by
  have hlt : ∀ p ∈ before, p.block < W.heap.size := fun p hp => hW.lt p hp
  have hold : ∀ p ∈ before, (fun b => decide (b < W.heap.size)) p.block = true := fun p hp => by simpa using hlt p hp
  refine ⟨ds, gs, before, [], pa, pv, hW, hres _ _ _, hargs _ hold, hvars _ hold, World.keptBut_mono (fun p hp => ⟨hp, ?_⟩) (hb.frame (· ∈ before)), fun _ => ?_⟩
  · rw [hps, List.mem_append] at hp
    exact Or.inr hp
  · obtain ⟨_, _, _, _, _, hz, hn⟩ := hW
    refine ⟨hok, _, _, ([] ++ pa) ++ pv, ⟨[] ++ pa, pv, trodAll_append (hargs _ (fun _ _ => rfl)) (hres _ _ _), hvars _ (fun _ _ => rfl), rfl, ?_, ?_⟩, ?_⟩
    · intro b off hp
      have hin : MemPlace.cell b off ∈ before := by rw [hps]; simpa using hp
      rw [hb.frozen (hlt _ hin)]
      exact hz b off hin
    · intro ha
      have := hn ha
      rw [hps] at this
      simpa using this
    · intro p hp _
      rw [hps]
      simpa using hp
end
end Go.Proofs.YtgiodfpkkdaflaaDoor

namespace Go.Proofs.YtgiodfpkkdaflaaDoor
section
variable {H : Type} {enc : TypeId × Value → H}
theorem witness_row_shaped {C : Checked} {os : Os} {f : FuncId} {fn : Func} {s : OpenSpec} {conds : List PathCond} {apart : Bool} {laid : List (String × DataW Unit)} (modest : Bool) (w0 : World) (args : Array Value) (hos : w0.os = os)
    (hsh : (w0.forCall (fun _ _ => 0) ⟨#[], args, []⟩).Shaped C.prog)
    (hok : Input.okWideB C.prog (w0.forCall (fun _ _ => 0) ⟨#[], args, []⟩) f ⟨#[], args, []⟩ = true)
    (hrow : s.preRow enc C.prog fn conds apart laid (w0.forCall (fun _ _ => 0) ⟨#[], args, []⟩).memory args) :
    ∃ (w : World) (tape : Tape) (i : Input), w.os = os ∧ (w.forCall tape i).Shaped C.prog ∧ i.vars = [] ∧ Input.okWide C.prog (w.forCall tape i) .any w.heap.size f i ∧
      s.preRow enc C.prog fn conds apart laid (w.forCall tape i).memory i.args ∧ ({ modest := modest } : Assume).holds C.prog (lone (Frame.enter C.prog f i.args .normal) [] (w.forCall tape i)) :=
  ⟨w0, fun _ _ => 0, ⟨#[], args, []⟩, hos, hsh, (Input.okWide_of_okWideB (base := 0) hok).1, (Input.okWide_of_okWideB hok).2, hrow, by
    simp only [Assume.holds]
    exact ⟨by simp, by simp, fun _ => Modest.zero, by simp, by simp⟩⟩
end
end Go.Proofs.YtgiodfpkkdaflaaDoor
