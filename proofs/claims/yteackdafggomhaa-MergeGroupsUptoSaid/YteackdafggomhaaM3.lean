/-
  Several texts in one: Tables, as plain values, 3: what Get answers; bytes whose last four are the sum of all ahead, and one of them changed (no program is named).
  Tables, as plain values, 4: the blocks that pairs stand in (no program is named).
  Tables, as plain values, 5: the blocks as Write cuts them, one behind the other (no program is named).
  Walks over package raw: Quote.
  Walks over package raw: what stands in quotes is read.
  Walks over package raw: Get, Number.
  Chapter 11, plain: bytes read pair by pair, just as Build lays them. No program is named.
  Tables, as plain values, 6: of keys that rise, those with one head stand side by side (no program is named).
  The order of float64 numbers as words, by sign and rung (no program is named).
  The order of float64 numbers as ranks, and the bits that tell it (no program is named).
  Rounding to float64: it never turns the order round, and leaves what fits as it is (no program is named).
  Products and whole parts of float64 numbers (no program is named).
  float64(n) of an int; how far a clock goes (no program is named).
  math.Floor, and the whole part of a float64 number that is not negative.
  How many bits and places a number of bits means, as plain values (no program is named).
  The document's own answer to chapter 12, part 1: Floor, Probes, Size.
  Quotients of ints as float64 numbers (no program is named).
  A product of float64 numbers and what it means for a filter (no program is named).
  The document's own answer to chapter 12, part 2: Probes, Size.
  The document's own answer to chapter 12, part 3: Size.
  The book of lists, Ints: marks, copies, are two alike? (Written by wip/gen/gen_bk.py.)
  Walks over the document's own answer to chapter 1: Sum, Compare.
  Filters of marked places, as plain values (no program is named).
  The document's own answer to chapter 12, part 4: the places of a key.
  A region that draws its order, walked in the order of the text, within a class of worlds: one operation at a time. No program is named.
  The document's own answer to chapter 12, part 5: May.
  A list of texts, as it can be read in a world. No program is named.
-/
import Derived.Test.YteackdafggomhaaM2
import Derived.Test.YteackdafggomhaaM1
import Derived.Test.YteackdafggomhaaRows
import Derived.Deep.RegionLaw
import Derived.Lib.Strings
import Derived.Lib.SlicesCompact
import Ieee.Arith
import Derived.Laws.FloatArith
import Derived.LoopTactic
import Derived.DeepKeys
import Derived.Deep.QuietTactic
import Derived.BigQuiet
namespace Go.Proofs.Yteackdafggomhaa
open Go.RowKit

/-- What Get answers. -/
def getK (L : List KV) (key : ByteArray) : ByteArray × Int :=
  match fromK L key 1 with
  | m :: _ => if (m.1.toList == key.toList) = true then (m.2, 0) else (⟨#[]⟩, 22)
  | [] => (⟨#[]⟩, 22)
theorem cmpL_refl : ∀ l : List UInt8, Lib.compareBytes l l = 0
  | [] => rfl
  | a :: r => by
    rw [Lib.compareBytes, if_neg (by simp), if_neg (by simp)]
    exact cmpL_refl r
/-- The least pair at or behind one of the list's own keys is that pair. -/
theorem fromK_one {L : List KV} (hR : risesK L = true) {m : KV} (hm : m ∈ L) : fromK L m.1 1 = [m] := by
  obtain ⟨A, B, rfl⟩ := List.append_of_mem hm
  have hA : A.filter (fun a => decide (0 ≤ cmpT a.1 m.1)) = [] := by
    rw [List.filter_eq_nil_iff]
    intro a ha
    obtain ⟨j, hj⟩ := List.mem_iff_getElem?.1 ha
    have hjl := (List.getElem?_eq_some_iff.1 hj).1
    have h1 : (A ++ m :: B)[j]? = some a := by rw [List.getElem?_append_left hjl]; exact hj
    have h2 : (A ++ m :: B)[A.length]? = some m := by rw [List.getElem?_append_right (Nat.le_refl _), Nat.sub_self]; rfl
    have h3 := rises_get hR hjl h1 h2
    simp
    exact h3
  unfold fromK
  rw [if_neg (by decide), List.filter_append, hA, List.nil_append, List.filter_cons_of_pos (by simp [cmpT, cmpL_refl])]
  rfl
theorem getK_mem {L : List KV} (hR : risesK L = true) {m : KV} (hm : m ∈ L) : getK L m.1 = (m.2, 0) := by
  unfold getK
  rw [fromK_one hR hm]
  show (if (m.1.toList == m.1.toList) = true then (m.2, (0 : Int)) else (⟨#[]⟩, 22)) = _
  rw [if_pos (beq_self_eq_true _)]
theorem write_rises {L : List KV} (he : writeE L = 0) : risesK L = true := by
  cases h : risesK L
  · unfold writeE at he
    rw [if_pos h] at he
    cases he
  · rfl
theorem write_ne {L : List KV} (he : writeE L = 0) : L ≠ [] := by
  rintro rfl
  have h9 : writeE [] = 1 := by decide +kernel
  rw [h9] at he
  cases he

/-- The last four bytes are the sum of all ahead. -/
def fitsB (b : ByteArray) : Prop := ∃ P, bl b = P ++ be (crc P) 4
theorem fits_size {b : ByteArray} (h : fitsB b) : 4 ≤ b.size := by
  obtain ⟨P, h⟩ := h
  have h1 := congrArg List.length h
  rw [List.length_append, be_length, bl_len] at h1
  omega
theorem fits_changed {b b' : ByteArray} (h : fitsB b) {k : Nat} {c : UInt8} (hk : k < (bl b).length) (hc : (bl b)[k] ≠ c) (hb' : bl b' = (bl b).set k c) : ¬ fitsB b' := by
  rintro ⟨Q, f2⟩
  obtain ⟨P, f1⟩ := h
  rw [hb'] at f2
  have hl := congrArg List.length f2
  have hl1 := congrArg List.length f1
  rw [List.length_set] at hl
  rw [List.length_append, be_length] at hl hl1
  have hPQ : Q.length = P.length := by omega
  by_cases hkP : k < P.length
  · have g : (P ++ be (crc P) 4).set k c = P.set k c ++ be (crc P) 4 := List.set_append_left _ _ hkP
    rw [f1, g] at f2
    obtain ⟨q1, q2⟩ := List.append_inj f2 (by rw [List.length_set]; omega)
    have hcr := be4_inj (crc_lt _) (crc_lt _) q2
    have hne : P[k] ≠ c := by
      intro e
      refine hc ?_
      rw [← e]
      have : (bl b)[k]? = P[k]? := by rw [f1, List.getElem?_append_left hkP]
      rw [List.getElem?_eq_getElem hk, List.getElem?_eq_getElem hkP] at this
      exact Option.some.inj this
    rw [← q1] at hcr
    exact crc_changed P k hkP c hne hcr
  · have g : (P ++ be (crc P) 4).set k c = P ++ (be (crc P) 4).set (k - P.length) c := List.set_append_right _ _ (by omega)
    rw [f1, g] at f2
    obtain ⟨q1, q2⟩ := List.append_inj f2 hPQ.symm
    rw [← q1] at q2
    have hk2 : k - P.length < (be (crc P) 4).length := by rw [be_length]; omega
    have e1 : (bl b)[k]? = (be (crc P) 4)[k - P.length]? := by rw [f1, List.getElem?_append_right (by omega)]
    have e2 : (be (crc P) 4)[k - P.length]? = some c := by rw [← q2, List.getElem?_set_self (by rw [be_length]; rw [be_length] at hk2; exact hk2)]
    rw [e2, List.getElem?_eq_getElem hk] at e1
    exact hc (Option.some.inj e1)
/-- Do they fit, told by the last four bytes as a number. -/
theorem fits_iff (b : ByteArray) (h4 : 4 ≤ b.size) : fitsB b ↔ (bl b).drop (b.size - 4) = be (crc ((bl b).take (b.size - 4))) 4 := by
  constructor
  · rintro ⟨P, h⟩
    have h1 := congrArg List.length h
    rw [List.length_append, be_length, bl_len] at h1
    have e : b.size - 4 = P.length := by omega
    rw [e, h, List.drop_left, List.take_left]
  · intro h
    refine ⟨(bl b).take (b.size - 4), ?_⟩
    rw [← h, List.take_append_drop]
end Go.Proofs.Yteackdafggomhaa

namespace Go.Proofs.Yteackdafggomhaa
open Go.RowKit

/-- The blocks that are full, the one that still takes pairs, and its bytes. -/
structure GrpS where
  full : List (List KV)
  cur : List KV
  z : Nat
def grpStep (s : GrpS) (m : KV) : GrpS :=
  if s.z + m.1.size + m.2.size < 1024 then ⟨s.full, s.cur ++ [m], s.z + m.1.size + m.2.size⟩ else ⟨s.full ++ [s.cur ++ [m]], [], 0⟩
def grpSt (L : List KV) : GrpS := L.foldl grpStep ⟨[], [], 0⟩
def grpEnd (s : GrpS) : List (List KV) := if s.cur = [] then s.full else s.full ++ [s.cur]
/-- The blocks of pairs, one behind the other. -/
def groupsK (L : List KV) : List (List KV) := grpEnd (grpSt L)
theorem grpSt_snoc (L : List KV) (m : KV) : grpSt (L ++ [m]) = grpStep (grpSt L) m := by
  unfold grpSt
  rw [List.foldl_append]
  rfl
/-- What stands of the blocks so far. -/
structure GrpOk (L : List KV) (s : GrpS) : Prop where
  all : s.full.flatten ++ s.cur = L
  some : ∀ g ∈ s.full, g ≠ []
  none : s.cur = [] → s.z = 0
  lt : s.z < 1024
  num : (blkSt L).1 = s.full.length + if s.cur = [] then 0 else 1
  opn : (blkSt L).2.2 = decide (s.cur ≠ [])
  siz : s.cur ≠ [] → (blkSt L).2.1 = s.z
theorem grpOk_step {L : List KV} {s : GrpS} (h : GrpOk L s) (m : KV) : GrpOk (L ++ [m]) (grpStep s m) := by
  have hb := blkSt_snoc L m
  have hz : (if (blkSt L).2.2 then (blkSt L).2.1 else 0) = s.z := by
    rw [h.opn]
    by_cases hc : s.cur = []
    · rw [if_neg (by simp [hc]), h.none hc]
    · rw [if_pos (by simp [hc]), h.siz hc]
  have hn : (if (blkSt L).2.2 then (blkSt L).1 else (blkSt L).1 + 1) = s.full.length + 1 := by
    rw [h.opn, h.num]
    by_cases hc : s.cur = []
    · rw [if_neg (by simp [hc]), if_pos hc]
    · rw [if_pos (by simp [hc]), if_neg hc]
  have hst : blkSt (L ++ [m]) = (s.full.length + 1, s.z + m.1.size + m.2.size, decide (s.z + m.1.size + m.2.size < 1024)) := by
    rw [hb]
    unfold blkStep
    dsimp only
    rw [hz, hn]
  unfold grpStep
  by_cases hl : s.z + m.1.size + m.2.size < 1024
  · rw [if_pos hl]
    have hne : s.cur ++ [m] ≠ [] := by simp
    refine ⟨?_, h.some, fun e => absurd e hne, hl, ?_, ?_, fun _ => by rw [hst]⟩
    · rw [← List.append_assoc, h.all]
    · rw [hst]
      show _ = s.full.length + if s.cur ++ [m] = [] then 0 else 1
      rw [if_neg hne]
    · rw [hst]
      show decide _ = decide _
      rw [decide_eq_true hl, decide_eq_true hne]
  · rw [if_neg hl]
    refine ⟨?_, ?_, fun _ => rfl, (by decide : 0 < 1024), ?_, ?_, fun e => absurd rfl e⟩
    · show (s.full ++ [s.cur ++ [m]]).flatten ++ [] = _
      rw [List.flatten_append, List.append_nil, ← h.all]
      simp
    · intro g hg
      rcases List.mem_append.1 hg with h1 | h1
      · exact h.some g h1
      · rw [List.mem_singleton] at h1
        rw [h1]
        simp
    · rw [hst]
      show s.full.length + 1 = (s.full ++ [s.cur ++ [m]]).length + if ([] : List KV) = [] then 0 else 1
      rw [if_pos rfl, List.length_append]
      rfl
    · rw [hst]
      show decide _ = decide (([] : List KV) ≠ [])
      rw [decide_eq_false hl]
      rfl
theorem grpOk_all (L : List KV) : GrpOk L (grpSt L) := by
  have key : ∀ (R : List KV) (L : List KV) (s : GrpS), GrpOk L s → GrpOk (L ++ R) (R.foldl grpStep s) := by
    intro R
    induction R with
    | nil => intro L s h; rw [List.append_nil]; exact h
    | cons m r ih =>
      intro L s h
      rw [List.foldl_cons, show L ++ m :: r = (L ++ [m]) ++ r by simp]
      exact ih _ _ (grpOk_step h m)
  have h0 : GrpOk [] ⟨[], [], 0⟩ := ⟨rfl, fun g hg => (by cases hg), fun _ => rfl, by decide, rfl, rfl, fun e => absurd rfl e⟩
  have := key L [] _ h0
  rwa [List.nil_append] at this
theorem groups_all (L : List KV) : (groupsK L).flatten = L := by
  have h := grpOk_all L
  unfold groupsK grpEnd
  split
  · rename_i hc
    have := h.all
    rw [hc, List.append_nil] at this
    exact this
  · rw [List.flatten_append]
    have := h.all
    simpa using this
theorem groups_len (L : List KV) : (groupsK L).length = blocksK L := by
  have h := grpOk_all L
  have h1 := h.num
  unfold groupsK grpEnd blocksK
  rw [h1]
  split
  · omega
  · rw [List.length_append]
    rfl
theorem groups_some (L : List KV) : ∀ g ∈ groupsK L, g ≠ [] := by
  have h := grpOk_all L
  unfold groupsK grpEnd
  split
  · exact h.some
  · rename_i hc
    intro g hg
    rcases List.mem_append.1 hg with h1 | h1
    · exact h.some g h1
    · rw [List.mem_singleton] at h1
      rw [h1]
      exact hc
end Go.Proofs.Yteackdafggomhaa

namespace Go.Proofs.Yteackdafggomhaa
open Go.RowKit

/-- How many of the pairs the next block takes, where it has z bytes already. -/
def takenN : Nat → List KV → Nat
  | _, [] => 0
  | z, m :: r => if 1024 ≤ z + m.1.size + m.2.size then 1 else takenN (z + m.1.size + m.2.size) r + 1
theorem takenN_le : ∀ (R : List KV) (z : Nat), takenN z R ≤ R.length
  | [], _ => Nat.le_refl _
  | m :: r, z => by
    rw [takenN, List.length_cons]
    split
    · omega
    · have := takenN_le r (z + m.1.size + m.2.size); omega
theorem takenN_pos {R : List KV} (h : R ≠ []) (z : Nat) : 0 < takenN z R := by
  cases R with
  | nil => exact absurd rfl h
  | cons m r =>
    rw [takenN]
    split <;> omega
theorem grp_run : ∀ (R : List KV) (full : List (List KV)) (cur : List KV) (z : Nat),
    (R.take (takenN z R)).foldl grpStep ⟨full, cur, z⟩ = ⟨full ++ [cur ++ R.take (takenN z R)], [], 0⟩ ∨ (takenN z R = R.length ∧ ∃ z', R.foldl grpStep ⟨full, cur, z⟩ = ⟨full, cur ++ R, z'⟩)
  | [], full, cur, z => Or.inr ⟨rfl, z, by rw [List.append_nil]; rfl⟩
  | m :: r, full, cur, z => by
    rw [takenN]
    by_cases h : 1024 ≤ z + m.1.size + m.2.size
    · left
      rw [if_pos h]
      show grpStep ⟨full, cur, z⟩ m = _
      unfold grpStep
      rw [if_neg (by dsimp only; omega)]
      rfl
    · rw [if_neg h]
      have hs : grpStep ⟨full, cur, z⟩ m = ⟨full, cur ++ [m], z + m.1.size + m.2.size⟩ := by
        unfold grpStep
        rw [if_pos (by dsimp only; omega)]
      rcases grp_run r full (cur ++ [m]) (z + m.1.size + m.2.size) with h1 | ⟨h1, z', h2⟩
      · left
        rw [List.take_succ_cons, List.foldl_cons, hs, h1, List.append_assoc]
        rfl
      · right
        refine ⟨by rw [h1, List.length_cons], z', ?_⟩
        rw [List.foldl_cons, hs, h2, List.append_assoc]
        rfl
/-- What stands between two blocks: those that are laid, the pairs that are left. -/
structure CutSt (L : List KV) (G : List (List KV)) (R : List KV) : Prop where
  all : G.flatten ++ R = L
  st : R ≠ [] → grpSt G.flatten = ⟨G, [], 0⟩
  fin : R = [] → groupsK L = G
theorem cut_start (L : List KV) : CutSt L [] L := ⟨rfl, fun _ => rfl, fun h => by rw [h]; rfl⟩
theorem cut_step {L : List KV} {G : List (List KV)} {R : List KV} (h : CutSt L G R) (hR : R ≠ []) : CutSt L (G ++ [R.take (takenN 0 R)]) (R.drop (takenN 0 R)) := by
  have hst := h.st hR
  have hfl : (G ++ [R.take (takenN 0 R)]).flatten = G.flatten ++ R.take (takenN 0 R) := by simp
  have hgr : ∀ X, grpSt (G.flatten ++ X) = X.foldl grpStep ⟨G, [], 0⟩ := fun X => by
    unfold grpSt at hst ⊢
    rw [List.foldl_append, hst]
  have hall : G.flatten ++ R.take (takenN 0 R) ++ R.drop (takenN 0 R) = L := by rw [List.append_assoc, List.take_append_drop, h.all]
  have hpos := takenN_pos hR 0
  rcases grp_run R G [] 0 with h1 | ⟨h1, z', h2⟩
  · rw [List.nil_append] at h1
    refine ⟨by rw [hfl]; exact hall, fun _ => by rw [hfl, hgr, h1], fun hd => ?_⟩
    rw [hd, List.append_nil] at hall
    unfold groupsK
    rw [← hall, hgr, h1]
    rfl
  · rw [List.nil_append] at h2
    have ht : R.take (takenN 0 R) = R := by rw [h1]; exact List.take_length
    have hd : R.drop (takenN 0 R) = [] := by rw [h1]; exact List.drop_length
    refine ⟨by rw [hfl]; exact hall, fun hne => absurd hd hne, fun _ => ?_⟩
    unfold groupsK
    rw [← h.all, hgr, h2, ht]
    unfold grpEnd
    rw [if_neg hR]

theorem rises_both {A B : List KV} (h : risesK (A ++ B) = true) : risesK A = true ∧ risesK B = true := by
  constructor
  · exact rises_iff _ fun i a b ha hb => rises_get h (Nat.lt_succ_self i) (by rw [List.getElem?_append_left (List.getElem?_eq_some_iff.1 ha).1]; exact ha) (by rw [List.getElem?_append_left (List.getElem?_eq_some_iff.1 hb).1]; exact hb)
  · exact rises_iff _ fun i a b ha hb => rises_get h (show A.length + i < A.length + (i + 1) by omega) (by rw [List.getElem?_append_right (by omega), Nat.add_sub_cancel_left]; exact ha) (by rw [List.getElem?_append_right (by omega), Nat.add_sub_cancel_left]; exact hb)
/-- Pairs behind others rise with them, if the first one is above the last. -/
theorem rises_join {A B : List KV} (hA : risesK A = true) (hB : risesK B = true) (h : ∀ a b, A[A.length - 1]? = some a → B[0]? = some b → cmpT a.1 b.1 < 0) : risesK (A ++ B) = true := by
  refine rises_iff _ fun i a b ha hb => ?_
  rcases Nat.lt_trichotomy (i + 1) A.length with h1 | h1 | h1
  · rw [List.getElem?_append_left (by omega)] at ha hb
    exact rises_get hA (Nat.lt_succ_self i) ha hb
  · rw [List.getElem?_append_left (by omega)] at ha
    rw [List.getElem?_append_right (by omega), show i + 1 - A.length = 0 by omega] at hb
    rw [show i = A.length - 1 by omega] at ha
    exact h a b ha hb
  · rw [List.getElem?_append_right (by omega)] at ha hb
    exact rises_get hB (show i - A.length < i + 1 - A.length by omega) ha hb
end Go.Proofs.Yteackdafggomhaa

namespace Go.Proofs.Yteackdafggomhaa
open Go.RowKit

/-- A digit of sixteen. -/
def hx (n : Nat) : UInt8 := if n < 10 then UInt8.ofNat (48 + n) else UInt8.ofNat (87 + n)
/-- A byte in quotes. -/
def qb (c : UInt8) : List UInt8 :=
  if c.toNat < 32 ∨ 126 < c.toNat then [92, 120, hx (c.toNat / 16), hx (c.toNat % 16)] else if c.toNat = 34 ∨ c.toNat = 92 then [92, c] else [c]
def quoteL (l : List UInt8) : List UInt8 := 34 :: (l.map qb).flatten ++ [34]
theorem qb_len (c : UInt8) : 1 ≤ (qb c).length ∧ (qb c).length ≤ 4 := by
  unfold qb
  split
  · simp
  · split <;> simp
theorem flat_len (l : List UInt8) : (l.map qb).flatten.length ≤ 4 * l.length := by
  induction l with
  | nil => simp
  | cons c r ih =>
    have := (qb_len c).2
    rw [List.map_cons, List.flatten_cons, List.length_append, List.length_cons]
    omega
theorem flat_snoc (s : ByteArray) (k : Nat) (h : k < s.size) : ((s.data.toList.take (k + 1)).map qb).flatten = ((s.data.toList.take k).map qb).flatten ++ qb s[k] := by
  rw [List.take_succ_eq_append_getElem (by simpa using h), List.map_append, List.flatten_append]
  simp; rfl

theorem hexidx0 (W : World) : (Instr.index 9 (.string ⟨#[48, 49, 50, 51, 52, 53, 54, 55, 56, 57, 97, 98, 99, 100, 101, 102]⟩) (.int .u8 0)).run Try.prog W = .ok (.int .u8 48) W := by kernel_rfl
theorem hexidx1 (W : World) : (Instr.index 9 (.string ⟨#[48, 49, 50, 51, 52, 53, 54, 55, 56, 57, 97, 98, 99, 100, 101, 102]⟩) (.int .u8 1)).run Try.prog W = .ok (.int .u8 49) W := by kernel_rfl
theorem hexidx2 (W : World) : (Instr.index 9 (.string ⟨#[48, 49, 50, 51, 52, 53, 54, 55, 56, 57, 97, 98, 99, 100, 101, 102]⟩) (.int .u8 2)).run Try.prog W = .ok (.int .u8 50) W := by kernel_rfl
theorem hexidx3 (W : World) : (Instr.index 9 (.string ⟨#[48, 49, 50, 51, 52, 53, 54, 55, 56, 57, 97, 98, 99, 100, 101, 102]⟩) (.int .u8 3)).run Try.prog W = .ok (.int .u8 51) W := by kernel_rfl
theorem hexidx4 (W : World) : (Instr.index 9 (.string ⟨#[48, 49, 50, 51, 52, 53, 54, 55, 56, 57, 97, 98, 99, 100, 101, 102]⟩) (.int .u8 4)).run Try.prog W = .ok (.int .u8 52) W := by kernel_rfl
theorem hexidx5 (W : World) : (Instr.index 9 (.string ⟨#[48, 49, 50, 51, 52, 53, 54, 55, 56, 57, 97, 98, 99, 100, 101, 102]⟩) (.int .u8 5)).run Try.prog W = .ok (.int .u8 53) W := by kernel_rfl
theorem hexidx6 (W : World) : (Instr.index 9 (.string ⟨#[48, 49, 50, 51, 52, 53, 54, 55, 56, 57, 97, 98, 99, 100, 101, 102]⟩) (.int .u8 6)).run Try.prog W = .ok (.int .u8 54) W := by kernel_rfl
theorem hexidx7 (W : World) : (Instr.index 9 (.string ⟨#[48, 49, 50, 51, 52, 53, 54, 55, 56, 57, 97, 98, 99, 100, 101, 102]⟩) (.int .u8 7)).run Try.prog W = .ok (.int .u8 55) W := by kernel_rfl
theorem hexidx8 (W : World) : (Instr.index 9 (.string ⟨#[48, 49, 50, 51, 52, 53, 54, 55, 56, 57, 97, 98, 99, 100, 101, 102]⟩) (.int .u8 8)).run Try.prog W = .ok (.int .u8 56) W := by kernel_rfl
theorem hexidx9 (W : World) : (Instr.index 9 (.string ⟨#[48, 49, 50, 51, 52, 53, 54, 55, 56, 57, 97, 98, 99, 100, 101, 102]⟩) (.int .u8 9)).run Try.prog W = .ok (.int .u8 57) W := by kernel_rfl
theorem hexidx10 (W : World) : (Instr.index 9 (.string ⟨#[48, 49, 50, 51, 52, 53, 54, 55, 56, 57, 97, 98, 99, 100, 101, 102]⟩) (.int .u8 10)).run Try.prog W = .ok (.int .u8 97) W := by kernel_rfl
theorem hexidx11 (W : World) : (Instr.index 9 (.string ⟨#[48, 49, 50, 51, 52, 53, 54, 55, 56, 57, 97, 98, 99, 100, 101, 102]⟩) (.int .u8 11)).run Try.prog W = .ok (.int .u8 98) W := by kernel_rfl
theorem hexidx12 (W : World) : (Instr.index 9 (.string ⟨#[48, 49, 50, 51, 52, 53, 54, 55, 56, 57, 97, 98, 99, 100, 101, 102]⟩) (.int .u8 12)).run Try.prog W = .ok (.int .u8 99) W := by kernel_rfl
theorem hexidx13 (W : World) : (Instr.index 9 (.string ⟨#[48, 49, 50, 51, 52, 53, 54, 55, 56, 57, 97, 98, 99, 100, 101, 102]⟩) (.int .u8 13)).run Try.prog W = .ok (.int .u8 100) W := by kernel_rfl
theorem hexidx14 (W : World) : (Instr.index 9 (.string ⟨#[48, 49, 50, 51, 52, 53, 54, 55, 56, 57, 97, 98, 99, 100, 101, 102]⟩) (.int .u8 14)).run Try.prog W = .ok (.int .u8 101) W := by kernel_rfl
theorem hexidx15 (W : World) : (Instr.index 9 (.string ⟨#[48, 49, 50, 51, 52, 53, 54, 55, 56, 57, 97, 98, 99, 100, 101, 102]⟩) (.int .u8 15)).run Try.prog W = .ok (.int .u8 102) W := by kernel_rfl
theorem hexidx (n : Nat) (h : n < 16) (W : World) : (Instr.index 9 (.string ⟨#[48, 49, 50, 51, 52, 53, 54, 55, 56, 57, 97, 98, 99, 100, 101, 102]⟩) (.int .u8 (n : Int))).run Try.prog W = .ok (.int .u8 ((hx n).toNat : Int)) W := by
  match n, h with
  | 0, _ => exact hexidx0 W
  | 1, _ => exact hexidx1 W
  | 2, _ => exact hexidx2 W
  | 3, _ => exact hexidx3 W
  | 4, _ => exact hexidx4 W
  | 5, _ => exact hexidx5 W
  | 6, _ => exact hexidx6 W
  | 7, _ => exact hexidx7 W
  | 8, _ => exact hexidx8 W
  | 9, _ => exact hexidx9 W
  | 10, _ => exact hexidx10 W
  | 11, _ => exact hexidx11 W
  | 12, _ => exact hexidx12 W
  | 13, _ => exact hexidx13 W
  | 14, _ => exact hexidx14 W
  | 15, _ => exact hexidx15 W
  | n + 16, h => omega
theorem and_15 : ∀ c : Nat, c < 256 → bits .and .u8 (c : Int) 15 = ((c % 16 : Nat) : Int) := by decide +kernel

end Go.Proofs.Yteackdafggomhaa

namespace Go.Proofs.Yteackdafggomhaa
open Go.RowKit

/-! ### The reader's steps, of its whole block -/
/-! ### Digits -/
/-- The worth of a digit of sixteen. -/
def hexv (c : Nat) : Option Nat := if 97 ≤ c ∧ c ≤ 102 then some (c - 87) else if 65 ≤ c ∧ c ≤ 70 then some (c - 55) else if 48 ≤ c ∧ c ≤ 57 then some (c - 48) else none

def HexPost (w : World) : Option Nat → Ending → World → Prop
  | some v, e, w' => e = .returned (.int .u8 (v : Int)) ∧ w = w'
  | none, e, w' => e = .panicked [{ v := .iface 26 (.int .i64 4), recovered := false }] ∧ w = w'

/-! ### What stands behind a backslash -/
def escx : List UInt8 → Option (UInt8 × Nat)
  | a :: b :: _ => (hexv a.toNat).bind fun x => (hexv b.toNat).map fun y => (UInt8.ofNat (16 * x + y), 3)
  | _ => none
def esc : List UInt8 → Option (UInt8 × Nat)
  | [] => none
  | c :: r => if c.toNat = 34 ∨ c.toNat = 92 then some (c, 1) else if c.toNat = 120 then escx r else none

theorem escx_cons (a b : UInt8) (t : List UInt8) : escx (a :: b :: t) = (hexv a.toNat).bind fun x => (hexv b.toNat).map fun y => (UInt8.ofNat (16 * x + y), 3) := rfl
theorem hexv_lt {c v : Nat} (h : hexv c = some v) : v < 16 := by
  unfold hexv at h
  split at h
  · injection h; omega
  · split at h
    · injection h; omega
    · split at h
      · injection h; omega
      · cases h

theorem grown_trans {a b c : World} {p : Nat} (h : a.grownBy b (some p)) (k : b.grownBy c (some p)) : a.grownBy c (some p) :=
  ⟨k.os.trans h.os, k.tape.trans h.tape, k.output.trans h.output, Nat.le_trans h.size k.size, fun i hi hne => (k.block i (Nat.lt_of_lt_of_le hi h.size) hne).trans (h.block i hi hne)⟩

theorem or_nib (x y : Nat) (hx : x < 16) (hy : y < 16) : bits .or .u8 ((x : Int) * 16) (y : Int) = ((UInt8.ofNat (16 * x + y)).toNat : Int) := by
  have h : ∀ x < 16, ∀ y < 16, bits .or .u8 (((x * 16 : Nat) : Int)) ((y : Nat) : Int) = ((16 * x + y : Nat) : Int) := by decide +kernel
  rw [show ((x : Int) * 16) = ((x * 16 : Nat) : Int) from by omega, h x hx y hy, u8_of _ (by omega)]

/-! ### What stands in quotes, behind the first of them -/
theorem esc_pos {l : List UInt8} {c : UInt8} {n : Nat} (h : esc l = some (c, n)) : 1 ≤ n ∧ n ≤ l.length := by
  cases l with
  | nil => cases h
  | cons a r =>
    rw [esc] at h
    split at h
    · injection h with h; injection h with _ h; subst h; simp
    · split at h
      · cases r with
        | nil => cases h
        | cons b t =>
          cases t with
          | nil => cases h
          | cons d t =>
            rw [escx_cons] at h
            cases hx : hexv b.toNat with
            | none => rw [hx] at h; cases h
            | some x =>
              cases hy : hexv d.toNat with
              | none => rw [hx, hy] at h; cases h
              | some y =>
                rw [hx, hy] at h
                injection h with h; injection h with _ h; subst h; simp
      · cases h

def uq (l : List UInt8) : Option (List UInt8 × Nat) :=
  match l with
  | [] => none
  | c :: r => if c.toNat = 34 then some ([], 1) else if c.toNat = 92 then
      match _h : esc r with
      | some (d, n) => (uq (r.drop n)).map fun x => (d :: x.1, x.2 + n + 1)
      | none => none
    else if 32 ≤ c.toNat ∧ c.toNat ≤ 126 then (uq r).map fun x => (c :: x.1, x.2 + 1) else none
  termination_by l.length
  decreasing_by
    · simp; omega
    · simp
/-- acc has been gathered out of n bytes; the rest says x. -/
def onto (acc : List UInt8) (n : Nat) (x : Option (List UInt8 × Nat)) : Option (List UInt8 × Nat) := x.map fun x => (acc ++ x.1, n + x.2)

theorem uq_end (c : UInt8) (r : List UInt8) (h : c.toNat = 34) : uq (c :: r) = some ([], 1) := by rw [uq, if_pos h]
theorem uq_esc (c : UInt8) (r : List UInt8) (d : UInt8) (n : Nat) (h : c.toNat = 92) (he : esc r = some (d, n)) (acc : List UInt8) (m : Nat) : onto acc m (uq (c :: r)) = onto (acc ++ [d]) (m + 1 + n) (uq (r.drop n)) := by
  rw [uq, if_neg (by omega), if_pos h]
  split
  · rename_i d' n' h'
    rw [he] at h'
    injection h' with h'
    injection h' with h1 h2
    subst h1; subst h2
    unfold onto
    cases uq (r.drop n) with
    | none => rfl
    | some x =>
      simp
      omega
  · rename_i h'
    rw [he] at h'
    cases h'
theorem uq_bad (c : UInt8) (r : List UInt8) (h : c.toNat = 92) (he : esc r = none) : uq (c :: r) = none := by
  rw [uq, if_neg (by omega), if_pos h]
  split
  · rename_i d' n' h'
    rw [he] at h'
    cases h'
  · rfl
theorem uq_plain (c : UInt8) (r : List UInt8) (h1 : c.toNat ≠ 34) (h2 : c.toNat ≠ 92) (h : 32 ≤ c.toNat ∧ c.toNat ≤ 126) (acc : List UInt8) (m : Nat) : onto acc m (uq (c :: r)) = onto (acc ++ [c]) (m + 1) (uq r) := by
  rw [uq, if_neg h1, if_neg h2, if_pos h]
  unfold onto
  cases uq r with
  | none => rfl
  | some x =>
    simp
    omega
theorem uq_not (c : UInt8) (r : List UInt8) (h1 : c.toNat ≠ 34) (h2 : c.toNat ≠ 92) (h : ¬ (32 ≤ c.toNat ∧ c.toNat ≤ 126)) : uq (c :: r) = none := by
  rw [uq, if_neg h1, if_neg h2, if_neg h]

def unq : List UInt8 → Option (List UInt8 × Nat)
  | [] => none
  | c :: r => if c.toNat = 34 then onto [] 1 (uq r) else none

end Go.Proofs.Yteackdafggomhaa

namespace Go.Proofs.Yteackdafggomhaa
open Go.RowKit

/-! ### Get -/
def getL (l : List UInt8) : Nat := l.foldl (fun a c => a * 256 + c.toNat) 0
theorem getL_snoc (s : ByteArray) (k : Nat) (h : k < s.size) : getL (s.data.toList.take (k + 1)) = getL (s.data.toList.take k) * 256 + s[k].toNat := by
  unfold getL
  rw [List.take_succ_eq_append_getElem (by simpa using h), List.foldl_append]
  rfl

/-! ### Number -/
def digs : List UInt8 → Nat → Option Nat
  | [], a => some a
  | c :: r, a => if 48 ≤ c.toNat ∧ c.toNat ≤ 57 then digs r (a * 10 + (c.toNat - 48)) else none
def natL (l : List UInt8) : Option Nat := if l.length < 1 ∨ 16 < l.length ∨ (l.headD 0).toNat = 48 then none else digs l 0

def NatPost (w : World) : Option Nat → Ending → World → Prop
  | some v, e, w' => e = .returned (.int .i64 (v : Int)) ∧ w = w'
  | none, e, w' => e = .panicked [{ v := .iface 26 (.int .i64 4), recovered := false }] ∧ w = w'

end Go.Proofs.Yteackdafggomhaa

namespace Go.Proofs.Yteackdafggomhaa
open Go.RowKit

theorem bl_extract (s : ByteArray) (i j : Nat) (_h : j ≤ s.size) : bl (s.extract i j) = ((bl s).drop i).take (j - i) := by
  simp [bl]
theorem bl_drop (s : ByteArray) (i : Nat) : bl (s.extract i s.size) = (bl s).drop i := by
  rw [bl_extract s i s.size (Nat.le_refl _), List.take_of_length_le]
  rw [List.length_drop, bl_len]
  exact Nat.le_refl _
theorem bl_take (s : ByteArray) (j : Nat) (h : j ≤ s.size) : bl (s.extract 0 j) = (bl s).take j := by
  rw [bl_extract s 0 j h, List.drop_zero, Nat.sub_zero]

/-- What is read as a number is that number's bytes. -/
theorem gv_pv_of : ∀ (l : List UInt8) (i a v n : Nat), gv l i a = .ok v n → i < n ∧ n ≤ i + l.length ∧ i < 9 ∧ ∃ u, v = a + u * 2 ^ (7 * i) ∧ l.take (n - i) = pv u ∧ (0 < i → 0 < u) ∧ u < 2 ^ (7 * (9 - i))
  | [], i, a, v, n, h => by
    rw [gv] at h
    split at h <;> cases h
  | c :: r, i, a, v, n, h => by
    rw [gv] at h
    split at h
    · cases h
    · rename_i h9
      split at h
      · rename_i h128
        obtain ⟨h1, h2, h3, u, h4, h5, h6, h7⟩ := gv_pv_of r _ _ _ _ h
        have hc := UInt8.toNat_lt c
        have hu := h6 (by omega)
        refine ⟨by omega, by simp only [List.length_cons]; omega, by omega, c.toNat % 128 + 128 * u, ?_, ?_, fun _ => by omega, ?_⟩
        · rw [h4, show 7 * (i + 1) = 7 * i + 7 from by omega, Nat.pow_add, Nat.add_mul, Nat.add_assoc]
          congr 2
          rw [Nat.mul_comm (2 ^ (7 * i)), ← Nat.mul_assoc, Nat.mul_comm u]
        · rw [show n - i = (n - (i + 1)) + 1 from by omega, List.take_succ_cons, h5, pv_more (c.toNat % 128 + 128 * u) (by omega)]
          congr 1
          · rw [show (c.toNat % 128 + 128 * u) % 128 + 128 = c.toNat from by omega]
            simp
          · rw [show (c.toNat % 128 + 128 * u) / 128 = u from by omega]
        · rw [show 7 * (9 - i) = 7 * (9 - (i + 1)) + 7 from by omega, Nat.pow_add]
          omega
      · split at h
        · cases h
        · rename_i h128 h0
          cases h
          have hc : c.toNat % 128 = c.toNat := Nat.mod_eq_of_lt (by omega)
          refine ⟨by omega, by simp only [List.length_cons]; omega, by omega, c.toNat, by rw [hc], ?_, fun hi => by omega, ?_⟩
          · rw [Nat.add_sub_cancel_left, List.take_succ_cons, List.take_zero, pv_last _ (by omega)]
            simp
          · have : (2 : Nat) ^ 7 ≤ 2 ^ (7 * (9 - i)) := Nat.pow_le_pow_right (by decide) (by omega)
            omega
theorem gv_bytes {l : List UInt8} {v n : Nat} (h : gv l 0 0 = .ok v n) : l = pv v ++ l.drop n ∧ n ≤ l.length ∧ v < 9223372036854775808 := by
  obtain ⟨_, h2, _, u, h4, h5, _, h7⟩ := gv_pv_of l 0 0 v n h
  rw [Nat.mul_zero, Nat.pow_zero, Nat.mul_one, Nat.zero_add] at h4
  subst h4
  rw [Nat.sub_zero] at h5
  rw [Nat.zero_add] at h2
  refine ⟨?_, h2, h7⟩
  rw [← h5]
  exact (List.take_append_drop _ _).symm

/-- A pair, taken from the bytes behind others. -/
def stepP (i : Nat) (last rest : List UInt8) : Option (KV × List UInt8) :=
  match gv rest 0 0 with
  | .err _ => none
  | .ok x n1 => match gv (rest.drop n1) 0 0 with
    | .err _ => none
    | .ok y n2 => match gv ((rest.drop n1).drop n2) 0 0 with
      | .err _ => none
      | .ok z n3 =>
        if x ≤ last.length ∧ y ≤ (((rest.drop n1).drop n2).drop n3).length ∧ z ≤ ((((rest.drop n1).drop n2).drop n3).drop y).length ∧
            (last.take x ++ (((rest.drop n1).drop n2).drop n3).take y).length ≤ 65536 ∧ z ≤ 65536 ∧
            (i = 0 ∨ Lib.compareBytes last (last.take x ++ (((rest.drop n1).drop n2).drop n3).take y) < 0) ∧
            x = comI i last (last.take x ++ (((rest.drop n1).drop n2).drop n3).take y) then
          some ((⟨(last.take x ++ (((rest.drop n1).drop n2).drop n3).take y).toArray⟩, ⟨(((((rest.drop n1).drop n2).drop n3).drop y).take z).toArray⟩), ((((rest.drop n1).drop n2).drop n3).drop y).drop z)
        else none
/-- Is this pair one that Build lays behind the last key? -/
def okStep (i : Nat) (last : List UInt8) (m : KV) : Prop := m.1.size ≤ 65536 ∧ m.2.size ≤ 65536 ∧ (i = 0 ∨ Lib.compareBytes last (bl m.1) < 0)
theorem step_some {i : Nat} {last rest r' : List UInt8} {m : KV} (h : stepP i last rest = some (m, r')) : rest = onePair i last (bl m.1) (bl m.2) ++ r' ∧ okStep i last m := by
  unfold stepP at h
  split at h
  · cases h
  · rename_i x n1 g1
    split at h
    · cases h
    · rename_i y n2 g2
      split at h
      · cases h
      · rename_i z n3 g3
        obtain ⟨e1, l1, _⟩ := gv_bytes g1
        obtain ⟨e2, l2, _⟩ := gv_bytes g2
        obtain ⟨e3, l3, _⟩ := gv_bytes g3
        obtain ⟨t, ht⟩ : ∃ t, ((rest.drop n1).drop n2).drop n3 = t := ⟨_, rfl⟩
        rw [ht] at h e3
        split at h
        · rename_i hc
          obtain ⟨c1, c2, c3, c4, c5, c6, c7⟩ := hc
          obtain ⟨k, hk⟩ : ∃ k, last.take x ++ t.take y = k := ⟨_, rfl⟩
          rw [hk] at h c4 c6 c7
          cases h
          have hkl : k.length = x + y := by rw [← hk, List.length_append, List.length_take, List.length_take]; omega
          have hkd : k.drop x = t.take y := by
            rw [← hk, List.drop_append_of_le_length (by rw [List.length_take]; omega), List.drop_of_length_le (by rw [List.length_take]; omega), List.nil_append]
          have hvl : ((t.drop y).take z).length = z := by rw [List.length_take]; omega
          refine ⟨?_, by rw [size_mk]; omega, by rw [size_mk, hvl]; exact c5, c6⟩
          dsimp only
          rw [bl_mk, bl_mk, onePair, ← c7, hkl, Nat.add_sub_cancel_left, hvl, hkd]
          conv => lhs; rw [e1, e2, e3]
          simp only [List.append_assoc]
          congr 3
          rw [List.take_append_drop, List.take_append_drop]
        · cases h
theorem step_of {i : Nat} {last r : List UInt8} {m : KV} (h : okStep i last m) (hl : last.length < 9223372036854775808) : stepP i last (onePair i last (bl m.1) (bl m.2) ++ r) = some (m, r) := by
  obtain ⟨h1, h2, h3⟩ := h
  obtain ⟨c1, c2⟩ := comI_le i last (bl m.1)
  have ht := comI_take i last (bl m.1)
  have hl1 : (bl m.1).length = m.1.size := rfl
  have hl2 : (bl m.2).length = m.2.size := rfl
  obtain ⟨n, hn⟩ : ∃ n, comI i last (bl m.1) = n := ⟨_, rfl⟩
  rw [onePair, hn]
  rw [hn] at c1 c2 ht
  obtain ⟨B, hB⟩ : ∃ B, pv n ++ (pv ((bl m.1).length - n) ++ (pv (bl m.2).length ++ ((bl m.1).drop n ++ bl m.2))) ++ r = B := ⟨_, rfl⟩
  have g1 : gv B 0 0 = .ok n (pv n).length := by rw [← hB, List.append_assoc]; exact gv_pv0 _ n (by omega)
  have e1 : B.drop (pv n).length = pv ((bl m.1).length - n) ++ (pv (bl m.2).length ++ ((bl m.1).drop n ++ (bl m.2 ++ r))) := by
    rw [← hB, List.append_assoc, List.drop_append_of_le_length (Nat.le_refl _), List.drop_length]; simp
  have g2 : gv (B.drop (pv n).length) 0 0 = .ok ((bl m.1).length - n) (pv ((bl m.1).length - n)).length := by rw [e1]; exact gv_pv0 _ _ (by omega)
  have e2 : (B.drop (pv n).length).drop (pv ((bl m.1).length - n)).length = pv (bl m.2).length ++ ((bl m.1).drop n ++ (bl m.2 ++ r)) := by
    rw [e1, List.drop_append_of_le_length (Nat.le_refl _), List.drop_length]; simp
  have g3 : gv ((B.drop (pv n).length).drop (pv ((bl m.1).length - n)).length) 0 0 = .ok (bl m.2).length (pv (bl m.2).length).length := by rw [e2]; exact gv_pv0 _ _ (by omega)
  have e3 : ((B.drop (pv n).length).drop (pv ((bl m.1).length - n)).length).drop (pv (bl m.2).length).length = (bl m.1).drop n ++ (bl m.2 ++ r) := by
    rw [e2, List.drop_append_of_le_length (Nat.le_refl _), List.drop_length]; simp
  rw [hB]
  unfold stepP
  rw [g1]
  dsimp only
  rw [g2]
  dsimp only
  rw [g3]
  dsimp only
  rw [e3]
  have hd : ((bl m.1).drop n).length = (bl m.1).length - n := List.length_drop ..
  have t1 : ((bl m.1).drop n ++ (bl m.2 ++ r)).take ((bl m.1).length - n) = (bl m.1).drop n := by rw [← hd]; exact List.take_left
  have t2 : ((bl m.1).drop n ++ (bl m.2 ++ r)).drop ((bl m.1).length - n) = bl m.2 ++ r := by rw [← hd]; exact List.drop_left
  rw [t1, t2, ht, List.take_left, List.drop_left, hn]
  rw [if_pos ⟨c2, by rw [List.length_append, hd]; omega, by rw [List.length_append]; omega, by omega, by omega, h3, rfl⟩]

/-- Pairs, taken one behind the other. -/
def strictP : Nat → Nat → List UInt8 → List UInt8 → Option (List KV)
  | _, _, _, [] => some []
  | 0, _, _, _ :: _ => none
  | f + 1, i, last, c :: r => match stepP i last (c :: r) with
    | none => none
    | some (m, r') => (strictP f (i + 1) (bl m.1) r').map (m :: ·)
theorem strict_nil (f i : Nat) (last : List UInt8) : strictP f i last [] = some [] := by cases f <;> rfl
theorem strict_none {f i : Nat} {last rest : List UInt8} (hr : rest ≠ []) (h : stepP i last rest = none) : strictP f i last rest = none := by
  obtain ⟨c, r, rfl⟩ := List.exists_cons_of_ne_nil hr
  cases f with
  | zero => rfl
  | succ f => rw [strictP, h]
theorem strict_some {f i : Nat} {last rest r' : List UInt8} {m : KV} (hr : rest ≠ []) (h : stepP i last rest = some (m, r')) : strictP (f + 1) i last rest = (strictP f (i + 1) (bl m.1) r').map (m :: ·) := by
  obtain ⟨c, r, rfl⟩ := List.exists_cons_of_ne_nil hr
  rw [strictP, h]
/-- Pairs that Build lays one behind the other. -/
def okFrom : Nat → List UInt8 → List KV → Prop
  | _, _, [] => True
  | i, last, m :: r => okStep i last m ∧ okFrom (i + 1) (bl m.1) r
theorem strict_is : ∀ (f i : Nat) (last rest : List UInt8) (l : List KV), strictP f i last rest = some l → rest = bodyL i last l ∧ okFrom i last l
  | f, i, last, [], l, h => by
    rw [strict_nil] at h
    cases h
    exact ⟨rfl, trivial⟩
  | 0, i, last, c :: r, l, h => by cases h
  | f + 1, i, last, c :: r, l, h => by
    rw [strictP] at h
    split at h
    · cases h
    · rename_i m r' hs
      obtain ⟨e1, e2⟩ := step_some hs
      obtain ⟨q, hq, rfl⟩ := Option.map_eq_some_iff.1 h
      obtain ⟨e3, e4⟩ := strict_is f _ _ _ q hq
      refine ⟨?_, e2, e4⟩
      rw [e1, bodyL, ← e3]
theorem strict_of : ∀ (l : List KV) (f i : Nat) (last : List UInt8), okFrom i last l → l.length ≤ f → last.length < 9223372036854775808 → strictP f i last (bodyL i last l) = some l := by
  intro l
  induction l with
  | nil => intro f i last _ _ _; exact strict_nil _ _ _
  | cons m l ih =>
    intro f i last h hf hl
    obtain ⟨f, rfl⟩ : ∃ g, f = g + 1 := ⟨f - 1, by simp at hf; omega⟩
    have h1 := step_of (r := bodyL (i + 1) (bl m.1) l) h.1 hl
    have hne : onePair i last (bl m.1) (bl m.2) ++ bodyL (i + 1) (bl m.1) l ≠ [] := by
      intro e
      have := congrArg List.length e
      have h2 := pv_pos (comI i last (bl m.1))
      rw [onePair] at this
      simp only [List.length_append, List.length_nil] at this
      omega
    rw [bodyL, strict_some hne h1, ih f (i + 1) (bl m.1) h.2 (by simpa using hf) (by have := h.1.1; rw [bl_len]; omega)]
    rfl
theorem okFrom_rises : ∀ (l : List KV) (i : Nat) (x : KV), okFrom (i + 1) (bl x.1) l → risesK (x :: l) = true
  | [], _, _, _ => rfl
  | m :: r, i, x, h => by
    rw [risesK, Bool.and_eq_true, decide_eq_true_eq]
    refine ⟨?_, okFrom_rises r (i + 1) m h.2⟩
    rcases h.1.2.2 with h1 | h1
    · omega
    · exact h1
theorem okFrom_all : ∀ (l : List KV) (i : Nat) (last : List UInt8), okFrom i last l → longK l = false
  | [], _, _, _ => rfl
  | m :: r, i, last, h => by
    have h1 := okFrom_all r _ _ h.2
    obtain ⟨s1, s2, _⟩ := h.1
    unfold longK at h1 ⊢
    rw [List.any_cons, h1]
    simp
    omega
theorem okFrom_zero {l : List KV} {last : List UInt8} (h : okFrom 0 last l) : risesK l = true ∧ longK l = false := by
  refine ⟨?_, okFrom_all _ _ _ h⟩
  cases l with
  | nil => rfl
  | cons m r => exact okFrom_rises r 0 m h.2
theorem okFrom_of : ∀ (l : List KV) (i : Nat) (x : KV), risesK (x :: l) = true → longK l = false → okFrom i (bl x.1) l
  | [], _, _, _, _ => trivial
  | m :: r, i, x, h, hl => by
    rw [risesK, Bool.and_eq_true, decide_eq_true_eq] at h
    have hs := longK_ok hl m (List.mem_cons_self ..)
    refine ⟨⟨hs.1, hs.2, Or.inr h.1⟩, okFrom_of r (i + 1) m h.2 ?_⟩
    unfold longK at hl ⊢
    rw [List.any_cons, Bool.or_eq_false_iff] at hl
    exact hl.2
theorem okFrom_start {l : List KV} (h : risesK l = true) (hl : longK l = false) (last : List UInt8) : okFrom 0 last l := by
  cases l with
  | nil => trivial
  | cons m r =>
    have hs := longK_ok hl m (List.mem_cons_self ..)
    refine ⟨⟨hs.1, hs.2, Or.inl rfl⟩, okFrom_of r 1 m h ?_⟩
    unfold longK at hl ⊢
    rw [List.any_cons, Bool.or_eq_false_iff] at hl
    exact hl.2

/-- Four bytes are those of the number that they tell. -/
theorem be_getL4 : ∀ l : List UInt8, l.length = 4 → be (getL l) 4 = l := by
  intro l h
  match l, h with
  | [a, b, c, d], _ =>
    have ha := UInt8.toNat_lt a
    have hb := UInt8.toNat_lt b
    have hc := UInt8.toNat_lt c
    have hd := UInt8.toNat_lt d
    have e : getL [a, b, c, d] = ((a.toNat * 256 + b.toNat) * 256 + c.toNat) * 256 + d.toNat := by
      unfold getL
      simp
    rw [e]
    have r4 : List.range 4 = [0, 1, 2, 3] := by decide
    unfold be
    rw [r4]
    simp only [List.map_cons, List.map_nil]
    congr 1
    · apply UInt8.toNat_inj.1
      rw [UInt8.toNat_ofNat']
      simp only [Nat.reduceSub, Nat.reduceMul, Nat.reducePow]
      omega
    congr 1
    · apply UInt8.toNat_inj.1
      rw [UInt8.toNat_ofNat']
      simp only [Nat.reduceSub, Nat.reduceMul, Nat.reducePow]
      omega
    congr 1
    · apply UInt8.toNat_inj.1
      rw [UInt8.toNat_ofNat']
      simp only [Nat.reduceSub, Nat.reduceMul, Nat.reducePow]
      omega
    congr 1
    · apply UInt8.toNat_inj.1
      rw [UInt8.toNat_ofNat']
      simp only [Nat.reduceSub, Nat.reduceMul, Nat.reducePow]
      omega
theorem getL_be4 (v : Nat) (h : v < 4294967296) : getL (be v 4) = v := by
  have h1 := be_getL4 (be v 4) (be_length v 4)
  have h2 : getL (be v 4) < 4294967296 := by
    have : ∀ l : List UInt8, l.length = 4 → getL l < 4294967296 := by
      intro l h
      match l, h with
      | [a, b, c, d], _ =>
        have ha := UInt8.toNat_lt a
        have hb := UInt8.toNat_lt b
        have hc := UInt8.toNat_lt c
        have hd := UInt8.toNat_lt d
        have e : getL [a, b, c, d] = ((a.toNat * 256 + b.toNat) * 256 + c.toNat) * 256 + d.toNat := by
          unfold getL
          simp
        rw [e]
        omega
    exact this _ (be_length v 4)
  exact be4_inj h2 h h1
/-- What the landed Parse answers. -/
def sParse (b : ByteArray) : Option (List KV) :=
  if b.size < 8 ∨ 524288 < b.size then none
  else if getL ((bl b).drop (b.size - 4)) ≠ crc ((bl b).take (b.size - 4)) then none
  else match strictP b.size 0 [] ((bl b).take (b.size - 8)) with
    | none => none
    | some l => if getL (((bl b).take (b.size - 4)).drop (b.size - 8)) = l.length then some l else none
theorem sParse_some {b : ByteArray} {l : List KV} (h : sParse b = some l) : buildP l = (b, 0) := by
  unfold sParse at h
  split at h
  · cases h
  · rename_i h1
    split at h
    · cases h
    · rename_i h2
      split at h
      · cases h
      · rename_i l' hs
        split at h
        · rename_i h3
          cases h
          obtain ⟨e1, e2⟩ := strict_is _ _ _ _ _ hs
          obtain ⟨r1, r2⟩ := okFrom_zero e2
          have hb : (bl b).length = b.size := rfl
          have c1 := be_getL4 ((bl b).drop (b.size - 4)) (by rw [List.length_drop]; omega)
          have c2 := be_getL4 (((bl b).take (b.size - 4)).drop (b.size - 8)) (by rw [List.length_drop, List.length_take]; omega)
          have h2' := Classical.not_not.1 h2
          have d2 : (bl b).take (b.size - 4) = bodyL 0 [] l ++ be l.length 4 := by
            rw [← h3, c2, ← e1]
            have : (bl b).take (b.size - 8) = ((bl b).take (b.size - 4)).take (b.size - 8) := by rw [List.take_take, Nat.min_eq_left (by omega)]
            rw [this, List.take_append_drop]
          have d3 : bl b = blkL l := by
            unfold blkL
            rw [← d2, ← h2', c1, List.take_append_drop]
          have hl : (blkL l).length = b.size := by rw [← d3]; rfl
          unfold buildP
          rw [if_neg (by rw [r1]; decide), if_neg (by rw [r2]; decide), if_neg (by omega), ← d3]
        · cases h
theorem sParse_of {b : ByteArray} {l : List KV} (h : buildP l = (b, 0)) : sParse b = some l := by
  obtain ⟨h1, h2, h3, h4⟩ := buildP_ok h
  have hb : bl b = blkL l := by rw [h4]
  have hs : b.size = (blkL l).length := by rw [← hb]; rfl
  have h8 := blkL_length l
  have hc := body_count l 0 []
  have hn : b.size - 8 = (bodyL 0 [] l).length := by omega
  have hn4 : b.size - 4 = (bodyL 0 [] l ++ be l.length 4).length := by rw [List.length_append, be_length]; omega
  have t4 : (bl b).take (b.size - 4) = bodyL 0 [] l ++ be l.length 4 := by
    rw [hn4, hb]; unfold blkL; exact List.take_left
  have d4 : (bl b).drop (b.size - 4) = be (crc (bodyL 0 [] l ++ be l.length 4)) 4 := by
    rw [hn4, hb]; unfold blkL; exact List.drop_left
  have t8 : (bl b).take (b.size - 8) = bodyL 0 [] l := by rw [hs, hb, blkL_body]
  have d8 : ((bl b).take (b.size - 4)).drop (b.size - 8) = be l.length 4 := by rw [t4, hn]; exact List.drop_left
  unfold sParse
  rw [if_neg (by omega), d8, d4, t8, t4, getL_be4 _ (crc_lt _), if_neg (fun h => h rfl), strict_of l _ 0 [] (okFrom_start h1 h2 _) (by omega) (by decide)]
  dsimp only
  rw [getL_be4 _ (by omega), if_pos rfl]
theorem sParse_is (b : ByteArray) : parseP b = match sParse b with
    | none => ([], 31)
    | some l => (l, 0) := by
  cases h : sParse b with
  | some l => exact parse_build (sParse_some h)
  | none => exact parse_no fun l hl => by rw [sParse_of hl] at h; cases h
end Go.Proofs.Yteackdafggomhaa

namespace Go.Proofs.Yteackdafggomhaa
open Go.RowKit

/-- A head, as bytes. -/
def headL13 (l : List UInt8) : List UInt8 := l.take (headN l)
theorem headT_bl (s : ByteArray) : bl (headT s) = headL13 (bl s) := by
  unfold headT headL13
  exact bl_take s _ (by have := headN_le (bl s); rw [bl_len] at this; exact this)
theorem headL_two (x y : UInt8) (r : List UInt8) : headL13 (x :: y :: r) = if x = 0 ∧ y = 1 then [0, 1] else x :: headL13 (y :: r) := by
  unfold headL13
  rw [headN]
  by_cases h : x = 0 ∧ y = 1
  · rw [if_pos h, if_pos h, h.1, h.2]
    rfl
  · rw [if_neg h, if_neg h]
    rfl
theorem headL_first (x : UInt8) (r : List UInt8) : ∃ t, headL13 (x :: r) = x :: t := by
  cases r with
  | nil => exact ⟨[], rfl⟩
  | cons y r =>
    rw [headL_two]
    split
    · rename_i h
      exact ⟨[1], by rw [h.1]⟩
    · exact ⟨_, rfl⟩
theorem headL_one (x : UInt8) : headL13 [x] = [x] := rfl
theorem headL_nil : headL13 [] = [] := rfl
theorem headL_empty {l : List UInt8} (h : headL13 l = []) : l = [] := by
  cases l with
  | nil => rfl
  | cons x r =>
    obtain ⟨t, ht⟩ := headL_first x r
    rw [ht] at h
    cases h
theorem headL_single {l : List UInt8} {x : UInt8} (h : headL13 l = [x]) : l = [x] := by
  match l with
  | [] => cases h
  | [y] => exact h
  | y :: z :: r =>
    rw [headL_two] at h
    split at h
    · cases h
    · injection h with h1 h2
      have := headL_empty h2
      cases this
theorem cmp13_nil (b : List UInt8) (h : Lib.compareBytes b [] < 0) : False := by
  cases b with
  | nil => exact absurd h (by decide)
  | cons x r => exact absurd h (by show ¬ (1 : Int) < 0; decide)
theorem cmp13_cons {x y : UInt8} {a b : List UInt8} (h : Lib.compareBytes (x :: a) (y :: b) < 0) : x.toNat < y.toNat ∨ (x = y ∧ Lib.compareBytes a b < 0) := by
  rw [cmp9_cons] at h
  by_cases h1 : x.toNat < y.toNat
  · exact Or.inl h1
  · rw [if_neg h1] at h
    by_cases h2 : y.toNat < x.toNat
    · rw [if_pos h2] at h
      exact absurd h (by decide)
    · rw [if_neg h2] at h
      exact Or.inr ⟨UInt8.toNat_inj.1 (by omega), h⟩
/-- What stands between two keys of one head has that head. -/
theorem head_between : ∀ a b c : List UInt8, Lib.compareBytes a b < 0 → Lib.compareBytes b c < 0 → headL13 a = headL13 c → headL13 b = headL13 a
  | [], b, c, _, h2, hh => by
    have := headL_empty hh.symm
    subst this
    exact (cmp13_nil b h2).elim
  | [x], b, c, h1, h2, hh => by
    have := headL_single (hh.symm.trans (headL_one x))
    subst this
    have h3 := (cmp_trans _ _ _ (by omega) (by omega : Lib.compareBytes b [x] ≤ 0)).2 h1
    exfalso
    have h4 : Lib.compareBytes [x] [x] = 0 := (cmp_eq _ _).2 rfl
    omega
  | x :: y :: r, [], c, h1, _, _ => (cmp13_nil _ h1).elim
  | x :: y :: r, b0 :: b1, [], _, h2, _ => (cmp13_nil _ h2).elim
  | x :: y :: r, b0 :: b1, c0 :: c1, h1, h2, hh => by
    have hc0 : c0 = x := by
      obtain ⟨t, ht⟩ := headL_first x (y :: r)
      obtain ⟨t', ht'⟩ := headL_first c0 c1
      rw [ht, ht'] at hh
      injection hh with h
      exact h.symm
    subst hc0
    have e1 := cmp13_cons h1
    have e2 := cmp13_cons h2
    have hb0 : b0 = c0 := by
      rcases e1 with e1 | e1
      · rcases e2 with e2 | e2
        · omega
        · exact e2.1
      · exact e1.1.symm
    subst hb0
    have f1 : Lib.compareBytes (y :: r) b1 < 0 := by
      rcases e1 with e1 | e1
      · omega
      · exact e1.2
    have f2 : Lib.compareBytes b1 c1 < 0 := by
      rcases e2 with e2 | e2
      · omega
      · exact e2.2
    cases b1 with
    | nil => exact (cmp13_nil _ f1).elim
    | cons b1 b2 =>
      cases c1 with
      | nil => exact (cmp13_nil _ f2).elim
      | cons c1 c2 =>
        by_cases hxy : b0 = 0 ∧ y = 1
        · have hA := headL_two b0 y r
          rw [if_pos hxy] at hA
          rw [hA, headL_two] at hh
          rw [hA, headL_two]
          have hc1 : c1 = 1 := by
            split at hh
            · rename_i h; exact h.2
            · injection hh with _ h
              have := headL_single h.symm
              injection this
          have g1 := cmp13_cons f1
          have g2 := cmp13_cons f2
          have hb1 : b1 = 1 := by
            apply UInt8.toNat_inj.1
            rw [hc1] at g2
            rw [hxy.2] at g1
            rcases g1 with g1 | g1
            · rcases g2 with g2 | g2
              · omega
              · rw [g2.1]
            · rw [← g1.1]
          rw [if_pos ⟨hxy.1, hb1⟩]
        · have hA := headL_two b0 y r
          rw [if_neg hxy] at hA
          obtain ⟨t, ht⟩ := headL_first y r
          have hC : ¬ (b0 = 0 ∧ c1 = 1) := by
            rintro ⟨q1, q2⟩
            rw [hA, headL_two b0 c1 c2, if_pos ⟨q1, q2⟩] at hh
            injection hh with _ h
            have := headL_single h
            injection this with h5
            exact hxy ⟨q1, h5⟩
          have hC2 := headL_two b0 c1 c2
          rw [if_neg hC] at hC2
          rw [hA, hC2] at hh
          injection hh with _ hh2
          have ih := head_between (y :: r) (b1 :: b2) (c1 :: c2) f1 f2 hh2
          have hB : ¬ (b0 = 0 ∧ b1 = 1) := by
            rintro ⟨q1, q2⟩
            obtain ⟨t', ht'⟩ := headL_first b1 b2
            rw [ht, ht'] at ih
            injection ih with h5
            exact hxy ⟨q1, by rw [← h5, q2]⟩
          rw [hA, headL_two, if_neg hB, ih]

/-- The heads of keys, as bytes. -/
def hdsA (L : List KV) : Array (List UInt8) := (L.map fun m => bl (headT m.1)).toArray
theorem hdsA_size (L : List KV) : (hdsA L).size = L.length := by unfold hdsA; simp
theorem hdsA_at (L : List KV) (i : Nat) (m : KV) (h : L[i]? = some m) : (hdsA L)[i]! = bl (headT m.1) := by
  have h1 := (List.getElem?_eq_some_iff.1 h).1
  have h2 := (List.getElem?_eq_some_iff.1 h).2
  unfold hdsA
  rw [getElem!_pos _ i (by simpa using h1)]
  simp [h2]
/-- Compact of the heads of keys that rise is each of them once. -/
theorem heads_compact {L : List KV} (hR : risesK L = true) : ∀ k, k ≤ L.length → (Lib.compactUpTo (hdsA L) k).map (fun l => (⟨l.toArray⟩ : ByteArray)) = headsK (L.take k)
  | 0, _ => rfl
  | k + 1, hk => by
    have ih := heads_compact hR k (by omega)
    have hm : L[k]? = some L[k] := List.getElem?_eq_getElem (by omega)
    generalize L[k] = m at hm
    have ht : L.take (k + 1) = L.take k ++ [m] := by rw [List.take_add_one, hm]; rfl
    have hd := hdsA_at L k m hm
    rw [Lib.compactUpTo_succ, List.map_append, ih, ht, headsK_snoc, headsStep]
    have hmem : hasT (headsK (L.take k)) (headT m.1) = true ↔ Lib.keeps (hdsA L) k = false := by
      rw [hasT_mem, headsK_mem]
      constructor
      · rintro ⟨a, ha, he⟩
        obtain ⟨i, hi⟩ := List.mem_iff_getElem?.1 ha
        have hik : i < k := by
          have := (List.getElem?_eq_some_iff.1 hi).1
          rw [List.length_take] at this
          omega
        have hia : L[i]? = some a := by rw [List.getElem?_take_of_lt hik] at hi; exact hi
        have hp : L[k - 1]? = some L[k - 1] := List.getElem?_eq_getElem (by omega)
        have hdp := hdsA_at L (k - 1) _ hp
        generalize L[k - 1] = q at hp hdp
        refine Lib.keeps_neg (by omega) ?_
        rw [hd, hdp]
        by_cases e : i = k - 1
        · subst e
          rw [hp] at hia
          cases hia
          rw [he]
        · have c1 := rises_get hR (show i < k - 1 by omega) hia hp
          have c2 := rises_get hR (show k - 1 < k by omega) hp hm
          have := head_between (bl a.1) (bl q.1) (bl m.1) c1 c2 (by rw [← headT_bl, ← headT_bl, he])
          rw [headT_bl, headT_bl, this, ← headT_bl, ← headT_bl, he]
      · intro hk0
        unfold Lib.keeps at hk0
        have h9 := of_decide_eq_false hk0
        have h0 : k ≠ 0 := fun e => h9 (Or.inl e)
        have hp : L[k - 1]? = some L[k - 1] := List.getElem?_eq_getElem (by omega)
        have hdp := hdsA_at L (k - 1) _ hp
        generalize L[k - 1] = q at hp hdp
        have e1 : bl (headT m.1) = bl (headT q.1) := by
          rw [← hd, ← hdp]
          exact Classical.not_not.1 fun e => h9 (Or.inr e)
        refine ⟨q, List.mem_iff_getElem?.2 ⟨k - 1, ?_⟩, bl_inj e1⟩
        rw [List.getElem?_take_of_lt (by omega)]
        exact hp
    by_cases hkp : Lib.keeps (hdsA L) k = true
    · rw [if_pos hkp, if_neg (fun h => by rw [hmem.1 h] at hkp; cases hkp), hd]
      rfl
    · rw [if_neg hkp, if_pos (hmem.2 (by simpa using hkp))]
      simp
end Go.Proofs.Yteackdafggomhaa

namespace Go.Proofs.Yteackdafggomhaa
open Ieee

/-- A word's lower 63 bits. -/
def rung (x : Nat) : Nat := x % 9223372036854775808
def isNeg (x : Nat) : Bool := x / 9223372036854775808 % 2 == 1
/-- A magnitude in units of the least one. -/
def magOf (r : Nat) : Nat := if r < 4503599627370496 then r else (4503599627370496 + r % 4503599627370496) * 2 ^ (r / 4503599627370496 - 1)
/-- A word's place in the order of numbers, nan aside. -/
def nkey (x : Nat) : Int := if isNeg x then -(rung x : Int) else (rung x : Int)
def infR : Nat := 9218868437227405312

theorem magOf_step (r : Nat) : magOf r < magOf (r + 1) := by
  unfold magOf
  by_cases h1 : r + 1 < 4503599627370496
  · rw [if_pos (by omega), if_pos h1]; omega
  · rw [if_neg h1]
    by_cases h2 : r < 4503599627370496
    · rw [if_pos h2, show (r + 1) / 4503599627370496 - 1 = 0 from by omega]
      omega
    · rw [if_neg h2]
      by_cases h3 : (r + 1) % 4503599627370496 = 0
      · have e1 : (r + 1) / 4503599627370496 = r / 4503599627370496 + 1 := by omega
        have e2 : r % 4503599627370496 = 4503599627370495 := by omega
        rw [h3, e1, e2, show r / 4503599627370496 + 1 - 1 = (r / 4503599627370496 - 1) + 1 from by omega, Nat.pow_succ]
        have := Nat.two_pow_pos (r / 4503599627370496 - 1)
        omega
      · have e1 : (r + 1) / 4503599627370496 = r / 4503599627370496 := by omega
        have e2 : (r + 1) % 4503599627370496 = r % 4503599627370496 + 1 := by omega
        rw [e1, e2]
        exact Nat.mul_lt_mul_of_pos_right (by omega) (Nat.two_pow_pos _)
theorem magOf_mono {a b : Nat} (h : a < b) : magOf a < magOf b := by
  induction b with
  | zero => omega
  | succ b ih =>
    rcases Nat.lt_or_ge a b with h1 | h1
    · exact Nat.lt_trans (ih h1) (magOf_step b)
    · obtain rfl : a = b := by omega
      exact magOf_step a
theorem magOf_lt (a b : Nat) : magOf a < magOf b ↔ a < b := by
  constructor
  · intro h
    rcases Nat.lt_trichotomy a b with h1 | h1 | h1
    · exact h1
    · subst h1; omega
    · have := magOf_mono h1; omega
  · exact magOf_mono
theorem magOf_eq (a b : Nat) : magOf a = magOf b ↔ a = b := by
  constructor
  · intro h
    rcases Nat.lt_trichotomy a b with h1 | h1 | h1
    · have := magOf_mono h1; omega
    · exact h1
    · have := magOf_mono h1; omega
  · rintro rfl; rfl

theorem f64_sign : Ieee.double.signWeight = 9223372036854775808 := by decide
theorem f64_binade : Ieee.double.binade = 4503599627370496 := by decide
theorem f64_inf : Ieee.double.infRung = infR := by decide
theorem f64_least : Ieee.double.leastPlace = -1074 := by decide

theorem read_fin (x : Nat) (h : rung x < infR) : ∃ m k : Nat, Ieee.double.read x = .number (isNeg x) m (-1074 + (k : Int)) ∧ m * 2 ^ k = magOf (rung x) := by
  unfold Format.read
  rw [f64_sign, f64_binade, f64_inf, f64_least]
  show ∃ m k : Nat, (if rung x < 4503599627370496 then _ else _) = _ ∧ _
  by_cases h1 : rung x < 4503599627370496
  · rw [if_pos h1]
    refine ⟨rung x, 0, rfl, ?_⟩
    unfold magOf
    rw [if_pos h1]
    omega
  · rw [if_neg h1]
    show ∃ m k : Nat, (if rung x < infR then _ else _) = _ ∧ _
    rw [if_pos h]
    refine ⟨4503599627370496 + rung x % 4503599627370496, rung x / 4503599627370496 - 1, rfl, ?_⟩
    unfold magOf
    rw [if_neg h1]
theorem read_inf (x : Nat) (h : rung x = infR) : Ieee.double.read x = .infinity (isNeg x) := by
  unfold Format.read
  rw [f64_sign, f64_binade, f64_inf, f64_least]
  show (if rung x < 4503599627370496 then _ else if rung x < infR then _ else if rung x = infR then _ else _) = _
  rw [if_neg (by rw [h]; decide), if_neg (by omega), if_pos h]
  rfl
theorem read_nan (x : Nat) (h : infR < rung x) : ∃ f, Ieee.double.read x = .nan (isNeg x) f := by
  unfold Format.read
  rw [f64_sign, f64_binade, f64_inf, f64_least]
  refine ⟨rung x - infR, ?_⟩
  show (if rung x < 4503599627370496 then _ else if rung x < infR then _ else if rung x = infR then _ else _) = _
  have : (4503599627370496 : Nat) < infR := by decide
  rw [if_neg (by omega), if_neg (by omega), if_neg (by omega)]
  rfl

theorem cmp_of {a b a' b' : Int} (h1 : a < b ↔ a' < b') (h2 : a = b ↔ a' = b') : compare a b = compare a' b' := by
  show compareOfLessAndEq a b = compareOfLessAndEq a' b'
  unfold compareOfLessAndEq
  simp only [h1, h2]

theorem scale_mag (m k l : Nat) : (m <<< (k - min k l)) * 2 ^ min k l = m * 2 ^ k := by
  rw [Nat.shiftLeft_eq, Nat.mul_assoc, ← Nat.pow_add]
  congr 2
  omega

theorem signed_cmp (s t : Bool) (a b A B c : Nat) (hc : 0 < c) (ha : a * c = A) (hb : b * c = B) (x y : Nat) (h1 : A < B ↔ x < y) (h1' : B < A ↔ y < x) (hx : A = 0 ↔ x = 0) (hy : B = 0 ↔ y = 0) :
    compare (if s then -((a : Nat) : Int) else ((a : Nat) : Int)) (if t then -((b : Nat) : Int) else ((b : Nat) : Int)) = compare (if s then -(x : Int) else (x : Int)) (if t then -(y : Int) else (y : Int)) := by
  have g1 : a < b ↔ A < B := by rw [← ha, ← hb]; exact (Nat.mul_lt_mul_right hc).symm
  have g2 : b < a ↔ B < A := by rw [← ha, ← hb]; exact (Nat.mul_lt_mul_right hc).symm
  have g3 : a = 0 ↔ A = 0 := by
    rw [← ha]
    constructor
    · rintro rfl; simp
    · intro h; rcases Nat.mul_eq_zero.1 h with h | h <;> omega
  have g4 : b = 0 ↔ B = 0 := by
    rw [← hb]
    constructor
    · rintro rfl; simp
    · intro h; rcases Nat.mul_eq_zero.1 h with h | h <;> omega
  clear ha hb
  cases s <;> cases t <;> apply cmp_of <;> simp only [if_true, Bool.false_eq_true, if_false] <;> omega

theorem magOf_zero (a : Nat) : magOf a = 0 ↔ a = 0 := by
  have := magOf_eq a 0
  rw [show magOf 0 = 0 from by decide] at this
  exact this

theorem order_key (x y : Nat) (hx : rung x ≤ infR) (hy : rung y ≤ infR) : Ieee.double.order x y = some (compare (nkey x) (nkey y)) := by
  unfold Format.order
  rcases Nat.lt_or_ge (rung x) infR with h1 | h1
  · obtain ⟨m, k, e1, f1⟩ := read_fin x h1
    rcases Nat.lt_or_ge (rung y) infR with h2 | h2
    · obtain ⟨n, l, e2, f2⟩ := read_fin y h2
      rw [e1, e2]
      show some (compare (signed _ m _) (signed _ n _)) = _
      have p1 : ((-1074 + (k : Int)) - min (-1074 + (k : Int)) (-1074 + (l : Int))).toNat = k - min k l := by omega
      have p2 : ((-1074 + (l : Int)) - min (-1074 + (k : Int)) (-1074 + (l : Int))).toNat = l - min k l := by omega
      rw [p1, p2]
      unfold signed nkey
      congr 1
      refine signed_cmp (isNeg x) (isNeg y) _ _ (magOf (rung x)) (magOf (rung y)) (2 ^ min k l) (Nat.two_pow_pos _) ?_ ?_ (rung x) (rung y) (magOf_lt _ _) (magOf_lt _ _) (magOf_zero _) (magOf_zero _)
      · rw [scale_mag, f1]
      · have h3 := scale_mag n l k
        rw [Nat.min_comm l k] at h3
        rw [h3, f2]
    · have h2' : rung y = infR := by omega
      rw [e1, read_inf y h2']
      show some (if isNeg y then Ordering.gt else Ordering.lt) = _
      congr 1
      unfold nkey
      rw [h2']
      generalize infR = r at *
      have hlt : rung x < r := h1
      cases isNeg y <;> cases isNeg x <;> simp only [if_true, Bool.false_eq_true, if_false] <;> symm <;> first
        | (apply Int.compare_eq_lt.2; omega)
        | (apply Int.compare_eq_gt.2; omega)
  · have h1' : rung x = infR := by omega
    rcases Nat.lt_or_ge (rung y) infR with h2 | h2
    · obtain ⟨n, l, e2, f2⟩ := read_fin y h2
      rw [read_inf x h1', e2]
      show some (if isNeg x then Ordering.lt else Ordering.gt) = _
      congr 1
      unfold nkey
      rw [h1']
      generalize infR = r at *
      have hlt : rung y < r := h2
      cases isNeg x <;> cases isNeg y <;> simp only [if_true, Bool.false_eq_true, if_false] <;> symm <;> first
        | (apply Int.compare_eq_lt.2; omega)
        | (apply Int.compare_eq_gt.2; omega)
    · have h2' : rung y = infR := by omega
      rw [read_inf x h1', read_inf y h2']
      show some (compare (isNeg y).toNat (isNeg x).toNat) = _
      unfold nkey
      rw [h1', h2']
      cases isNeg x <;> cases isNeg y <;> rfl
end Go.Proofs.Yteackdafggomhaa

namespace Go.Proofs.Yteackdafggomhaa
open Go.RowKit Ieee

def isN (x : Nat) : Bool := decide (infR < rung x)
def rankN (x : Nat) : Nat := if isN x then 0 else if isNeg x then 18446744073709551615 - x else x + 9223372036854775808
def cmpN (a b : Nat) : Int := if rankN a < rankN b then -1 else if rankN b < rankN a then 1 else 0

theorem order_nan (x y : Nat) (h : isN x = true ∨ isN y = true) : Ieee.double.order x y = none := by
  unfold Format.order
  rcases h with h | h
  · obtain ⟨f, e⟩ := read_nan x (by simpa [isN] using h)
    rw [e]; rfl
  · obtain ⟨f, e⟩ := read_nan y (by simpa [isN] using h)
    rw [e]
    cases Ieee.double.read x <;> rfl

theorem order_num (x y : Nat) (hx : isN x = false) (hy : isN y = false) : Ieee.double.order x y = some (compare (nkey x) (nkey y)) :=
  order_key x y (by simpa [isN] using hx) (by simpa [isN] using hy)

theorem lss_eq (x y : Nat) : (FloatKind.f64.format.order x y == some .lt) = (!isN x && !isN y && decide (nkey x < nkey y)) := by
  show (Ieee.double.order x y == some .lt) = _
  cases hx : isN x
  · cases hy : isN y
    · rw [order_num x y hx hy]
      rcases Int.lt_trichotomy (nkey x) (nkey y) with h | h | h
      · rw [Int.compare_eq_lt.2 h, decide_eq_true h]; rfl
      · rw [Int.compare_eq_eq.2 h, decide_eq_false (by omega)]; rfl
      · rw [Int.compare_eq_gt.2 h, decide_eq_false (by omega)]; rfl
    · rw [order_nan x y (Or.inr hy)]; rfl
  · rw [order_nan x y (Or.inl hx)]; rfl
theorem gtr_eq (x y : Nat) : (FloatKind.f64.format.order x y == some .gt) = (!isN x && !isN y && decide (nkey y < nkey x)) := by
  show (Ieee.double.order x y == some .gt) = _
  cases hx : isN x
  · cases hy : isN y
    · rw [order_num x y hx hy]
      rcases Int.lt_trichotomy (nkey x) (nkey y) with h | h | h
      · rw [Int.compare_eq_lt.2 h, decide_eq_false (by omega)]; rfl
      · rw [Int.compare_eq_eq.2 h, decide_eq_false (by omega)]; rfl
      · rw [Int.compare_eq_gt.2 h, decide_eq_true h]; rfl
    · rw [order_nan x y (Or.inr hy)]; rfl
  · rw [order_nan x y (Or.inl hx)]; rfl
theorem eql_eq (x y : Nat) : (FloatKind.f64.format.order x y == some .eq) = (!isN x && !isN y && decide (nkey x = nkey y)) := by
  show (Ieee.double.order x y == some .eq) = _
  cases hx : isN x
  · cases hy : isN y
    · rw [order_num x y hx hy]
      rcases Int.lt_trichotomy (nkey x) (nkey y) with h | h | h
      · rw [Int.compare_eq_lt.2 h, decide_eq_false (by omega)]; rfl
      · rw [Int.compare_eq_eq.2 h, decide_eq_true h]; rfl
      · rw [Int.compare_eq_gt.2 h, decide_eq_false (by omega)]; rfl
    · rw [order_nan x y (Or.inr hy)]; rfl
  · rw [order_nan x y (Or.inl hx)]; rfl
theorem neq_self (x : Nat) : (FloatKind.f64.format.order x x != some .eq) = isN x := by
  show (!(FloatKind.f64.format.order x x == some .eq)) = _
  rw [eql_eq, decide_eq_true rfl]
  cases isN x <;> rfl
theorem eql_self (x : Nat) : (FloatKind.f64.format.order x x == some .eq) = !isN x := by
  rw [eql_eq, decide_eq_true rfl]
  cases isN x <;> rfl

/-! ### Words below 2^64 -/
theorem word_neg (x : Nat) (hx : x < 18446744073709551616) : isNeg x = decide (9223372036854775808 ≤ x) := by
  unfold isNeg
  rcases Nat.lt_or_ge x 9223372036854775808 with h | h
  · rw [decide_eq_false (by omega), show x / 9223372036854775808 % 2 = 0 from by omega]; rfl
  · rw [decide_eq_true h, show x / 9223372036854775808 % 2 = 1 from by omega]; rfl
/-- A word's parts. -/
theorem word_parts (x : Nat) (hx : x < 18446744073709551616) : (isNeg x = true ∧ x = 9223372036854775808 + rung x ∧ rung x < 9223372036854775808) ∨ (isNeg x = false ∧ x = rung x ∧ rung x < 9223372036854775808) := by
  rw [word_neg x hx]
  unfold rung
  rcases Nat.lt_or_ge x 9223372036854775808 with h | h
  · exact Or.inr ⟨decide_eq_false (by omega), by omega, by omega⟩
  · exact Or.inl ⟨decide_eq_true h, by omega, by omega⟩
theorem rung_lt (x : Nat) : rung x < 9223372036854775808 := Nat.mod_lt _ (by decide)

theorem rankN_lt (x : Nat) (hx : x < 18446744073709551616) : rankN x < 18446744073709551616 := by
  unfold rankN
  rcases word_parts x hx with ⟨h1, h2, h3⟩ | ⟨h1, h2, h3⟩ <;> rw [h1] <;> cases isN x <;> simp <;> omega

/-- Of numbers that are no nan the rank tells what the order and the signs tell. -/
theorem rank_cases (x y : Nat) (hx : x < 18446744073709551616) (hy : y < 18446744073709551616) (nx : isN x = false) (ny : isN y = false) :
    (nkey x < nkey y → rankN x < rankN y) ∧ (nkey y < nkey x → rankN y < rankN x) ∧ (nkey x = nkey y → isNeg x = isNeg y → rankN x = rankN y) ∧ (nkey x = nkey y → isNeg x = true → isNeg y = false → rankN x < rankN y) := by
  unfold rankN nkey
  rw [nx, ny]
  rcases word_parts x hx with ⟨h1, h2, h3⟩ | ⟨h1, h2, h3⟩ <;> rcases word_parts y hy with ⟨k1, k2, k3⟩ | ⟨k1, k2, k3⟩ <;> rw [h1, k1] <;> simp <;> omega

theorem rank_nan (x : Nat) (h : isN x = true) : rankN x = 0 := by unfold rankN; rw [h]; rfl
theorem rank_pos (x : Nat) (hx : x < 18446744073709551616) (h : isN x = false) : 0 < rankN x := by
  have hi : rung x ≤ infR := by simpa [isN] using h
  have hc : infR = 9218868437227405312 := rfl
  unfold rankN
  rw [h]
  rcases word_parts x hx with ⟨h1, h2, h3⟩ | ⟨h1, h2, h3⟩ <;> rw [h1] <;> simp <;> omega
theorem rank_inj (x y : Nat) (hx : x < 18446744073709551616) (hy : y < 18446744073709551616) (nx : isN x = false) (h : rankN x = rankN y) : x = y := by
  have ny : isN y = false := by
    cases e : isN y
    · rfl
    · have := rank_pos x hx nx
      rw [rank_nan y e] at h
      omega
  unfold rankN at h
  rw [nx, ny] at h
  rcases word_parts x hx with ⟨h1, h2, h3⟩ | ⟨h1, h2, h3⟩ <;> rcases word_parts y hy with ⟨k1, k2, k3⟩ | ⟨k1, k2, k3⟩ <;> rw [h1, k1] at h <;> simp at h <;> omega

theorem cmpN_self (a : Nat) : cmpN a a = 0 := by unfold cmpN; rw [if_neg (by omega), if_neg (by omega)]
theorem cmpN_lt {a b : Nat} (h : rankN a < rankN b) : cmpN a b = -1 := by unfold cmpN; rw [if_pos h]
theorem cmpN_gt {a b : Nat} (h : rankN b < rankN a) : cmpN a b = 1 := by unfold cmpN; rw [if_neg (by omega), if_pos h]
theorem cmpN_eq {a b : Nat} (h : rankN a = rankN b) : cmpN a b = 0 := by unfold cmpN; rw [if_neg (by omega), if_neg (by omega)]
theorem cmpN_zero (a b : Nat) : cmpN a b = 0 ↔ rankN a = rankN b := by unfold cmpN; split <;> (try split) <;> omega
theorem cmpN_swap (a b : Nat) : cmpN b a = -cmpN a b := by unfold cmpN; split <;> split <;> (try split) <;> omega

/-! ### Bits of words -/
theorem ofInt_u64 (a : Nat) (ha : a < 18446744073709551616) : (BitVec.ofInt 64 (a : Int)).toNat = a := by
  rw [BitVec.ofInt_natCast, BitVec.toNat_ofNat]; exact Nat.mod_eq_of_lt (by omega)
theorem wrap_u64_nat (a : Nat) (ha : a < 18446744073709551616) : IntKind.u64.wrap ((a : Nat) : Int) = (a : Int) := by
  rw [IntKind.wrap_u64]; omega
theorem u64_and_nat (a b : Nat) (ha : a < 18446744073709551616) (hb : b < 18446744073709551616) : bits .and .u64 (a : Int) (b : Int) = ((a &&& b : Nat) : Int) := by
  have hx : a &&& b < 2 ^ 64 := Nat.and_lt_two_pow _ (by omega)
  show IntKind.u64.wrap ((BitVec.ofInt 64 (a : Int) &&& BitVec.ofInt 64 (b : Int)).toNat : Int) = _
  rw [BitVec.toNat_and, ofInt_u64 a ha, ofInt_u64 b hb, wrap_u64_nat _ (by omega)]
theorem u64_or_nat (a b : Nat) (ha : a < 18446744073709551616) (hb : b < 18446744073709551616) : bits .or .u64 (a : Int) (b : Int) = ((a ||| b : Nat) : Int) := by
  have hx : a ||| b < 2 ^ 64 := Nat.or_lt_two_pow (by omega) (by omega)
  show IntKind.u64.wrap ((BitVec.ofInt 64 (a : Int) ||| BitVec.ofInt 64 (b : Int)).toNat : Int) = _
  rw [BitVec.toNat_or, ofInt_u64 a ha, ofInt_u64 b hb, wrap_u64_nat _ (by omega)]
theorem u64_xor_nat (a b : Nat) (ha : a < 18446744073709551616) (hb : b < 18446744073709551616) : bits .xor .u64 (a : Int) (b : Int) = ((a ^^^ b : Nat) : Int) := by
  have hx : a ^^^ b < 2 ^ 64 := Nat.xor_lt_two_pow (by omega) (by omega)
  show IntKind.u64.wrap ((BitVec.ofInt 64 (a : Int) ^^^ BitVec.ofInt 64 (b : Int)).toNat : Int) = _
  rw [BitVec.toNat_xor, ofInt_u64 a ha, ofInt_u64 b hb, wrap_u64_nat _ (by omega)]
theorem u64_not_nat (a : Nat) (ha : a < 18446744073709551616) : bits .xor .u64 IntKind.u64.max (a : Int) = ((18446744073709551615 - a : Nat) : Int) := by
  have hm : IntKind.u64.max = ((18446744073709551615 : Nat) : Int) := by decide
  have e : (18446744073709551615 ^^^ a : Nat) = 18446744073709551615 - a := by
    have h1 : (BitVec.allOnes 64 ^^^ BitVec.ofNat 64 a) = ~~~ BitVec.ofNat 64 a := BitVec.allOnes_xor
    have h2 := congrArg BitVec.toNat h1
    rw [BitVec.toNat_xor, BitVec.toNat_not, BitVec.toNat_ofNat, Nat.mod_eq_of_lt (show a < 2 ^ 64 from by omega), BitVec.toNat_allOnes] at h2
    have h3 : (2 : Nat) ^ 64 - 1 = 18446744073709551615 := by decide
    rw [h3] at h2
    exact h2
  rw [hm, u64_xor_nat _ _ (by decide) ha, e]

theorem and_sign (x : Nat) (hx : x < 18446744073709551616) : x &&& 9223372036854775808 = if isNeg x then 9223372036854775808 else 0 := by
  have h1 : x &&& 9223372036854775808 = x / 2 ^ 63 % 2 * 2 ^ 63 := by
    apply Nat.eq_of_testBit_eq
    intro i
    rw [Nat.testBit_and, show (9223372036854775808 : Nat) = 2 ^ 63 from rfl, Nat.testBit_two_pow, Nat.testBit_mul_two_pow]
    by_cases hi : 63 = i
    · subst hi
      simp [Nat.testBit, Nat.shiftRight_eq_div_pow]
    · rw [decide_eq_false hi, Bool.and_false]
      symm
      by_cases h3 : 63 ≤ i
      · rw [decide_eq_true h3, Bool.true_and]
        apply Nat.testBit_lt_two_pow
        have : 2 ^ 1 ≤ 2 ^ (i - 63) := Nat.pow_le_pow_right (by decide) (by omega)
        have := Nat.mod_lt (x / 2 ^ 63) (show 2 > 0 by decide)
        omega
      · rw [decide_eq_false h3, Bool.false_and]
  rw [h1]
  rcases word_parts x hx with ⟨h1, h2, h3⟩ | ⟨h1, h2, h3⟩ <;> rw [h1] <;> simp <;> omega
theorem or_sign (x : Nat) (hx : x < 9223372036854775808) : x ||| 9223372036854775808 = x + 9223372036854775808 := by
  have := Nat.two_pow_add_eq_or_of_lt (i := 63) (b := x) hx 1
  rw [show 2 ^ 63 * 1 = 9223372036854775808 from by decide] at this
  rw [Nat.or_comm]
  omega
theorem xor_sign (x : Nat) (hx : x < 9223372036854775808) : x ^^^ 9223372036854775808 = x + 9223372036854775808 := by
  rw [← or_sign x hx]
  apply Nat.eq_of_testBit_eq
  intro i
  rw [Nat.testBit_xor, Nat.testBit_or, show (9223372036854775808 : Nat) = 2 ^ 63 from rfl, Nat.testBit_two_pow]
  by_cases hi : 63 = i
  · subst hi
    rw [Nat.testBit_lt_two_pow hx]
    rfl
  · rw [decide_eq_false hi, Bool.xor_false, Bool.or_false]

theorem and_sign_int (x : Nat) (hx : x < 18446744073709551616) : (bits .and .u64 (x : Int) 9223372036854775808 != 0) = isNeg x := by
  have := u64_and_nat x 9223372036854775808 hx (by decide)
  rw [and_sign x hx] at this
  rw [show ((9223372036854775808 : Int)) = ((9223372036854775808 : Nat) : Int) from rfl, this]
  cases isNeg x <;> rfl
theorem or_sign_int (x : Nat) (hx : x < 9223372036854775808) : bits .or .u64 (x : Int) 9223372036854775808 = ((x + 9223372036854775808 : Nat) : Int) := by
  have := u64_or_nat x 9223372036854775808 (by omega) (by decide)
  rw [or_sign x hx] at this
  exact this

/-- '-f': the sign is turned. -/
theorem neg_word (x : Nat) (hx : x < 18446744073709551616) : Op.negFloat .f64 x = if isNeg x then x - 9223372036854775808 else x + 9223372036854775808 := by
  show x ^^^ 9223372036854775808 = _
  rcases word_parts x hx with ⟨h1, h2, h3⟩ | ⟨h1, h2, h3⟩
  · rw [h1, if_pos rfl]
    have e : x = rung x ^^^ 9223372036854775808 := by rw [xor_sign _ h3]; omega
    have e2 : x ^^^ 9223372036854775808 = rung x := by
      conv => lhs; rw [e]
      rw [Nat.xor_assoc, Nat.xor_self, Nat.xor_zero]
    rw [e2]; omega
  · rw [h1, if_neg (by decide)]
    exact xor_sign x (by omega)

/-- The number that stands at a rank. -/
def unrankN (r : Nat) : Nat := if isNeg r then r - 9223372036854775808 else 18446744073709551615 - r
theorem unrankN_lt (r : Nat) (h : r < 18446744073709551616) : unrankN r < 18446744073709551616 := by unfold unrankN; split <;> omega
theorem unrank_rank (x : Nat) (hx : x < 18446744073709551616) (h : isN x = false) : unrankN (rankN x) = x := by
  unfold unrankN rankN
  rw [h]
  rcases word_parts x hx with ⟨h1, h2, h3⟩ | ⟨h1, h2, h3⟩ <;> rw [h1] <;> simp only [Bool.false_eq_true, if_false, if_true]
  · rw [word_neg _ (by omega), decide_eq_false (by omega)]
    simp only [Bool.false_eq_true, if_false]
    omega
  · rw [word_neg _ (by omega), decide_eq_true (by omega)]
    simp only [if_true]
    omega
theorem andNot_rung (x : Nat) (hx : x < 18446744073709551616) : bits .andNot .u64 (x : Int) 9223372036854775808 = (rung x : Int) := by
  show IntKind.u64.wrap ((BitVec.ofInt 64 (x : Int) &&& ~~~ BitVec.ofInt 64 ((9223372036854775808 : Nat) : Int)).toNat : Int) = _
  have hm := Nat.and_two_pow_sub_one_eq_mod x 63
  rw [BitVec.toNat_and, BitVec.toNat_not, ofInt_u64 x hx, ofInt_u64 _ (by decide), show (2 ^ 64 - 1 - 9223372036854775808 : Nat) = 2 ^ 63 - 1 from by decide, hm]
  have hd : (2 : Nat) ^ 63 = 9223372036854775808 := by decide
  rw [hd, wrap_u64_nat _ (by omega)]
  rfl
theorem and_sign_eq (x : Nat) (hx : x < 18446744073709551616) : bits .and .u64 (x : Int) 9223372036854775808 = ((if isNeg x then 9223372036854775808 else 0 : Nat) : Int) := by
  have := u64_and_nat x 9223372036854775808 hx (by decide)
  rw [and_sign x hx] at this
  exact this
theorem andNot_sign (x : Nat) (hx : x < 18446744073709551616) (h : isNeg x = true) : bits .andNot .u64 (x : Int) 9223372036854775808 = ((x - 9223372036854775808 : Nat) : Int) := by
  show IntKind.u64.wrap ((BitVec.ofInt 64 (x : Int) &&& ~~~ BitVec.ofInt 64 ((9223372036854775808 : Nat) : Int)).toNat : Int) = _
  have hm := Nat.and_two_pow_sub_one_eq_mod x 63
  rw [BitVec.toNat_and, BitVec.toNat_not, ofInt_u64 x hx, ofInt_u64 _ (by decide), show (2 ^ 64 - 1 - 9223372036854775808 : Nat) = 2 ^ 63 - 1 from by decide, hm]
  have hd : (2 : Nat) ^ 63 = 9223372036854775808 := by decide
  rw [hd, wrap_u64_nat _ (by omega)]
  rcases word_parts x hx with ⟨h1, h2, h3⟩ | ⟨h1, h2, h3⟩
  · have e : x % 9223372036854775808 = x - 9223372036854775808 := by omega
    rw [e]
  · rw [h] at h1; cases h1
end Go.Proofs.Yteackdafggomhaa

namespace Go.Proofs.Yteackdafggomhaa
open Ieee

/-- To the nearest whole number; between two, the even one. -/
def hround (n g : Nat) : Nat := n / g + if g < 2 * (n % g) ∨ (g = 2 * (n % g) ∧ n / g % 2 = 1) then 1 else 0

theorem hround_mono {n m g : Nat} (_hg : 0 < g) (h : n ≤ m) : hround n g ≤ hround m g := by
  unfold hround
  have hd : n / g ≤ m / g := Nat.div_le_div_right h
  rcases Nat.lt_or_ge (n / g) (m / g) with h1 | h1
  · split <;> split <;> omega
  · have he : n / g = m / g := by omega
    have e1 := Nat.div_add_mod n g
    have e2 := Nat.div_add_mod m g
    rw [he] at e1 ⊢
    have hr : n % g ≤ m % g := by omega
    split
    · rename_i hc
      rw [if_pos (by omega)]
      exact Nat.le_refl _
    · omega
theorem hround_mul (n g : Nat) (hg : 0 < g) : hround (n * g) g = n := by
  unfold hround
  rw [Nat.mul_div_cancel _ hg, Nat.mul_mod_left, if_neg (by omega)]
  rfl
theorem hround_small (n g : Nat) (h : 2 * n < g) : hround n g = 0 := by
  unfold hround
  rw [Nat.div_eq_of_lt (by omega), Nat.mod_eq_of_lt (by omega), if_neg (by omega)]

theorem cut_even (neg : Bool) (n d : Nat) : Toward.even.cut neg n d = hround n (2 ^ d) := by
  have key : ∀ g, n / g + (decide (g < 2 * (n % g)) || (g == 2 * (n % g) && n / g % 2 == 1)).toNat = hround n g := by
    intro g
    unfold hround
    congr 1
    by_cases h1 : g < 2 * (n % g)
    · simp [h1]
    · by_cases h2 : g = 2 * (n % g) ∧ n / g % 2 = 1
      · rw [if_pos (Or.inr h2)]
        have a1 : (g == 2 * (n % g)) = true := by rw [beq_iff_eq]; exact h2.1
        have a2 : (n / g % 2 == 1) = true := by rw [beq_iff_eq]; exact h2.2
        rw [a1, a2]
        simp
      · rw [if_neg (by omega)]
        have a : (g == 2 * (n % g) && n / g % 2 == 1) = false := by
          rw [Bool.eq_false_iff]
          intro e
          rw [Bool.and_eq_true, beq_iff_eq, beq_iff_eq] at e
          exact h2 e
        rw [a, decide_eq_false h1]
        rfl
  have hc : Toward.even.cut neg n d = hround n (1 <<< min d (n.log2 + 2)) := key _
  rw [hc, Nat.one_shiftLeft]
  rcases Nat.le_total d (n.log2 + 2) with h | h
  · rw [Nat.min_eq_left h]
  · rw [Nat.min_eq_right h]
    have h1 : n < 2 ^ (n.log2 + 1) := Nat.lt_log2_self
    have h2 : 2 ^ (n.log2 + 2) = 2 * 2 ^ (n.log2 + 1) := by rw [Nat.pow_succ]; omega
    have h3 : 2 ^ (n.log2 + 2) ≤ 2 ^ d := Nat.pow_le_pow_right (by decide) h
    rw [hround_small _ _ (by omega), hround_small _ _ (by omega)]

/-- The place of the last digit that is kept, and what is kept. -/
def lastP (m : Nat) (p : Int) : Int := max (p + (m.log2 : Int) - 52) (-1074)
def keptN (m : Nat) (p L : Int) : Nat := hround (m * 2 ^ (p - L).toNat) (2 ^ (L - p).toNat)
def rungOf (m : Nat) (p : Int) : Nat := (lastP m p + 1074).toNat * 4503599627370496 + keptN m p (lastP m p)

theorem nearest_eq (neg : Bool) (m : Nat) (p : Int) (h : m ≠ 0) : Ieee.double.nearest neg m p = Ieee.double.word neg (min (rungOf m p) infR) := by
  unfold Format.nearest
  rw [if_neg h, f64_least, f64_binade, f64_inf]
  show Ieee.double.word neg (min ((lastP m p - -1074).toNat * 4503599627370496 + Toward.even.cut neg (m <<< (p - lastP m p).toNat) (lastP m p - p).toNat) infR) = _
  rw [cut_even, Nat.shiftLeft_eq, show lastP m p - -1074 = lastP m p + 1074 from by omega]
  rfl

theorem kept_le (m : Nat) (p L : Int) (h : p + (m.log2 : Int) - 52 ≤ L) : keptN m p L ≤ 9007199254740992 := by
  have hg := Nat.two_pow_pos (L - p).toNat
  have h1 : m ≤ 2 ^ (m.log2 + 1) := Nat.le_of_lt Nat.lt_log2_self
  have h2 : m * 2 ^ (p - L).toNat ≤ 9007199254740992 * 2 ^ (L - p).toNat := by
    refine Nat.le_trans (Nat.mul_le_mul_right _ h1) ?_
    rw [← Nat.pow_add, show (9007199254740992 : Nat) = 2 ^ 53 from rfl, ← Nat.pow_add]
    exact Nat.pow_le_pow_right (by decide) (by omega)
  have := hround_mono hg h2
  rwa [hround_mul _ _ hg] at this
theorem kept_ge (m : Nat) (p L : Int) (hm : m ≠ 0) (h : L ≤ p + (m.log2 : Int) - 52) : 4503599627370496 ≤ keptN m p L := by
  have hg := Nat.two_pow_pos (L - p).toNat
  have h1 : 2 ^ m.log2 ≤ m := Nat.log2_self_le hm
  have h2 : 4503599627370496 * 2 ^ (L - p).toNat ≤ m * 2 ^ (p - L).toNat := by
    refine Nat.le_trans ?_ (Nat.mul_le_mul_right _ h1)
    rw [← Nat.pow_add, show (4503599627370496 : Nat) = 2 ^ 52 from rfl, ← Nat.pow_add]
    exact Nat.pow_le_pow_right (by decide) (by omega)
  have := hround_mono hg h2
  rwa [hround_mul _ _ hg] at this

theorem log2_mono {m n : Nat} (hm : m ≠ 0) (h : m ≤ n) : m.log2 ≤ n.log2 := by
  have h1 : 2 ^ m.log2 ≤ m := Nat.log2_self_le hm
  have h2 : n < 2 ^ (n.log2 + 1) := Nat.lt_log2_self
  rcases Nat.lt_or_ge n.log2 m.log2 with h3 | h3
  · have : 2 ^ (n.log2 + 1) ≤ 2 ^ m.log2 := Nat.pow_le_pow_right (by decide) (by omega)
    omega
  · exact h3

/-- Rounding never turns the order round (one place for both). -/
theorem rungOf_mono (m n : Nat) (p : Int) (hm : m ≠ 0) (h : m ≤ n) : rungOf m p ≤ rungOf n p := by
  have hl := log2_mono hm h
  have hL : lastP m p ≤ lastP n p := by unfold lastP; omega
  have hb : -1074 ≤ lastP m p := by unfold lastP; omega
  unfold rungOf
  by_cases he : lastP m p = lastP n p
  · rw [he]
    have : keptN m p (lastP n p) ≤ keptN n p (lastP n p) := hround_mono (Nat.two_pow_pos _) (Nat.mul_le_mul_right _ h)
    omega
  · have h1 := kept_le m p (lastP m p) (by unfold lastP; omega)
    have h2 : lastP n p = p + (n.log2 : Int) - 52 := by unfold lastP at *; omega
    have h3 := kept_ge n p (lastP n p) (by omega) (by omega)
    omega

/-- What fits stays as it is. -/
theorem rungOf_exact (m : Nat) (p : Int) (hm : m ≠ 0) (h : m < 9007199254740992) (hp : -1074 ≤ p) : magOf (rungOf m p) = m * 2 ^ (p + 1074).toNat := by
  have hlog : m.log2 ≤ 52 := by
    have h1 : 2 ^ m.log2 ≤ m := Nat.log2_self_le hm
    rcases Nat.lt_or_ge 52 m.log2 with h2 | h2
    · have : 2 ^ 53 ≤ 2 ^ m.log2 := Nat.pow_le_pow_right (by decide) h2
      omega
    · exact h2
  have hLp : lastP m p ≤ p := by unfold lastP; omega
  have hb : -1074 ≤ lastP m p := by unfold lastP; omega
  have hk : keptN m p (lastP m p) = m * 2 ^ (p - lastP m p).toNat := by
    unfold keptN
    have := hround_mul (m * 2 ^ (p - lastP m p).toNat) 1 (by decide)
    rw [Nat.mul_one] at this
    rw [show (lastP m p - p).toNat = 0 from by omega]
    exact this
  have hlt : m < 2 ^ (m.log2 + 1) := Nat.lt_log2_self
  have hlt2 : m * 2 ^ (p - lastP m p).toNat < 9007199254740992 := by
    have h1 : m * 2 ^ (p - lastP m p).toNat < 2 ^ (m.log2 + 1) * 2 ^ (p - lastP m p).toNat := Nat.mul_lt_mul_of_pos_right hlt (Nat.two_pow_pos _)
    rw [← Nat.pow_add] at h1
    have h2 : 2 ^ (m.log2 + 1 + (p - lastP m p).toNat) ≤ 2 ^ 53 := Nat.pow_le_pow_right (by decide) (by unfold lastP; omega)
    omega
  unfold rungOf
  rw [hk]
  by_cases hL : lastP m p = -1074
  · rw [hL] at hlt2 ⊢
    rw [show (-1074 + 1074 : Int).toNat = 0 from rfl, Nat.zero_mul, Nat.zero_add, show p - -1074 = p + 1074 from by omega] at *
    unfold magOf
    split
    · rfl
    · rw [show m * 2 ^ (p + 1074).toNat / 4503599627370496 - 1 = 0 from by omega]
      omega
  · have hLe : lastP m p = p + (m.log2 : Int) - 52 := by unfold lastP at *; omega
    have hge := kept_ge m p (lastP m p) hm (by omega)
    rw [hk] at hge
    obtain ⟨x, hx⟩ : ∃ x, x = m * 2 ^ (p - lastP m p).toNat := ⟨_, rfl⟩
    obtain ⟨a, ha⟩ : ∃ a, a = (lastP m p + 1074).toNat := ⟨_, rfl⟩
    have hsum : m * 2 ^ (p + 1074).toNat = x * 2 ^ a := by
      rw [hx, Nat.mul_assoc, ← Nat.pow_add, show (p + 1074).toNat = (p - lastP m p).toNat + a from by omega]
    rw [hsum, ← ha, ← hx]
    rw [← hx] at hge hlt2
    unfold magOf
    rw [if_neg (by omega), show (a * 4503599627370496 + x) / 4503599627370496 - 1 = a from by omega, show 4503599627370496 + (a * 4503599627370496 + x) % 4503599627370496 = x from by omega]

theorem hround_scale (n g c : Nat) (hc : 0 < c) : hround (n * c) (g * c) = hround n g := by
  unfold hround
  rw [Nat.mul_div_mul_right _ _ hc, Nat.mul_mod_mul_right]
  have e1 : g * c < 2 * (n % g * c) ↔ g < 2 * (n % g) := by rw [← Nat.mul_assoc]; exact Nat.mul_lt_mul_right hc
  have e2 : g * c = 2 * (n % g * c) ↔ g = 2 * (n % g) := by
    rw [← Nat.mul_assoc]
    exact ⟨fun h => Nat.eq_of_mul_eq_mul_right hc h, fun h => by rw [← h]⟩
  simp only [e1, e2]

/-- The same value at another place is rounded the same. -/
theorem rungOf_scale (m k : Nat) (p : Int) (hm : m ≠ 0) : rungOf (m * 2 ^ k) p = rungOf m (p + (k : Int)) := by
  have hm2 : m * 2 ^ k ≠ 0 := Nat.mul_ne_zero hm (Nat.ne_of_gt (Nat.two_pow_pos _))
  have hlog : (m * 2 ^ k).log2 = m.log2 + k := by
    rw [Nat.log2_eq_iff hm2]
    have h1 : 2 ^ m.log2 ≤ m := Nat.log2_self_le hm
    have h2 : m < 2 ^ (m.log2 + 1) := Nat.lt_log2_self
    constructor
    · rw [Nat.pow_add]; exact Nat.mul_le_mul_right _ h1
    · rw [show m.log2 + k + 1 = (m.log2 + 1) + k from by omega, Nat.pow_add]
      exact Nat.mul_lt_mul_of_pos_right h2 (Nat.two_pow_pos _)
  have hL : lastP (m * 2 ^ k) p = lastP m (p + (k : Int)) := by unfold lastP; rw [hlog]; omega
  unfold rungOf
  rw [hL]
  congr 1
  generalize lastP m (p + (k : Int)) = L
  unfold keptN
  obtain ⟨c, h1, h2⟩ : ∃ c : Nat, k + (p - L).toNat = (p + (k : Int) - L).toNat + c ∧ (L - p).toNat = (L - (p + (k : Int))).toNat + c := ⟨(L - p).toNat - (L - (p + (k : Int))).toNat, by omega, by omega⟩
  rw [Nat.mul_assoc, ← Nat.pow_add, h1, h2, Nat.pow_add, Nat.pow_add, ← Nat.mul_assoc]
  exact hround_scale _ _ _ (Nat.two_pow_pos _)
end Go.Proofs.Yteackdafggomhaa

namespace Go.Proofs.Yteackdafggomhaa
open Ieee

/-- The rung of a product of two magnitudes (in units of the least one). -/
def mulR (a b : Nat) : Nat := if a * b = 0 then 0 else min (rungOf (a * b) (-2148)) infR

theorem mulR_mono {a b c d : Nat} (h1 : a ≤ c) (h2 : b ≤ d) : mulR a b ≤ mulR c d := by
  have h := Nat.mul_le_mul h1 h2
  unfold mulR
  by_cases h0 : a * b = 0
  · rw [if_pos h0]; exact Nat.zero_le _
  · have := rungOf_mono (a * b) (c * d) (-2148) h0 h
    rw [if_neg h0, if_neg (by omega)]
    omega

theorem mul_fin (x y : Nat) (hx : rung x < infR) (hy : rung y < infR) :
    Ieee.double.mul x y = some (Ieee.double.word (isNeg x ^^ isNeg y) (mulR (magOf (rung x)) (magOf (rung y)))) := by
  obtain ⟨m, k, e1, f1⟩ := read_fin x hx
  obtain ⟨n, l, e2, f2⟩ := read_fin y hy
  unfold Format.mul
  rw [e1, e2]
  show some (Ieee.double.nearest (isNeg x ^^ isNeg y) (m * n) ((-1074 + (k : Int)) + (-1074 + (l : Int)))) = _
  congr 1
  have hp : magOf (rung x) * magOf (rung y) = (m * n) * 2 ^ (k + l) := by
    rw [← f1, ← f2, Nat.pow_add]
    rw [Nat.mul_assoc, Nat.mul_assoc, Nat.mul_left_comm (2 ^ k)]
  unfold mulR
  by_cases h0 : m * n = 0
  · rw [h0, hp, h0, Nat.zero_mul, if_pos rfl]
    unfold Format.nearest
    rw [if_pos rfl]
  · rw [nearest_eq _ _ _ h0, hp, if_neg (Nat.mul_ne_zero h0 (Nat.ne_of_gt (Nat.two_pow_pos _))), rungOf_scale _ _ _ h0]
    congr 3
    omega

theorem cut_down (way : Toward) (hw : way = .zero ∨ way = .down) (n d : Nat) : way.cut false n d = n / 2 ^ d := by
  have key : way.cut false n d = n / (1 <<< min d (n.log2 + 2)) := by
    rcases hw with rfl | rfl
    · rfl
    · show n / _ + ((false && _ : Bool)).toNat = _
      rw [Bool.false_and]
      rfl
  rw [key, Nat.one_shiftLeft]
  rcases Nat.le_total d (n.log2 + 2) with h | h
  · rw [Nat.min_eq_left h]
  · rw [Nat.min_eq_right h]
    have h1 : n < 2 ^ (n.log2 + 1) := Nat.lt_log2_self
    have h2 : 2 ^ (n.log2 + 2) = 2 * 2 ^ (n.log2 + 1) := by rw [Nat.pow_succ]; omega
    have h3 : 2 ^ (n.log2 + 2) ≤ 2 ^ d := Nat.pow_le_pow_right (by decide) h
    rw [Nat.div_eq_of_lt (by omega), Nat.div_eq_of_lt (by omega)]

/-- The whole part of a number that is not negative. -/
theorem whole_fin (way : Toward) (hw : way = .zero ∨ way = .down) (x : Nat) (hx : rung x < infR) (h0 : isNeg x = false) :
    (Ieee.double.read x).toInt way = some ((magOf (rung x) / 2 ^ 1074 : Nat) : Int) := by
  obtain ⟨m, k, e, f⟩ := read_fin x hx
  rw [e, h0, ← f]
  show some (signed false (way.cut false (m <<< (-1074 + (k : Int)).toNat) (-(-1074 + (k : Int))).toNat) 0) = _
  rw [cut_down way hw, Nat.shiftLeft_eq]
  have h : m * 2 ^ (-1074 + (k : Int)).toNat / 2 ^ (-(-1074 + (k : Int))).toNat = m * 2 ^ k / 2 ^ 1074 := by
    rcases Nat.le_total k 1074 with h1 | h1
    · rw [show (-1074 + (k : Int)).toNat = 0 from by omega, show (-(-1074 + (k : Int))).toNat = 1074 - k from by omega, Nat.pow_zero, Nat.mul_one]
      have : (2 : Nat) ^ 1074 = 2 ^ (1074 - k) * 2 ^ k := by rw [← Nat.pow_add, show 1074 - k + k = 1074 from by omega]
      rw [this, Nat.mul_div_mul_right _ _ (Nat.two_pow_pos _)]
    · rw [show (-1074 + (k : Int)).toNat = k - 1074 from by omega, show (-(-1074 + (k : Int))).toNat = 0 from by omega, Nat.pow_zero, Nat.div_one]
      have h5 := Nat.pow_add 2 (k - 1074) 1074
      rw [show k - 1074 + 1074 = k from by omega] at h5
      have h6 := Nat.two_pow_pos 1074
      rw [h5]
      generalize 2 ^ 1074 = c at *
      rw [← Nat.mul_assoc, Nat.mul_div_cancel _ h6]
  rw [h]
  unfold signed
  simp only [Bool.false_eq_true, if_false, Nat.shiftLeft_zero]
end Go.Proofs.Yteackdafggomhaa

namespace Go.Proofs.Yteackdafggomhaa
open Go.RowKit Ieee

theorem leq_eq (x y : Nat) : (FloatKind.f64.format.order x y == some .lt || FloatKind.f64.format.order x y == some .eq) = (!isN x && !isN y && decide (nkey x ≤ nkey y)) := by
  rw [lss_eq, eql_eq]
  cases isN x <;> cases isN y <;> simp
  rw [Bool.eq_iff_iff]
  simp
  omega
theorem geq_eq (x y : Nat) : (FloatKind.f64.format.order x y == some .gt || FloatKind.f64.format.order x y == some .eq) = (!isN x && !isN y && decide (nkey y ≤ nkey x)) := by
  rw [gtr_eq, eql_eq]
  cases isN x <;> cases isN y <;> simp
  rw [Bool.eq_iff_iff]
  simp
  omega

/-- The rung of float64(m) of a natural number. -/
def fltR (m : Nat) : Nat := if m = 0 then 0 else rungOf m 0
theorem rungOf_top : rungOf 9223372036854775808 0 = 4890909195324358656 := by decide +kernel
theorem fltR_le (m : Nat) (h : m ≤ 9223372036854775808) : fltR m ≤ 4890909195324358656 := by
  unfold fltR
  split
  · omega
  · rename_i h0
    rw [← rungOf_top]
    exact rungOf_mono m _ 0 h0 h
theorem fltR_mono {m n : Nat} (h : m ≤ n) : fltR m ≤ fltR n := by
  unfold fltR
  by_cases h0 : m = 0
  · rw [if_pos h0]; exact Nat.zero_le _
  · rw [if_neg h0, if_neg (by omega)]
    exact rungOf_mono m n 0 h0 h
theorem fltR_mag (m : Nat) (h : m < 9007199254740992) : magOf (fltR m) = m * 2 ^ 1074 := by
  unfold fltR
  by_cases h0 : m = 0
  · generalize 2 ^ 1074 = U
    rw [if_pos h0, h0, Nat.zero_mul]; exact (magOf_zero 0).2 rfl
  · rw [if_neg h0, rungOf_exact m 0 h0 h (by decide), show ((0 : Int) + 1074).toNat = 1074 from rfl]
theorem floatOfInt_nat (m : Nat) (h : m ≤ 9223372036854775808) : floatOfInt .f64 (m : Int) = fltR m := by
  have hl := fltR_le m h
  show Ieee.double.nearest (decide ((m : Int) < 0)) (m : Int).natAbs 0 = _
  rw [decide_eq_false (by omega), Int.natAbs_natCast]
  by_cases h0 : m = 0
  · subst h0; rfl
  · unfold fltR at hl ⊢
    rw [if_neg h0] at hl ⊢
    rw [nearest_eq _ _ _ h0, Nat.min_eq_left (by unfold infR; omega)]
    rfl
theorem floatOfInt_neg (m : Nat) (h : m ≤ 9223372036854775808) (h0 : m ≠ 0) : floatOfInt .f64 (-(m : Int)) = 9223372036854775808 + fltR m := by
  have hl := fltR_le m h
  show Ieee.double.nearest (decide (-(m : Int) < 0)) (-(m : Int)).natAbs 0 = _
  rw [decide_eq_true (by omega), Int.natAbs_neg, Int.natAbs_natCast]
  unfold fltR at hl ⊢
  rw [if_neg h0] at hl ⊢
  rw [nearest_eq _ _ _ h0, Nat.min_eq_left (by unfold infR; omega)]
  rfl
theorem fltR_pos (m : Nat) (h : m ≤ 9223372036854775808) (h0 : m ≠ 0) : 4607182418800017408 ≤ fltR m := by
  have h1 : fltR 1 = 4607182418800017408 := by decide +kernel
  rw [← h1]
  exact fltR_mono (by omega)

theorem small_parts (r : Nat) (h : r < 9223372036854775808) : isNeg r = false ∧ rung r = r := by
  unfold isNeg rung
  rw [show r / 9223372036854775808 % 2 = 0 from by omega]
  exact ⟨rfl, by omega⟩
theorem isN_small (r : Nat) (h : r ≤ infR) : isN r = false := by
  have hc : infR = 9218868437227405312 := rfl
  unfold isN
  rw [(small_parts r (by omega)).2]
  exact decide_eq_false (by omega)
theorem nkey_small (r : Nat) (h : r < 9223372036854775808) : nkey r = (r : Int) := by
  unfold nkey
  rw [(small_parts r h).1, (small_parts r h).2]
  rfl

/-- The rung of float64(m) times x (m above 0, x above 0). -/
def farR (m x : Nat) : Nat := if rung x = infR then infR else mulR (m * 2 ^ 1074) (magOf (rung x))
theorem farR_le (m x : Nat) : farR m x ≤ infR := by
  unfold farR
  split
  · exact Nat.le_refl _
  · unfold mulR; split
    · exact Nat.zero_le _
    · exact Nat.min_le_right _ _
theorem word_pp (r : Nat) : Ieee.double.word (false ^^ false) r = r := rfl
theorem mul_far (m x : Nat) (h0 : m ≠ 0) (hm : m ≤ 281474976710656) (hx : isN x = false) (hs : isNeg x = false) :
    floatBits .mul .f64 (fltR m) x = some (farR m x) := by
  show Ieee.double.mul (fltR m) x = _
  have hc : infR = 9218868437227405312 := rfl
  have hi : rung x ≤ infR := by simpa [isN] using hx
  have hl := fltR_le m (by omega)
  obtain ⟨p1, p2⟩ := small_parts (fltR m) (by omega)
  have hmag := fltR_mag m (by omega)
  unfold farR
  by_cases h : rung x = infR
  · rw [if_pos h]
    obtain ⟨a, k, e1, f1⟩ := read_fin (fltR m) (by omega)
    have ha : a ≠ 0 := by
      rintro rfl
      rw [p2, hmag, Nat.zero_mul] at f1
      have hp := Nat.two_pow_pos 1074
      have := Nat.mul_ne_zero h0 (Nat.ne_of_gt hp)
      generalize m * 2 ^ 1074 = z at *
      exact this f1.symm
    unfold Format.mul
    rw [e1, read_inf x h, p1, hs]
    show Option.map _ (if a = 0 then none else some (Datum.infinity (false ^^ false))) = _
    rw [if_neg ha]
    show some (Ieee.double.word (false ^^ false) Ieee.double.infRung) = _
    rw [word_pp, f64_inf]
  · rw [if_neg h, mul_fin (fltR m) x (by omega) (by omega), p1, p2, hs, hmag, word_pp]

theorem int_far (r : Nat) (h : r < 4823355200913801216) : floatToIntVal .f64 r .i64 = some ((magOf r / 2 ^ 1074 : Nat) : Int) ∧ magOf r / 2 ^ 1074 < 281474976710656 := by
  have hlt : magOf r / 2 ^ 1074 < 281474976710656 := by
    have h1 : magOf r < magOf 4823355200913801216 := (magOf_lt _ _).2 h
    have h2 : magOf 4823355200913801216 = 281474976710656 * 2 ^ 1074 := by decide +kernel
    rw [h2] at h1
    have hp := Nat.two_pow_pos 1074
    clear h2
    generalize 2 ^ 1074 = U at *
    exact (Nat.div_lt_iff_lt_mul hp).2 h1
  refine ⟨?_, hlt⟩
  obtain ⟨p1, p2⟩ := small_parts r (by omega)
  have hw := whole_fin .zero (Or.inl rfl) r (by unfold infR; omega) p1
  rw [p2] at hw
  unfold floatToIntVal
  show (match (Ieee.double.read r).toInt .zero with | some n => _ | none => _) = _
  rw [hw]
  generalize magOf r / 2 ^ 1074 = q at *
  show (if IntKind.i64.min ≤ (q : Int) ∧ (q : Int) ≤ IntKind.i64.max then some (q : Int) else none) = _
  have e1 : IntKind.i64.min = -9223372036854775808 := by decide
  have e2 : IntKind.i64.max = 9223372036854775807 := by decide
  rw [e1, e2, if_pos ⟨by omega, by omega⟩]

/-- How far a clock goes. -/
def capN (n : Int) : Nat := if n < 0 then 0 else if 281474976710656 < n then 281474976710656 else n.toNat
def goesN (m x : Nat) : Nat := if 4823355200913801216 ≤ farR m x then 281474976710656 else magOf (farR m x) / 2 ^ 1074
def scaleN (m x : Nat) : Nat := if isN x then m else if m = 0 then 0 else if nkey x ≤ 0 then 0 else goesN m x

theorem goesN_le (m x : Nat) : goesN m x ≤ 281474976710656 := by
  unfold goesN
  split
  · exact Nat.le_refl _
  · rename_i h
    exact Nat.le_of_lt (int_far _ (by omega)).2
theorem farR_mono {m n x y : Nat} (h : m ≤ n) (_hx : rung x ≤ infR) (hy : rung y ≤ infR) (hxy : rung x ≤ rung y) : farR m x ≤ farR n y := by
  by_cases h1 : rung y = infR
  · have : farR n y = infR := by unfold farR; rw [if_pos h1]
    rw [this]
    exact farR_le m x
  · unfold farR
    rw [if_neg h1, if_neg (by omega)]
    refine mulR_mono (Nat.mul_le_mul_right _ h) ?_
    rcases Nat.lt_or_ge (rung x) (rung y) with h2 | h2
    · exact Nat.le_of_lt (magOf_mono h2)
    · rw [show rung x = rung y from by omega]; exact Nat.le_refl _
theorem goesN_mono {m n x y : Nat} (h : farR m x ≤ farR n y) : goesN m x ≤ goesN n y := by
  by_cases h1 : 4823355200913801216 ≤ farR n y
  · have : goesN n y = 281474976710656 := by unfold goesN; rw [if_pos h1]
    rw [this]
    exact goesN_le m x
  · unfold goesN
    rw [if_neg h1, if_neg (by omega)]
    refine Nat.div_le_div_right ?_
    rcases Nat.lt_or_ge (farR m x) (farR n y) with h2 | h2
    · exact Nat.le_of_lt (magOf_mono h2)
    · rw [show farR m x = farR n y from by omega]; exact Nat.le_refl _
theorem scaleN_le (m x : Nat) (h : m ≤ 281474976710656) : scaleN m x ≤ 281474976710656 := by
  unfold scaleN
  split
  · exact h
  · split
    · omega
    · split
      · omega
      · exact goesN_le m x

/-- A longer time goes further. -/
theorem scaleN_longer {m n : Nat} (x : Nat) (h : m ≤ n) : scaleN m x ≤ scaleN n x := by
  unfold scaleN
  cases hx : isN x
  · simp only [Bool.false_eq_true, if_false]
    by_cases h0 : m = 0
    · rw [if_pos h0]; exact Nat.zero_le _
    · rw [if_neg h0, if_neg (show ¬ n = 0 by omega)]
      split
      · exact Nat.le_refl _
      · have hi : rung x ≤ infR := by simpa [isN] using hx
        exact goesN_mono (farR_mono h hi hi (Nat.le_refl _))
  · simp only [if_true]; exact h
/-- A faster clock goes further. -/
theorem scaleN_faster (m : Nat) {x y : Nat} (hx : isN x = false) (hy : isN y = false) (h : nkey x ≤ nkey y) : scaleN m x ≤ scaleN m y := by
  unfold scaleN
  rw [hx, hy]
  simp only [Bool.false_eq_true, if_false]
  by_cases h0 : m = 0
  · rw [if_pos h0]; exact Nat.zero_le _
  · rw [if_neg h0, if_neg h0]
    by_cases h1 : nkey x ≤ 0
    · rw [if_pos h1]; exact Nat.zero_le _
    · rw [if_neg h1, if_neg (by omega)]
      have hi : rung x ≤ infR := by simpa [isN] using hx
      have hj : rung y ≤ infR := by simpa [isN] using hy
      refine goesN_mono (farR_mono (Nat.le_refl _) hi hj ?_)
      unfold nkey at h h1
      cases hs : isNeg x <;> rw [hs] at h h1 <;> cases ht : isNeg y <;> rw [ht] at h <;> simp at h h1 <;> omega
/-- At the speed 1 as far as time goes. -/
theorem scaleN_one (m : Nat) (h : m ≤ 281474976710656) : scaleN m 4607182418800017408 = m := by
  have h1 : isN 4607182418800017408 = false := by decide
  have h2 : ¬ nkey 4607182418800017408 ≤ 0 := by decide
  have h3 : rung 4607182418800017408 = 4607182418800017408 := by decide
  have h4 : magOf 4607182418800017408 = 2 ^ 1074 := by decide +kernel
  unfold scaleN
  rw [h1, if_neg h2]
  simp only [Bool.false_eq_true, if_false]
  by_cases h0 : m = 0
  · rw [if_pos h0, h0]
  · rw [if_neg h0]
    have hf : farR m 4607182418800017408 = fltR m := by
      have hl := fltR_le m (by omega)
      unfold farR mulR
      rw [h3, if_neg (by decide), h4]
      have hp : (2 : Nat) ^ 1074 ≠ 0 := Nat.ne_of_gt (Nat.two_pow_pos 1074)
      have ea : ∀ U : Nat, m * U * U = m * (U * U) := fun U => Nat.mul_assoc _ _ _
      have eb := (Nat.pow_add 2 1074 1074).symm
      rw [if_neg (Nat.mul_ne_zero (Nat.mul_ne_zero h0 hp) hp), ea, eb, rungOf_scale m (1074 + 1074) (-2148) h0]
      unfold fltR at hl ⊢
      rw [if_neg h0] at hl ⊢
      have hz : (-2148 + ((1074 + 1074 : Nat) : Int)) = 0 := by decide
      rw [hz]
      exact Nat.min_eq_left (by unfold infR; omega)
    have hmag := fltR_mag m (by omega)
    have h48 : fltR 281474976710656 = 4823355200913801216 := by decide +kernel
    have ed : ∀ U : Nat, 0 < U → m * U / U = m := fun U hU => Nat.mul_div_cancel m hU
    unfold goesN
    rw [hf, hmag, ed _ (Nat.two_pow_pos 1074)]
    split
    · rename_i hg
      rcases Nat.lt_or_ge m 281474976710656 with h5 | h5
      · have : magOf (fltR m) < magOf (fltR 281474976710656) := by
          have hp := Nat.two_pow_pos 1074
          have h6 := fltR_mag 281474976710656 (by decide)
          clear ed hf
          rw [hmag, h6]
          have hp := Nat.two_pow_pos 1074
          clear hmag h6
          generalize 2 ^ 1074 = U at *
          exact Nat.mul_lt_mul_of_pos_right h5 hp
        have := (magOf_lt _ _).1 this
        omega
      · omega
    · rfl
end Go.Proofs.Yteackdafggomhaa

namespace Go.Proofs.Yteackdafggomhaa
open Go.RowKit Ieee

theorem integral_far (r : Nat) (h : r < 4823355200913801216) : (Ieee.double.read r).integral .down = .number false (magOf r / 2 ^ 1074) 0 := by
  obtain ⟨p1, p2⟩ := small_parts r (by omega)
  have hw := whole_fin .down (Or.inr rfl) r (by unfold infR; omega) p1
  obtain ⟨m, k, e, _⟩ := read_fin r (by rw [p2]; unfold infR; omega)
  rw [p2] at hw
  rw [e, p1] at hw ⊢
  unfold Datum.toInt at hw
  unfold Datum.integral at hw ⊢
  generalize magOf r / 2 ^ 1074 = q at *
  dsimp only at hw ⊢
  generalize Toward.down.cut false (m <<< (-1074 + (k : Int)).toNat) (-(-1074 + (k : Int))).toNat = c at *
  have hw := Option.some.inj hw
  unfold signed at hw
  simp only [Bool.false_eq_true, if_false, Nat.shiftLeft_zero] at hw
  have : c = q := by omega
  rw [this]

theorem floor_word (r : Nat) (h : r < 4823355200913801216) : FloatKind.f64.encode ((FloatKind.f64.decode r).integral .down) = fltR (magOf r / 2 ^ 1074) := by
  have hl := (int_far r h).2
  have h1 : FloatKind.f64.encode ((FloatKind.f64.decode r).integral .down) = Ieee.double.write ((Ieee.double.read r).integral .down) := rfl
  rw [h1, integral_far r h]
  generalize magOf r / 2 ^ 1074 = q at *
  have h2 := floatOfInt_nat q (by omega)
  rw [← h2]
  show Ieee.double.nearest false q 0 = Ieee.double.nearest (decide ((q : Int) < 0)) (q : Int).natAbs 0
  rw [decide_eq_false (by omega), Int.natAbs_natCast]

theorem int_floor (q : Nat) (h : q < 281474976710656) : floatToIntVal .f64 (fltR q) .i64 = some (q : Int) := by
  have hmag := fltR_mag q (by omega)
  have h48 : fltR 281474976710656 = 4823355200913801216 := by decide +kernel
  have hlt : fltR q < 4823355200913801216 := by
    rw [← h48, ← magOf_lt, hmag, fltR_mag 281474976710656 (by decide)]
    have hp := Nat.two_pow_pos 1074
    clear hmag
    generalize 2 ^ 1074 = U at *
    exact Nat.mul_lt_mul_of_pos_right h hp
  have hi := (int_far (fltR q) hlt).1
  rw [hmag] at hi
  have ed : ∀ U : Nat, 0 < U → q * U / U = q := fun U hU => Nat.mul_div_cancel q hU
  rw [ed _ (Nat.two_pow_pos 1074)] at hi
  exact hi
end Go.Proofs.Yteackdafggomhaa

namespace Go.Proofs.Yteackdafggomhaa
open Go.RowKit

/-- The rung of a product of a number above 0 (its rung a) and x, its sign aside. -/
def farG (a x : Nat) : Nat := if rung x = infR then infR else mulR (magOf a) (magOf (rung x))
theorem farG_le (a x : Nat) : farG a x ≤ infR := by
  unfold farG
  split
  · exact Nat.le_refl _
  · unfold mulR; split
    · exact Nat.zero_le _
    · exact Nat.min_le_right _ _
theorem magOf_le {a b : Nat} (h : a ≤ b) : magOf a ≤ magOf b := by
  rcases Nat.lt_or_ge a b with h2 | h2
  · exact Nat.le_of_lt (magOf_mono h2)
  · rw [show a = b from by omega]; exact Nat.le_refl _
theorem farG_mono {a b x y : Nat} (h : a ≤ b) (_hx : rung x ≤ infR) (hy : rung y ≤ infR) (hxy : rung x ≤ rung y) : farG a x ≤ farG b y := by
  by_cases h1 : rung y = infR
  · have : farG b y = infR := by unfold farG; rw [if_pos h1]
    rw [this]
    exact farG_le a x
  · unfold farG
    rw [if_neg h1, if_neg (by omega)]
    exact mulR_mono (magOf_le h) (magOf_le hxy)
theorem fltR_inf (m : Nat) (h : m ≤ 9223372036854775808) : fltR m < infR := by
  have hc : infR = 9218868437227405312 := rfl
  have := fltR_le m h
  omega
theorem magOf_pos {a : Nat} (h : a ≠ 0) : magOf a ≠ 0 := fun e => h ((magOf_zero a).1 e)
/-- A number above 0 times what is a number. -/
theorem mul_sign (a x : Nat) (h0 : a ≠ 0) (ha : a < infR) (hx : isN x = false) :
    floatBits .mul .f64 a x = some (Ieee.double.word (isNeg x) (farG a x)) := by
  show Ieee.double.mul a x = _
  have hc : infR = 9218868437227405312 := rfl
  have hi : rung x ≤ infR := by simpa [isN] using hx
  obtain ⟨p1, p2⟩ := small_parts a (by omega)
  unfold farG
  by_cases h : rung x = infR
  · rw [if_pos h]
    obtain ⟨m, k, e1, f1⟩ := read_fin a (by omega)
    have hm : m ≠ 0 := by
      rintro rfl
      rw [p2, Nat.zero_mul] at f1
      exact magOf_pos h0 f1.symm
    unfold Ieee.Format.mul
    rw [e1, read_inf x h, p1]
    show Option.map _ (if m = 0 then none else some (Ieee.Datum.infinity (isNeg x ^^ false))) = _
    rw [if_neg hm, Bool.xor_false]
    show some (Ieee.double.word (isNeg x) Ieee.double.infRung) = _
    rw [f64_inf]
  · rw [if_neg h, mul_fin a x (by omega) (by omega), p1, p2, Bool.false_xor]
/-- 0 times what is finite. -/
theorem mul_zero_fin (x : Nat) (hx : rung x < infR) : floatBits .mul .f64 0 x = some (Ieee.double.word (isNeg x) 0) := by
  show Ieee.double.mul 0 x = _
  have hc : infR = 9218868437227405312 := rfl
  obtain ⟨p1, p2⟩ := small_parts 0 (by omega)
  rw [mul_fin 0 x (by omega) hx, p1, p2, Bool.false_xor]
  have h0 : magOf 0 = 0 := (magOf_zero 0).2 rfl
  have : mulR (magOf 0) (magOf (rung x)) = 0 := by unfold mulR; rw [h0, Nat.zero_mul, if_pos rfl]
  rw [this]
/-- 0 times what is without end. -/
theorem mul_zero_inf (x : Nat) (hx : rung x = infR) : floatBits .mul .f64 0 x = none := by
  show Ieee.double.mul 0 x = _
  obtain ⟨m, k, e1, f1⟩ := read_fin 0 (by decide)
  have hm : m = 0 := by
    have h0 : magOf (rung 0) = 0 := (magOf_zero _).2 rfl
    rw [h0] at f1
    rcases Nat.mul_eq_zero.1 f1 with h | h
    · exact h
    · exact absurd h (Nat.ne_of_gt (Nat.two_pow_pos _))
  unfold Ieee.Format.mul
  rw [e1, read_inf x hx, hm]
  rfl
/-- A number above 0 rounded up. -/
def ceilR (r : Nat) : Nat := (magOf r + (2 ^ 1074 - 1)) / 2 ^ 1074
theorem ceilR_mono {r s : Nat} (h : r ≤ s) : ceilR r ≤ ceilR s := by
  have hm := magOf_le h
  unfold ceilR
  generalize 2 ^ 1074 = U
  exact Nat.div_le_div_right (Nat.add_le_add_right hm _)
theorem ceilR_mag (r n : Nat) (h : magOf r = n * 2 ^ 1074) : ceilR r = n := by
  unfold ceilR
  rw [h]
  have hp := Nat.two_pow_pos 1074
  generalize 2 ^ 1074 = U at *
  rw [Nat.add_comm, Nat.add_mul_div_right _ _ hp, Nat.div_eq_of_lt (Nat.sub_lt hp Nat.one_pos), Nat.zero_add]
theorem ceilR_64 : ceilR 4634204016564240384 = 64 := ceilR_mag _ _ (by decide +kernel)
theorem ceilR_top : ceilR 4692750811720056832 = 524288 := ceilR_mag _ _ (by decide +kernel)
/-- Of a product above 0 how many bits. -/
def bitsR (r : Nat) : Nat := if r ≤ 4634204016564240384 then 64 else if 4692750811720056832 ≤ r then 524288 else ceilR r
theorem bitsR_mono {r s : Nat} (h : r ≤ s) : bitsR r ≤ bitsR s := by
  have h1 := ceilR_mono h
  unfold bitsR
  by_cases a : s ≤ 4634204016564240384
  · rw [if_pos a, if_pos (by omega)]; exact Nat.le_refl _
  · rw [if_neg a]
    have hs : 64 ≤ ceilR s := by rw [← ceilR_64]; exact ceilR_mono (by omega)
    by_cases b : r ≤ 4634204016564240384
    · rw [if_pos b]; split <;> omega
    · rw [if_neg b]
      by_cases c : 4692750811720056832 ≤ r
      · rw [if_pos c, if_pos (by omega)]; exact Nat.le_refl _
      · rw [if_neg c]
        split
        · rw [← ceilR_top]; exact ceilR_mono (by omega)
        · exact h1
theorem bitsR_ge (r : Nat) : 64 ≤ bitsR r := by
  have h : bitsR 0 = 64 := by unfold bitsR; rw [if_pos (by omega)]
  rw [← h]
  exact bitsR_mono (Nat.zero_le _)
theorem bitsR_le (r : Nat) : bitsR r ≤ 524288 := by
  unfold bitsR
  split
  · omega
  · split
    · omega
    · rw [← ceilR_top]; exact ceilR_mono (by omega)
/-- How many bytes n keys take. -/
def bitsN (n : Int) (x : Nat) : Nat := if isN x then 64 else if n ≤ 0 then 64 else if nkey x ≤ 0 then 64 else bitsR (farG (fltR n.toNat) x)
def sizeN (n : Int) (x : Nat) : Nat := (bitsN n x + 7) / 8
theorem bitsN_low {n : Int} {x : Nat} (h : isN x = true ∨ n ≤ 0 ∨ nkey x ≤ 0) : bitsN n x = 64 := by
  unfold bitsN
  rcases h with h | h | h <;> simp [h]
theorem bitsN_ge (n : Int) (x : Nat) : 64 ≤ bitsN n x := by
  unfold bitsN
  split <;> (try split) <;> (try split) <;> first | exact Nat.le_refl _ | exact bitsR_ge _
theorem bitsN_le (n : Int) (x : Nat) : bitsN n x ≤ 524288 := by
  unfold bitsN
  split <;> (try split) <;> (try split) <;> first | omega | exact bitsR_le _
theorem sizeN_ge (n : Int) (x : Nat) : 8 ≤ sizeN n x := by have := bitsN_ge n x; unfold sizeN; omega
theorem sizeN_le (n : Int) (x : Nat) : sizeN n x ≤ 65536 := by have := bitsN_le n x; unfold sizeN; omega
/-- More keys take no fewer bytes. -/
theorem sizeN_more {n m : Int} (x : Nat) (h : n ≤ m) : sizeN n x ≤ sizeN m x := by
  have key : bitsN n x ≤ bitsN m x := by
    by_cases h1 : isN x = true ∨ n ≤ 0 ∨ nkey x ≤ 0
    · rw [bitsN_low h1]
      exact bitsN_ge m x
    · have a1 : ¬ isN x = true := fun h => h1 (Or.inl h)
      have a2 : ¬ n ≤ 0 := fun h => h1 (Or.inr (Or.inl h))
      have a3 : ¬ nkey x ≤ 0 := fun h => h1 (Or.inr (Or.inr h))
      have hi : rung x ≤ infR := by simpa [isN] using a1
      unfold bitsN
      rw [if_neg a1, if_neg a2, if_neg a3, if_neg a1, if_neg (by omega), if_neg a3]
      exact bitsR_mono (farG_mono (fltR_mono (by omega)) hi hi (Nat.le_refl _))
  unfold sizeN; omega
theorem rung_le_of {x y : Nat} (h0 : ¬ nkey x ≤ 0) (h : nkey x ≤ nkey y) : rung x ≤ rung y := by
  unfold nkey at h h0
  cases hs : isNeg x <;> rw [hs] at h h0 <;> cases ht : isNeg y <;> rw [ht] at h <;> simp at h h0 <;> omega
/-- More bits each take no fewer bytes. -/
theorem sizeN_longer (n : Int) {x y : Nat} (hy : isN y = false) (h : nkey x ≤ nkey y) : sizeN n x ≤ sizeN n y := by
  have key : bitsN n x ≤ bitsN n y := by
    by_cases h1 : isN x = true ∨ n ≤ 0 ∨ nkey x ≤ 0
    · rw [bitsN_low h1]
      exact bitsN_ge n y
    · have a1 : ¬ isN x = true := fun h => h1 (Or.inl h)
      have a2 : ¬ n ≤ 0 := fun h => h1 (Or.inr (Or.inl h))
      have a3 : ¬ nkey x ≤ 0 := fun h => h1 (Or.inr (Or.inr h))
      have hi : rung x ≤ infR := by simpa [isN] using a1
      have hj : rung y ≤ infR := by simpa [isN] using hy
      unfold bitsN
      rw [if_neg a1, if_neg a2, if_neg a3, hy, if_neg (by decide), if_neg a2, if_neg (by omega)]
      exact bitsR_mono (farG_mono (Nat.le_refl _) hi hj (rung_le_of a3 h))
  unfold sizeN; omega
theorem sizeN_nan (n : Int) (x : Nat) (h : isN x = true) : sizeN n x = 8 := by unfold sizeN bitsN; rw [if_pos h]
theorem sizeN_nul (n : Int) (x : Nat) (h : nkey x ≤ 0) : sizeN n x = 8 := by unfold sizeN; rw [bitsN_low (Or.inr (Or.inr h))]
/-- A product above 0 rounded down, 1 to 30. -/
def timesR (r : Nat) : Nat := if r ≤ 4607182418800017408 then 1 else if 4629137466983448576 ≤ r then 30 else magOf r / 2 ^ 1074
theorem magOf_one : magOf 4607182418800017408 / 2 ^ 1074 = 1 := by decide +kernel
theorem magOf_30 : magOf 4629137466983448576 / 2 ^ 1074 = 30 := by decide +kernel
theorem whole_mono {r s : Nat} (h : r ≤ s) : magOf r / 2 ^ 1074 ≤ magOf s / 2 ^ 1074 := Nat.div_le_div_right (magOf_le h)
theorem timesR_mono {r s : Nat} (h : r ≤ s) : timesR r ≤ timesR s := by
  have h1 := whole_mono h
  unfold timesR
  by_cases a : s ≤ 4607182418800017408
  · rw [if_pos a, if_pos (by omega)]; exact Nat.le_refl _
  · rw [if_neg a]
    have hs : 1 ≤ magOf s / 2 ^ 1074 := by rw [← magOf_one]; exact whole_mono (by omega)
    by_cases b : r ≤ 4607182418800017408
    · rw [if_pos b]
      split
      · omega
      · exact hs
    · rw [if_neg b]
      by_cases c : 4629137466983448576 ≤ r
      · rw [if_pos c, if_pos (by omega)]; exact Nat.le_refl _
      · rw [if_neg c]
        split
        · rw [← magOf_30]; exact whole_mono (by omega)
        · exact h1
theorem timesR_ge (r : Nat) : 1 ≤ timesR r := by
  have h : timesR 0 = 1 := by unfold timesR; rw [if_pos (by omega)]
  rw [← h]
  exact timesR_mono (Nat.zero_le _)
theorem timesR_le (r : Nat) : timesR r ≤ 30 := by
  unfold timesR
  split
  · omega
  · split
    · omega
    · rw [← magOf_30]; exact whole_mono (by omega)
/-- How many places each key marks. -/
def probesN (x : Nat) : Nat := if isN x then 1 else if nkey x ≤ 0 then 1 else timesR (farG 4604480259023595110 x)
theorem probesN_ge (x : Nat) : 1 ≤ probesN x := by
  unfold probesN
  split <;> (try split) <;> first | exact Nat.le_refl _ | exact timesR_ge _
theorem probesN_le (x : Nat) : probesN x ≤ 30 := by
  unfold probesN
  split <;> (try split) <;> first | omega | exact timesR_le _
theorem probesN_mono {x y : Nat} (hy : isN y = false) (h : nkey x ≤ nkey y) : probesN x ≤ probesN y := by
  by_cases h1 : isN x = true ∨ nkey x ≤ 0
  · have : probesN x = 1 := by
      unfold probesN
      rcases h1 with h1 | h1 <;> simp [h1]
    rw [this]
    exact probesN_ge y
  · have a1 : ¬ isN x = true := fun h => h1 (Or.inl h)
    have a3 : ¬ nkey x ≤ 0 := fun h => h1 (Or.inr h)
    have hi : rung x ≤ infR := by simpa [isN] using a1
    have hj : rung y ≤ infR := by simpa [isN] using hy
    unfold probesN
    rw [if_neg a1, if_neg a3, hy, if_neg (by decide), if_neg (by omega)]
    exact timesR_mono (farG_mono (Nat.le_refl _) hi hj (rung_le_of a3 h))
end Go.Proofs.Yteackdafggomhaa

namespace Go.Proofs.Yteackdafggomhaa
open Go.RowKit Ieee

/-- A number rounded down between two whole ones. -/
def floorN (x low high : Nat) : Nat := if isN x then low else if nkey x ≤ (fltR low : Int) then low else if (fltR high : Int) ≤ nkey x then high else magOf (rung x) / 2 ^ 1074
theorem flt48 : fltR 281474976710656 = 4823355200913801216 := by decide +kernel
end Go.Proofs.Yteackdafggomhaa

namespace Go.Proofs.Yteackdafggomhaa
open Go.RowKit Ieee

theorem read_norm (x : Nat) (h1 : 4503599627370496 ≤ rung x) (h : rung x < infR) :
    Ieee.double.read x = .number (isNeg x) (4503599627370496 + rung x % 4503599627370496) (-1074 + ((rung x / 4503599627370496 - 1 : Nat) : Int)) := by
  unfold Format.read
  rw [f64_sign, f64_binade, f64_inf, f64_least]
  show (if rung x < 4503599627370496 then _ else if rung x < infR then _ else _) = _
  rw [if_neg (by omega), if_pos h]
  rfl

theorem word_eq (s : Bool) (r : Nat) : Ieee.double.word s r = if s then 9223372036854775808 + r else r := by
  unfold Format.word
  rw [f64_sign]
theorem word_facts (s : Bool) (r : Nat) (h : r ≤ infR) : isNeg (Ieee.double.word s r) = s ∧ rung (Ieee.double.word s r) = r ∧ isN (Ieee.double.word s r) = false ∧ Ieee.double.word s r < 18446744073709551616 := by
  have hc : infR = 9218868437227405312 := rfl
  rw [word_eq]
  have hr : ∀ x : Nat, rung x = r → isN x = false := fun x hx => by unfold isN; rw [hx]; exact decide_eq_false (by omega)
  cases s
  · simp only [Bool.false_eq_true, if_false]
    obtain ⟨p1, p2⟩ := small_parts r (by omega)
    exact ⟨p1, p2, hr r p2, by omega⟩
  · simp only [if_true]
    have h1 : rung (9223372036854775808 + r) = r := by unfold rung; omega
    have h2 : isNeg (9223372036854775808 + r) = true := by unfold isNeg; rw [show (9223372036854775808 + r) / 9223372036854775808 % 2 = 1 from by omega]; rfl
    exact ⟨h2, h1, hr _ h1, by omega⟩
theorem word_key (s : Bool) (r : Nat) (h : r ≤ infR) : nkey (Ieee.double.word s r) = if s then -(r : Int) else (r : Int) := by
  obtain ⟨h1, h2, _⟩ := word_facts s r h
  unfold nkey
  rw [h1, h2]

/-- float64(a) of an int. -/
theorem flt_word (a : Int) (h0 : -9223372036854775808 ≤ a) (h1 : a ≤ 9223372036854775808) : floatOfInt .f64 a = Ieee.double.word (decide (a < 0)) (fltR a.natAbs) := by
  by_cases ha : a < 0
  · have e : a = -(a.natAbs : Int) := by omega
    rw [decide_eq_true ha, word_eq, if_pos rfl]
    conv => lhs; rw [e]
    exact floatOfInt_neg a.natAbs (by omega) (by omega)
  · have e : a = (a.natAbs : Int) := by omega
    rw [decide_eq_false ha, word_eq]
    conv => lhs; rw [e]
    exact floatOfInt_nat a.natAbs (by omega)

theorem fltR_top (m : Nat) (h : m ≤ 9223372036854775808) : fltR m ≤ infR := Nat.le_trans (fltR_le m h) (by decide)

theorem flt_read (a : Int) (h0 : -9223372036854775808 ≤ a) (h1 : a ≤ 9223372036854775808) (hn : a ≠ 0) :
    ∃ m k : Nat, Ieee.double.read (floatOfInt .f64 a) = .number (decide (a < 0)) m (-1074 + (k : Int)) ∧ 4503599627370496 ≤ m ∧ m < 9007199254740992 ∧ 1022 ≤ k ∧ k ≤ 1085 := by
  have hl := fltR_le a.natAbs (by omega)
  have hg := fltR_pos a.natAbs (by omega) (by omega)
  obtain ⟨f1, f2, f3, f4⟩ := word_facts (decide (a < 0)) (fltR a.natAbs) (fltR_top _ (by omega))
  have hc : infR = 9218868437227405312 := rfl
  rw [flt_word a h0 h1]
  have hr := read_norm (Ieee.double.word (decide (a < 0)) (fltR a.natAbs)) (by rw [f2]; omega) (by rw [f2]; omega)
  rw [f1, f2] at hr
  exact ⟨_, _, hr, by omega, by omega, by omega, by omega⟩
theorem flt_zero : floatOfInt .f64 0 = 0 := by decide +kernel
theorem read_zero : Ieee.double.read 0 = .number false 0 (-1074) := by decide +kernel

theorem log2_norm (m : Nat) (h0 : 4503599627370496 ≤ m) (h1 : m < 9007199254740992) : m.log2 = 52 := by
  rw [Nat.log2_eq_iff (by omega)]
  exact ⟨h0, h1⟩

theorem div_zero_zero : floatBits .quo .f64 (floatOfInt .f64 0) (floatOfInt .f64 0) = none := by
  rw [flt_zero]
  show Ieee.double.div 0 0 = none
  unfold Format.div
  rw [read_zero]
  rfl
/-- By nothing: an edge with the sign. -/
theorem div_zero (a : Int) (h0 : -9223372036854775808 ≤ a) (h1 : a ≤ 9223372036854775808) (hn : a ≠ 0) :
    floatBits .quo .f64 (floatOfInt .f64 a) (floatOfInt .f64 0) = some (Ieee.double.word (decide (a < 0)) infR) := by
  obtain ⟨m, k, e, g1, g2, g3, g4⟩ := flt_read a h0 h1 hn
  rw [flt_zero]
  show Ieee.double.div _ 0 = _
  unfold Format.div
  rw [e, read_zero]
  unfold Datum.quotient
  dsimp only
  rw [if_pos rfl, if_neg (by omega), Bool.xor_false]
  show some (Ieee.double.word _ Ieee.double.infRung) = _
  rw [f64_inf]
/-- Nothing by something. -/
theorem div_of_zero (b : Int) (h0 : -9223372036854775808 ≤ b) (h1 : b ≤ 9223372036854775808) (hn : b ≠ 0) :
    floatBits .quo .f64 (floatOfInt .f64 0) (floatOfInt .f64 b) = some (Ieee.double.word (decide (b < 0)) 0) := by
  obtain ⟨m, k, e, g1, g2, g3, g4⟩ := flt_read b h0 h1 hn
  rw [flt_zero]
  show Ieee.double.div 0 _ = _
  unfold Format.div
  rw [e, read_zero]
  unfold Datum.quotient
  dsimp only
  rw [if_neg (by omega)]
  rw [show (0 : Nat) <<< (Ieee.double.fractionBits + 2 + m.log2 - Nat.log2 0) = 0 from Nat.zero_shiftLeft _, Nat.zero_div, Nat.zero_mod]
  show some (Ieee.double.nearest (false ^^ decide (b < 0)) 0 _) = _
  unfold Format.nearest
  rw [if_pos rfl, Bool.false_xor]

/-- Something by something: no nan, not nothing, the sign as it must be. -/
theorem div_some (a b : Int) (ha0 : -9223372036854775808 ≤ a) (ha1 : a ≤ 9223372036854775808) (ha : a ≠ 0) (hb0 : -9223372036854775808 ≤ b) (hb1 : b ≤ 9223372036854775808) (hb : b ≠ 0) :
    ∃ r, floatBits .quo .f64 (floatOfInt .f64 a) (floatOfInt .f64 b) = some (Ieee.double.word (decide (a < 0) ^^ decide (b < 0)) r) ∧ 0 < r ∧ r ≤ infR := by
  obtain ⟨m, k, e, g1, g2, g3, g4⟩ := flt_read a ha0 ha1 ha
  obtain ⟨n, l, e', k1, k2, k3, k4⟩ := flt_read b hb0 hb1 hb
  have hc : infR = 9218868437227405312 := rfl
  have hq : 2 ^ 53 ≤ m * 2 ^ 54 / n := by
    refine (Nat.le_div_iff_mul_le (by omega)).2 ?_
    have h1 : 2 ^ 53 * n ≤ 2 ^ 53 * 9007199254740992 := Nat.mul_le_mul_left _ (Nat.le_of_lt k2)
    have h2 : 4503599627370496 * 2 ^ 54 ≤ m * 2 ^ 54 := Nat.mul_le_mul_right _ g1
    have h3 : (2 : Nat) ^ 53 * 9007199254740992 = 4503599627370496 * 2 ^ 54 := by decide
    rw [h3] at h1
    exact Nat.le_trans h1 h2
  obtain ⟨q, hqe⟩ : ∃ q, q = 2 * (m * 2 ^ 54 / n) + (m * 2 ^ 54 % n != 0).toNat := ⟨_, rfl⟩
  have hq54 : 2 ^ 54 ≤ q := by
    rw [hqe]
    generalize m * 2 ^ 54 / n = d at hq ⊢
    omega
  obtain ⟨p, hp⟩ : ∃ p : Int, p = -1074 + (k : Int) - (-1074 + (l : Int)) - ((54 : Nat) : Int) - 1 := ⟨_, rfl⟩
  have hp2 : -118 ≤ p := by clear hqe hq hq54; omega
  have hq0 : q ≠ 0 := by clear hqe hq hp; omega
  refine ⟨min (rungOf q p) infR, ?_, ?_, Nat.min_le_right _ _⟩
  · clear hq hq54
    show Ieee.double.div _ _ = _
    unfold Format.div
    rw [e, e']
    unfold Datum.quotient
    dsimp only
    rw [if_neg (by omega), log2_norm m g1 g2, log2_norm n k1 k2, show Ieee.double.fractionBits + 2 + 52 - 52 = 54 from by decide, Nat.shiftLeft_eq, ← hqe, ← hp]
    show some (Ieee.double.nearest _ q p) = _
    rw [nearest_eq _ _ _ hq0]
  · clear hqe hq hp e e' hc
    have hlog : 54 ≤ q.log2 := by
      rcases Nat.lt_or_ge q.log2 54 with h1 | h1
      · have h2 : q < 2 ^ (q.log2 + 1) := Nat.lt_log2_self
        have : 2 ^ (q.log2 + 1) ≤ 2 ^ 54 := Nat.pow_le_pow_right (by decide) (by omega)
        omega
      · exact h1
    have hpos : 0 < rungOf q p := by
      unfold rungOf lastP
      have : 1 ≤ (max (p + (q.log2 : Int) - 52) (-1074) + 1074).toNat := by clear hq54 hq0; omega
      generalize (max (p + (q.log2 : Int) - 52) (-1074) + 1074).toNat = z at *
      generalize keptN q p (max (p + (q.log2 : Int) - 52) (-1074)) = y
      omega
    exact Nat.lt_min.2 ⟨hpos, by decide⟩
/-- By itself: one. -/
theorem div_self' (a : Int) (ha0 : -9223372036854775808 ≤ a) (ha1 : a ≤ 9223372036854775808) (ha : a ≠ 0) :
    floatBits .quo .f64 (floatOfInt .f64 a) (floatOfInt .f64 a) = some 4607182418800017408 := by
  obtain ⟨m, k, e, g1, g2, g3, g4⟩ := flt_read a ha0 ha1 ha
  show Ieee.double.div _ _ = _
  unfold Format.div
  rw [e]
  unfold Datum.quotient
  dsimp only
  rw [if_neg (by omega), log2_norm m g1 g2, show Ieee.double.fractionBits + 2 + 52 - 52 = 54 from by decide, Nat.shiftLeft_eq, Nat.mul_div_cancel_left _ (by omega), Nat.mul_mod_right,
    show -1074 + (k : Int) - (-1074 + (k : Int)) - ((54 : Nat) : Int) - 1 = -55 from by omega, Bool.xor_self]
  decide +kernel
end Go.Proofs.Yteackdafggomhaa

namespace Go.Proofs.Yteackdafggomhaa
open Go.RowKit Ieee

theorem product_comm (a b : Datum) : a.product b = b.product a := by
  cases a <;> cases b <;> simp [Datum.product, Bool.xor_comm, Nat.mul_comm, Int.add_comm]
theorem fmul_comm (x y : Nat) : floatBits .mul .f64 x y = floatBits .mul .f64 y x := by
  show Ieee.double.mul x y = Ieee.double.mul y x
  unfold Format.mul
  rw [product_comm]
theorem mul_nan (a x : Nat) (h : isN x = true) : floatBits .mul .f64 a x = none := by
  show Ieee.double.mul a x = none
  obtain ⟨f, e⟩ := read_nan x (by simpa [isN] using h)
  unfold Format.mul
  rw [e, product_comm]
  rfl
/-- What a product says. -/
def bitsK (v : Nat) : Nat := if isN v then 64 else if nkey v ≤ 4634204016564240384 then 64 else if (4692750811720056832 : Int) ≤ nkey v then 524288 else ceilR (rung v)
/-- The product of a number that is not below 0, and what it says of bits. -/
theorem mul_cases (n : Int) (x : Nat) (hn : n ≤ 9223372036854775808) :
    (floatBits .mul .f64 (fltR n.toNat) x = none ∧ bitsN n x = 64) ∨
    ∃ v, floatBits .mul .f64 (fltR n.toNat) x = some v ∧ isN v = false ∧ v < 18446744073709551616 ∧ bitsN n x = bitsK v := by
  have hc : infR = 9218868437227405312 := rfl
  cases hx : isN x
  · have hi : rung x ≤ infR := by simpa [isN] using hx
    by_cases h0 : n ≤ 0
    · have e : fltR n.toNat = 0 := by rw [show n.toNat = 0 from by omega]; rfl
      rw [e, bitsN_low (Or.inr (Or.inl h0))]
      by_cases h : rung x = infR
      · exact Or.inl ⟨mul_zero_inf x h, rfl⟩
      · obtain ⟨a1, a2, a3, a4⟩ := word_facts (isNeg x) 0 (by omega)
        refine Or.inr ⟨_, mul_zero_fin x (by omega), a3, a4, ?_⟩
        · have hk := word_key (isNeg x) 0 (by omega)
          unfold bitsK
          rw [a3, if_neg (by decide), if_pos (by rw [hk]; split <;> omega)]
    · have hm := fltR_pos n.toNat (by omega) (by omega)
      have hl := fltR_inf n.toNat (by omega)
      have hr := farG_le (fltR n.toNat) x
      obtain ⟨a1, a2, a3, a4⟩ := word_facts (isNeg x) (farG (fltR n.toNat) x) hr
      have hk := word_key (isNeg x) (farG (fltR n.toNat) x) hr
      refine Or.inr ⟨_, mul_sign _ x (by omega) hl hx, a3, a4, ?_⟩
      · unfold bitsN bitsK
        rw [hx, a3]
        simp only [Bool.false_eq_true, if_false]
        rw [if_neg h0, hk, a2]
        cases hs : isNeg x
        · simp only [Bool.false_eq_true, if_false]
          by_cases h1 : nkey x ≤ 0
          · have hz : rung x = 0 := by unfold nkey at h1; rw [hs] at h1; simp at h1; omega
            have hf : farG (fltR n.toNat) x = 0 := by
              unfold farG
              rw [if_neg (by omega), hz]
              have : magOf 0 = 0 := (magOf_zero 0).2 rfl
              unfold mulR
              rw [this, Nat.mul_zero, if_pos rfl]
            rw [if_pos h1, hf, if_pos (by decide)]
          · rw [if_neg h1]
            unfold bitsR
            generalize farG (fltR n.toNat) x = r at *
            by_cases b1 : r ≤ 4634204016564240384
            · rw [if_pos b1, if_pos (show (r : Int) ≤ 4634204016564240384 by omega)]
            · rw [if_neg b1, if_neg (show ¬ (r : Int) ≤ 4634204016564240384 by omega)]
              by_cases b2 : 4692750811720056832 ≤ r
              · rw [if_pos b2, if_pos (show (4692750811720056832 : Int) ≤ r by omega)]
              · rw [if_neg b2, if_neg (show ¬ (4692750811720056832 : Int) ≤ r by omega)]
        · simp only [if_true]
          rw [if_pos (by unfold nkey; rw [hs]; simp), if_pos (by omega)]
  · exact Or.inl ⟨mul_nan _ x hx, bitsN_low (Or.inl hx)⟩
/-- A number above 0 rounded up, by rounding down. -/
theorem ceil_floor (r : Nat) : ceilR r = if magOf r / 2 ^ 1074 * 2 ^ 1074 < magOf r then magOf r / 2 ^ 1074 + 1 else magOf r / 2 ^ 1074 := by
  unfold ceilR
  have hp := Nat.two_pow_pos 1074
  generalize 2 ^ 1074 = U at *
  generalize magOf r = m
  have h1 := Nat.div_add_mod m U
  have h2 := Nat.mod_lt m hp
  have h3 : m / U * U = U * (m / U) := Nat.mul_comm _ _
  have e : m + (U - 1) = (m % U + (U - 1)) + m / U * U := by omega
  rw [e, Nat.add_mul_div_right _ _ hp]
  split
  · rename_i h
    rw [show m % U + (U - 1) = (m % U - 1) + 1 * U from by omega, Nat.add_mul_div_right _ _ hp, Nat.div_eq_of_lt (by omega)]
    omega
  · rename_i h
    rw [Nat.div_eq_of_lt (by omega)]
    omega
/-- Is the number above its whole part? -/
theorem floor_lt (v : Nat) (hv : v < 4823355200913801216) : (FloatKind.f64.format.order (fltR (magOf v / 2 ^ 1074)) v == some .lt) = decide (magOf v / 2 ^ 1074 * 2 ^ 1074 < magOf v) := by
  have hc : infR = 9218868437227405312 := rfl
  have hq := (int_far v hv).2
  have hl := fltR_le (magOf v / 2 ^ 1074) (by omega)
  rw [lss_eq, isN_small _ (by omega), isN_small v (by omega), nkey_small _ (by omega), nkey_small v (by omega)]
  have hm := fltR_mag (magOf v / 2 ^ 1074) (by omega)
  have hk := magOf_lt (fltR (magOf v / 2 ^ 1074)) v
  rw [hm] at hk
  generalize fltR (magOf v / 2 ^ 1074) = f at *
  generalize magOf v / 2 ^ 1074 * 2 ^ 1074 = g at *
  simp only [Bool.not_false, Bool.true_and, decide_eq_decide]
  rw [hk]
  omega
end Go.Proofs.Yteackdafggomhaa

namespace Go.Proofs.Yteackdafggomhaa
open Go.RowKit Ieee

/-- The NaN that the model's tape gives where a product is none. -/
def tapeMul (w : World) (x y : Nat) : Nat := (Question.nanBits .f64 x y).cut (w.tape w.drawn (.nanBits .f64 x y))
theorem tapeMul_is (w : World) (x y : Nat) : isN (tapeMul w x y) = true ∧ tapeMul w x y < 18446744073709551616 := by
  have e : tapeMul w x y = (w.tape w.drawn (.nanBits .f64 x y) % 2) * 2 ^ 63 + 0x7ff0000000000000 + 1 + (w.tape w.drawn (.nanBits .f64 x y) / 2) % (2 ^ 52 - 1) := rfl
  rw [e]
  generalize w.tape w.drawn (.nanBits .f64 x y) = t
  have h1 : t / 2 % (2 ^ 52 - 1) < 2 ^ 52 - 1 := Nat.mod_lt _ (by decide)
  generalize t / 2 % (2 ^ 52 - 1) = u at *
  unfold isN rung infR
  refine ⟨decide_eq_true ?_, ?_⟩ <;> omega
theorem probes_floor (r : Nat) (h : r ≤ infR) : floorN r 1 30 = timesR r := by
  have hc : infR = 9218868437227405312 := rfl
  have e1 : fltR 1 = 4607182418800017408 := by decide +kernel
  have e2 : fltR 30 = 4629137466983448576 := by decide +kernel
  unfold floorN timesR
  rw [isN_small r h, nkey_small r (by omega), (small_parts r (by omega)).2, e1, e2]
  simp only [Bool.false_eq_true, if_false]
  by_cases b1 : r ≤ 4607182418800017408
  · rw [if_pos b1, if_pos (show (r : Int) ≤ (4607182418800017408 : Nat) by omega)]
  · rw [if_neg b1, if_neg (show ¬ (r : Int) ≤ (4607182418800017408 : Nat) by omega)]
    by_cases b2 : 4629137466983448576 ≤ r
    · rw [if_pos b2, if_pos (show ((4629137466983448576 : Nat) : Int) ≤ r by omega)]
    · rw [if_neg b2, if_neg (show ¬ ((4629137466983448576 : Nat) : Int) ≤ r by omega)]

end Go.Proofs.Yteackdafggomhaa

namespace Go.Proofs.Yteackdafggomhaa
open Go.RowKit Ieee

theorem size_floor {v : Nat} (h1 : isN v = false) (h2 : ¬ nkey v ≤ 4634204016564240384) (h3 : ¬ (4692750811720056832 : Int) ≤ nkey v) (h64 : v < 18446744073709551616) :
    v < 4823355200913801216 ∧ floorN v 64 524288 = magOf v / 2 ^ 1074 ∧ bitsK v = ceilR v := by
  have hs : isNeg v = false ∧ rung v < 4823355200913801216 := by
    unfold nkey at h2 h3
    cases hn : isNeg v <;> rw [hn] at h2 h3 <;> simp at h2 h3 <;> first | exact ⟨rfl, by omega⟩ | omega
  obtain ⟨hs1, hs2⟩ := hs
  have hxr : rung v = v := by
    rcases word_parts v h64 with ⟨e1, _⟩ | ⟨_, e2⟩
    · rw [hs1] at e1; cases e1
    · exact e2.1.symm
  have e1 : fltR 64 = 4634204016564240384 := by decide +kernel
  have e2 : fltR 524288 = 4692750811720056832 := by decide +kernel
  refine ⟨by omega, ?_, ?_⟩
  · unfold floorN
    rw [h1, e1, e2]
    simp only [Bool.false_eq_true, if_false]
    rw [if_neg (show ¬ nkey v ≤ ((4634204016564240384 : Nat) : Int) by omega), if_neg (show ¬ ((4692750811720056832 : Nat) : Int) ≤ nkey v by omega), hxr]
  · unfold bitsK
    rw [h1]
    simp only [Bool.false_eq_true, if_false]
    rw [if_neg h2, if_neg h3, hxr]
def SizeP (w : World) (r : Nat) (e : Ending) (w' : World) : Prop := e = .returned (.int .i64 (r : Nat)) ∧ Below w.heap.size w w'
end Go.Proofs.Yteackdafggomhaa

namespace Go.Proofs.Yteackdafggomhaa
open Go.RowKit

def elInts : El (Int) := ⟨fun x => [.int .i64 x], 1, by decide, fun _ => rfl, fun x u hu => by simp at hu; subst hu; rfl, fun i k => -1000000 * (i : Int) - (k : Int) - 7⟩
def okInts (_x : Int) : Prop := True
theorem okmInts (i start n : Nat) : ∀ x ∈ elInts.marks i start n, okInts x := by
  intro x hx
  obtain ⟨k, _, rfl⟩ := List.mem_map.1 hx
  exact trivial
theorem infoInts : (Try.prog.info? 3).map (fun i => (i.zero, i.size, i.bytes)) = some (some (.int .i64 0), elInts.sz, 8) := by kernel_rfl
end Go.Proofs.Yteackdafggomhaa

namespace Go.Proofs.Yteackdafggomhaa
open Go.RowKit

theorem i64_xor_nat (a b : Nat) (ha : a < 9223372036854775808) (hb : b < 9223372036854775808) : bits .xor .i64 (a : Int) (b : Int) = ((a ^^^ b : Nat) : Int) := by
  have hx : a ^^^ b < 2 ^ 63 := Nat.xor_lt_two_pow (by omega) (by omega)
  show IntKind.i64.wrap ((BitVec.ofInt 64 (a : Int) ^^^ BitVec.ofInt 64 (b : Int)).toNat : Int) = _
  rw [BitVec.toNat_xor, ofInt_i64 a ha, ofInt_i64 b hb, IntKind.wrap_i64]
  omega

/-- One of a sum's eight steps. -/
def bit1 (x : Nat) : Nat := if x % 2 = 1 then (x / 2) ^^^ 2197175160 else x / 2
def bitN : Nat → Nat → Nat
  | 0, x => x
  | n + 1, x => bit1 (bitN n x)

theorem half_xor (a b : Nat) : (a ^^^ b) / 2 = a / 2 ^^^ b / 2 := by
  have e : ∀ x : Nat, x / 2 = x >>> 1 := fun x => (Nat.shiftRight_eq_div_pow x 1).symm
  rw [e, e, e, Nat.shiftRight_xor_distrib]
theorem par_xor (a b : Nat) : (a ^^^ b) % 2 = (a % 2 ^^^ b % 2) := Nat.xor_mod_two_pow (n := 1)

theorem bit1_xor (a b : Nat) : bit1 (a ^^^ b) = bit1 a ^^^ bit1 b := by
  unfold bit1
  rw [half_xor, par_xor]
  rcases Nat.mod_two_eq_zero_or_one a with h | h <;> rcases Nat.mod_two_eq_zero_or_one b with k | k <;> simp only [h, k]
  · rfl
  · show (a / 2 ^^^ b / 2) ^^^ 2197175160 = a / 2 ^^^ (b / 2 ^^^ 2197175160)
    rw [Nat.xor_assoc]
  · show (a / 2 ^^^ b / 2) ^^^ 2197175160 = (a / 2 ^^^ 2197175160) ^^^ b / 2
    rw [Nat.xor_assoc, Nat.xor_assoc, Nat.xor_comm (b / 2)]
  · show a / 2 ^^^ b / 2 = (a / 2 ^^^ 2197175160) ^^^ (b / 2 ^^^ 2197175160)
    rw [Nat.xor_assoc, Nat.xor_comm 2197175160, Nat.xor_assoc, Nat.xor_self, Nat.xor_zero]
theorem bit1_even (y : Nat) : bit1 (2 * y) = y := by
  unfold bit1
  rw [if_neg (by omega)]
  omega
theorem bitN_xor (n : Nat) : ∀ a b, bitN n (a ^^^ b) = bitN n a ^^^ bitN n b := by
  induction n with
  | zero => intro a b; rfl
  | succ n ih => intro a b; show bit1 _ = bit1 _ ^^^ bit1 _; rw [ih, bit1_xor]
theorem split_xor (x : Nat) : (16 * (x / 16)) ^^^ (x % 16) = x := by
  have h1 : ((16 * (x / 16)) ^^^ (x % 16)) / 16 = x / 16 := by
    have e : ∀ x : Nat, x / 16 = x >>> 4 := fun x => (Nat.shiftRight_eq_div_pow x 4).symm
    rw [e (_ ^^^ _), Nat.shiftRight_xor_distrib, ← e, ← e, show 16 * (x / 16) / 16 = x / 16 from by omega, show x % 16 / 16 = 0 from by omega, Nat.xor_zero]
  have h2 : ((16 * (x / 16)) ^^^ (x % 16)) % 16 = x % 16 := by
    have := Nat.xor_mod_two_pow (a := 16 * (x / 16)) (b := x % 16) (n := 4)
    rw [show (2 : Nat) ^ 4 = 16 from rfl] at this
    rw [this, show 16 * (x / 16) % 16 = 0 from by omega, Nat.zero_xor]
    omega
  omega
theorem bits_low : ∀ r < 16, bitN 4 r = halfN r := by decide
theorem bits_nib (x : Nat) : bitN 4 x = nib x := by
  have h := bitN_xor 4 (16 * (x / 16)) (x % 16)
  rw [split_xor] at h
  have h2 : bitN 4 (16 * (x / 16)) = x / 16 := by
    show bit1 (bit1 (bit1 (bit1 (16 * (x / 16))))) = _
    rw [show 16 * (x / 16) = 2 * (2 * (2 * (2 * (x / 16)))) from by omega, bit1_even, bit1_even, bit1_even, bit1_even]
  rw [h, h2, bits_low _ (by omega)]
  rfl
theorem bits_step (a : Nat) (c : UInt8) : bitN 8 (a ^^^ c.toNat) = sumStep a c := by
  unfold sumStep
  rw [← bits_nib, ← bits_nib]
  rfl
theorem bit1_lt (x : Nat) (h : x < 4294967296) : bit1 x < 4294967296 := by
  unfold bit1
  split
  · exact Nat.xor_lt_two_pow (n := 32) (by omega) (by decide)
  · omega

theorem cmp_cons (a b : UInt8) (r t : List UInt8) : Lib.compareBytes (a :: r) (b :: t) = if a.toNat < b.toNat then -1 else if b.toNat < a.toNat then 1 else Lib.compareBytes r t := by
  rw [Lib.compareBytes]
  simp only [UInt8.lt_iff_toNat_lt]

end Go.Proofs.Yteackdafggomhaa

namespace Go.Proofs.Yteackdafggomhaa
open Go.RowKit

/-- A place is marked; is it? -/
def markL (L : List Nat) (p : Nat) : List Nat := L.set (p / 8) (L.getD (p / 8) 0 ||| 2 ^ (p % 8))
def hasB (L : List Nat) (p : Nat) : Bool := (L.getD (p / 8) 0).testBit (p % 8)
/-- A sum turned about; a key's places. -/
def turnH (h : Nat) : Nat := (h * 32768 + h / 131072) % 4294967296
def placesP (h d n : Nat) : Nat → List Nat
  | 0 => []
  | k + 1 => h % (8 * n) :: placesP ((h + d) % 4294967296) d n k
def placesH (h n k : Nat) : List Nat := placesP h (turnH h) n k
/-- Keys (by their sums) are marked. -/
def fillL (L : List Nat) (n k : Nat) (hs : List Nat) : List Nat := hs.foldl (fun L h => (placesH h n k).foldl markL L) L
def filterL (hs : List Nat) (n k : Nat) : List Nat := fillL (List.replicate n 0) n k hs
def mayL (L : List Nat) (h n k : Nat) : Bool := (placesH h n k).all (hasB L)

theorem markL_length (L : List Nat) (p : Nat) : (markL L p).length = L.length := by unfold markL; rw [List.length_set]
theorem pow_bit (a b : Nat) : (2 ^ a).testBit b = decide (a = b) := Nat.testBit_two_pow
theorem hasB_mark (L : List Nat) (p q : Nat) (h : q / 8 < L.length) : hasB (markL L p) q = (decide (p = q) || hasB L q) := by
  unfold hasB markL
  rw [List.getD_eq_getElem?_getD, List.getElem?_set]
  by_cases h1 : p / 8 = q / 8
  · rw [if_pos h1, if_pos (by omega)]
    show Nat.testBit (_ ||| _) _ = _
    rw [Nat.testBit_or, pow_bit, h1, Bool.or_comm]
    congr 1
    rw [decide_eq_decide]
    omega
  · rw [if_neg h1, ← List.getD_eq_getElem?_getD, decide_eq_false (by intro h2; exact h1 (by rw [h2])), Bool.false_or]
theorem marks_length (l : List Nat) : ∀ L : List Nat, (l.foldl markL L).length = L.length := by
  induction l with
  | nil => intro L; rfl
  | cons p r ih => intro L; rw [List.foldl_cons, ih, markL_length]
theorem hasB_marks (l : List Nat) (q : Nat) : ∀ L : List Nat, q / 8 < L.length → hasB (l.foldl markL L) q = (decide (q ∈ l) || hasB L q) := by
  induction l with
  | nil => intro L _; simp
  | cons p r ih =>
    intro L h
    rw [List.foldl_cons, ih _ (by rw [markL_length]; exact h), hasB_mark _ _ _ h, ← Bool.or_assoc]
    congr 1
    rw [Bool.eq_iff_iff]
    simp only [Bool.or_eq_true, decide_eq_true_eq, List.mem_cons]
    constructor
    · rintro (h | h)
      · exact Or.inr h
      · exact Or.inl h.symm
    · rintro (h | h)
      · exact Or.inr h.symm
      · exact Or.inl h
theorem fillL_length (n k : Nat) (hs : List Nat) : ∀ L : List Nat, (fillL L n k hs).length = L.length := by
  unfold fillL
  induction hs with
  | nil => intro L; rfl
  | cons h r ih => intro L; rw [List.foldl_cons, ih, marks_length]
theorem hasB_fill (n k : Nat) (q : Nat) (hs : List Nat) : ∀ L : List Nat, q / 8 < L.length → hasB (fillL L n k hs) q = (hs.any (fun h => decide (q ∈ placesH h n k)) || hasB L q) := by
  unfold fillL
  induction hs with
  | nil => intro L _; simp
  | cons h r ih =>
    intro L hq
    rw [List.foldl_cons, ih _ (by rw [marks_length]; exact hq), hasB_marks _ _ _ hq, List.any_cons, ← Bool.or_assoc]
    congr 1
    rw [Bool.or_comm]
theorem hasB_none (n q : Nat) : hasB (List.replicate n 0) q = false := by
  unfold hasB
  rw [List.getD_eq_getElem?_getD, List.getElem?_replicate]
  split <;> simp
theorem placesP_lt (d n : Nat) (hn : 0 < n) : ∀ (k h : Nat), ∀ p ∈ placesP h d n k, p < 8 * n := by
  intro k
  induction k with
  | zero => intro h p hp; cases hp
  | succ k ih =>
    intro h p hp
    rw [placesP, List.mem_cons] at hp
    rcases hp with rfl | hp
    · exact Nat.mod_lt _ (by omega)
    · exact ih _ p hp
theorem placesP_length (d n : Nat) : ∀ (k h : Nat), (placesP h d n k).length = k := by
  intro k
  induction k with
  | zero => intro h; rfl
  | succ k ih => intro h; rw [placesP, List.length_cons, ih]
theorem filterL_length (hs : List Nat) (n k : Nat) : (filterL hs n k).length = n := by
  unfold filterL
  rw [fillL_length, List.length_replicate]
theorem hasB_filter (hs : List Nat) (n k q : Nat) (hq : q < 8 * n) : hasB (filterL hs n k) q = hs.any (fun h => decide (q ∈ placesH h n k)) := by
  unfold filterL
  rw [hasB_fill _ _ _ _ _ (by rw [List.length_replicate]; omega), hasB_none, Bool.or_false]
/-- Of each key that was built in it is true. -/
theorem may_member (hs : List Nat) (n k h : Nat) (hn : 0 < n) (hh : h ∈ hs) : mayL (filterL hs n k) h n k = true := by
  unfold mayL
  rw [List.all_eq_true]
  intro p hp
  rw [hasB_filter _ _ _ _ (placesP_lt _ _ hn _ _ p hp), List.any_eq_true]
  exact ⟨h, hh, decide_eq_true hp⟩
/-- Of no key: a filter that nothing was built in. -/
theorem may_none (n k h : Nat) (hn : 0 < n) (hk : 0 < k) : mayL (filterL [] n k) h n k = false := by
  obtain ⟨j, rfl⟩ : ∃ j, k = j + 1 := ⟨k - 1, by omega⟩
  unfold mayL placesH
  rw [placesP, List.all_cons, hasB_filter _ _ _ _ (Nat.mod_lt _ (by omega))]
  rfl
theorem set_lt (m : Nat) (L : List Nat) (i v : Nat) (hL : ∀ x ∈ L, x < m) (hv : v < m) : ∀ x ∈ L.set i v, x < m := by
  intro x hx
  rcases List.mem_or_eq_of_mem_set hx with h | h
  · exact hL x h
  · rw [h]; exact hv
theorem getD_lt (m : Nat) (L : List Nat) (i : Nat) (hm : 0 < m) (hL : ∀ x ∈ L, x < m) : L.getD i 0 < m := by
  rw [List.getD_eq_getElem?_getD]
  cases h : L[i]? with
  | none => exact hm
  | some x => exact hL x (List.mem_of_getElem? h)
/-- Each byte is one. -/
theorem markL_byte (L : List Nat) (p : Nat) (hL : ∀ x ∈ L, x < 256) : ∀ x ∈ markL L p, x < 256 := by
  refine set_lt 256 L _ _ hL (Nat.or_lt_two_pow (n := 8) (getD_lt 256 L _ (by decide) hL) ?_)
  exact Nat.pow_lt_pow_right (by decide) (Nat.mod_lt _ (by decide))
theorem marks_byte (l : List Nat) : ∀ L : List Nat, (∀ x ∈ L, x < 256) → ∀ x ∈ l.foldl markL L, x < 256 := by
  induction l with
  | nil => intro L h; exact h
  | cons p r ih => intro L h; rw [List.foldl_cons]; exact ih _ (markL_byte L p h)
theorem fillL_byte (n k : Nat) (hs : List Nat) : ∀ L : List Nat, (∀ x ∈ L, x < 256) → ∀ x ∈ fillL L n k hs, x < 256 := by
  unfold fillL
  induction hs with
  | nil => intro L h; exact h
  | cons h r ih => intro L hL; rw [List.foldl_cons]; exact ih _ (marks_byte _ _ hL)
theorem filterL_byte (hs : List Nat) (n k : Nat) : ∀ x ∈ filterL hs n k, x < 256 := by
  refine fillL_byte n k hs _ fun x hx => ?_
  rw [List.mem_replicate] at hx
  omega
/-- What a filter of fewer keys marks one of more marks, too. -/
theorem filter_sub (h : Nat) (hs : List Nat) (n k i : Nat) (hi : i < n) :
    (filterL hs n k).getD i 0 &&& (255 - (filterL (h :: hs) n k).getD i 0) = 0 := by
  have b1 := getD_lt 256 _ i (by decide) (filterL_byte hs n k)
  have b2 := getD_lt 256 _ i (by decide) (filterL_byte (h :: hs) n k)
  have key : ∀ j, j < 8 → ((filterL hs n k).getD i 0).testBit j = true → ((filterL (h :: hs) n k).getD i 0).testBit j = true := by
    intro j hj ht
    have e1 : (8 * i + j) / 8 = i := by omega
    have e2 : (8 * i + j) % 8 = j := by omega
    have h1 := hasB_filter hs n k (8 * i + j) (by omega)
    have h2 := hasB_filter (h :: hs) n k (8 * i + j) (by omega)
    unfold hasB at h1 h2
    rw [e1, e2] at h1 h2
    rw [h2, List.any_cons, ← h1, ht, Bool.or_true]
  generalize (filterL hs n k).getD i 0 = a at *
  generalize (filterL (h :: hs) n k).getD i 0 = b at *
  refine Nat.eq_of_testBit_eq fun j => ?_
  rw [Nat.testBit_and, Nat.zero_testBit, show 255 - b = 2 ^ 8 - (b + 1) from by omega, Nat.testBit_two_pow_sub_succ (by omega)]
  by_cases hj : j < 8
  · have := key j hj
    cases ha : a.testBit j
    · simp
    · rw [this ha]; simp
  · simp [hj]
end Go.Proofs.Yteackdafggomhaa

namespace Go.Proofs.Yteackdafggomhaa
open Go.RowKit

theorem placesP_snoc (d n : Nat) : ∀ (k h : Nat), h < 4294967296 → placesP h d n (k + 1) = placesP h d n k ++ [((h + k * d) % 4294967296) % (8 * n)]
  | 0, h, h1 => by simp [placesP, Nat.mod_eq_of_lt h1]
  | k + 1, h, h1 => by
    rw [placesP, placesP_snoc d n k _ (Nat.mod_lt _ (by decide)), placesP, List.cons_append]
    congr 3
    rw [Nat.mod_add_mod, Nat.add_mul]
    congr 2
    omega

end Go.Proofs.Yteackdafggomhaa

namespace Go.Proofs.Yteackdafggomhaa
section
variable {P : Program} {ops : Array Oper} {C : World → Prop} {Q : Act → Prop} {a : Act} {o : Oper} {rest : List Oper}
theorem wpQuiet_skip (hw : Region.wanted o (yielded ops a.tmps) = false) (h : wpQuiet P ops C Q rest (a.put o.dst undef)) : wpQuiet P ops C Q (o :: rest) a := by
  unfold wpQuiet
  rw [hw]
  exact h
theorem wpQuiet_take (hw : Region.wanted o (yielded ops a.tmps) = true) (v : Value) (hy : ∀ w, C w → o.quietAt P a C w v) (h : wpQuiet P ops C Q rest (a.put o.dst v)) : wpQuiet P ops C Q (o :: rest) a := by
  unfold wpQuiet
  rw [if_pos hw]
  exact ⟨v, hy, h⟩
theorem wp_region_class {id : Nat} {Q : Exit → Act → World → Prop} {a : Act} {w : World} {l : List Oper} (C : World → Prop) (hm : P.follows .mixedOrders = true) (hB : Region.lexB .any l.toArray = true) (hC : C w.drew)
    (h : wpQuiet P l.toArray C (fun a' => ∀ w', C w' → Q .normal a' w') l a) : (Code.region id l.toArray true).wp P Q a w :=
  wp_region_quiet (C := C) hm hB hC (by simpa using h)
end
open Go.RowKit
/-! ### A call within a class of worlds: all that come out of one world -/
theorem cls_call {P : Program} {f : FuncId} {args : Array Value} {W0 W : World} {R : Ending} (hW : Below W0.heap.size W0 W) (h : Calls P f args W fun e w' => e = R ∧ Below W.heap.size W w') :
    Calls P f args W fun e w' => e = R ∧ Below W0.heap.size W0 w' := h.mono fun _ _ ⟨he, hb⟩ => ⟨he, hW.trans (hb.mono hW.size)⟩
theorem below_of_eq {w w' : World} (h : w' = w) : Below w.heap.size w w' := by rw [h]; exact Below.refl _ _
theorem below_of_eq' {w w' : World} (h : w = w') : Below w.heap.size w w' := by rw [h]; exact Below.refl _ _
end Go.Proofs.Yteackdafggomhaa

namespace Go.Proofs.Yteackdafggomhaa
open Go.RowKit

/-- Is a byte's bit 0? -/
theorem bit_and : ∀ j : Nat, j < 8 → ∀ c : Nat, c < 256 → (bits .and .u8 (c : Int) ((2 : Int) ^ j % 256) == 0) = !c.testBit j := by decide +kernel
/-- May, of what came in. -/
def mayT (f : ByteArray) (h : Nat) : Bool :=
  if f.size < 2 then true
  else if (f.data.toList.getD (f.size - 1) 0).toNat < 1 ∨ 30 < (f.data.toList.getD (f.size - 1) 0).toNat then true
  else mayL (f.data.toList.map UInt8.toNat) h (f.size - 1) (f.data.toList.getD (f.size - 1) 0).toNat
theorem may_snoc (L : List Nat) (h d n k : Nat) (hh : h < 4294967296) : (placesP h d n (k + 1)).all (hasB L) = ((placesP h d n k).all (hasB L) && hasB L (((h + k * d) % 4294967296) % (8 * n))) := by
  rw [placesP_snoc _ _ _ _ hh, List.all_append, List.all_cons, List.all_nil, Bool.and_true]
theorem placesP_get (d n : Nat) : ∀ (k h i : Nat), h < 4294967296 → i < k → (placesP h d n k)[i]? = some (((h + i * d) % 4294967296) % (8 * n))
  | 0, h, i, h1, hi => by omega
  | k + 1, h, 0, h1, hi => by
    rw [placesP, List.getElem?_cons_zero, Nat.zero_mul, Nat.add_zero, Nat.mod_eq_of_lt h1]
  | k + 1, h, i + 1, h1, hi => by
    rw [placesP, List.getElem?_cons_succ, placesP_get d n k _ i (Nat.mod_lt _ (by decide)) (by omega), Nat.mod_add_mod, Nat.add_mul, Nat.one_mul, show h + d + i * d = h + (i * d + d) from by omega]
theorem getD_byte (f : ByteArray) (i : Nat) (h : i < f.size) : f.data.toList.getD i 0 = f[i] := by
  rw [List.getD_eq_getElem?_getD, List.getElem?_eq_getElem (by simpa using h)]
  rfl
end Go.Proofs.Yteackdafggomhaa

namespace Go.Proofs.Yteackdafggomhaa
open Go.RowKit

/-- Texts that can be read. -/
structure TextsAt (w : World) (A : Option Addr) (n : Nat) (L : List ByteArray) : Prop where
  len : n = L.length
  at_ : ∀ (i : Nat) (s : ByteArray), L[i]? = some s → ∃ g off, A = some ⟨g, off, none⟩ ∧ g < w.heap.size ∧ w.cell? ⟨g, off + i, none⟩ = some (.string s)
theorem TextsAt.below {w w' : World} {A : Option Addr} {n : Nat} {L : List ByteArray} (h : TextsAt w A n L) (hb : Below w.heap.size w w') : TextsAt w' A n L :=
  ⟨h.len, fun i s hs => by
    obtain ⟨g, off, e, hg, h1⟩ := h.at_ i s hs
    exact ⟨g, off, e, Nat.lt_of_lt_of_le hg hb.size, (hb.cell (p := ⟨g, off + i, none⟩) hg).trans h1⟩⟩
end Go.Proofs.Yteackdafggomhaa
