/-
  Several texts in one: Chapter 11, plain: bytes read pair by pair, just as Build lays them. No program is named.
  The landed package block: what its reader takes: bytes, a number.
  strings.Builder: a byte and a text more, at this program.
  Slices of numbers and of texts that came in: what a walk asks of them, out of how they read. No program is named.
  Walks over package vec, part 1: Leq, Same, isCount, Valid.
  Walks over package vec, part 2: slices of numbers that a call makes: Clone, With, each, Join, Meet.
  An append that leaves what was there readable; rows of numbers that are apart. No program is named.
  The book of lists, of any kind: what a call turns (Tn), elements as cells (El), rows of a kind that are apart, rows that grow. No program is named.
  strings.Builder, one that was read before: a text more, at this program.
  The landed package block: lay.
  The book of lists, of any kind: rows of lists; an element stored. No program is named.
  The book of lists, of any kind: what is kept; one more. No program is named.
  A list of pairs of texts, as it can be read in a world. No program is named.
  The landed package block: Build.
  The book of lists: the names that mark texts.
  The book of lists, Keys: marks, copies, are two alike? (Written by wip/gen/gen_bk.py.)
  'append(b, s...)' of a text's bytes; texts put together. No program is named.
-/
import Derived.Test.YtmoffcgbjmeiaaaGreatDoorM1
import Derived.Test.YtmoffcgbjmeiaaaGreatDoorRows
import Derived.Lib.Builder
import Derived.Below
import Derived.ChangeSame
import Derived.ProofKit
import Derived.OpenShut
import Derived.SliceStrings
import Derived.Deep.QuietTactic
import Derived.BigQuiet
import Derived.Deep.Onto
import Derived.Lib.FrozenHead
import Derived.LoopTactic
import Derived.Deep.RegionHeld3
import Derived.Deep.Cut
import Derived.DeepKeys
import Derived.Lib.AppendStr
import Derived.Laws.Concat
namespace Go.Proofs.YtmoffcgbjmeiaaaGreatDoor
open Go.RowKit

theorem bl_extract (s : ByteArray) (i j : Nat) (_h : j ≤ s.size) : bl (s.extract i j) = ((bl s).drop i).take (j - i) := by
  simp [bl]
theorem bl_drop (s : ByteArray) (i : Nat) : bl (s.extract i s.size) = (bl s).drop i := by
  rw [bl_extract s i s.size (Nat.le_refl _), List.take_of_length_le]
  rw [List.length_drop, bl_len]
  exact Nat.le_refl _
theorem bl_take (s : ByteArray) (j : Nat) (h : j ≤ s.size) : bl (s.extract 0 j) = (bl s).take j := by
  rw [bl_extract s 0 j h, List.drop_zero, Nat.sub_zero]

/-- What is read as a number is that number's bytes. -/
theorem gv_pv_of : ∀ (l : List UInt8) (i a v n : Nat), gv l i a = .ok v n → i < n ∧ n ≤ i + l.length ∧ i < 9 ∧ ∃ u, v = a + u * 2 ^ (7 * i) ∧ l.take (n - i) = pv u ∧ (0 < i → 0 < u) ∧ u < 2 ^ (7 * (9 - i))
  | [], i, a, v, n, h => by
    rw [gv] at h
    split at h <;> cases h
  | c :: r, i, a, v, n, h => by
    rw [gv] at h
    split at h
    · cases h
    · rename_i h9
      split at h
      · rename_i h128
        obtain ⟨h1, h2, h3, u, h4, h5, h6, h7⟩ := gv_pv_of r _ _ _ _ h
        have hc := UInt8.toNat_lt c
        have hu := h6 (by omega)
        refine ⟨by omega, by simp only [List.length_cons]; omega, by omega, c.toNat % 128 + 128 * u, ?_, ?_, fun _ => by omega, ?_⟩
        · rw [h4, show 7 * (i + 1) = 7 * i + 7 from by omega, Nat.pow_add, Nat.add_mul, Nat.add_assoc]
          congr 2
          rw [Nat.mul_comm (2 ^ (7 * i)), ← Nat.mul_assoc, Nat.mul_comm u]
        · rw [show n - i = (n - (i + 1)) + 1 from by omega, List.take_succ_cons, h5, pv_more (c.toNat % 128 + 128 * u) (by omega)]
          congr 1
          · rw [show (c.toNat % 128 + 128 * u) % 128 + 128 = c.toNat from by omega]
            simp
          · rw [show (c.toNat % 128 + 128 * u) / 128 = u from by omega]
        · rw [show 7 * (9 - i) = 7 * (9 - (i + 1)) + 7 from by omega, Nat.pow_add]
          omega
      · split at h
        · cases h
        · rename_i h128 h0
          cases h
          have hc : c.toNat % 128 = c.toNat := Nat.mod_eq_of_lt (by omega)
          refine ⟨by omega, by simp only [List.length_cons]; omega, by omega, c.toNat, by rw [hc], ?_, fun hi => by omega, ?_⟩
          · rw [Nat.add_sub_cancel_left, List.take_succ_cons, List.take_zero, pv_last _ (by omega)]
            simp
          · have : (2 : Nat) ^ 7 ≤ 2 ^ (7 * (9 - i)) := Nat.pow_le_pow_right (by decide) (by omega)
            omega
theorem gv_bytes {l : List UInt8} {v n : Nat} (h : gv l 0 0 = .ok v n) : l = pv v ++ l.drop n ∧ n ≤ l.length ∧ v < 9223372036854775808 := by
  obtain ⟨_, h2, _, u, h4, h5, _, h7⟩ := gv_pv_of l 0 0 v n h
  rw [Nat.mul_zero, Nat.pow_zero, Nat.mul_one, Nat.zero_add] at h4
  subst h4
  rw [Nat.sub_zero] at h5
  rw [Nat.zero_add] at h2
  refine ⟨?_, h2, h7⟩
  rw [← h5]
  exact (List.take_append_drop _ _).symm

/-- A pair, taken from the bytes behind others. -/
def stepP (i : Nat) (last rest : List UInt8) : Option (KV × List UInt8) :=
  match gv rest 0 0 with
  | .err _ => none
  | .ok x n1 => match gv (rest.drop n1) 0 0 with
    | .err _ => none
    | .ok y n2 => match gv ((rest.drop n1).drop n2) 0 0 with
      | .err _ => none
      | .ok z n3 =>
        if x ≤ last.length ∧ y ≤ (((rest.drop n1).drop n2).drop n3).length ∧ z ≤ ((((rest.drop n1).drop n2).drop n3).drop y).length ∧
            (last.take x ++ (((rest.drop n1).drop n2).drop n3).take y).length ≤ 65536 ∧ z ≤ 65536 ∧
            (i = 0 ∨ Lib.compareBytes last (last.take x ++ (((rest.drop n1).drop n2).drop n3).take y) < 0) ∧
            x = comI i last (last.take x ++ (((rest.drop n1).drop n2).drop n3).take y) then
          some ((⟨(last.take x ++ (((rest.drop n1).drop n2).drop n3).take y).toArray⟩, ⟨(((((rest.drop n1).drop n2).drop n3).drop y).take z).toArray⟩), ((((rest.drop n1).drop n2).drop n3).drop y).drop z)
        else none
/-- Is this pair one that Build lays behind the last key? -/
def okStep (i : Nat) (last : List UInt8) (m : KV) : Prop := m.1.size ≤ 65536 ∧ m.2.size ≤ 65536 ∧ (i = 0 ∨ Lib.compareBytes last (bl m.1) < 0)
theorem step_some {i : Nat} {last rest r' : List UInt8} {m : KV} (h : stepP i last rest = some (m, r')) : rest = onePair i last (bl m.1) (bl m.2) ++ r' ∧ okStep i last m := by
  unfold stepP at h
  split at h
  · cases h
  · rename_i x n1 g1
    split at h
    · cases h
    · rename_i y n2 g2
      split at h
      · cases h
      · rename_i z n3 g3
        obtain ⟨e1, l1, _⟩ := gv_bytes g1
        obtain ⟨e2, l2, _⟩ := gv_bytes g2
        obtain ⟨e3, l3, _⟩ := gv_bytes g3
        obtain ⟨t, ht⟩ : ∃ t, ((rest.drop n1).drop n2).drop n3 = t := ⟨_, rfl⟩
        rw [ht] at h e3
        split at h
        · rename_i hc
          obtain ⟨c1, c2, c3, c4, c5, c6, c7⟩ := hc
          obtain ⟨k, hk⟩ : ∃ k, last.take x ++ t.take y = k := ⟨_, rfl⟩
          rw [hk] at h c4 c6 c7
          cases h
          have hkl : k.length = x + y := by rw [← hk, List.length_append, List.length_take, List.length_take]; omega
          have hkd : k.drop x = t.take y := by
            rw [← hk, List.drop_append_of_le_length (by rw [List.length_take]; omega), List.drop_of_length_le (by rw [List.length_take]; omega), List.nil_append]
          have hvl : ((t.drop y).take z).length = z := by rw [List.length_take]; omega
          refine ⟨?_, by rw [size_mk]; omega, by rw [size_mk, hvl]; exact c5, c6⟩
          dsimp only
          rw [bl_mk, bl_mk, onePair, ← c7, hkl, Nat.add_sub_cancel_left, hvl, hkd]
          conv => lhs; rw [e1, e2, e3]
          simp only [List.append_assoc]
          congr 3
          rw [List.take_append_drop, List.take_append_drop]
        · cases h
theorem step_of {i : Nat} {last r : List UInt8} {m : KV} (h : okStep i last m) (hl : last.length < 9223372036854775808) : stepP i last (onePair i last (bl m.1) (bl m.2) ++ r) = some (m, r) := by
  obtain ⟨h1, h2, h3⟩ := h
  obtain ⟨c1, c2⟩ := comI_le i last (bl m.1)
  have ht := comI_take i last (bl m.1)
  have hl1 : (bl m.1).length = m.1.size := rfl
  have hl2 : (bl m.2).length = m.2.size := rfl
  obtain ⟨n, hn⟩ : ∃ n, comI i last (bl m.1) = n := ⟨_, rfl⟩
  rw [onePair, hn]
  rw [hn] at c1 c2 ht
  obtain ⟨B, hB⟩ : ∃ B, pv n ++ (pv ((bl m.1).length - n) ++ (pv (bl m.2).length ++ ((bl m.1).drop n ++ bl m.2))) ++ r = B := ⟨_, rfl⟩
  have g1 : gv B 0 0 = .ok n (pv n).length := by rw [← hB, List.append_assoc]; exact gv_pv0 _ n (by omega)
  have e1 : B.drop (pv n).length = pv ((bl m.1).length - n) ++ (pv (bl m.2).length ++ ((bl m.1).drop n ++ (bl m.2 ++ r))) := by
    rw [← hB, List.append_assoc, List.drop_append_of_le_length (Nat.le_refl _), List.drop_length]; simp
  have g2 : gv (B.drop (pv n).length) 0 0 = .ok ((bl m.1).length - n) (pv ((bl m.1).length - n)).length := by rw [e1]; exact gv_pv0 _ _ (by omega)
  have e2 : (B.drop (pv n).length).drop (pv ((bl m.1).length - n)).length = pv (bl m.2).length ++ ((bl m.1).drop n ++ (bl m.2 ++ r)) := by
    rw [e1, List.drop_append_of_le_length (Nat.le_refl _), List.drop_length]; simp
  have g3 : gv ((B.drop (pv n).length).drop (pv ((bl m.1).length - n)).length) 0 0 = .ok (bl m.2).length (pv (bl m.2).length).length := by rw [e2]; exact gv_pv0 _ _ (by omega)
  have e3 : ((B.drop (pv n).length).drop (pv ((bl m.1).length - n)).length).drop (pv (bl m.2).length).length = (bl m.1).drop n ++ (bl m.2 ++ r) := by
    rw [e2, List.drop_append_of_le_length (Nat.le_refl _), List.drop_length]; simp
  rw [hB]
  unfold stepP
  rw [g1]
  dsimp only
  rw [g2]
  dsimp only
  rw [g3]
  dsimp only
  rw [e3]
  have hd : ((bl m.1).drop n).length = (bl m.1).length - n := List.length_drop ..
  have t1 : ((bl m.1).drop n ++ (bl m.2 ++ r)).take ((bl m.1).length - n) = (bl m.1).drop n := by rw [← hd]; exact List.take_left
  have t2 : ((bl m.1).drop n ++ (bl m.2 ++ r)).drop ((bl m.1).length - n) = bl m.2 ++ r := by rw [← hd]; exact List.drop_left
  rw [t1, t2, ht, List.take_left, List.drop_left, hn]
  rw [if_pos ⟨c2, by rw [List.length_append, hd]; omega, by rw [List.length_append]; omega, by omega, by omega, h3, rfl⟩]

/-- Pairs, taken one behind the other. -/
def strictP : Nat → Nat → List UInt8 → List UInt8 → Option (List KV)
  | _, _, _, [] => some []
  | 0, _, _, _ :: _ => none
  | f + 1, i, last, c :: r => match stepP i last (c :: r) with
    | none => none
    | some (m, r') => (strictP f (i + 1) (bl m.1) r').map (m :: ·)
theorem strict_nil (f i : Nat) (last : List UInt8) : strictP f i last [] = some [] := by cases f <;> rfl
theorem strict_none {f i : Nat} {last rest : List UInt8} (hr : rest ≠ []) (h : stepP i last rest = none) : strictP f i last rest = none := by
  obtain ⟨c, r, rfl⟩ := List.exists_cons_of_ne_nil hr
  cases f with
  | zero => rfl
  | succ f => rw [strictP, h]
theorem strict_some {f i : Nat} {last rest r' : List UInt8} {m : KV} (hr : rest ≠ []) (h : stepP i last rest = some (m, r')) : strictP (f + 1) i last rest = (strictP f (i + 1) (bl m.1) r').map (m :: ·) := by
  obtain ⟨c, r, rfl⟩ := List.exists_cons_of_ne_nil hr
  rw [strictP, h]
/-- Pairs that Build lays one behind the other. -/
def okFrom : Nat → List UInt8 → List KV → Prop
  | _, _, [] => True
  | i, last, m :: r => okStep i last m ∧ okFrom (i + 1) (bl m.1) r
theorem strict_is : ∀ (f i : Nat) (last rest : List UInt8) (l : List KV), strictP f i last rest = some l → rest = bodyL i last l ∧ okFrom i last l
  | f, i, last, [], l, h => by
    rw [strict_nil] at h
    cases h
    exact ⟨rfl, trivial⟩
  | 0, i, last, c :: r, l, h => by cases h
  | f + 1, i, last, c :: r, l, h => by
    rw [strictP] at h
    split at h
    · cases h
    · rename_i m r' hs
      obtain ⟨e1, e2⟩ := step_some hs
      obtain ⟨q, hq, rfl⟩ := Option.map_eq_some_iff.1 h
      obtain ⟨e3, e4⟩ := strict_is f _ _ _ q hq
      refine ⟨?_, e2, e4⟩
      rw [e1, bodyL, ← e3]
theorem strict_of : ∀ (l : List KV) (f i : Nat) (last : List UInt8), okFrom i last l → l.length ≤ f → last.length < 9223372036854775808 → strictP f i last (bodyL i last l) = some l := by
  intro l
  induction l with
  | nil => intro f i last _ _ _; exact strict_nil _ _ _
  | cons m l ih =>
    intro f i last h hf hl
    obtain ⟨f, rfl⟩ : ∃ g, f = g + 1 := ⟨f - 1, by simp at hf; omega⟩
    have h1 := step_of (r := bodyL (i + 1) (bl m.1) l) h.1 hl
    have hne : onePair i last (bl m.1) (bl m.2) ++ bodyL (i + 1) (bl m.1) l ≠ [] := by
      intro e
      have := congrArg List.length e
      have h2 := pv_pos (comI i last (bl m.1))
      rw [onePair] at this
      simp only [List.length_append, List.length_nil] at this
      omega
    rw [bodyL, strict_some hne h1, ih f (i + 1) (bl m.1) h.2 (by simpa using hf) (by have := h.1.1; rw [bl_len]; omega)]
    rfl
theorem okFrom_rises : ∀ (l : List KV) (i : Nat) (x : KV), okFrom (i + 1) (bl x.1) l → risesK (x :: l) = true
  | [], _, _, _ => rfl
  | m :: r, i, x, h => by
    rw [risesK, Bool.and_eq_true, decide_eq_true_eq]
    refine ⟨?_, okFrom_rises r (i + 1) m h.2⟩
    rcases h.1.2.2 with h1 | h1
    · omega
    · exact h1
theorem okFrom_all : ∀ (l : List KV) (i : Nat) (last : List UInt8), okFrom i last l → longK l = false
  | [], _, _, _ => rfl
  | m :: r, i, last, h => by
    have h1 := okFrom_all r _ _ h.2
    obtain ⟨s1, s2, _⟩ := h.1
    unfold longK at h1 ⊢
    rw [List.any_cons, h1]
    simp
    omega
theorem okFrom_zero {l : List KV} {last : List UInt8} (h : okFrom 0 last l) : risesK l = true ∧ longK l = false := by
  refine ⟨?_, okFrom_all _ _ _ h⟩
  cases l with
  | nil => rfl
  | cons m r => exact okFrom_rises r 0 m h.2
theorem okFrom_of : ∀ (l : List KV) (i : Nat) (x : KV), risesK (x :: l) = true → longK l = false → okFrom i (bl x.1) l
  | [], _, _, _, _ => trivial
  | m :: r, i, x, h, hl => by
    rw [risesK, Bool.and_eq_true, decide_eq_true_eq] at h
    have hs := longK_ok hl m (List.mem_cons_self ..)
    refine ⟨⟨hs.1, hs.2, Or.inr h.1⟩, okFrom_of r (i + 1) m h.2 ?_⟩
    unfold longK at hl ⊢
    rw [List.any_cons, Bool.or_eq_false_iff] at hl
    exact hl.2
theorem okFrom_start {l : List KV} (h : risesK l = true) (hl : longK l = false) (last : List UInt8) : okFrom 0 last l := by
  cases l with
  | nil => trivial
  | cons m r =>
    have hs := longK_ok hl m (List.mem_cons_self ..)
    refine ⟨⟨hs.1, hs.2, Or.inl rfl⟩, okFrom_of r 1 m h ?_⟩
    unfold longK at hl ⊢
    rw [List.any_cons, Bool.or_eq_false_iff] at hl
    exact hl.2

/-- Four bytes are those of the number that they tell. -/
theorem be_getL4 : ∀ l : List UInt8, l.length = 4 → be (getL l) 4 = l := by
  intro l h
  match l, h with
  | [a, b, c, d], _ =>
    have ha := UInt8.toNat_lt a
    have hb := UInt8.toNat_lt b
    have hc := UInt8.toNat_lt c
    have hd := UInt8.toNat_lt d
    have e : getL [a, b, c, d] = ((a.toNat * 256 + b.toNat) * 256 + c.toNat) * 256 + d.toNat := by
      unfold getL
      simp
    rw [e]
    have r4 : List.range 4 = [0, 1, 2, 3] := by decide
    unfold be
    rw [r4]
    simp only [List.map_cons, List.map_nil]
    congr 1
    · apply UInt8.toNat_inj.1
      rw [UInt8.toNat_ofNat']
      simp only [Nat.reduceSub, Nat.reduceMul, Nat.reducePow]
      omega
    congr 1
    · apply UInt8.toNat_inj.1
      rw [UInt8.toNat_ofNat']
      simp only [Nat.reduceSub, Nat.reduceMul, Nat.reducePow]
      omega
    congr 1
    · apply UInt8.toNat_inj.1
      rw [UInt8.toNat_ofNat']
      simp only [Nat.reduceSub, Nat.reduceMul, Nat.reducePow]
      omega
    congr 1
    · apply UInt8.toNat_inj.1
      rw [UInt8.toNat_ofNat']
      simp only [Nat.reduceSub, Nat.reduceMul, Nat.reducePow]
      omega
theorem getL_be4 (v : Nat) (h : v < 4294967296) : getL (be v 4) = v := by
  have h1 := be_getL4 (be v 4) (be_length v 4)
  have h2 : getL (be v 4) < 4294967296 := by
    have : ∀ l : List UInt8, l.length = 4 → getL l < 4294967296 := by
      intro l h
      match l, h with
      | [a, b, c, d], _ =>
        have ha := UInt8.toNat_lt a
        have hb := UInt8.toNat_lt b
        have hc := UInt8.toNat_lt c
        have hd := UInt8.toNat_lt d
        have e : getL [a, b, c, d] = ((a.toNat * 256 + b.toNat) * 256 + c.toNat) * 256 + d.toNat := by
          unfold getL
          simp
        rw [e]
        omega
    exact this _ (be_length v 4)
  exact be4_inj h2 h h1
/-- What the landed Parse answers. -/
def sParse (b : ByteArray) : Option (List KV) :=
  if b.size < 8 ∨ 524288 < b.size then none
  else if getL ((bl b).drop (b.size - 4)) ≠ crc ((bl b).take (b.size - 4)) then none
  else match strictP b.size 0 [] ((bl b).take (b.size - 8)) with
    | none => none
    | some l => if getL (((bl b).take (b.size - 4)).drop (b.size - 8)) = l.length then some l else none
theorem sParse_some {b : ByteArray} {l : List KV} (h : sParse b = some l) : buildP l = (b, 0) := by
  unfold sParse at h
  split at h
  · cases h
  · rename_i h1
    split at h
    · cases h
    · rename_i h2
      split at h
      · cases h
      · rename_i l' hs
        split at h
        · rename_i h3
          cases h
          obtain ⟨e1, e2⟩ := strict_is _ _ _ _ _ hs
          obtain ⟨r1, r2⟩ := okFrom_zero e2
          have hb : (bl b).length = b.size := rfl
          have c1 := be_getL4 ((bl b).drop (b.size - 4)) (by rw [List.length_drop]; omega)
          have c2 := be_getL4 (((bl b).take (b.size - 4)).drop (b.size - 8)) (by rw [List.length_drop, List.length_take]; omega)
          have h2' := Classical.not_not.1 h2
          have d2 : (bl b).take (b.size - 4) = bodyL 0 [] l ++ be l.length 4 := by
            rw [← h3, c2, ← e1]
            have : (bl b).take (b.size - 8) = ((bl b).take (b.size - 4)).take (b.size - 8) := by rw [List.take_take, Nat.min_eq_left (by omega)]
            rw [this, List.take_append_drop]
          have d3 : bl b = blkL l := by
            unfold blkL
            rw [← d2, ← h2', c1, List.take_append_drop]
          have hl : (blkL l).length = b.size := by rw [← d3]; rfl
          unfold buildP
          rw [if_neg (by rw [r1]; decide), if_neg (by rw [r2]; decide), if_neg (by omega), ← d3]
        · cases h
theorem sParse_of {b : ByteArray} {l : List KV} (h : buildP l = (b, 0)) : sParse b = some l := by
  obtain ⟨h1, h2, h3, h4⟩ := buildP_ok h
  have hb : bl b = blkL l := by rw [h4]
  have hs : b.size = (blkL l).length := by rw [← hb]; rfl
  have h8 := blkL_length l
  have hc := body_count l 0 []
  have hn : b.size - 8 = (bodyL 0 [] l).length := by omega
  have hn4 : b.size - 4 = (bodyL 0 [] l ++ be l.length 4).length := by rw [List.length_append, be_length]; omega
  have t4 : (bl b).take (b.size - 4) = bodyL 0 [] l ++ be l.length 4 := by
    rw [hn4, hb]; unfold blkL; exact List.take_left
  have d4 : (bl b).drop (b.size - 4) = be (crc (bodyL 0 [] l ++ be l.length 4)) 4 := by
    rw [hn4, hb]; unfold blkL; exact List.drop_left
  have t8 : (bl b).take (b.size - 8) = bodyL 0 [] l := by rw [hs, hb, blkL_body]
  have d8 : ((bl b).take (b.size - 4)).drop (b.size - 8) = be l.length 4 := by rw [t4, hn]; exact List.drop_left
  unfold sParse
  rw [if_neg (by omega), d8, d4, t8, t4, getL_be4 _ (crc_lt _), if_neg (fun h => h rfl), strict_of l _ 0 [] (okFrom_start h1 h2 _) (by omega) (by decide)]
  dsimp only
  rw [getL_be4 _ (by omega), if_pos rfl]
theorem sParse_is (b : ByteArray) : parseP b = match sParse b with
    | none => ([], 31)
    | some l => (l, 0) := by
  cases h : sParse b with
  | some l => exact parse_build (sParse_some h)
  | none => exact parse_no fun l hl => by rw [sParse_of hl] at h; cases h
end Go.Proofs.YtmoffcgbjmeiaaaGreatDoor

namespace Go.Proofs.YtmoffcgbjmeiaaaGreatDoor
open Go.RowKit

/-- The reader holds what is left, the pairs, the last key. -/
abbrev RdB (w : World) (p : Nat) (s : ByteArray) (v : Value) (a : ByteArray) : Prop := Blk w p 114 #[.string s, v, .string a]

set_option maxRecDepth 100000 in
set_option maxHeartbeats 2000000 in
theorem btake_ok (p : Nat) (s : ByteArray) (v : Value) (a : ByteArray) (k : Nat) (w : World) (B : RdB w p s v a) (hk : k ≤ s.size) :
    Calls Tryz.prog 137 #[.pointer (some ⟨p, 0, none⟩), .int .i64 (k : Int)] w fun e w' => e = .returned (.string (s.extract 0 k)) ∧ RdB w' p (s.extract k s.size) v a ∧ w.grownBy w' (some p) := by
  have c0 : w.cell? ⟨p, 0, none⟩ = some (.string s) := B.cell 0
  have f0 := B.frozen 0
  have hk1 : decide ((k : Int) ≤ (s.size : Int)) = true := decide_eq_true (by omega)
  have hk2 : (k : Int) ≤ (s.size : Int) := by omega
  have B := Lib.hid B
  have C := Lib.hid (must_yes w)
  go_enter Tryz.func137, Tryz.ntmps137
  go_wp2_with fail
  refine C.out.mono ?_
  rintro e w1 ⟨rfl, rfl⟩
  go_wp2_with fail
  go_ret
  exact ⟨rfl, B.out.set_ 0 _, only_setCell (World.grownBy.refl _ _) (Or.inl rfl) _⟩

set_option maxRecDepth 100000 in
set_option maxHeartbeats 2000000 in
theorem btake_short (p : Nat) (s : ByteArray) (v : Value) (a : ByteArray) (k : Nat) (w : World) (B : RdB w p s v a) (hk : s.size < k) :
    Calls Tryz.prog 137 #[.pointer (some ⟨p, 0, none⟩), .int .i64 (k : Int)] w fun e w' => e = gaveB ∧ w' = w := by
  have c0 : w.cell? ⟨p, 0, none⟩ = some (.string s) := B.cell 0
  have hk1 : decide ((k : Int) ≤ (s.size : Int)) = false := decide_eq_false (by omega)
  have hk2 : ¬ (k : Int) ≤ (s.size : Int) := by omega
  have C := Lib.hid (must_no w)
  go_enter Tryz.func137, Tryz.ntmps137
  go_wp2_with fail
  refine C.out.mono ?_
  rintro e w1 ⟨rfl, rfl⟩
  go_wp2_with fail
  exact ⟨rfl, rfl, rfl⟩

theorem gv_err' : ∀ (l : List UInt8) (i a : Nat) (e : Int), gv l i a = .err e → e = 3 ∨ e = 4
  | [], i, a, e, h => by
    rw [gv] at h
    split at h <;> (cases h; simp)
  | c :: r, i, a, e, h => by
    rw [gv] at h
    split at h
    · cases h; simp
    · split at h
      · exact gv_err' r _ _ e h
      · split at h
        · cases h; simp
        · cases h

set_option maxRecDepth 100000 in
set_option maxHeartbeats 2000000 in
theorem bnum_ok (p : Nat) (s : ByteArray) (v : Value) (a : ByteArray) (x n : Nat) (w : World) (B : RdB w p s v a) (hs : s.size ≤ 9223372036854775807) (h : gv (bl s) 0 0 = .ok x n) :
    Calls Tryz.prog 136 #[.pointer (some ⟨p, 0, none⟩)] w fun e w' => e = .returned (.int .i64 (x : Int)) ∧ RdB w' p (s.extract n s.size) v a ∧ w.grownBy w' (some p) := by
  have c0 : w.cell? ⟨p, 0, none⟩ = some (.string s) := B.cell 0
  have hn : n ≤ s.size := (gv_bytes h).2.1
  have CG := Lib.hid (getvar_ok s x n w hs h)
  have CM := fun W => Lib.hid (must_yes W)
  have CT := fun W h => Lib.hid (btake_ok p s v a n W h hn)
  have B := Lib.hid B
  clear h
  go_enter Tryz.func136, Tryz.ntmps136
  go_wp2_with fail
  refine CG.out.mono ?_
  rintro e w1 ⟨rfl, hb1⟩
  have B1 := B.out.below hb1 B.out.lt
  have g1 := Lib.hid (World.grownBy.mk hb1.os hb1.tape hb1.output hb1.size (fun k hk _ => hb1.block k hk) : w.grownBy w1 (some p))
  clear hb1
  have CT1 := CT w1 B1
  clear CT B1
  go_wp2_with fail
  refine (CM _).out.mono ?_
  rintro e w2 ⟨rfl, rfl⟩
  go_wp2_with fail
  refine CT1.out.mono ?_
  rintro e w3 ⟨rfl, B3, g3⟩
  have B3 := Lib.hid B3
  have g4 := Lib.hid (grown_trans g1.out g3)
  clear g3
  go_wp2_with fail
  go_ret
  exact ⟨rfl, B3.out, g4.out⟩

set_option maxRecDepth 100000 in
set_option maxHeartbeats 2000000 in
theorem bnum_bad (p : Nat) (s : ByteArray) (v : Value) (a : ByteArray) (er : Int) (w : World) (B : RdB w p s v a) (hs : s.size ≤ 9223372036854775807) (h : gv (bl s) 0 0 = .err er) :
    Calls Tryz.prog 136 #[.pointer (some ⟨p, 0, none⟩)] w fun e w' => e = gaveB ∧ w.grownBy w' (some p) := by
  have c0 : w.cell? ⟨p, 0, none⟩ = some (.string s) := B.cell 0
  have he := gv_err' _ _ _ _ h
  have e1 : (er == 0) = false := by rw [beq_eq_false_iff_ne]; omega
  have e2 : ¬ er = 0 := by omega
  have CG := Lib.hid (getvar_err s er w hs h)
  have CM := fun W => Lib.hid (must_no W)
  clear h he B
  go_enter Tryz.func136, Tryz.ntmps136
  go_wp2_with fail
  refine CG.out.mono ?_
  rintro e w1 ⟨rfl, hb1⟩
  have g1 := Lib.hid (World.grownBy.mk hb1.os hb1.tape hb1.output hb1.size (fun k hk _ => hb1.block k hk) : w.grownBy w1 (some p))
  clear hb1
  go_wp2_with fail
  refine (CM _).out.mono ?_
  rintro e w2 ⟨rfl, rfl⟩
  go_wp2_with fail
  exact ⟨rfl, rfl, g1.out⟩
end Go.Proofs.YtmoffcgbjmeiaaaGreatDoor

namespace Go.Proofs.YtmoffcgbjmeiaaaGreatDoor
open Go.RowKit Go.Shelf

abbrev IsB (B b : Nat) (bs : List Value) (w : World) : Prop := Lib.IsBuilder 64 5 B b bs w

theorem bu8 : (Tryz.prog.info? 5).map (fun i => (i.zero, i.size, i.bytes)) = some (some (.int .u8 0), 1, 1) := by kernel_rfl
theorem bsome : (Tryz.prog.info? 64).map (·.size) = some 2 := by kernel_rfl

set_option maxRecDepth 100000 in
theorem bcheck_used (b : Nat) (w : World) (h0 : w.cell? ⟨b, 0, none⟩ = some (.pointer (some ⟨b, 0, none⟩))) :
    Calls Tryz.prog 99 #[.pointer (some ⟨b, 0, none⟩)] w fun e w' => e = .returned (.tuple #[]) ∧ w' = w := by
  obtain ⟨j, hj, _⟩ := Option.map_eq_some_iff.1 bsome
  have hne := fun W : World => Lib.run_neq_ptr_same (P := Tryz.prog) (w := W) ⟨b, 0, none⟩ Tryz.underlying62 hj
  clear hj
  go_enter Tryz.func99, Tryz.ntmps99
  go_wp2_with fail
  go_end0
  exact ⟨rfl, rfl⟩

theorem run_noesc (x : Value) (W : World) : (callFunc 134 #[x]).run Tryz.prog W = .ok (.value x) W := by
  rw [run_callFunc_extern (e := Extern.AbiNoEscape.same) Tryz.func134 (by kernel_rfl) (by kernel_rfl) (by kernel_rfl) (by kernel_rfl), Lib.run_noEscape]
  rfl

set_option maxRecDepth 100000 in
theorem bcheck_fresh (b : Nat) (w : World) (h0 : w.cell? ⟨b, 0, none⟩ = some (.pointer none)) (hsh : w.shape? b = some (64, 2)) (hfz : w.frozen? ⟨b, 0, none⟩ = false) :
    Calls Tryz.prog 99 #[.pointer (some ⟨b, 0, none⟩)] w fun e w' => e = .returned (.tuple #[]) ∧ w' = w.setCell ⟨b, 0, none⟩ (.pointer (some ⟨b, 0, none⟩)) := by
  obtain ⟨j, hj, hjs⟩ := Option.map_eq_some_iff.1 bsome
  have c1 := Lib.run_to_unsafe (P := Tryz.prog) (w := w) (src := 62) (dst := 177) ⟨b, 0, none⟩ Tryz.underlying62 Tryz.underlying177 hj (by rw [hjs]; decide) hsh (Nat.zero_lt_succ 1)
  have c2 := run_noesc (.pointer (some ⟨b, 0, none⟩)) w
  have c3 := Lib.run_from_unsafe (P := Tryz.prog) (w := w) (src := 177) (dst := 62) ⟨b, 0, none⟩ Tryz.underlying177 Tryz.underlying62 hj hsh (by kernel_rfl)
  clear hj hjs hsh
  go_enter Tryz.func99, Tryz.ntmps99
  go_wp2_with fail
  go_end0
  exact ⟨rfl, rfl⟩

theorem bcheck_any (B b : Nat) (bs : List Value) (w : World) (h : IsB B b bs w) :
    Calls Tryz.prog 99 #[.pointer (some ⟨b, 0, none⟩)] w fun e w' => e = .returned (.tuple #[]) ∧ (Lib.BuilderAt 64 5 B b (.pointer (some ⟨b, 0, none⟩)) bs w' ∧ Below B w w') := by
  rcases h with h | h
  · exact (bcheck_fresh b w h.cell0 h.shape h.frozen0).mono fun _ _ ⟨he, hw⟩ => ⟨he, by subst hw; exact h.used _, by subst hw; exact (Below.refl B w).setCell (p := ⟨b, 0, none⟩) h.1 _⟩
  · exact (bcheck_used b w h.cell0).mono fun _ _ ⟨he, hw⟩ => ⟨he, by subst hw; exact h, by subst hw; exact Below.refl B _⟩

set_option maxHeartbeats 2000000 in
set_option maxRecDepth 100000 in
theorem bstr_any (B b : Nat) (bs : List Value) (s : ByteArray) (w : World) (h : IsB B b bs w) (hlen : bs.length + s.size ≤ 140737488355328) (hBw : B ≤ w.heap.size) :
    Calls Tryz.prog 27 #[.pointer (some ⟨b, 0, none⟩), .string s] w fun e w' => e = .returned (.tuple #[.int .i64 s.size, .nilIface]) ∧ IsB B b (bs ++ Lib.strCells s) w' ∧ Below B w w' := by
  obtain ⟨i0, hi, hz0, hz1, hz2⟩ := info_parts bu8
  have C := Lib.hid (bcheck_any B b bs w h)
  clear h
  go_enter Tryz.func27, Tryz.ntmps27
  go_wp2_with fail
  refine C.out.mono ?_
  rintro e w1 ⟨rfl, h1, hb1⟩
  obtain ⟨hB, v, hbk, hown, hne⟩ := h1
  have c1 : w1.cell? ⟨b, 1, none⟩ = some v := by rw [Lib.cell_of_heap hbk]; rfl
  go_wp2_with (at_builtin; refine Lib.wpList_append_own_string _ rfl _ _ 54 9 rfl B 5 i0 Tryz.underlying54 Tryz.underlying9 hi hz0 hz1 hz2 _ _ _ rfl hown s rfl ?c3 ?c4 ?c5 ?_)
  case c3 => unfold maxLen; omega
  case c4 => omega
  case c5 => have := hb1.size; omega
  intro v' w2 hown' hgrow _
  have hlt : b < w1.heap.size := by
    rcases Nat.lt_or_ge b w1.heap.size with h' | h'
    · exact h'
    · simp [Array.getElem?_eq_none h'] at hbk
  have hb2 : w2.heap[b]? = some (.cells #[.pointer (some ⟨b, 0, none⟩), v] 64 (0, 0)) := by
    rw [hgrow.block b hlt (fun e => hne e.symm)]
    exact hbk
  have d1 : w2.cell? ⟨b, 1, none⟩ = some v := by rw [Lib.cell_of_heap hb2]; rfl
  have f1 : w2.frozen? ⟨b, 1, none⟩ = false := Lib.frozen_of_heap hb2 1
  obtain ⟨ao, n', cap, rfl⟩ : ∃ ao n' cap, v' = .slice ao n' cap := by
    rcases hown'.2 with ⟨hv, _⟩ | ⟨g, cap, cur, hv, _⟩
    · exact ⟨_, _, _, hv⟩
    · exact ⟨_, _, _, hv⟩
  go_wp2
  go_ret2
  refine ⟨rfl, Or.inr ?_, ?_⟩
  · exact Lib.BuilderAt.put (T := 64) (e := 5) hB hb2 (bs' := bs ++ Lib.strCells s) (by rw [List.length_append, Lib.strCells_length]; exact hown') (by decide)
  · exact (hb1.grown hgrow (by have := hb1.size; omega) (fun k hk => (hown.lt k hk).1)).setCell (p := ⟨b, 1, none⟩) hB _

end Go.Proofs.YtmoffcgbjmeiaaaGreatDoor

namespace Go.Proofs.YtmoffcgbjmeiaaaGreatDoor
open Go.RowKit Go.WideShapes Go.ChangeShapes

theorem block_lt {w : World} {g i : Nat} {v : Value} (h : w.cell? ⟨g, i, none⟩ = some v) : g < w.heap.size := by
  rcases Nat.lt_or_ge g w.heap.size with hlt | hge
  · exact hlt
  · simp [World.cell?, Array.getElem?_eq_none hge] at h

/-- n numbers stand at A. -/
structure IntsIn (w : World) (A : Option Addr) (n : Nat) (zs : List Int) : Prop where
  len : zs.length = n
  max : n ≤ 9223372036854775807
  some : 0 < n → ∃ b off, A = .some ⟨b, off, none⟩ ∧ b < w.heap.size ∧ ∀ j, j < n → w.cell? ⟨b, off + j, none⟩ = .some (.int .i64 (zs.getD j 0))
  wf : ∀ z ∈ zs, (Lit.int .i64 z).wf = true

theorem IntsIn.below {w w' : World} {A : Option Addr} {n : Nat} {zs : List Int} (h : IntsIn w A n zs) (hb : Below w.heap.size w w') : IntsIn w' A n zs :=
  ⟨h.len, h.max, fun hn => by
    obtain ⟨b, off, rfl, hlt, hc⟩ := h.some hn
    exact ⟨b, off, rfl, Nat.lt_of_lt_of_le hlt hb.size, fun j hj => (hb.cell (p := ⟨b, off + j, none⟩) hlt).trans (hc j hj)⟩, h.wf⟩

/-- n texts stand at A. -/
structure StrsIn (w : World) (A : Option Addr) (n : Nat) (ss : List ByteArray) : Prop where
  len : ss.length = n
  max : n ≤ 9223372036854775807
  some : 0 < n → ∃ b off, A = .some ⟨b, off, none⟩ ∧ b < w.heap.size ∧ ∀ j, j < n → w.cell? ⟨b, off + j, none⟩ = .some (.string (ss.getD j ByteArray.empty))
  size : ∀ s ∈ ss, s.size ≤ 9223372036854775807

theorem StrsIn.below {w w' : World} {A : Option Addr} {n : Nat} {ss : List ByteArray} (h : StrsIn w A n ss) (hb : Below w.heap.size w w') : StrsIn w' A n ss :=
  ⟨h.len, h.max, fun hn => by
    obtain ⟨b, off, rfl, hlt, hc⟩ := h.some hn
    exact ⟨b, off, rfl, Nat.lt_of_lt_of_le hlt hb.size, fun j hj => (hb.cell (p := ⟨b, off + j, none⟩) hlt).trans (hc j hj)⟩, h.size⟩

section
variable {H : Type} {enc : TypeId × Value → H} {P : Program} {w : World} {t e : TypeId} {A : Option Addr} {n cp : Nat} {d : DataW H} {p : List MemPlace}
theorem ints_view (ht : P.underlying t = some (.slice e)) (he : P.underlying e = some (.int .i64)) (hc : P.cellsOf e = 1) (h : DataW.Trod enc P w 0 (fun _ => true) true t (.slice A n cp) d p) : ∃ zs, IntsIn w A n zs := by
  obtain ⟨fuel, hf⟩ := h
  rcases open_ints ht he hc hf with ⟨hcs, _⟩ | ⟨a, len', cap', zs, hcs, _, hl, hm, hz, _, hcell, hwz⟩
  · simp [Value.cells] at hcs
    obtain ⟨rfl, rfl, rfl⟩ := hcs
    exact ⟨[], rfl, by decide, fun h => absurd h (by decide), fun z hz => by cases hz⟩
  · simp [Value.cells] at hcs
    obtain ⟨rfl, rfl, rfl⟩ := hcs
    rw [if_pos rfl] at hz
    unfold maxLen at hm
    refine ⟨zs.take n, by simp; omega, by omega, fun hn => ?_, fun z hz' => hwz z (List.mem_of_mem_take hz')⟩
    obtain ⟨b, off, rfl, hcc⟩ := ints_at hcell (by omega)
    refine ⟨b, off, rfl, block_lt (hcc 0 (by omega)), fun j hj => ?_⟩
    rw [hcc j (by omega)]
    simp [List.getD, hj]
theorem strs_view (ht : P.underlying t = some (.slice e)) (he : P.underlying e = some .string) (hc : P.cellsOf e = 1) (h : DataW.Trod enc P w 0 (fun _ => true) true t (.slice A n cp) d p) : ∃ ss, StrsIn w A n ss := by
  obtain ⟨fuel, hf⟩ := h
  rcases open_strings ht he hc hf with ⟨hcs, _⟩ | ⟨a, len', cap', ss, hcs, _, hl, hm, hz, _, hcell, hwz⟩
  · simp [Value.cells] at hcs
    obtain ⟨rfl, rfl, rfl⟩ := hcs
    exact ⟨[], rfl, by decide, fun h => absurd h (by decide), fun z hz => by cases hz⟩
  · simp [Value.cells] at hcs
    obtain ⟨rfl, rfl, rfl⟩ := hcs
    rw [if_pos rfl] at hz
    unfold maxLen at hm
    refine ⟨ss.take n, by simp; omega, by omega, fun hn => ?_, fun z hz' => by have := hwz z (List.mem_of_mem_take hz'); unfold maxLen at this; omega⟩
    obtain ⟨b, off, spot⟩ := a
    have hspot : spot = none := by simpa [Addr.add] using World.cell?_spot (hcell 0 (by omega))
    subst hspot
    have hcc : ∀ j, j < ss.length → w.cell? ⟨b, off + j, none⟩ = some (.string (ss.getD j ByteArray.empty)) := fun j hj => by rw [← Go.WideShapes.add_plain]; exact hcell j hj
    refine ⟨b, off, rfl, block_lt (hcc 0 (by omega)), fun j hj => ?_⟩
    rw [hcc j (by omega)]
    simp [List.getD, hj]
/-- Numbers that came in lie within the reach. -/
theorem ints_size (ht : P.underlying t = some (.slice e)) (he : P.underlying e = some (.int .i64)) (hc : P.cellsOf e = 1) (h : DataW.Trod enc P w 0 (fun _ => true) true t (.slice A n cp) d p)
    (hs : ∀ elems spare, d = .slice elems spare → (elems.length + spare.length) * 8 ≤ reachBytes) : n ≤ 17592186043904 := by
  obtain ⟨fuel, hf⟩ := h
  rcases open_ints ht he hc hf with ⟨hcs, _⟩ | ⟨a, len', cap', zs, hcs, _, hl, hm, hz, hx, _, _⟩
  · simp [Value.cells] at hcs
    omega
  · simp [Value.cells] at hcs
    obtain ⟨rfl, rfl, rfl⟩ := hcs
    have := hs _ _ (congrArg Prod.fst hx)
    rw [if_pos rfl] at hz
    simp only [lits, List.length_map, List.length_take, List.length_drop] at this
    unfold reachBytes at this
    omega
end
end Go.Proofs.YtmoffcgbjmeiaaaGreatDoor

namespace Go.Proofs.YtmoffcgbjmeiaaaGreatDoor
open Go.RowKit

/-- Is no time of xs above that of ys? -/
def leqL (xs ys : List Int) : Bool := decide (xs.length = ys.length ∧ ∀ j, j < xs.length → xs.getD j 0 ≤ ys.getD j 0)

theorem IntsIn.drewN {w : World} {A : Option Addr} {n : Nat} {zs : List Int} (h : IntsIn w A n zs) (q : Nat) : IntsIn (w.drewN q) A n zs := ⟨h.len, h.max, h.some, h.wf⟩
theorem drewN_zero (w : World) : w = w.drewN 0 := rfl
theorem drewN_more {w w1 : World} {q : Nat} (h : w1 = w.drewN q) (p : Nat) : ∃ r, w1.drewN p = w.drewN r := ⟨q + p, by rw [h, World.drewN_drewN]⟩

theorem list_ext_getD {xs ys : List Int} (h : xs.length = ys.length) (he : ∀ j, j < xs.length → xs.getD j 0 = ys.getD j 0) : xs = ys := by
  refine List.ext_getElem h fun j h1 h2 => ?_
  have := he j h1
  rwa [List.getD_eq_getElem?_getD, List.getD_eq_getElem?_getD, List.getElem?_eq_getElem h1, List.getElem?_eq_getElem h2] at this

/-- Is it a vector? -/
def validL (xs : List Int) : Bool := decide ((1 ≤ xs.length ∧ xs.length ≤ 8) ∧ ∀ j, j < xs.length → 0 ≤ xs.getD j 0 ∧ xs.getD j 0 < 281474976710656)

end Go.Proofs.YtmoffcgbjmeiaaaGreatDoor

namespace Go.Proofs.YtmoffcgbjmeiaaaGreatDoor
open Go.RowKit

theorem i64info : (Tryz.prog.info? 3).map (fun i => (i.zero, i.size, i.bytes)) = some (some (.int .i64 0), 1, 8) := by kernel_rfl

/-- v is a slice of the call's own (its block from B on) that holds the numbers zs. -/
def Nums (w : World) (B : Nat) (e : TypeId) (v : Value) (zs : List Int) : Prop := w.ownsRow B e 1 v zs.length (zs.map (Value.int .i64))

section
variable {w w' : World} {B : Nat} {e : TypeId} {v : Value} {zs : List Int}
theorem Nums.drewN (h : Nums w B e v zs) (n : Nat) : Nums (w.drewN n) B e v zs := h
theorem Nums.drew (h : Nums w B e v zs) : Nums w.drew B e v zs := h
theorem Nums.alloc (h : Nums w B e v zs) (o : Obj) : Nums (w.alloc o) B e v zs := World.ownsRow.alloc h o
theorem Nums.low (h : Nums w B e v zs) {B' : Nat} (hB : B' ≤ B) : Nums w B' e v zs := by
  refine ⟨h.1, ?_⟩
  rcases h.2 with hn | ⟨g, cap, cur, hv, hb, r⟩
  · exact Or.inl hn
  · exact Or.inr ⟨g, cap, cur, hv, Nat.le_trans hB hb, r⟩
theorem Nums.below (h : Nums w B e v zs) {B' : Nat} (hb : Below B' w w') (hB : w.heap.size ≤ B') : Nums w' B e v zs := by
  refine ⟨h.1, ?_⟩
  rcases h.2 with hn | ⟨g, cap, cur, hv, hg, hh, r⟩
  · exact Or.inl hn
  · exact Or.inr ⟨g, cap, cur, hv, hg, (hb.block g (Nat.lt_of_lt_of_le (Array.getElem?_eq_some_iff.1 hh).1 hB)).trans hh, r⟩
/-- As a slice that is read. -/
theorem Nums.ints (h : Nums w B e v zs) (hwf : ∀ z ∈ zs, (Lit.int .i64 z).wf = true) : ∃ A cp, v = .slice A zs.length cp ∧ IntsIn w A zs.length zs ∧ (0 < zs.length → ∃ g, A = some ⟨g, 0, none⟩ ∧ B ≤ g) := by
  rcases h.2 with ⟨rfl, hn⟩ | ⟨g, cap, cur, rfl, hb, hg, hc, hm, hs, ht⟩
  · exact ⟨none, 0, by rw [hn], ⟨rfl, by omega, fun h => by omega, hwf⟩, fun h => by omega⟩
  · refine ⟨some ⟨g, 0, none⟩, cap, rfl, ⟨rfl, by unfold maxLen at hm; omega, fun hn => ⟨g, 0, rfl, (Array.getElem?_eq_some_iff.1 hg).1, fun j hj => ?_⟩, hwf⟩, fun _ => ⟨g, rfl, hb⟩⟩
    have := World.ownsRow.cellAt (g := g) (cap := cap) h j (by omega)
    rw [Nat.zero_add, this]
    simp [List.getD, hj]
end

theorem wf_getD {zs : List Int} (h : ∀ z ∈ zs, (Lit.int .i64 z).wf = true) {j : Nat} (hj : j < zs.length) : (Lit.int .i64 (zs.getD j 0)).wf = true := by
  rw [List.getD_eq_getElem?_getD, List.getElem?_eq_getElem hj]
  exact h _ (List.getElem_mem _)

end Go.Proofs.YtmoffcgbjmeiaaaGreatDoor

namespace Go.Proofs.YtmoffcgbjmeiaaaGreatDoor
open Go.RowKit

theorem append_keep {P : Program} (w : World) (base : Nat) (t ty e : TypeId) (i : TypeInfo) (z : Value) (size bytes : Nat) (ht : P.underlying t = some (.slice e)) (hi : P.info? e = some i) (hz : i.zero = some z)
    (hsize : i.size = size) (hby : i.bytes = bytes) (v : Value) (n : Nat) (xs : List Value) (hown : w.ownsRow base e size v n xs)
    (a : Addr) (m c : Nat) (news : List Value) (hl : news.length = m * size) (hnews : ∀ j u, news[j]? = some u → w.cell? (a.add j) = some u) (h1 : ∀ u ∈ news, u.oneCell' = true)
    (h63 : n + m ≤ maxLen) (hbytes : (n + m) * bytes ≤ 140737488355328) (v' : Value) (w' : World) (hr : (Builtin.append_ #[t, t] ty #[v, .slice (some a) m c]).run P w = .ok v' w') :
    w'.ownsRow base e size v n xs ∧ (v'.ownBlock = v.ownBlock ∨ ∀ g, v'.ownBlock = some g → w.heap.size ≤ g) := by
  subst hsize
  subst hby
  have hsmall : n + m ≤ 9223372036854775807 := by simp only [maxLen] at h63; omega
  rcases hown.2 with ⟨rfl, rfl⟩ | ⟨g, cap, cur, rfl, hbg, hg, hnc, hcm, hcs, htake⟩
  · have hx : xs = [] := List.eq_nil_of_length_eq_zero (by simpa using hown.1)
    subst hx
    refine ⟨World.ownsRow_nil _ _ _ _, ?_⟩
    by_cases hm : m = 0
    · subst hm
      have hr2 : (Builtin.append_ #[t, t] ty #[.slice none 0 0, .slice (some a) 0 c]).run P w = .ok (.slice none 0 0) w := by
        simp [Builtin.append_, run_underlying ht, sizeOf, typeInfo, hi, Builtin.lenOf, Builtin.firstCells, loadCells, loadCellsFrom]
      rw [hr] at hr2
      injection hr2 with e1 e2
      left
      rw [e1]
    · have hr2 := run_append_nil (P := P) w t ty e i z ht hi hz a m c news hl hnews (by omega) (by omega) (by have hb := hbytes; simp only [Nat.zero_add] at hb; omega)
      rw [hr] at hr2
      injection hr2 with e1 e2
      right
      intro g hg
      rw [e1] at hg
      simp [Value.ownBlock] at hg
      omega
  · by_cases hroom : n + m ≤ cap
    · have hfit : n * i.size + news.length ≤ cur.size := by rw [hl, hcs, ← Nat.add_mul]; exact Nat.mul_le_mul_right _ hroom
      have hr2 := run_append_room (P := P) w t ty e i ht hi g n cap cur hg a m c news hl hnews h1 hroom hfit
      rw [hr] at hr2
      injection hr2 with e1 e2
      refine ⟨⟨hown.1, .inr ⟨g, cap, _, rfl, hbg, by rw [e2]; exact setRow_heap w g cur _ e _ hg, hnc, hcm, ?_, ?_⟩⟩, Or.inl (by rw [e1]; rfl)⟩
      · simp only [List.size_toArray, List.length_append, List.length_take, List.length_drop, Array.length_toList]
        omega
      · rw [htake]
        have hlx : xs.length = n * i.size := hown.1
        show List.take (n * i.size) (xs ++ news ++ _) = xs
        rw [List.append_assoc, ← hlx]
        exact List.take_left
    · have holds : ∀ j u, xs[j]? = some u → w.cell? ((⟨g, 0, none⟩ : Addr).add j) = some u := hown.cells (g := g) rfl
      have hr2 := run_append_grow (P := P) w t ty e i z ht hi hz ⟨g, 0, none⟩ n cap xs hown.1 holds a m c news hl hnews (by omega) (by omega) (growslice_fits (by omega) hbytes)
      rw [hr] at hr2
      injection hr2 with e1 e2
      refine ⟨?_, Or.inr fun k hk => ?_⟩
      · rw [e2]
        exact World.ownsRow.alloc (World.ownsRow.drew hown) _
      · rw [e1] at hk
        simp [Value.ownBlock] at hk
        omega

theorem wp_append_keep {P : Program} (w : World) {o : Oper} {a : Act} {K : Act → World → Prop} {Q : Exit → Act → World → Prop} (s x : Operand) (t : TypeId)
    (ho : o.op = .call { callee := .builtin .append, args := #[s, x], argTypes := #[t, t] })
    (base : Nat) (e : TypeId) (i : TypeInfo) (z : Value) (size bytes : Nat) (ht : P.underlying t = some (.slice e)) (hi : P.info? e = some i) (hz : i.zero = some z)
    (hsize : i.size = size) (hby : i.bytes = bytes) (hzs : z.cells.size = size) (hsz : 0 < size)
    (v : Value) (n : Nat) (xs : List Value) (hs : a.eval s = v) (hown : w.ownsRow base e size v n xs)
    (ad : Addr) (m c : Nat) (news : List Value) (hx : a.eval x = .slice (some ad) m c) (hl : news.length = m * size) (hnews : ∀ j u, news[j]? = some u → w.cell? (ad.add j) = some u) (h1 : ∀ u ∈ news, u.oneCell' = true)
    (h63 : n + m ≤ maxLen) (hbytes : (n + m) * bytes ≤ 140737488355328) (hbase : base ≤ w.heap.size)
    (h : ∀ v' w', w'.ownsRow base e size v' (n + m) (xs ++ news) → w.grownBy w' v.ownBlock → w'.ownsRow base e size v n xs → (v'.ownBlock = v.ownBlock ∨ ∀ g, v'.ownBlock = some g → w.heap.size ≤ g) → K (a.put o.dst v') w') : o.wp P a w K Q := by
  obtain ⟨v', w', hr, h2, h3, _⟩ := run_append_own (P := P) w base t o.type e i z size bytes ht hi hz hsize hby hzs hsz v n xs hown ad m c news hl hnews h1 h63 hbytes hbase
  obtain ⟨h4, h5⟩ := append_keep w base t o.type e i z size bytes ht hi hz hsize hby v n xs hown ad m c news hl hnews h1 h63 hbytes v' w' hr
  unfold Oper.wp execOp
  simp only [ho, resolve, invoke, builtin, Sem.run_bind, Sem.run_pure, Result.andThen_ok, List.map_toArray, List.map_cons, List.map_nil, hs, hx, hr]
  exact h v' w' h2 h3 h4 h5

theorem wpList_append_keep {P : Program} (w : World) {ops : Array Oper} {rest : List Oper} {o : Oper} {a : Act} {Q : Exit → Act → World → Prop} (hgd : o.guard = none) (s x : Operand) (t : TypeId)
    (ho : o.op = .call { callee := .builtin .append, args := #[s, x], argTypes := #[t, t] })
    (base : Nat) (e : TypeId) (i : TypeInfo) (z : Value) (size bytes : Nat) (ht : P.underlying t = some (.slice e)) (hi : P.info? e = some i) (hz : i.zero = some z)
    (hsize : i.size = size) (hby : i.bytes = bytes) (hzs : z.cells.size = size) (hsz : 0 < size)
    (v : Value) (n : Nat) (xs : List Value) (hs : a.eval s = v) (hown : w.ownsRow base e size v n xs)
    (ad : Addr) (m c : Nat) (news : List Value) (hx : a.eval x = .slice (some ad) m c) (hl : news.length = m * size) (hnews : ∀ j u, news[j]? = some u → w.cell? (ad.add j) = some u) (h1 : ∀ u ∈ news, u.oneCell' = true)
    (h63 : n + m ≤ maxLen) (hbytes : (n + m) * bytes ≤ 140737488355328) (hbase : base ≤ w.heap.size)
    (h : ∀ v' w', w'.ownsRow base e size v' (n + m) (xs ++ news) → w.grownBy w' v.ownBlock → w'.ownsRow base e size v n xs → (v'.ownBlock = v.ownBlock ∨ ∀ g, v'.ownBlock = some g → w.heap.size ≤ g) → wpList P ops Q rest (a.put o.dst v') w') :
    wpList P ops Q (o :: rest) a w := by
  refine wpList_plain hgd fun K hK => ?_
  exact wp_append_keep w s x t ho base e i z size bytes ht hi hz hsize hby hzs hsz v n xs hs hown ad m c news hx hl hnews h1 h63 hbytes hbase fun v' w' a1 a2 a3 a4 => hK _ _ (h v' w' a1 a2 a3 a4)

theorem step_append_keep {P : Program} {w : World} {ops : Array Oper} {o : Oper} {a : Act} {K : Act → World → Prop} {Q : Exit → Act → World → Prop} {E : Prop} (hgd : o.guard = none) (s x : Operand) (t : TypeId)
    (ho : o.op = .call { callee := .builtin .append, args := #[s, x], argTypes := #[t, t] })
    (base : Nat) (e : TypeId) (i : TypeInfo) (z : Value) (size bytes : Nat) (ht : P.underlying t = some (.slice e)) (hi : P.info? e = some i) (hz : i.zero = some z)
    (hsize : i.size = size) (hby : i.bytes = bytes) (hzs : z.cells.size = size) (hsz : 0 < size)
    (v : Value) (n : Nat) (xs : List Value) (hs : a.eval s = v) (hown : w.ownsRow base e size v n xs)
    (ad : Addr) (m c : Nat) (news : List Value) (hx : a.eval x = .slice (some ad) m c) (hl : news.length = m * size) (hnews : ∀ j u, news[j]? = some u → w.cell? (ad.add j) = some u) (h1 : ∀ u ∈ news, u.oneCell' = true)
    (h63 : n + m ≤ maxLen) (hbytes : (n + m) * bytes ≤ 140737488355328) (hbase : base ≤ w.heap.size)
    (h : ∀ v' w', w'.ownsRow base e size v' (n + m) (xs ++ news) → w.grownBy w' v.ownBlock → w'.ownsRow base e size v n xs → (v'.ownBlock = v.ownBlock ∨ ∀ g, v'.ownBlock = some g → w.heap.size ≤ g) → K (a.put o.dst v') w') :
    if Region.wanted o (yielded ops a.tmps) = true then Oper.wp P o a w K Q else E := by
  rw [if_pos (by simp [Region.wanted, hgd])]
  exact wp_append_keep w s x t ho base e i z size bytes ht hi hz hsize hby hzs hsz v n xs hs hown ad m c news hx hl hnews h1 h63 hbytes hbase h

/-- Nothing put behind nothing. -/
theorem wpList_append_nothing {P : Program} (w : World) {ops : Array Oper} {rest : List Oper} {o : Oper} {a : Act} {Q : Exit → Act → World → Prop} (hgd : o.guard = none) (s x : Operand) (t e : TypeId) (i : TypeInfo)
    (ho : o.op = .call { callee := .builtin .append, args := #[s, x], argTypes := #[t, t] }) (ht : P.underlying t = some (.slice e)) (hi : P.info? e = some i)
    (hs : a.eval s = .slice none 0 0) (A : Option Addr) (c : Nat) (hx : a.eval x = .slice A 0 c)
    (h : wpList P ops Q rest (a.put o.dst (.slice none 0 0)) w) : wpList P ops Q (o :: rest) a w := by
  refine wpList_plain hgd fun _ hK => ?_
  have hr : (Builtin.append_ #[t, t] o.type #[.slice none 0 0, .slice A 0 c]).run P w = .ok (.slice none 0 0) w := by
    cases A <;> simp [Builtin.append_, run_underlying ht, sizeOf, typeInfo, hi, Builtin.lenOf, Builtin.firstCells, loadCells, loadCellsFrom]
  unfold Oper.wp execOp
  simp only [ho, resolve, invoke, builtin, Sem.run_bind, Sem.run_pure, Result.andThen_ok, List.map_toArray, List.map_cons, List.map_nil, hs, hx, hr]
  exact hK _ _ h

/-! ### Rows of numbers of the call's own, each in a block of its own -/
abbrev Row := Value × List Int
/-- v's block is none of w's. -/
def Off (v u : Value) : Prop := ∀ g, v.ownBlock = some g → u.ownBlock ≠ some g
theorem Off.symm {v u : Value} (h : Off v u) : Off u v := fun g hg hv => h g hv hg

structure Rows (w : World) (B : Nat) (e : TypeId) (rs : List Row) : Prop where
  each : ∀ r ∈ rs, Nums w B e r.1 r.2
  apart : rs.Pairwise fun r s => Off r.1 s.1

section
variable {w w' : World} {B : Nat} {e : TypeId} {rs : List Row}
theorem Rows.below (h : Rows w B e rs) {B' : Nat} (hb : Below B' w w') (hB : w.heap.size ≤ B') : Rows w' B e rs := ⟨fun r hr => (h.each r hr).below hb hB, h.apart⟩
theorem Nums.lt_ {v : Value} {zs : List Int} (h : Nums w B e v zs) {g : Nat} (hg : v.ownBlock = some g) : B ≤ g ∧ g < w.heap.size := World.ownsRow.lt h g hg
/-- A row that a call made behind them. -/
theorem Rows.add (h : Rows w B e rs) (hb : Below w.heap.size w w') {v : Value} {zs : List Int} (hN : Nums w' w.heap.size e v zs) (hB : B ≤ w.heap.size) : Rows w' B e ((v, zs) :: rs) :=
  ⟨fun r hr => by
    rcases List.mem_cons.1 hr with rfl | hr
    · exact hN.low hB
    · exact (h.each r hr).below hb (Nat.le_refl _),
   List.pairwise_cons.2 ⟨fun r hr g hg hv => by
    have h1 := (hN.lt_ hg).1
    have h2 := ((h.each r hr).lt_ hv).2
    omega, h.apart⟩⟩
end
end Go.Proofs.YtmoffcgbjmeiaaaGreatDoor

namespace Go.Proofs.YtmoffcgbjmeiaaaGreatDoor
open Go.RowKit

/-- What has turned: from block B on, and only such as T says; new blocks are free. -/
structure Tn (B : Nat) (T : Obj → Bool) (w w' : World) : Prop where
  os : w'.os = w.os
  tape : w'.tape = w.tape
  output : w'.output = w.output
  size : w.heap.size ≤ w'.heap.size
  block : ∀ k o, w.heap[k]? = some o → (k < B ∨ T o = false) → w'.heap[k]? = some o
/-- Blocks of type e. -/
def cellsT (e : TypeId) : Obj → Bool
  | .cells _ t _ => t == e
  | _ => false
theorem cellsT_ne {e t : TypeId} (h : t ≠ e) (cs : Array Value) (fr : Nat × Nat) : cellsT e (.cells cs t fr) = false := beq_eq_false_iff_ne.2 h
section
variable {B : Nat} {T : Obj → Bool} {w w' w'' : World}
theorem Tn.refl (B : Nat) (T : Obj → Bool) (w : World) : Tn B T w w := ⟨rfl, rfl, rfl, Nat.le_refl _, fun _ _ h _ => h⟩
theorem Tn.trans (h : Tn B T w w') (g : Tn B T w' w'') : Tn B T w w'' := ⟨g.os.trans h.os, g.tape.trans h.tape, g.output.trans h.output, Nat.le_trans h.size g.size, fun k o hk ho => g.block k o (h.block k o hk ho) ho⟩
theorem Tn.of_below (h : Below w.heap.size w w') : Tn B T w w' := ⟨h.os, h.tape, h.output, h.size, fun k _o hk _ => (h.block k (Array.getElem?_eq_some_iff.1 hk).1).trans hk⟩
theorem Tn.of_grown (h : w.grownBy w' none) : Tn B T w w' := ⟨h.os, h.tape, h.output, h.size, fun k o hk _ => (h.block k (Array.getElem?_eq_some_iff.1 hk).1 (by simp)).trans hk⟩
theorem Tn.alloc (h : Tn B T w w') (o : Obj) : Tn B T w (w'.alloc o) := h.trans (Tn.of_grown (World.grownBy_alloc w' o none))
theorem Tn.drew (h : Tn B T w w') : Tn B T w w'.drew := ⟨h.os, h.tape, h.output, h.size, h.block⟩
theorem Tn.drewN (h : Tn B T w w') (n : Nat) : Tn B T w (w'.drewN n) := ⟨h.os, h.tape, h.output, h.size, h.block⟩
theorem Tn.row {row : Option Nat} (h : Tn B T w w') (g : w'.grownBy w'' row) (hr : ∀ k, row = some k → w.heap.size ≤ k ∨ (B ≤ k ∧ ∃ o, w'.heap[k]? = some o ∧ T o = true)) : Tn B T w w'' := by
  refine ⟨g.os.trans h.os, g.tape.trans h.tape, g.output.trans h.output, Nat.le_trans h.size g.size, fun k o hk ho => ?_⟩
  have h1 := h.block k o hk ho
  by_cases e : some k = row
  · exfalso
    have hlt := (Array.getElem?_eq_some_iff.1 hk).1
    rcases hr k e.symm with h2 | ⟨h2, o', h3, h4⟩
    · omega
    · rw [h1] at h3
      cases h3
      rcases ho with ho | ho
      · omega
      · rw [h4] at ho; cases ho
  · exact (g.block k (Array.getElem?_eq_some_iff.1 h1).1 e).trans h1
theorem Tn.setCell (h : Tn B T w w') {p : Addr} (hp : w.heap.size ≤ p.block ∨ (B ≤ p.block ∧ ∃ o, w'.heap[p.block]? = some o ∧ T o = true)) (u : Value) : Tn B T w (w'.setCell p u) :=
  h.row (row := some p.block) (only_setCell ⟨rfl, rfl, rfl, Nat.le_refl _, fun _ _ _ => rfl⟩ (Or.inl rfl) u) (fun k hk => by cases hk; exact hp)
theorem Tn.below (h : Tn B T w w') (hB : B ≤ w.heap.size) : Below B w w' :=
  ⟨h.os, h.tape, h.output, h.size, fun k hk => by
    have hlt : k < w.heap.size := by omega
    rw [h.block k _ (Array.getElem?_eq_getElem hlt) (Or.inl hk), Array.getElem?_eq_getElem hlt]⟩
theorem Tn.blk (h : Tn B T w w') {g : Nat} {t : TypeId} {cs : Array Value} (hb : Blk w g t cs) (hT : T (.cells cs t (0, 0)) = false) : Blk w' g t cs := h.block g _ hb (Or.inr hT)
theorem Tn.own (h : Tn B T w w') {b : Nat} {e : TypeId} {sz : Nat} {v : Value} {n : Nat} {xs : List Value} (hown : w.ownsRow b e sz v n xs) (hT : ∀ cs fr, T (.cells cs e fr) = false) : w'.ownsRow b e sz v n xs := by
  obtain ⟨h1, h2⟩ := hown
  refine ⟨h1, ?_⟩
  rcases h2 with h2 | ⟨g, cap, cur, e1, e2, e3, e4⟩
  · exact Or.inl h2
  · exact Or.inr ⟨g, cap, cur, e1, e2, h.block g _ e3 (Or.inr (hT _ _)), e4⟩
theorem Tn.mono {T' : Obj → Bool} (h : Tn B T w w') (hT : ∀ o, T' o = false → T o = false) : Tn B T' w w' := ⟨h.os, h.tape, h.output, h.size, fun k o hk ho => h.block k o hk (ho.imp id (hT o))⟩
/-- A row of the kind grew. -/
theorem Tn.grow {e : TypeId} {sz n : Nat} {v : Value} {xs : List Value} (h : Tn B (cellsT e) w w') (hown : w'.ownsRow B e sz v n xs) (g : w'.grownBy w'' v.ownBlock) : Tn B (cellsT e) w w'' :=
  h.row g (fun k hk => by
    rcases hown.2 with ⟨rfl, _⟩ | ⟨g, cap, cur, rfl, hb, hh, _⟩
    · cases hk
    · cases hk
      exact Or.inr ⟨hb, _, hh, beq_self_eq_true e⟩)
end

/-- Elements of a kind: their cells, and their marks. -/
structure El (α : Type) where
  cl : α → List Value
  sz : Nat
  pos : 0 < sz
  len : ∀ x, (cl x).length = sz
  one : ∀ x, ∀ u ∈ cl x, u.oneCell' = true
  mark : Nat → Nat → α
section
variable {α : Type} (E : El α)
def El.row (L : List α) : List Value := L.flatMap E.cl
theorem El.row_length (L : List α) : (E.row L).length = L.length * E.sz := by
  induction L with
  | nil => simp [El.row]
  | cons x L ih => simp only [El.row, List.flatMap_cons, List.length_append, List.length_cons] at *; rw [E.len, ih, Nat.add_mul, Nat.one_mul, Nat.add_comm]
theorem El.row_append (L M : List α) : E.row (L ++ M) = E.row L ++ E.row M := by simp [El.row]
theorem El.row_one (x : α) : E.row [x] = E.cl x := by simp [El.row]
theorem El.row_oneCell (L : List α) : ∀ u ∈ E.row L, u.oneCell' = true := by
  intro u hu
  obtain ⟨m, _, hm⟩ := List.mem_flatMap.1 hu
  exact E.one m u hm
theorem El.row_drop (L : List α) : ∀ i, E.row (L.drop i) = (E.row L).drop (i * E.sz) := by
  induction L with
  | nil => intro i; simp [El.row]
  | cons x L ih =>
    intro i
    cases i with
    | zero => simp
    | succ i =>
      rw [List.drop_succ_cons, ih i]
      simp only [El.row, List.flatMap_cons]
      rw [show (i + 1) * E.sz = (E.cl x).length + i * E.sz by rw [E.len, Nat.add_mul, Nat.one_mul, Nat.add_comm], List.drop_append, show List.drop ((E.cl x).length + i * E.sz) (E.cl x) = [] from List.drop_eq_nil_of_le (by omega), List.nil_append, Nat.add_sub_cancel_left]
theorem El.row_at (L : List α) (i j : Nat) (x : α) (h : L[i]? = some x) (hj : j < E.sz) : (E.row L)[i * E.sz + j]? = (E.cl x)[j]? := by
  have hd := E.row_drop L i
  have hi := (List.getElem?_eq_some_iff.1 h).1
  rw [List.drop_eq_getElem_cons hi, (List.getElem?_eq_some_iff.1 h).2] at hd
  have e : E.row (x :: L.drop (i + 1)) = E.cl x ++ E.row (L.drop (i + 1)) := rfl
  rw [e] at hd
  have := congrArg (fun l : List Value => l[j]?) hd
  simp only [List.getElem?_drop] at this
  rw [List.getElem?_append_left (by rw [E.len]; exact hj)] at this
  exact this.symm
/-- The marks of list i, from a place on. -/
def El.marks (i start n : Nat) : List α := (List.range n).map fun k => E.mark i (start + k)
theorem El.marks_length (i start n : Nat) : (E.marks i start n).length = n := by simp [El.marks]
theorem El.marks_succ (i start n : Nat) : E.marks i start (n + 1) = E.marks i start n ++ [E.mark i (start + n)] := by
  unfold El.marks
  rw [List.range_succ, List.map_append]
  rfl
theorem El.marks_append (i start n m : Nat) : E.marks i start n ++ E.marks i (start + n) m = E.marks i start (n + m) := by
  induction m with
  | zero => simp [El.marks]
  | succ m ih => rw [El.marks_succ, ← List.append_assoc, ih, ← Nat.add_assoc, El.marks_succ, Nat.add_assoc]
theorem El.marks_at (i n j : Nat) (hj : j < n) : (E.marks i 0 n)[j]? = some (E.mark i j) := by
  unfold El.marks
  rw [List.getElem?_map, List.getElem?_range hj]
  simp
end

/-- A row of the call's own, of a kind. -/
def Own {α : Type} (E : El α) (w : World) (B : Nat) (e : TypeId) (v : Value) (L : List α) : Prop := w.ownsRow B e E.sz v L.length (E.row L)
section
variable {α : Type} {E : El α} {w w' : World} {B : Nat} {e : TypeId} {v : Value} {L : List α}
theorem Own.tn (h : Own E w B e v L) {B' : Nat} {T : Obj → Bool} (g : Tn B' T w w') (hT : ∀ cs fr, T (.cells cs e fr) = false) : Own E w' B e v L := g.own h hT
theorem Own.below (h : Own E w B e v L) (g : Below w.heap.size w w') : Own E w' B e v L := (Tn.of_below (B := 0) (T := fun _ => false) g).own h (fun _ _ => rfl)
theorem Own.low (h : Own E w B e v L) {B' : Nat} (hB : B' ≤ B) : Own E w B' e v L := World.ownsRow.mono h hB
theorem Own.lt (h : Own E w B e v L) {g : Nat} (hg : v.ownBlock = some g) : B ≤ g ∧ g < w.heap.size := World.ownsRow.lt h g hg
theorem Own.slice (h : Own E w B e v L) : ∃ a c, v = .slice a L.length c := by
  rcases h.2 with ⟨rfl, h0⟩ | ⟨g, cap, cur, rfl, _⟩
  · exact ⟨none, 0, by rw [h0]⟩
  · exact ⟨_, _, rfl⟩
theorem Own.some_ (h : Own E w B e v L) (hn : 0 < L.length) : ∃ g c cur, v = .slice (some ⟨g, 0, none⟩) L.length c ∧ B ≤ g ∧ w.heap[g]? = some (.cells cur e (0, 0)) := by
  rcases h.2 with ⟨_, h0⟩ | ⟨g, cap, cur, hv, hb, hh, _⟩
  · omega
  · exact ⟨g, cap, cur, hv, hb, hh⟩
theorem Own.cells {g n c : Nat} (h : Own E w B e (.slice (some ⟨g, 0, none⟩) n c) L) {i j : Nat} {x : α} {u : Value} (hx : L[i]? = some x) (hj : j < E.sz) (hu : (E.cl x)[j]? = some u) : w.cell? ⟨g, i * E.sz + j, none⟩ = some u := by
  have := World.ownsRow.cells h (g := g) rfl (i * E.sz + j) u (by rw [E.row_at L i j x hx hj]; exact hu)
  rwa [Addr.add_lit, Nat.zero_add] at this
end

/-- m rows of a kind, apart. -/
structure Rwk {α : Type} (E : El α) (w : World) (B : Nat) (e : TypeId) (m : Nat) (a : Nat → Value) (F : Nat → List α) : Prop where
  each : ∀ i, i < m → Own E w B e (a i) (F i)
  apart : ∀ i j, i < m → j < m → i ≠ j → Off (a i) (a j)
theorem Rwk.tn {α : Type} {E : El α} {w w' : World} {B : Nat} {e : TypeId} {m : Nat} {a : Nat → Value} {F : Nat → List α} (h : Rwk E w B e m a F) {B' : Nat} {T : Obj → Bool} (g : Tn B' T w w') (hT : ∀ cs fr, T (.cells cs e fr) = false) : Rwk E w' B e m a F := ⟨fun i hi => (h.each i hi).tn g hT, h.apart⟩
theorem Rwk.below {α : Type} {E : El α} {w w' : World} {B : Nat} {e : TypeId} {m : Nat} {a : Nat → Value} {F : Nat → List α} (h : Rwk E w B e m a F) (g : Below w.heap.size w w') : Rwk E w' B e m a F := ⟨fun i hi => (h.each i hi).below g, h.apart⟩

/-- f, but x at k. -/
def upk {α : Type} (f : Nat → α) (k : Nat) (x : α) : Nat → α := fun i => if i = k then x else f i
theorem upk_at {α : Type} (f : Nat → α) (k : Nat) (x : α) : upk f k x k = x := if_pos rfl
theorem upk_ne {α : Type} (f : Nat → α) {k i : Nat} (x : α) (h : i ≠ k) : upk f k x i = f i := if_neg h
theorem upk_upk {α : Type} (f : Nat → α) (k : Nat) (x y : α) : upk (upk f k x) k y = upk f k y := by
  funext i; unfold upk; split <;> rfl
theorem upk_self {α : Type} (f : Nat → α) (k : Nat) (x : α) (h : f k = x) : upk f k x = f := by
  funext i; unfold upk; split
  · next e => rw [e, h]
  · rfl
theorem range_upk (b : Nat → Value) (k : Nat) (x : Value) : (List.range k).map b ++ [x] = (List.range (k + 1)).map (upk b k x) := by
  rw [List.range_succ, List.map_append, List.map_singleton, upk_at]
  congr 1
  refine List.map_congr_left fun i hi => ?_
  rw [upk_ne]
  have := List.mem_range.1 hi
  omega

theorem own_shrk {w : World} {B g n n' c sz : Nat} {e : TypeId} {xs ys : List Value} (h : w.ownsRow B e sz (.slice (some ⟨g, 0, none⟩) (n + n') c) (n + n') (xs ++ ys)) (hx : xs.length = n * sz) : w.ownsRow B e sz (.slice (some ⟨g, 0, none⟩) n c) n xs := by
  rcases h.2 with ⟨h', _⟩ | ⟨g', cap, cur, h', hb, hh, hnc, hcm, hcs, htake⟩
  · simp at h'
  · simp only [Value.slice.injEq, Option.some.injEq, Addr.mk.injEq, and_true, true_and] at h'
    obtain ⟨rfl, rfl⟩ := h'
    refine ⟨hx, .inr ⟨g, c, cur, rfl, hb, hh, by omega, hcm, hcs, ?_⟩⟩
    rw [← hx]
    have := congrArg (List.take xs.length) htake
    rw [List.take_take, Nat.min_eq_left (by rw [hx]; exact Nat.mul_le_mul_right _ (by omega))] at this
    rw [this, List.take_left]
theorem own_capk {w : World} {B B' g n n' c sz : Nat} {e : TypeId} {v : Value} {xs ys : List Value} (hs : 0 < sz) (h1 : w.ownsRow B e sz (.slice (some ⟨g, 0, none⟩) n c) n xs) (h2 : w.ownsRow B' e sz v n' ys) (hb : v.ownBlock = some g) : v = .slice (some ⟨g, 0, none⟩) n' c := by
  rcases h1.2 with ⟨h', _⟩ | ⟨g', cap, cur, h', _, hh, _, _, hcs, _⟩
  · simp at h'
  · simp only [Value.slice.injEq, Option.some.injEq, Addr.mk.injEq, and_true, true_and] at h'
    obtain ⟨rfl, rfl⟩ := h'
    rcases h2.2 with ⟨rfl, _⟩ | ⟨g2, cap2, cur2, rfl, _, hh2, _, _, hcs2, _⟩
    · simp [Value.ownBlock] at hb
    · simp [Value.ownBlock] at hb
      subst hb
      rw [hh] at hh2
      injection hh2 with hh2
      injection hh2 with h3
      subst h3
      rw [show cap2 = c from Nat.eq_of_mul_eq_mul_right hs (by omega)]
theorem offk_none {v u : Value} (h : Off v u) : u.ownBlock = none ∨ u.ownBlock ≠ v.ownBlock := by
  cases hu : u.ownBlock with
  | none => exact Or.inl rfl
  | some g => exact Or.inr fun e => h g e.symm hu

/-- m rows and what has grown out of them: apart, but that a row may lie at the head of what has grown out of it. -/
structure Famk {α : Type} (E : El α) (w : World) (B : Nat) (e : TypeId) (m : Nat) (a b : Nat → Value) (F H : Nat → List α) : Prop where
  ra : ∀ i, i < m → Own E w B e (a i) (F i)
  rb : ∀ i, i < m → Own E w B e (b i) (H i)
  oaa : ∀ i j, i < m → j < m → i ≠ j → Off (a i) (a j)
  oab : ∀ i j, i < m → j < m → i ≠ j → Off (a i) (b j)
  obb : ∀ i j, i < m → j < m → i ≠ j → Off (b i) (b j)
  tie : ∀ i, i < m → Off (a i) (b i) ∨ ∃ g c ys, a i = .slice (some ⟨g, 0, none⟩) (F i).length c ∧ b i = .slice (some ⟨g, 0, none⟩) (H i).length c ∧ H i = F i ++ ys
section
variable {α : Type} {E : El α} {w w' : World} {B : Nat} {e : TypeId} {m : Nat} {a b : Nat → Value} {F H : Nat → List α}
theorem Famk.start (h : Rwk E w B e m a F) : Famk E w B e m a a F F :=
  ⟨h.each, h.each, h.apart, h.apart, h.apart, fun i hi => by
    rcases (h.each i hi).2 with ⟨e, _⟩ | ⟨g, cap, cur, e, _⟩
    · exact Or.inl fun g hg => by rw [e] at hg; simp [Value.ownBlock] at hg
    · exact Or.inr ⟨g, cap, [], e, e, by simp⟩⟩
theorem Famk.tn (h : Famk E w B e m a b F H) {B' : Nat} {T : Obj → Bool} (g : Tn B' T w w') (hT : ∀ cs fr, T (.cells cs e fr) = false) : Famk E w' B e m a b F H := ⟨fun i hi => (h.ra i hi).tn g hT, fun i hi => (h.rb i hi).tn g hT, h.oaa, h.oab, h.obb, h.tie⟩
theorem Famk.below (h : Famk E w B e m a b F H) (g : Below w.heap.size w w') : Famk E w' B e m a b F H := h.tn (Tn.of_below (B := 0) (T := fun _ => false) g) (fun _ _ => rfl)
theorem Famk.append (h : Famk E w B e m a b F H) {k : Nat} (hk : k < m) {v' : Value} {zs : List α} {p : Nat} (hp : zs.length = p)
    (hown : w'.ownsRow B e E.sz v' ((H k).length + p) (E.row (H k) ++ E.row zs)) (hgr : w.grownBy w' (b k).ownBlock)
    (hold : Own E w' B e (b k) (H k)) (hblk : v'.ownBlock = (b k).ownBlock ∨ ∀ g, v'.ownBlock = some g → w.heap.size ≤ g) :
    Famk E w' B e m a (upk b k v') F (upk H k (H k ++ zs)) := by
  have kept : ∀ u xs, Own E w B e u xs → Off (b k) u → Own E w' B e u xs := fun u xs hu ho => World.ownsRow.kept hu hgr (offk_none ho)
  have offv : ∀ u xs, Own E w B e u xs → Off u (b k) → Off u v' := by
    intro u xs hu ho g hg hv
    rcases hblk with e | e
    · exact ho g hg (e ▸ hv)
    · have h1 := e g hv
      have h2 := (hu.lt hg).2
      omega
  refine ⟨fun i hi => ?_, fun i hi => ?_, h.oaa, fun i j hi hj hij => ?_, fun i j hi hj hij => ?_, fun i hi => ?_⟩
  · by_cases hik : i = k
    · subst hik
      rcases h.tie i hi with ho | ⟨g, c, ys, ea, eb, eh⟩
      · exact kept _ _ (h.ra i hi) ho.symm
      · unfold Own at hold ⊢
        rw [eb, eh, List.length_append, E.row_append] at hold
        rw [ea]
        exact own_shrk hold (E.row_length _)
    · exact kept _ _ (h.ra i hi) (h.oab i k hi hk hik).symm
  · by_cases hik : i = k
    · subst hik
      rw [upk_at, upk_at]
      unfold Own
      rw [List.length_append, E.row_append, hp]
      exact hown
    · rw [upk_ne _ _ hik, upk_ne _ _ hik]
      exact kept _ _ (h.rb i hi) (h.obb i k hi hk hik).symm
  · by_cases hjk : j = k
    · subst hjk
      rw [upk_at]
      exact offv _ _ (h.ra i hi) (h.oab i j hi hj hij)
    · rw [upk_ne _ _ hjk]
      exact h.oab i j hi hj hij
  · by_cases hjk : j = k
    · subst hjk
      rw [upk_at, upk_ne _ _ hij]
      exact offv _ _ (h.rb i hi) (h.obb i j hi hj hij)
    · rw [upk_ne _ _ hjk]
      by_cases hik : i = k
      · subst hik
        rw [upk_at]
        exact (offv _ _ (h.rb j hj) (h.obb j i hj hi (Ne.symm hij))).symm
      · rw [upk_ne _ _ hik]
        exact h.obb i j hi hj hij
  · by_cases hik : i = k
    · subst hik
      rw [upk_at, upk_at]
      rcases h.tie i hi with ho | ⟨g, c, ys, ea, eb, eh⟩
      · exact Or.inl (offv _ _ (h.ra i hi) ho)
      · rcases hblk with e | e
        · refine Or.inr ⟨g, c, ys ++ zs, ea, ?_, by rw [eh, List.append_assoc]⟩
          unfold Own at hold
          rw [eb] at hold e
          rw [List.length_append, hp]
          exact own_capk E.pos hold hown e
        · refine Or.inl fun g' hg' hv => ?_
          have h1 := e g' hv
          have h2 := ((h.ra i hi).lt hg').2
          omega
    · rw [upk_ne _ _ hik, upk_ne _ _ hik]
      exact h.tie i hi
theorem Famk.marked {k N p : Nat} {l l' : Value} (h : Famk E w B e m a (upk b k l) F (upk H k (E.marks k 0 N))) (hk : k < m)
    (hown : w'.ownsRow B e E.sz l' (N + p) (E.row (E.marks k 0 N) ++ E.row (E.marks k N p))) (hgr : w.grownBy w' l.ownBlock)
    (hold : w'.ownsRow B e E.sz l N (E.row (E.marks k 0 N))) (hblk : l'.ownBlock = l.ownBlock ∨ ∀ g, l'.ownBlock = some g → w.heap.size ≤ g) :
    Famk E w' B e m a (upk b k l') F (upk H k (E.marks k 0 (N + p))) := by
  have := Famk.append h hk (v' := l') (zs := E.marks k N p) (p := p) (E.marks_length _ _ _) (by rw [upk_at, E.marks_length]; exact hown) (by rw [upk_at]; exact hgr) (by unfold Own; rw [upk_at, upk_at, E.marks_length]; exact hold) (by rw [upk_at]; exact hblk)
  rw [upk_upk, upk_upk, upk_at] at this
  have e := E.marks_append k 0 N p
  rw [Nat.zero_add] at e
  rw [e] at this
  exact this
end

/-- 'append(r, l...)' of elements of a kind, be l none. -/
theorem app_own {P : Program} {α : Type} (E : El α) (te e : TypeId) (z : Value) (bytes : Nat) (ht : P.underlying te = some (.slice e)) (hinfo : (P.info? e).map (fun i => (i.zero, i.size, i.bytes)) = some (some z, E.sz, bytes)) (hzs : z.cells.size = E.sz)
    (w : World) (base : Nat) (v : Value) (L M : List α) (hown : Own E w base e v L) (A : Option Addr) (c : Nat) (hA : A = none → M = []) (hM : ∀ a, A = some a → ∀ j u, (E.row M)[j]? = some u → w.cell? (a.add j) = some u)
    (h63 : L.length + M.length ≤ maxLen) (hbytes : (L.length + M.length) * bytes ≤ 140737488355328) (hbase : base ≤ w.heap.size) (m : Nat) (hm : m = M.length) :
    ∃ v' w', (∀ ty, (Builtin.append_ #[te, te] ty #[v, .slice A m c]).run P w = .ok v' w') ∧ Own E w' base e v' (L ++ M) ∧ w.grownBy w' v.ownBlock ∧ Own E w' base e v L ∧ (v'.ownBlock = v.ownBlock ∨ ∀ g, v'.ownBlock = some g → w.heap.size ≤ g) := by
  obtain ⟨i0, hi, hz, hsize, hby⟩ := info_parts hinfo
  subst hm
  cases A with
  | some a =>
    obtain ⟨v', w', hr, h2, h3, _⟩ := run_append_own (P := P) w base te 0 e i0 z E.sz bytes ht hi hz hsize hby hzs E.pos v L.length (E.row L) hown a M.length c (E.row M) (E.row_length M) (hM a rfl) (E.row_oneCell M) h63 hbytes hbase
    obtain ⟨h4, h5⟩ := append_keep w base te 0 e i0 z E.sz bytes ht hi hz hsize hby v L.length (E.row L) hown a M.length c (E.row M) (E.row_length M) (hM a rfl) (E.row_oneCell M) h63 hbytes v' w' hr
    refine ⟨v', w', fun ty => by rw [← hr]; rfl, ?_, h3, h4, h5⟩
    unfold Own
    rw [List.length_append, E.row_append]
    exact h2
  | none =>
    obtain rfl := hA rfl
    have hr : ∀ ty, (Builtin.append_ #[te, te] ty #[v, .slice none 0 c]).run P w = .ok v w := fun ty => by
      rcases hown.2 with ⟨rfl, _⟩ | ⟨g, cap, cur, rfl, _, _, hle, _⟩
      · simp [Builtin.append_, run_underlying ht, sizeOf, typeInfo, hi, Builtin.lenOf, Builtin.firstCells]
      · simp [Builtin.append_, run_underlying ht, sizeOf, typeInfo, hi, Builtin.lenOf, Builtin.firstCells, loadCells, storeCells, hle]
    exact ⟨v, w, hr, by rw [List.append_nil]; exact hown, ⟨rfl, rfl, rfl, Nat.le_refl _, fun _ _ _ => rfl⟩, hown, Or.inl rfl⟩
/-- An append whose run is known: in a region that draws nothing, and in one that draws. -/
theorem wpList_append_k {P : Program} (w w' : World) {ops : Array Oper} {rest : List Oper} {o : Oper} {a : Act} {Q : Exit → Act → World → Prop} (hgd : o.guard = none) (s x : Operand) (t : TypeId)
    (ho : o.op = .call { callee := .builtin .append, args := #[s, x], argTypes := #[t, t] }) (vs vx v : Value) (hs : a.eval s = vs) (hx : a.eval x = vx) (hrun : ∀ ty, (Builtin.append_ #[t, t] ty #[vs, vx]).run P w = .ok v w')
    (h : wpList P ops Q rest (a.put o.dst v) w') : wpList P ops Q (o :: rest) a w := by
  refine wpList_plain hgd fun _ hK => ?_
  unfold Oper.wp execOp
  simp only [ho, resolve, invoke, builtin, Sem.run_bind, Sem.run_pure, Result.andThen_ok, List.map_toArray, List.map_cons, List.map_nil, hs, hx, hrun]
  exact hK _ _ h
theorem step_append_k {P : Program} {ops : Array Oper} {o : Oper} {a : Act} {w w' : World} {K : Act → World → Prop} {Q : Exit → Act → World → Prop} {E : Prop}
    (hg : o.guard = none) (s x : Operand) (t : TypeId) (hop : o.op = Op.call { callee := Callee.builtin Builtin.append, args := #[s, x], argTypes := #[t, t] })
    (vs vx v : Value) (hs : a.eval s = vs) (hx : a.eval x = vx) (hrun : (Builtin.append_ #[t, t] o.type #[vs, vx]).run P w = .ok v w') (hK : K (a.put o.dst v) w') :
    if Region.wanted o (yielded ops a.tmps) = true then Oper.wp P o a w K Q else E := by
  have hw : Region.wanted o (yielded ops a.tmps) = true := by simp [Region.wanted, hg]
  rw [if_pos hw]
  unfold Oper.wp
  simp [execOp, hop, resolve, invoke, builtin, hs, hx, hrun, Result.andThen]
  exact hK
/-- All that is in a block of its own can be read. -/
theorem own_reads {α : Type} {E : El α} {w : World} {B : Nat} {e : TypeId} {A : Option Addr} {n c : Nat} {L : List α} (h : Own E w B e (.slice A n c) L) : n = L.length ∧ (A = none → L = []) ∧ ∀ a, A = some a → ∀ j u, (E.row L)[j]? = some u → w.cell? (a.add j) = some u := by
  have hc := fun g hg => World.ownsRow.cells h (g := g) hg
  rcases h.2 with ⟨h1, h0⟩ | ⟨g, cap, cur, hv, _⟩
  · injection h1 with e1 e2 e3
    subst e1 e2
    exact ⟨h0.symm, fun _ => List.eq_nil_of_length_eq_zero h0, fun a ha => by cases ha⟩
  · injection hv with e1 e2 e3
    subst e1
    exact ⟨e2, (fun h => by cases h), fun a ha => by cases ha; exact hc g rfl⟩
/-- Grown in a row that is new: grown in none. -/
theorem grow_k {a b c : World} {base : Nat} {e : TypeId} {sz n : Nat} {v : Value} {xs : List Value} (h : a.grownBy b none) (hown : b.ownsRow base e sz v n xs) (hb : a.heap.size ≤ base) (g : b.grownBy c v.ownBlock) : a.grownBy c none :=
  ⟨g.os.trans h.os, g.tape.trans h.tape, g.output.trans h.output, Nat.le_trans h.size g.size, fun k hk _ => (g.block k (Nat.lt_of_lt_of_le hk h.size) (fun e => by have := (hown.lt k e.symm).1; omega)).trans (h.block k hk (by simp))⟩
theorem gnone {a b c : World} (h : a.grownBy b none) (g : b.grownBy c none) : a.grownBy c none :=
  ⟨g.os.trans h.os, g.tape.trans h.tape, g.output.trans h.output, Nat.le_trans h.size g.size, fun k hk _ => (g.block k (Nat.lt_of_lt_of_le hk h.size) (by simp)).trans (h.block k hk (by simp))⟩
theorem grefl (w : World) (row : Option Nat) : w.grownBy w row := ⟨rfl, rfl, rfl, Nat.le_refl _, fun _ _ _ => rfl⟩
theorem below_g {w w' : World} (h : w.grownBy w' none) : Below w.heap.size w w' := ⟨h.os, h.tape, h.output, h.size, fun k hk => h.block k hk (by simp)⟩
theorem g_below {w w' : World} (h : Below w.heap.size w w') : w.grownBy w' none := ⟨h.os, h.tape, h.output, h.size, fun k hk _ => h.block k hk⟩
end Go.Proofs.YtmoffcgbjmeiaaaGreatDoor

namespace Go.Proofs.YtmoffcgbjmeiaaaGreatDoor
open Go.RowKit Go.Shelf

/-- The builder in block b holds these bytes. -/
abbrev IsF (B b : Nat) (l : List UInt8) (w : World) : Prop := Lib.IsBuilderF 64 5 B b (Lib.byteCells l) w
theorem isF_new (w : World) : IsF w.heap.size w.heap.size [] (w.alloc (.cells #[.pointer none, .slice none 0 0] 64)) := Lib.IsBuilderF.of (Lib.fresh_isBuilder _ _ w)
theorem isF_below {B b B' : Nat} {l : List UInt8} {w w' : World} (h : IsF B b l w) (hb : Below B' w w') (hB : w.heap.size ≤ B') : IsF B b l w' := by
  have key : ∀ p, Lib.BuilderAtF 64 5 B b p (Lib.byteCells l) w → Lib.BuilderAtF 64 5 B b p (Lib.byteCells l) w' := by
    rintro p hh
    have hlt := hh.lt
    obtain ⟨h1, v, h2, h3, h4⟩ := hh
    refine ⟨h1, v, (hb.block b (by omega)).trans h2, ⟨h3.1, ?_⟩, h4⟩
    rcases h3.2 with hn | ⟨g, cap, cur, fz, hv, hg, hh, r⟩
    · exact Or.inl hn
    · exact Or.inr ⟨g, cap, cur, fz, hv, hg, (hb.block g (Nat.lt_of_lt_of_le (Array.getElem?_eq_some_iff.1 hh).1 hB)).trans hh, r⟩
  exact h.elim (fun x => Or.inl (key _ x)) (fun x => Or.inr (key _ x))

/-- What a builder turns: itself, and its bytes. -/
def bT (o : Obj) : Bool := cellsT 64 o || cellsT 5 o
theorem bT_ne {t : TypeId} (h1 : t ≠ 64) (h2 : t ≠ 5) (cs : Array Value) (fr : Nat × Nat) : bT (.cells cs t fr) = false := by
  unfold bT
  rw [cellsT_ne h1, cellsT_ne h2]
  rfl
theorem isF_tn {B b : Nat} {l : List UInt8} {w w' : World} (h : IsF B b l w) (hb : Below w.heap.size w w') : IsF B b l w' := isF_below h hb (Nat.le_refl _)

theorem bcheckF_any (B b : Nat) (l : List UInt8) (w : World) (h : IsF B b l w) :
    Calls Tryz.prog 99 #[.pointer (some ⟨b, 0, none⟩)] w fun e w' => e = .returned (.tuple #[]) ∧ (Lib.BuilderAtF 64 5 B b (.pointer (some ⟨b, 0, none⟩)) (Lib.byteCells l) w' ∧ Tn B bT w w') := by
  rcases h with h | h
  · refine (bcheck_fresh b w h.cell0 h.shape h.frozen0).mono fun _ _ ⟨he, hw⟩ => ⟨he, by subst hw; exact h.used _, ?_⟩
    subst hw
    obtain ⟨hB, v, hbk, _⟩ := h
    exact (Tn.refl B bT w).setCell (p := ⟨b, 0, none⟩) (Or.inr ⟨hB, _, hbk, rfl⟩) _
  · exact (bcheck_used b w h.cell0).mono fun _ _ ⟨he, hw⟩ => ⟨he, by subst hw; exact h, by subst hw; exact Tn.refl B _ _⟩

set_option maxHeartbeats 2000000 in
set_option maxRecDepth 100000 in
theorem bstrF_any (B b : Nat) (l : List UInt8) (s : ByteArray) (w : World) (h : IsF B b l w) (hlen : l.length + s.size ≤ 140737488355328) (hBw : B ≤ w.heap.size) :
    Calls Tryz.prog 27 #[.pointer (some ⟨b, 0, none⟩), .string s] w fun e w' => e = .returned (.tuple #[.int .i64 s.size, .nilIface]) ∧ IsF B b (l ++ s.data.toList) w' ∧ Tn B bT w w' := by
  obtain ⟨i0, hi, hz0, hz1, hz2⟩ := info_parts bu8
  have C := Lib.hid (bcheckF_any B b l w h)
  clear h
  go_enter Tryz.func27, Tryz.ntmps27
  go_wp2_with fail
  refine C.out.mono ?_
  rintro e w1 ⟨rfl, h1, ht1⟩
  have hb1 := ht1.below hBw
  obtain ⟨hB, v, hbk, hown, hne⟩ := h1
  have c1 : w1.cell? ⟨b, 1, none⟩ = some v := by rw [Lib.cell_of_heap hbk]; rfl
  go_wp2_with (at_builtin; refine Lib.wpList_append_own_stringF _ rfl _ _ 54 9 rfl B 5 i0 Tryz.underlying54 Tryz.underlying9 hi hz0 hz1 hz2 _ _ _ rfl hown s rfl ?c3 ?c4 ?c5 ?_)
  case c3 => rw [Lib.byteCells_length]; unfold maxLen; omega
  case c4 => rw [Lib.byteCells_length]; omega
  case c5 => have := hb1.size; omega
  intro v' w2 hown' hgrow _
  have hlt : b < w1.heap.size := by
    rcases Nat.lt_or_ge b w1.heap.size with h' | h'
    · exact h'
    · simp [Array.getElem?_eq_none h'] at hbk
  have hb2 : w2.heap[b]? = some (.cells #[.pointer (some ⟨b, 0, none⟩), v] 64 (0, 0)) := by
    rw [hgrow.block b hlt (fun e => hne e.symm)]
    exact hbk
  have d1 : w2.cell? ⟨b, 1, none⟩ = some v := by rw [Lib.cell_of_heap hb2]; rfl
  have f1 : w2.frozen? ⟨b, 1, none⟩ = false := Lib.frozen_of_heap hb2 1
  obtain ⟨ao, n', cap, rfl⟩ : ∃ ao n' cap, v' = .slice ao n' cap := by
    rcases hown'.2 with ⟨hv, _⟩ | ⟨g, cap, cur, fz, hv, _⟩
    · exact ⟨_, _, _, hv⟩
    · exact ⟨_, _, _, hv⟩
  have e : Lib.byteCells (l ++ s.data.toList) = Lib.byteCells l ++ Lib.strCells s := by unfold Lib.byteCells Lib.strCells; rw [List.map_append]
  go_wp2
  go_ret2
  refine ⟨rfl, Or.inr ?_, ?_⟩
  · rw [e]
    exact Lib.BuilderAtF.put (T := 64) (e := 5) hB hb2 (bs' := Lib.byteCells l ++ Lib.strCells s) (by rw [List.length_append, Lib.strCells_length]; exact hown') (by decide)
  · refine (ht1.row hgrow (fun k hk => ?_)).setCell (p := ⟨b, 1, none⟩) (Or.inr ⟨hB, _, hb2, rfl⟩) _
    rcases hown.2 with ⟨hv, _⟩ | ⟨g, cap, cur, fz, hv, hg, hh, _⟩
    · rw [hv] at hk; cases hk
    · rw [hv] at hk
      cases hk
      exact Or.inr ⟨hg, _, hh, rfl⟩
theorem blenF_any (B b : Nat) (l : List UInt8) (w : World) (h : IsF B b l w) :
    Calls Tryz.prog 26 #[.pointer (some ⟨b, 0, none⟩)] w fun e w' => e = .returned (.int .i64 l.length) ∧ w' = w := by
  have := Tryz.Builder_Len_f B b (Lib.byteCells l) w h
  rw [Lib.byteCells_length] at this
  exact this
theorem bstringF_any (B b : Nat) (l : List UInt8) (w : World) (h : IsF B b l w) (hBw : B ≤ w.heap.size) :
    Calls Tryz.prog 30 #[.pointer (some ⟨b, 0, none⟩)] w fun e w' => e = .returned (.string ⟨l.toArray⟩) ∧ IsF B b l w' ∧ Below B w w' := Tryz.Builder_String_any_f B b l w h hBw
end Go.Proofs.YtmoffcgbjmeiaaaGreatDoor

namespace Go.Proofs.YtmoffcgbjmeiaaaGreatDoor
open Go.RowKit

theorem three_pv : ∀ (N : List Nat), N.length = 3 → (∀ x ∈ N, x ≤ 1000000) → ∀ j, (((N.take j).map pv).flatten).length ≤ 30 := by
  intro N h hx j
  match N, h with
  | [a, b, c], _ =>
    have p1 := pv_len9 a (by have := hx a (by simp); omega)
    have p2 := pv_len9 b (by have := hx b (by simp); omega)
    have p3 := pv_len9 c (by have := hx c (by simp); omega)
    match j with
    | 0 => simp
    | 1 => simp; omega
    | 2 => simp; omega
    | j + 3 => simp; omega

set_option maxRecDepth 100000 in
set_option maxHeartbeats 2000000 in
theorem lay_any (B b : Nat) (l : List UInt8) (k v : ByteArray) (sh : Nat) (w : World) (h : IsF B b l w) (hsh : sh ≤ k.size) (hk : k.size ≤ 1000000) (hv : v.size ≤ 1000000) (hl : l.length ≤ 100000000) (hB : B ≤ w.heap.size) :
    Calls Tryz.prog 24 #[.pointer (some ⟨b, 0, none⟩), .agg #[.string k, .string v], .int .i64 (sh : Int)] w fun e w' => e = .returned (.tuple #[]) ∧ IsF B b (l ++ (pv sh ++ (pv (k.size - sh) ++ (pv v.size ++ ((bl k).drop sh ++ bl v))))) w' ∧ Tn B bT w w' := by
  have H := Lib.hid h
  obtain ⟨R, hR⟩ : ∃ R, l ++ (pv sh ++ (pv (k.size - sh) ++ (pv v.size ++ ((bl k).drop sh ++ bl v)))) = R := ⟨_, rfl⟩
  rw [hR]
  have HR := Lib.hid hR
  clear h hR
  go_enter Tryz.func24, Tryz.ntmps24
  go_wp2_with fail
  have b1 := Blk.new w 53 #[.string k, .string v]
  have hb1 : Below w.heap.size w (w.alloc (.cells #[.string k, .string v] 53)) := below_alloc (Below.refl _ _) (Nat.le_refl _) _
  have H1 := Lib.hid (isF_below H.out hb1 (Nat.le_refl _))
  have Hb1 := Lib.hid ((Tn.refl B bT w).alloc (.cells #[.string k, .string v] 53))
  generalize w.alloc (.cells #[.string k, .string v] 53) = w1 at *
  have c0 : w1.cell? ⟨w.heap.size, 0, none⟩ = some (.string k) := b1.cell 0
  have c1 : w1.cell? ⟨w.heap.size, 1, none⟩ = some (.string v) := b1.cell 1
  have i0 : (0 : Int) ≤ (sh : Int) := by omega
  have i1 : (sh : Int) ≤ (k.size : Int) := by omega
  clear hb1 b1 H
  go_quiet (fail)
  go_wp2_with fail
  have hz : (k.extract sh k.size).size = k.size - sh := by simp
  have hbl : bl (k.extract sh k.size) = (bl k).drop sh := by
    show (k.extract sh k.size).data.toList = _
    rw [ByteArray.data_extract, Array.toList_extract, List.extract_eq_take_drop]
    exact List.take_of_length_le (by rw [List.length_drop]; exact Nat.le_refl _)
  generalize k.extract sh k.size = ks at *
  generalize hm : k.size - sh = m at *
  have hm9 : m ≤ 1000000 := by omega
  have H2 : Hid (IsF B b l ((w1.drewN nq).alloc (.cells #[.int .i64 (sh : Int), .int .i64 (m : Int), .int .i64 (v.size : Int)] 3))) := Lib.hid (isF_below H1.out (below_alloc (below_drewN (Below.refl w1.heap.size w1) nq) (Nat.le_refl _) _) (Nat.le_refl _))
  have B2 : Hid (Tn B bT w ((w1.drewN nq).alloc (.cells #[.int .i64 (sh : Int), .int .i64 (m : Int), .int .i64 (v.size : Int)] 3))) := Lib.hid ((Hb1.out.drewN nq).alloc _)
  have b2 : Hid (Blk ((w1.drewN nq).alloc (.cells #[.int .i64 (sh : Int), .int .i64 (m : Int), .int .i64 (v.size : Int)] 3)) w1.heap.size 3 #[.int .i64 (sh : Int), .int .i64 (m : Int), .int .i64 (v.size : Int)]) := Lib.hid (Blk.new (w1.drewN nq) _ _)
  generalize (w1.drewN nq).alloc (.cells #[.int .i64 (sh : Int), .int .i64 (m : Int), .int .i64 (v.size : Int)] 3) = w2 at *
  obtain ⟨N, hN⟩ : ∃ N : List Nat, N = [sh, m, v.size] := ⟨_, rfl⟩
  have hN3 : N.length = 3 := by rw [hN]; rfl
  have hNx : ∀ x ∈ N, x ≤ 1000000 := by
    intro x hx
    rw [hN] at hx
    simp at hx
    omega
  have b3 : Hid (Blk w2 w1.heap.size 3 (N.map fun (x : Nat) => Value.int .i64 (x : Int)).toArray) := Lib.hid (by rw [hN]; exact b2.out)
  have HR2 : Hid (l ++ (((N.take 3).map pv).flatten ++ (bl ks ++ bl v)) = R) := Lib.hid (by
    rw [← HR.out, hN, hbl]
    simp)
  have HN3 := Lib.hid hN3
  have HNx := Lib.hid hNx
  clear hN hN3 hNx b2 hbl H1 Hb1 HR
  generalize w1.heap.size = g at *
  go_loopw [23] (fun i wr => ∃ j : Nat, j ≤ 3 ∧ i = .int .i64 (j : Int) ∧ Hid (IsF B b (l ++ ((N.take j).map pv).flatten) wr) ∧ Hid (Blk wr g 3 (N.map fun (x : Nat) => Value.int .i64 (x : Int)).toArray) ∧ Hid (Tn B bT w wr)) (fun i _ => 3 - (intOf i).toNat)
  case atStart => exact ⟨0, by omega, rfl, Lib.hid (by simpa using H2.out), b3, B2⟩
  case round =>
    obtain ⟨j, hj, rfl, HF, HB, HW⟩ := hrel
    have hln : (((N.take j).map pv).flatten).length ≤ 30 := three_pv N HN3.out HNx.out j
    by_cases hl3 : j < 3
    · obtain ⟨x, hx⟩ : ∃ x, N[j]? = some x := ⟨_, List.getElem?_eq_getElem (by rw [HN3.out]; exact hl3)⟩
      have hx9 := HNx.out x (List.mem_of_getElem? hx)
      have hc : wr.cell? ⟨g, j, none⟩ = some (.int .i64 (x : Int)) := by
        rw [HB.out.cell j]
        simp [hx]
      have e1 : (j : Int) < 3 := by omega
      have e2 : (0 : Int) ≤ (j : Int) := by omega
      have hst : ((N.take (j + 1)).map pv).flatten = ((N.take j).map pv).flatten ++ pv x := by
        obtain ⟨h1, h2⟩ := List.getElem?_eq_some_iff.1 hx
        rw [List.take_succ_eq_append_getElem h1, h2]
        simp
      have Hst := Lib.hid hst
      have C := Lib.hid (putvar_any x wr (by omega))
      have hpl : (pv x).length ≤ 9 := pv_len9 x (by omega)
      have hBw : B ≤ wr.heap.size := Nat.le_trans hB HW.out.size
      clear hx hst
      go_wp2_with fail
      refine C.out.mono ?_
      rintro e w5 ⟨rfl, hb5⟩
      have H5 := isF_below HF.out hb5 (Nat.le_refl _)
      have D := Lib.hid (bstrF_any B b _ ⟨(pv x).toArray⟩ w5 H5 (by rw [List.length_append, size_mk]; omega) (Nat.le_trans hBw hb5.size))
      have HB5 := Lib.hid (HW.out.trans (Tn.of_below hb5))
      have HB6 := Lib.hid (HB.out.below hb5 HB.out.lt)
      clear H5 hb5
      go_wp2_with fail
      refine D.out.mono ?_
      rintro e w6 ⟨rfl, h6, hb6⟩
      have HF6 : Hid (IsF B b (l ++ ((N.take (j + 1)).map pv).flatten) w6) := Lib.hid (by rw [Hst.out, ← List.append_assoc]; exact h6)
      have HW6 := Lib.hid (HB5.out.trans hb6)
      have HG6 := Lib.hid (hb6.blk HB6.out (bT_ne (by decide) (by decide) _ _))
      clear h6 hb6 HF
      go_wp2_with fail
      go_roundw
      case rel => exact ⟨j + 1, by omega, by go_num, HF6, HG6, HW6⟩
      case measure => simp [intOf]; omega
    · obtain rfl : j = 3 := by omega
      have hBw : B ≤ wr.heap.size := Nat.le_trans hB HW.out.size
      have D := Lib.hid (bstrF_any B b _ ks wr HF.out (by rw [List.length_append]; omega) hBw)
      go_wp2_with fail
      refine D.out.mono ?_
      rintro e w6 ⟨rfl, h6, hb6⟩
      have D2 := Lib.hid (bstrF_any B b _ v w6 h6 (by rw [List.length_append, List.length_append]; have : ks.data.toList.length = ks.size := rfl; omega) (Nat.le_trans hBw hb6.size))
      have HW6 := Lib.hid (HW.out.trans hb6)
      clear h6 hb6 HF
      go_wp2_with fail
      refine D2.out.mono ?_
      rintro e w7 ⟨rfl, h7, hb7⟩
      have HF7 : Hid (IsF B b R w7) := Lib.hid (by rw [← HR2.out]; simpa [List.append_assoc] using h7)
      have HW7 := Lib.hid (HW6.out.trans hb7)
      clear h7 hb7
      go_wp2_with fail
      go_end0
      exact ⟨rfl, HF7.out, HW7.out⟩
end Go.Proofs.YtmoffcgbjmeiaaaGreatDoor

namespace Go.Proofs.YtmoffcgbjmeiaaaGreatDoor
open Go.RowKit

/-- One of a row of lists. -/
theorem srow_at {w : World} {B m : Nat} {te : TypeId} {v : Value} {a : Nat → Value} (h : w.ownsRow B te 1 v m ((List.range m).map a)) {k : Nat} (hk : k < m) : ∃ g c, v = .slice (some ⟨g, 0, none⟩) m c ∧ B ≤ g ∧ g < w.heap.size ∧ w.cell? ⟨g, k, none⟩ = some (a k) := by
  rcases h.2 with ⟨_, h0⟩ | ⟨g, cap, cur, hv, hb, hh, _⟩
  · omega
  · subst hv
    refine ⟨g, cap, rfl, hb, (Array.getElem?_eq_some_iff.1 hh).1, ?_⟩
    have := World.ownsRow.cells h (g := g) rfl k (a k) (by rw [List.getElem?_map, List.getElem?_range hk]; rfl)
    rwa [Addr.add_lit, Nat.zero_add] at this
theorem srow_slice {w : World} {B m : Nat} {te : TypeId} {v : Value} {xs : List Value} (h : w.ownsRow B te 1 v m xs) : ∃ A c, v = .slice A m c := by
  rcases h.2 with ⟨rfl, h0⟩ | ⟨g, cap, cur, rfl, _⟩
  · exact ⟨none, 0, by rw [h0]⟩
  · exact ⟨_, _, rfl⟩

/-! ### Cells set one behind the other -/
def setAll : List Value → Nat → List Value → List Value
  | xs, _, [] => xs
  | xs, i, u :: us => setAll (xs.set i u) (i + 1) us
theorem setAll_split (us : List Value) : ∀ (pre mid post : List Value), mid.length = us.length → setAll (pre ++ mid ++ post) pre.length us = pre ++ us ++ post := by
  induction us with
  | nil => intro pre mid post h; have : mid = [] := List.eq_nil_of_length_eq_zero h; subst this; rfl
  | cons u us ih =>
    intro pre mid post h
    cases mid with
    | nil => simp at h
    | cons x mid =>
      have h1 := ih (pre ++ [u]) mid post (by simpa using h)
      have e : (pre ++ (x :: mid) ++ post).set pre.length u = pre ++ [u] ++ mid ++ post := by
        simp
      show setAll ((pre ++ (x :: mid) ++ post).set pre.length u) (pre.length + 1) us = _
      rw [e, show pre.length + 1 = (pre ++ [u]).length by simp, h1]
      simp
theorem El.row_set {α : Type} (E : El α) (L : List α) (j : Nat) (x : α) (hj : j < L.length) : E.row (L.set j x) = setAll (E.row L) (j * E.sz) (E.cl x) := by
  have h1 : L = L.take j ++ [L[j]] ++ L.drop (j + 1) := by
    have := List.take_append_drop j L
    rw [List.drop_eq_getElem_cons hj] at this
    rw [List.append_assoc]
    exact this.symm
  have h2 : L.set j x = L.take j ++ [x] ++ L.drop (j + 1) := by
    rw [List.set_eq_take_append_cons_drop, if_pos hj]
    simp
  have hl : (E.row (L.take j)).length = j * E.sz := by rw [E.row_length, List.length_take, Nat.min_eq_left (by omega)]
  have h3 := setAll_split (E.cl x) (E.row (L.take j)) (E.cl L[j]) (E.row (L.drop (j + 1))) (by rw [E.len, E.len])
  rw [hl] at h3
  rw [h2, E.row_append, E.row_append, E.row_one, ← h3]
  congr 1
  conv => rhs; rw [h1]
  rw [E.row_append, E.row_append, E.row_one]
def setCells : World → Nat → Nat → List Value → World
  | w, _, _, [] => w
  | w, g, i, u :: us => setCells (w.setCell ⟨g, i, none⟩ u) g (i + 1) us
theorem setCells_own {B : Nat} {e : TypeId} {sz g n c : Nat} (us : List Value) : ∀ (w : World) (i : Nat) (xs : List Value), w.ownsRow B e sz (.slice (some ⟨g, 0, none⟩) n c) n xs →
    (setCells w g i us).ownsRow B e sz (.slice (some ⟨g, 0, none⟩) n c) n (setAll xs i us) := by
  induction us with
  | nil => intro w i xs h; exact h
  | cons u us ih => intro w i xs h; exact ih _ _ _ (World.ownsRow.stored h i u).1
theorem setCells_grown {g : Nat} (us : List Value) : ∀ (w : World) (i : Nat), w.grownBy (setCells w g i us) (some g) := by
  induction us with
  | nil => intro w i; exact grefl w _
  | cons u us ih =>
    intro w i
    have h1 : w.grownBy (w.setCell ⟨g, i, none⟩ u) (some g) := only_setCell (grefl w _) (Or.inl rfl) u
    have h2 := ih (w.setCell ⟨g, i, none⟩ u) (i + 1)
    exact ⟨h2.os.trans h1.os, h2.tape.trans h1.tape, h2.output.trans h1.output, Nat.le_trans h1.size h2.size, fun k hk hne => (h2.block k (Nat.lt_of_lt_of_le hk h1.size) hne).trans (h1.block k hk hne)⟩

/-- One element stored into one of the rows. -/
theorem put_k {α : Type} {E : El α} {w : World} {B m k g n c j : Nat} {e : TypeId} {a : Nat → Value} {G : Nat → List α} {x : α} (hR : Rwk E w B e m a G) (hk : k < m) (hg : a k = .slice (some ⟨g, 0, none⟩) n c) (hj : j < (G k).length) :
    Rwk E (setCells w g (j * E.sz) (E.cl x)) B e m a (upk G k ((G k).set j x)) ∧ Tn B (cellsT e) w (setCells w g (j * E.sz) (E.cl x)) ∧
      (∀ v S M, Own E w S e v M → v.ownBlock ≠ some g → Own E (setCells w g (j * E.sz) (E.cl x)) S e v M) := by
  have hr := hR.each k hk
  have gr := setCells_grown (g := g) (E.cl x) w (j * E.sz)
  rw [hg] at hr
  obtain ⟨hnl, _, _⟩ := own_reads hr
  subst hnl
  have hst := setCells_own (g := g) (E.cl x) w (j * E.sz) _ hr
  rw [← E.row_set _ _ _ hj] at hst
  have other : ∀ v S M, Own E w S e v M → v.ownBlock ≠ some g → Own E (setCells w g (j * E.sz) (E.cl x)) S e v M := fun v S M h hne => World.ownsRow.kept h gr (Or.inr hne)
  refine ⟨⟨fun i hi => ?_, hR.apart⟩, (Tn.refl B _ w).grow hr gr, other⟩
  by_cases hik : i = k
  · subst hik
    rw [upk_at, hg]
    unfold Own
    rw [List.length_set]
    exact hst
  · rw [upk_ne _ _ hik]
    exact other _ _ _ (hR.each i hi) (fun h => hR.apart i k hi hk hik g h (by rw [hg]; rfl))
theorem Own.frozen_ {α : Type} {E : El α} {w : World} {B g n c : Nat} {e : TypeId} {L : List α} (h : Own E w B e (.slice (some ⟨g, 0, none⟩) n c) L) (j : Nat) : w.frozen? ⟨g, j, none⟩ = false := by
  obtain ⟨hn, _, _⟩ := own_reads h
  subst hn
  exact World.ownsRow.frozenAt h j
theorem Tn.fromDrew {B : Nat} {T : Obj → Bool} {w w' : World} (h : Tn B T w w') : Tn B T w.drew w'.drew := ⟨h.os, h.tape, h.output, h.size, h.block⟩
/-- A row that is new grew. -/
theorem Tn.growNew {B S : Nat} {T : Obj → Bool} {w w' w'' : World} {e : TypeId} {sz n : Nat} {v : Value} {xs : List Value} (h : Tn B T w w') (hown : w'.ownsRow S e sz v n xs) (hS : w.heap.size ≤ S) (g : w'.grownBy w'' v.ownBlock) : Tn B T w w'' :=
  h.row g (fun k hk => Or.inl (Nat.le_trans hS (World.ownsRow.lt hown k hk).1))
theorem Famk.marked2 {α : Type} {E : El α} {w w' : World} {B m k N p : Nat} {e : TypeId} {a b : Nat → Value} {F H : Nat → List α} {l l' : Value} (h : Famk E w B e m a (upk b k l) F (upk H k (E.marks k 0 N))) (hk : k < m)
    (hown : Own E w' B e l' (E.marks k 0 N ++ E.marks k N p)) (hgr : w.grownBy w' l.ownBlock) (hold : Own E w' B e l (E.marks k 0 N)) (hblk : l'.ownBlock = l.ownBlock ∨ ∀ g, l'.ownBlock = some g → w.heap.size ≤ g) :
    Famk E w' B e m a (upk b k l') F (upk H k (E.marks k 0 (N + p))) := by
  refine Famk.marked h hk ?_ hgr ?_ hblk
  · unfold Own at hown
    rw [List.length_append, E.marks_length, E.marks_length, E.row_append] at hown
    exact hown
  · unfold Own at hold
    rw [E.marks_length] at hold
    exact hold
theorem app_srow {P : Program} (tte te : TypeId) (ht : P.underlying tte = some (.slice te)) (hinfo : (P.info? te).map (fun i => (i.zero, i.size, i.bytes)) = some (some (.slice none 0 0), 1, 24))
    (w : World) (base : Nat) (v : Value) (n : Nat) (xs : List Value) (hown : w.ownsRow base te 1 v n xs) (u : Value) (hu : u.oneCell' = true) (g c : Nat) (hc : w.cell? ⟨g, 0, none⟩ = some u) (hn : n ≤ 100000) (hbase : base ≤ w.heap.size) :
    ∃ v' w', (∀ ty, (Builtin.append_ #[tte, tte] ty #[v, .slice (some ⟨g, 0, none⟩) 1 c]).run P w = .ok v' w') ∧ w'.ownsRow base te 1 v' (n + 1) (xs ++ [u]) ∧ w.grownBy w' v.ownBlock ∧ w'.ownsRow base te 1 v n xs ∧ (v'.ownBlock = v.ownBlock ∨ ∀ g, v'.ownBlock = some g → w.heap.size ≤ g) := by
  obtain ⟨i0, hi, hz, hsize, hby⟩ := info_parts hinfo
  have hnews : ∀ j x, [u][j]? = some x → w.cell? ((⟨g, 0, none⟩ : Addr).add j) = some x := fun j x hx => by
    match j, hx with
    | 0, hx => simp at hx; subst hx; simpa [Addr.add] using hc
  have h1 : ∀ x ∈ [u], x.oneCell' = true := fun x hx => by simp at hx; subst hx; exact hu
  obtain ⟨v', w', hr, h2, h3, _⟩ := run_append_own (P := P) w base tte 0 te i0 (.slice none 0 0) 1 24 ht hi hz hsize hby rfl (by decide) v n xs hown ⟨g, 0, none⟩ 1 c [u] rfl hnews h1 (by unfold maxLen; omega) (by omega) hbase
  obtain ⟨h4, h5⟩ := append_keep w base tte 0 te i0 (.slice none 0 0) 1 24 ht hi hz hsize hby v n xs hown ⟨g, 0, none⟩ 1 c [u] rfl hnews h1 (by unfold maxLen; omega) (by omega) v' w' hr
  exact ⟨v', w', fun ty => by rw [← hr]; rfl, h2, h3, h4, h5⟩
end Go.Proofs.YtmoffcgbjmeiaaaGreatDoor

namespace Go.Proofs.YtmoffcgbjmeiaaaGreatDoor
open Go.RowKit

/-- The book's fields f and f + 1 keep the lists Z of a kind, and copies of them; each lies in a block of its own below S. -/
def KSt {α : Type} (E : El α) (ok : α → Prop) (e te : TypeId) (f : Nat) (w : World) (B : Nat) (bcs : Array Value) (Z : List (List α)) (S : Nat) : Prop :=
  ∃ v1 v2 a c, bcs[f]? = some v1 ∧ bcs[f + 1]? = some v2 ∧ w.ownsRow B te 1 v1 Z.length ((List.range Z.length).map a) ∧ w.ownsRow B te 1 v2 Z.length ((List.range Z.length).map c) ∧ Off v1 v2 ∧ Rwk E w B e Z.length a (fun i => Z.getD i []) ∧
    (∀ i, i < Z.length → Own E w B e (c i) (Z.getD i [])) ∧ (∀ i, i < Z.length → (Z.getD i []).length ≤ 100000 ∧ ∀ x ∈ Z.getD i [], ok x) ∧ (∀ i, i < Z.length → ∀ g, (a i).ownBlock = some g → g < S) ∧ Z.length ≤ 250
section
variable {α : Type} {E : El α} {ok : α → Prop} {e te tB : TypeId} {f : Nat} {w w' : World} {B bk S : Nat} {bcs : Array Value} {Z : List (List α)}
theorem KSt.tn (h : KSt E ok e te f w B bcs Z S) {B' : Nat} {T : Obj → Bool} (g : Tn B' T w w') (h1 : ∀ cs fr, T (.cells cs e fr) = false) (h2 : ∀ cs fr, T (.cells cs te fr) = false) : KSt E ok e te f w' B bcs Z S := by
  obtain ⟨v1, v2, a, c, f1, f2, r1, r2, o, ra, rc, hz, hs, hm⟩ := h
  exact ⟨v1, v2, a, c, f1, f2, g.own r1 h2, g.own r2 h2, o, ra.tn g h1, fun i hi => (rc i hi).tn g h1, hz, hs, hm⟩
theorem KSt.below (h : KSt E ok e te f w B bcs Z S) (g : Below w.heap.size w w') : KSt E ok e te f w' B bcs Z S := h.tn (Tn.of_below (B := 0) (T := fun _ => false) g) (fun _ _ => rfl) (fun _ _ => rfl)
theorem KSt.fields (h : KSt E ok e te f w B bcs Z S) {bcs' : Array Value} (h1 : bcs'[f]? = bcs[f]?) (h2 : bcs'[f + 1]? = bcs[f + 1]?) : KSt E ok e te f w B bcs' Z S := by
  obtain ⟨v1, v2, a, c, f1, f2, r⟩ := h
  exact ⟨v1, v2, a, c, h1.trans f1, h2.trans f2, r⟩
theorem KSt.up (h : KSt E ok e te f w B bcs Z S) {S' : Nat} (hS : S ≤ S') : KSt E ok e te f w B bcs Z S' := by
  obtain ⟨v1, v2, a, c, f1, f2, r1, r2, o, ra, rc, hz, hs, hm⟩ := h
  exact ⟨v1, v2, a, c, f1, f2, r1, r2, o, ra, rc, hz, fun i hi g hg => Nat.lt_of_lt_of_le (hs i hi g hg) hS, hm⟩
theorem KSt.nil (h1 : bcs[f]? = some (.slice none 0 0)) (h2 : bcs[f + 1]? = some (.slice none 0 0)) : KSt E ok e te f w B bcs [] S :=
  ⟨_, _, fun _ => .slice none 0 0, fun _ => .slice none 0 0, h1, h2, World.ownsRow_nil _ _ _ _, World.ownsRow_nil _ _ _ _, fun g hg => by simp [Value.ownBlock] at hg, ⟨fun i hi => by simp at hi, fun i j hi => by simp at hi⟩, fun i hi => by simp at hi, fun i hi => by simp at hi, fun i hi => by simp at hi, Nat.zero_le _⟩
end

theorem own_ne_k {w : World} {B : Nat} {e t : TypeId} {sz : Nat} {v : Value} {n : Nat} {xs : List Value} {p : Nat} {cs : Array Value} (h : w.ownsRow B e sz v n xs) (hb : Blk w p t cs) (hne : e ≠ t) : v.ownBlock ≠ some p := by
  rcases h.2 with ⟨rfl, _⟩ | ⟨g, cap, cur, rfl, _, hg, _⟩
  · intro h; cases h
  · intro h
    cases h
    unfold Blk at hb
    rw [hg] at hb
    cases hb
    exact hne rfl
def twoT (te tB : TypeId) : Obj → Bool := fun o => cellsT te o || cellsT tB o
theorem twoT_ne {te tB t : TypeId} (h1 : t ≠ te) (h2 : t ≠ tB) (cs : Array Value) (fr : Nat × Nat) : twoT te tB (.cells cs t fr) = false := by
  unfold twoT
  rw [cellsT_ne h1, cellsT_ne h2]
  rfl
theorem Tn.two_l {B : Nat} {te tB : TypeId} {w w' : World} (h : Tn B (cellsT te) w w') : Tn B (twoT te tB) w w' := h.mono fun o ho => by unfold twoT at ho; rw [Bool.or_eq_false_iff] at ho; exact ho.1
theorem Tn.two_blk {B g : Nat} {te tB : TypeId} {w w' : World} {cs : Array Value} (h : Tn B (twoT te tB) w w') (hb : Blk w' g tB cs) (hB : B ≤ g) (i : Nat) (u : Value) : Tn B (twoT te tB) w (w'.setCell ⟨g, i, none⟩ u) :=
  h.setCell (p := ⟨g, i, none⟩) (Or.inr ⟨hB, _, hb, by unfold twoT; simp [cellsT]⟩) u

/-- A row of lists, one more at its end, and the field of the book that tells it. -/
theorem keep_row {P : Program} {tte te tB : TypeId} (ht : P.underlying tte = some (.slice te)) (hinfo : (P.info? te).map (fun i => (i.zero, i.size, i.bytes)) = some (some (.slice none 0 0), 1, 24)) (hne : te ≠ tB)
    {w : World} {B bk f m : Nat} {bcs : Array Value} {v u : Value} {xs : List Value} {r2 : Value} {m2 : Nat} {ys : List Value} (hb : Blk w bk tB bcs) (hB : B ≤ w.heap.size) (hBk : B ≤ bk) (hv : w.ownsRow B te 1 v m xs) (hr2 : w.ownsRow B te 1 r2 m2 ys) (hoff : Off v r2) (hm : m ≤ 250) (hu : u.oneCell' = true) :
    ∃ A d w1, (∀ ty, (Builtin.append_ #[tte, tte] ty #[v, .slice (some ⟨w.heap.size, 0, none⟩) 1 1]).run P (w.alloc (.cells #[u] te)) = .ok (.slice A (m + 1) d) w1) ∧ Blk w1 bk tB bcs ∧
      Blk (w1.setCell ⟨bk, f, none⟩ (.slice A (m + 1) d)) bk tB (bcs.setIfInBounds f (.slice A (m + 1) d)) ∧ (w1.setCell ⟨bk, f, none⟩ (.slice A (m + 1) d)).ownsRow B te 1 (.slice A (m + 1) d) (m + 1) (xs ++ [u]) ∧
      (w1.setCell ⟨bk, f, none⟩ (.slice A (m + 1) d)).ownsRow B te 1 r2 m2 ys ∧ Off (.slice A (m + 1) d) r2 ∧ Tn B (twoT te tB) w (w1.setCell ⟨bk, f, none⟩ (.slice A (m + 1) d)) := by
  have g0 : w.grownBy (w.alloc (.cells #[u] te)) none := World.grownBy_alloc _ _ _
  have hv0 := World.ownsRow.alloc hv (.cells #[u] te)
  have hr0 := World.ownsRow.alloc hr2 (.cells #[u] te)
  have hb0 := hb.alloc (.cells #[u] te)
  obtain ⟨v', w1, hr, hown, hgr, _, hblk⟩ := app_srow (P := P) tte te ht hinfo (w.alloc (.cells #[u] te)) B v m xs hv0 u hu w.heap.size 1 ((Blk.new w te #[u]).cell 0) (by omega) (Nat.le_trans hB (by simp))
  obtain ⟨A, d, rfl⟩ := srow_slice hown
  have hb1 : Blk w1 bk tB bcs := hb0.grown hgr (fun e => own_ne_k hv0 hb0 hne e.symm)
  have hr1 : w1.ownsRow B te 1 r2 m2 ys := World.ownsRow.kept hr0 hgr (offk_none hoff)
  have gs : ∀ u, w1.grownBy (w1.setCell ⟨bk, f, none⟩ u) (some bk) := fun u => only_setCell (grefl w1 _) (Or.inl rfl) u
  refine ⟨A, d, w1, hr, hb1, hb1.set_ f _, hown.kept (gs _) (Or.inr (own_ne_k hown hb1 hne)), hr1.kept (gs _) (Or.inr (own_ne_k hr1 hb1 hne)), fun g hg hv' => ?_, ?_⟩
  · rcases hblk with e | e
    · exact hoff g (e ▸ hg) hv'
    · have h1 := e g hg
      have h2 := (World.ownsRow.lt hr2 g hv').2
      simp at h1
      omega
  · exact Tn.two_blk ((Tn.two_l ((Tn.of_grown g0).grow hv0 hgr))) hb1 hBk f _

theorem getDk_lt {α : Type} (l : List α) (x d : α) {i : Nat} (h : i < l.length) : (l ++ [x]).getD i d = l.getD i d := by
  rw [List.getD_eq_getElem?_getD, List.getElem?_append_left h, ← List.getD_eq_getElem?_getD]
theorem getDk_eq {α : Type} (l : List α) (x d : α) {i : Nat} (h : i = l.length) : (l ++ [x]).getD i d = x := by
  subst h
  rw [List.getD_eq_getElem?_getD, List.getElem?_append_right (Nat.le_refl _)]
  simp
/-- One more is kept. -/
theorem KSt.add {α : Type} {E : El α} {ok : α → Prop} {e te : TypeId} {f : Nat} {w : World} {B S S' lo : Nat} {bcs : Array Value} {Z : List (List α)} {L : List α} {a c : Nat → Value} {v1 v2 x cp : Value}
    (f1 : bcs[f]? = some v1) (f2 : bcs[f + 1]? = some v2) (r1 : w.ownsRow B te 1 v1 (Z.length + 1) ((List.range Z.length).map a ++ [x])) (r2 : w.ownsRow B te 1 v2 (Z.length + 1) ((List.range Z.length).map c ++ [cp])) (o : Off v1 v2)
    (ra : Rwk E w B e Z.length a (fun i => Z.getD i [])) (rc : ∀ i, i < Z.length → Own E w B e (c i) (Z.getD i [])) (hz : ∀ i, i < Z.length → (Z.getD i []).length ≤ 100000 ∧ ∀ x ∈ Z.getD i [], ok x) (hs : ∀ i, i < Z.length → ∀ g, (a i).ownBlock = some g → g < S) (hm : Z.length < 250)
    (hx : Own E w lo e x L) (hc : Own E w B e cp L) (hSl : S ≤ lo) (hBl : B ≤ lo) (hL : L.length ≤ 100000 ∧ ∀ y ∈ L, ok y) (hS : ∀ g, x.ownBlock = some g → g < S') (hSS : S ≤ S') : KSt E ok e te f w B bcs (Z ++ [L]) S' := by
  rw [range_upk] at r1 r2
  have hl : (Z ++ [L]).length = Z.length + 1 := by simp
  have key : ∀ i, i < Z.length → Off (a i) x := fun i hi g hg hv => by
    have h1 := hs i hi g hg
    have h2 := (hx.lt hv).1
    omega
  refine ⟨v1, v2, upk a Z.length x, upk c Z.length cp, f1, f2, by rw [hl]; exact r1, by rw [hl]; exact r2, o, ⟨fun i hi => ?_, fun i j hi hj hij => ?_⟩, fun i hi => ?_, fun i hi => ?_, fun i hi g hg => ?_, by omega⟩
  · rw [hl] at hi
    by_cases hil : i < Z.length
    · rw [upk_ne _ _ (by omega), getDk_lt _ _ _ hil]
      exact ra.each i hil
    · obtain rfl : i = Z.length := by omega
      rw [upk_at, getDk_eq _ _ _ rfl]
      exact hx.low hBl
  · rw [hl] at hi hj
    by_cases hil : i < Z.length
    · rw [upk_ne _ _ (show i ≠ Z.length by omega)]
      by_cases hjl : j < Z.length
      · rw [upk_ne _ _ (show j ≠ Z.length by omega)]
        exact ra.apart i j hil hjl hij
      · rw [show j = Z.length by omega, upk_at]
        exact key i hil
    · rw [show i = Z.length by omega, upk_at, upk_ne _ _ (show j ≠ Z.length by omega)]
      exact (key j (by omega)).symm
  · rw [hl] at hi
    by_cases hil : i < Z.length
    · rw [upk_ne _ _ (by omega), getDk_lt _ _ _ hil]
      exact rc i hil
    · obtain rfl : i = Z.length := by omega
      rw [upk_at, getDk_eq _ _ _ rfl]
      exact hc
  · rw [hl] at hi
    by_cases hil : i < Z.length
    · rw [getDk_lt _ _ _ hil]
      exact hz i hil
    · rw [getDk_eq _ _ _ (by omega)]
      exact hL
  · rw [hl] at hi
    by_cases hil : i < Z.length
    · rw [upk_ne _ _ (by omega)] at hg
      have := hs i hil g hg
      omega
    · rw [show i = Z.length by omega, upk_at] at hg
      exact hS g hg
/-- A kind's lists, while marks are put. -/
structure PSt {α : Type} (E : El α) (e te : TypeId) (w : World) (B : Nat) (v1 : Value) (a : Nat → Value) (m : Nat) (F : Nat → List α) : Prop where
  r1 : w.ownsRow B te 1 v1 m ((List.range m).map a)
  ra : Rwk E w B e m a F
theorem PSt.tn {α : Type} {E : El α} {e te : TypeId} {w w' : World} {B : Nat} {v1 : Value} {a : Nat → Value} {m : Nat} {F : Nat → List α} (h : PSt E e te w B v1 a m F) {B' : Nat} {T : Obj → Bool} (g : Tn B' T w w') (h1 : ∀ cs fr, T (.cells cs e fr) = false) (h2 : ∀ cs fr, T (.cells cs te fr) = false) : PSt E e te w' B v1 a m F := ⟨g.own h.r1 h2, h.ra.tn g h1⟩
end Go.Proofs.YtmoffcgbjmeiaaaGreatDoor

namespace Go.Proofs.YtmoffcgbjmeiaaaGreatDoor
open Go.RowKit

/-- The pairs L can be read at the slice A of length n. -/
structure KeysAt (w : World) (A : Option Addr) (n : Nat) (L : List KV) : Prop where
  len : n = L.length
  at_ : ∀ (i : Nat) (m : KV), L[i]? = some m → ∃ g off, A = some ⟨g, off, none⟩ ∧ g < w.heap.size ∧ w.cell? ⟨g, off + i * 2, none⟩ = some (.string m.1) ∧ w.cell? ⟨g, off + i * 2 + 1, none⟩ = some (.string m.2)
theorem KeysAt.below {w w' : World} {A : Option Addr} {n : Nat} {L : List KV} (h : KeysAt w A n L) (hb : Below w.heap.size w w') : KeysAt w' A n L :=
  ⟨h.len, fun i m hm => by
    obtain ⟨g, off, e, hg, h1, h2⟩ := h.at_ i m hm
    exact ⟨g, off, e, Nat.lt_of_lt_of_le hg hb.size, (hb.cell (p := ⟨g, off + i * 2, none⟩) hg).trans h1, (hb.cell (p := ⟨g, off + i * 2 + 1, none⟩) hg).trans h2⟩⟩
/-- Two of them, at one address. -/
theorem KeysAt.two {w : World} {A : Option Addr} {n : Nat} {L : List KV} (h : KeysAt w A n L) {i j : Nat} {a b : KV} (ha : L[i]? = some a) (hb : L[j]? = some b) :
    ∃ g off, A = some ⟨g, off, none⟩ ∧ g < w.heap.size ∧ w.cell? ⟨g, off + i * 2, none⟩ = some (.string a.1) ∧ w.cell? ⟨g, off + i * 2 + 1, none⟩ = some (.string a.2) ∧ w.cell? ⟨g, off + j * 2, none⟩ = some (.string b.1) ∧ w.cell? ⟨g, off + j * 2 + 1, none⟩ = some (.string b.2) := by
  obtain ⟨g, off, e, hg, h1, h2⟩ := h.at_ i a ha
  obtain ⟨g', off', e', _, h3, h4⟩ := h.at_ j b hb
  rw [e] at e'
  cases e'
  exact ⟨g, off, e, hg, h1, h2, h3, h4⟩
theorem rises_iff : ∀ (L : List KV), (∀ (i : Nat) (a b : KV), L[i]? = some a → L[i + 1]? = some b → cmpT a.1 b.1 < 0) → risesK L = true
  | [], _ => rfl
  | [_], _ => rfl
  | a :: b :: r, h => by
    rw [risesK, Bool.and_eq_true, decide_eq_true_eq]
    exact ⟨h 0 a b rfl rfl, rises_iff (b :: r) fun i x y hx hy => h (i + 1) x y (by simpa using hx) (by simpa using hy)⟩
theorem rises_not {L : List KV} {i : Nat} {a b : KV} (ha : L[i]? = some a) (hb : L[i + 1]? = some b) (h : ¬ cmpT a.1 b.1 < 0) : risesK L = false := by
  cases hr : risesK L with
  | false => rfl
  | true => exact absurd (rises_get hr (Nat.lt_succ_self i) ha hb) h
end Go.Proofs.YtmoffcgbjmeiaaaGreatDoor

namespace Go.Proofs.YtmoffcgbjmeiaaaGreatDoor
open Go.RowKit

theorem bodyL_append (l r : List KV) : ∀ i prev, bodyL i prev (l ++ r) = bodyL i prev l ++ bodyL (i + l.length) (lastK prev l) r := by
  induction l with
  | nil => intro i prev; simp [bodyL, lastK]
  | cons x l ih =>
    intro i prev
    rw [List.cons_append, bodyL, ih, bodyL, List.append_assoc, lastK, List.length_cons]
    rw [show i + 1 + l.length = i + (l.length + 1) from by omega]
theorem body_take_le (L : List KV) (k : Nat) : (bodyL 0 [] (L.take k)).length ≤ (bodyL 0 [] L).length := by
  have := bodyL_append (L.take k) (L.drop k) 0 []
  rw [List.take_append_drop] at this
  rw [this, List.length_append]
  omega
theorem ctake_snoc {L : List KV} {k : Nat} {m : KV} (hm : L[k]? = some m) : L.take (k + 1) = L.take k ++ [m] := by
  obtain ⟨h1, h2⟩ := List.getElem?_eq_some_iff.1 hm
  rw [List.take_succ_eq_append_getElem h1, h2]
theorem ctake_body {L : List KV} {k : Nat} {m : KV} (hm : L[k]? = some m) : bodyL 0 [] (L.take (k + 1)) = bodyL 0 [] (L.take k) ++ onePair k (lastK [] (L.take k)) (bl m.1) (bl m.2) := by
  have h1 := (List.getElem?_eq_some_iff.1 hm).1
  rw [ctake_snoc hm, bodyL_snoc, List.length_take, Nat.min_eq_left (by omega), Nat.zero_add]
theorem clastK_take {L : List KV} {k : Nat} {m : KV} (hm : L[k]? = some m) : lastK [] (L.take (k + 1)) = bl m.1 := by
  rw [ctake_snoc hm, lastK_snoc]

/-- The table that package block reads. -/
structure LaidB (w : World) : Prop where
  halves : Lib.TabIs Tryz.prog w "bedrock/raw.halves" .u32 halvesL
theorem glob_halves' : Tryz.prog.globalNamed "bedrock/raw.halves" = some 0 := by kernel_rfl
theorem LaidB.on {w w' : World} (h : LaidB w) (hb : Below w.heap.size w w') : LaidB w' :=
  ⟨var?_below hb glob_halves' (lt_of_cell (h.halves.cell glob_halves' 0 (by decide))) h.halves⟩
theorem LaidB.at_ {B : Nat} {w w' : World} (h : LaidB w) (hb : Below B w w') (hB : w.heap.size ≤ B) : LaidB w' := h.on (hb.mono hB)

theorem compare_T (a b : ByteArray) (w : World) :
    Calls Tryz.prog 23 #[.string a, .string b] w fun e w' => e = .returned (.int .i64 (cmpT a b)) ∧ w' = w :=
  (compare_any a b w).mono fun _ _ ⟨h1, h2⟩ => ⟨h1, h2.symm⟩

/-- What stands while a pair is laid. -/
structure LaySt (w0 : World) (b p : Nat) (l : List UInt8) (mk mv : ByteArray) (W : World) : Prop where
  blk : Blk W p 53 #[.string mk, .string mv]
  isF : IsF b b l W
  tn : Tn b bT w0 W
  low : b ≤ W.heap.size
theorem LaySt.cells {w0 : World} {b p : Nat} {l : List UInt8} {mk mv : ByteArray} {W : World} (h : LaySt w0 b p l mk mv W) : W.cell? ⟨p, 0, none⟩ = some (.string mk) ∧ W.cell? ⟨p, 1, none⟩ = some (.string mv) := ⟨h.blk.cell 0, h.blk.cell 1⟩
theorem LaySt.drewN {w0 : World} {b p : Nat} {l : List UInt8} {mk mv : ByteArray} {W : World} (h : LaySt w0 b p l mk mv W) (j : Nat) : LaySt w0 b p l mk mv (W.drewN j) := ⟨h.blk.drewN j, h.isF, h.tn.drewN j, h.low⟩
theorem LaySt.drew {w0 : World} {b p : Nat} {l : List UInt8} {mk mv : ByteArray} {W : World} (h : LaySt w0 b p l mk mv W) : LaySt w0 b p l mk mv W.drew := ⟨h.blk.drew, h.isF, h.tn.drew, h.low⟩
theorem pst_common {w0 : World} {b p : Nat} {l : List UInt8} {mk mv : ByteArray} (j : Nat) (pk : ByteArray) (hj : j < 4611686018427387904) (hp : pk.size ≤ 65536) (hm : mk.size ≤ 65536) (W : World) (h : LaySt w0 b p l mk mv W) :
    Calls Tryz.prog 25 #[.int .i64 (j : Int), .string pk, .string mk] W fun e W' => e = .returned (.int .i64 (comI j (bl pk) (bl mk) : Int)) ∧ LaySt w0 b p l mk mv W' :=
  (common_any j pk mk W hj (by omega) (by omega)).mono fun _ _ ⟨h1, q, h2⟩ => ⟨h1, by rw [h2]; exact h.drewN q⟩
theorem pst_lay {w0 : World} {b p : Nat} {l : List UInt8} {mk mv : ByteArray} (sh : Nat) (hs : sh ≤ mk.size) (hm : mk.size ≤ 65536) (hv : mv.size ≤ 65536) (hl : l.length ≤ 100000000) (W : World) (h : LaySt w0 b p l mk mv W) :
    Calls Tryz.prog 24 #[.pointer (some ⟨b, 0, none⟩), .agg #[.string mk, .string mv], .int .i64 (sh : Int)] W fun e W' => e = .returned (.tuple #[]) ∧ LaySt w0 b p (l ++ (pv sh ++ (pv (mk.size - sh) ++ (pv mv.size ++ ((bl mk).drop sh ++ bl mv))))) mk mv W' :=
  (lay_any b b l mk mv sh W h.isF hs (by omega) (by omega) hl h.low).mono fun _ _ ⟨h1, h2, h3⟩ => ⟨h1, h3.blk h.blk (bT_ne (by decide) (by decide) _ _), h2, h.tn.trans h3, Nat.le_trans h.low h3.size⟩

set_option maxRecDepth 100000 in
set_option maxHeartbeats 4000000 in
theorem build_any (A : Option Addr) (n c : Nat) (L : List KV) (w : World) (h : KeysAt w A n L) (hok : okP L) (hn : n ≤ 1000000) (hsh : longK L = false) (hsz : (blkL L).length ≤ 524288) (hT : LaidB w) :
    Calls Tryz.prog 10 #[.slice A n c] w fun e w' => e = .returned (.tuple #[.string (buildP L).1, .int .i64 (buildP L).2]) ∧ Below w.heap.size w w' := by
  have HK := Lib.hid h
  have Hok := Lib.hid hok
  have Hlen := Lib.hid h.len
  have HT := Lib.hid hT
  obtain ⟨rs, re, hr⟩ : ∃ rs re, buildP L = (rs, re) := ⟨_, _, rfl⟩
  rw [hr]
  have Hr := Lib.hid hr
  have Hsh := Lib.hid (longK_ok hsh)
  have Hsz : Hid ((bodyL 0 [] L).length ≤ 524280) := Lib.hid (by have := blkL_length L; omega)
  have Hbp : Hid (risesK L = true → rs = ⟨(blkL L).toArray⟩ ∧ re = 0) := Lib.hid (by
    intro hx
    unfold buildP at hr
    rw [if_neg (by rw [hx]; decide), if_neg (by rw [hsh]; decide), if_neg (by omega)] at hr
    exact ⟨(congrArg Prod.fst hr).symm, (congrArg Prod.snd hr).symm⟩)
  clear h hok hr hsh hsz hT
  go_enter Tryz.func10, Tryz.ntmps10
  go_wp2_with fail
  go_loopw [11] (fun i wr => ∃ k : Nat, i = .int .i64 (k : Int) ∧ Hid (∀ (i : Nat) (a b : KV), i + 1 < k → L[i]? = some a → L[i + 1]? = some b → cmpT a.1 b.1 < 0) ∧ Hid (Below w.heap.size w wr)) (fun i _ => n + 1 - (intOf i).toNat)
  case atStart => exact ⟨0, rfl, Lib.hid (fun i a b hi => by omega), Lib.hid (Below.refl _ _)⟩
  case round =>
    obtain ⟨k, rfl, Hf, HB⟩ := hrel
    by_cases hl : k < n
    · have g1 : (k : Int) < (n : Int) := by omega
      have g2 : (0 : Int) ≤ (k : Int) := by omega
      by_cases hk0 : k = 0
      · subst hk0
        go_wp2_with fail
        go_quiet (fail)
        go_wp2_with fail
        go_roundw
        case rel => exact ⟨1, by go_num, Lib.hid (fun i a b hi => by omega), Lib.hid (below_drewN HB.out _)⟩
        case measure => simp [intOf]
      · obtain ⟨m, hkm⟩ : ∃ m, k = m + 1 := ⟨k - 1, by omega⟩
        have hmL : m < L.length := by have := Hlen.out; omega
        have hkL : k < L.length := by have := Hlen.out; omega
        have ha : L[m]? = some L[m] := List.getElem?_eq_getElem hmL
        have hb : L[k]? = some L[k] := List.getElem?_eq_getElem hkL
        have oa := (Hok.out L[m] (List.getElem_mem hmL)).1
        have ob := (Hok.out L[k] (List.getElem_mem hkL)).1
        generalize L[m] = a at *
        generalize L[k] = b at *
        obtain ⟨g, off, rfl, hg, x0, -, y0, -⟩ := (HK.out.below HB.out).two ha hb
        have CC := fun W => Lib.hid (compare_T a.1 b.1 W)
        have g3 : (m : Int) < (n : Int) := by omega
        have g4 : (0 : Int) ≤ (m : Int) := by omega
        have g5 : wrap64 ((k : Int) - 1) = (m : Int) := by unfold wrap64; omega
        have g6 : IntKind.i64.wrap ((k : Int) - 1) = (m : Int) := by rw [IntKind.wrap_i64]; omega
        have g7 : 0 < k := by omega
        have Ha := Lib.hid ha
        have Hb := Lib.hid hb
        have Hkm := Lib.hid hkm
        by_cases he : cmpT a.1 b.1 < 0
        · have e1 : ¬ (0 : Int) ≤ cmpT a.1 b.1 := by omega
          have e2 : decide ((0 : Int) ≤ cmpT a.1 b.1) = false := decide_eq_false e1
          have Hf2 : Hid (∀ (i : Nat) (a b : KV), i + 1 < k + 1 → L[i]? = some a → L[i + 1]? = some b → cmpT a.1 b.1 < 0) := Lib.hid (by
            intro i a' b' hi ha' hb'
            by_cases e : i = m
            · subst e
              rw [← hkm, Hb.out] at hb'
              rw [Ha.out] at ha'
              cases ha'
              cases hb'
              exact he
            · exact Hf.out i a' b' (by omega) ha' hb')
          generalize cmpT a.1 b.1 = cm at *
          clear he ha hb hkm hk0 hmL hkL oa ob Hf
          go_upto_region 4 with fail
          go_quiet ((go_at_call 23; refine Calls.quiet_of_same (CC _).out))
          go_wp2_with fail
          go_roundw
          case rel => exact ⟨k + 1, by go_num, Hf2, Lib.hid (below_drewN HB.out _)⟩
          case measure => simp [intOf]; omega
        · have e1 : (0 : Int) ≤ cmpT a.1 b.1 := by omega
          have e2 : decide ((0 : Int) ≤ cmpT a.1 b.1) = true := decide_eq_true e1
          have e3 : risesK L = false := rises_not ha (by rw [← hkm]; exact hb) he
          have Hre : Hid (rs = ByteArray.empty ∧ re = 32) := Lib.hid (by
            have := Hr.out
            unfold buildP at this
            rw [if_pos e3] at this
            exact ⟨(congrArg Prod.fst this).symm, (congrArg Prod.snd this).symm⟩)
          generalize cmpT a.1 b.1 = cm at *
          clear he ha hb hkm hk0 hmL hkL oa ob Hf e3
          go_upto_region 4 with fail
          go_quiet ((go_at_call 23; refine Calls.quiet_of_same (CC _).out))
          go_wp2_with fail
          go_ret2
          exact ⟨by rw [Hre.out.1, Hre.out.2]; rfl, below_drewN HB.out _⟩
    · have e3 : risesK L = true := rises_iff L fun i a b ha hb => Hf.out i a b (by
        have h1 := (List.getElem?_eq_some_iff.1 hb).1
        have := Hlen.out
        omega) ha hb
      obtain ⟨rfl, rfl⟩ := Hbp.out e3
      have g1 : ¬ (k : Int) < (n : Int) := by omega
      clear Hf e3 Hr Hbp
      go_wp2_with fail
      have H0 : Hid (IsF wr.heap.size wr.heap.size (bodyL 0 [] (L.take 0)) (wr.alloc (.cells #[.pointer none, .slice none 0 0] 64))) := Lib.hid (isF_new wr)
      have HB0 : Hid (Below w.heap.size w (wr.alloc (.cells #[.pointer none, .slice none 0 0] 64))) := Lib.hid (below_alloc HB.out (Nat.le_refl _) _)
      have hs0 : wr.heap.size ≤ (wr.alloc (.cells #[.pointer none, .slice none 0 0] 64)).heap.size := by simp
      have hws : w.heap.size ≤ wr.heap.size := HB.out.size
      generalize wr.alloc (.cells #[.pointer none, .slice none 0 0] 64) = w1 at *
      generalize wr.heap.size = b at *
      clear HB
      go_loopw [6, 34] (fun x i W => ∃ (j : Nat) (pk : ByteArray), j ≤ n ∧ pk.size ≤ 65536 ∧ i = .int .i64 (j : Int) ∧ x = .string pk ∧ Hid (bl pk = lastK [] (L.take j)) ∧ Hid (IsF b b (bodyL 0 [] (L.take j)) W) ∧ b ≤ W.heap.size ∧ Hid (Below w.heap.size w W)) (fun _ i _ => n - (intOf i).toNat)
      case atStart => exact ⟨0, _, by omega, by decide, rfl, rfl, Lib.hid rfl, H0, hs0, HB0⟩
      case round =>
        obtain ⟨j, pk, hj, hpk, rfl, rfl, Hpk, HF, hbW, HW⟩ := hrel
        rename_i W _
        by_cases hjn : j < n
        · have hjL : j < L.length := by have := Hlen.out; omega
          have hm : L[j]? = some L[j] := List.getElem?_eq_getElem hjL
          have om := Hsh.out L[j] (List.getElem_mem hjL)
          generalize L[j] = mm at *
          obtain ⟨mk, mv⟩ := mm
          dsimp only at om
          obtain ⟨g, off, hA, hg, x0, x1⟩ := (HK.out.below HW.out).at_ j _ hm
          subst hA
          dsimp only at x0 x1
          have j1 : (j : Int) < (n : Int) := by omega
          have j2 : (0 : Int) ≤ (j : Int) := by omega
          have o1 : ¬ (65536 : Int) < (mk.size : Int) := by omega
          have o2 : ¬ (65536 : Int) < (mv.size : Int) := by omega
          have Hm := Lib.hid hm
          clear hm hjL
          go_wp2_with fail
          have S1 : LaySt wr b wr.heap.size (bodyL 0 [] (L.take j)) mk mv (wr.alloc (.cells #[.string mk, .string mv] 53)) :=
            ⟨Blk.new _ _ _, isF_below HF.out (below_alloc (Below.refl wr.heap.size wr) (Nat.le_refl _) _) (Nat.le_refl _), (Tn.refl b bT wr).alloc _, by simp; omega⟩
          have hcl := comI_le j (bl pk) (bl mk)
          have hbl : (bl mk).length = mk.size := rfl
          have hbd := body_take_le L j
          have hbe : onePair j (lastK [] (L.take j)) (bl mk) (bl mv) = pv (comI j (bl pk) (bl mk)) ++ (pv (mk.size - comI j (bl pk) (bl mk)) ++ (pv mv.size ++ ((bl mk).drop (comI j (bl pk) (bl mk)) ++ bl mv))) := by
            rw [← Hpk.out]; rfl
          have hnx := ctake_body Hm.out
          have hlast := clastK_take Hm.out
          dsimp only at hnx hlast
          rw [hbe] at hnx
          have hsz := Hsz.out
          have hbd2 := body_take_le L (j + 1)
          have C1 := fun W h => Lib.hid (pst_common (w0 := wr) (b := b) (p := wr.heap.size) (l := bodyL 0 [] (L.take j)) (mk := mk) (mv := mv) j pk (by omega) hpk om.1 W h)
          have C2 := fun W h => Lib.hid (pst_lay (w0 := wr) (b := b) (p := wr.heap.size) (l := bodyL 0 [] (L.take j)) (mk := mk) (mv := mv) (comI j (bl pk) (bl mk)) (by omega) om.1 om.2 (by omega) W h)
          rw [← hnx] at C2
          generalize comI j (bl pk) (bl mk) = sh at *
          have Hlast := Lib.hid hlast
          have Hbd2 := Lib.hid hbd2
          have HWn : Hid (∀ W', Tn b bT wr W' → Below w.heap.size w W') := Lib.hid (fun W' ht => HW.out.trans ((ht.below hbW).mono hws))
          obtain ⟨l2, hl2⟩ : ∃ l2, bodyL 0 [] (L.take (j + 1)) = l2 := ⟨_, rfl⟩
          rw [hl2] at C2
          have Hl2 := Lib.hid hl2
          clear hl2
          generalize wr.alloc (.cells #[.string mk, .string mv] 53) = w2 at *
          generalize wr.heap.size = p at *
          clear hcl hbd hbe hnx hlast hsz hbd2 hbl x0 x1 Hpk HF HW
          have S2 := S1.drew
          clear S1
          go_upto_region 14 with fail
          go_region_held3 (fun W => W.cell? ⟨p, 0, none⟩ = some (.string mk) ∧ W.cell? ⟨p, 1, none⟩ = some (.string mv))
            (first | exact S2.cells | exact LaySt.cells (by assumption))
            (first
              | (go_at_call 24; refine (C2 _ S5).out.mono ?_; rintro e w6 ⟨rfl, S6⟩)
              | (go_at_call 25; refine (C1 _ S2).out.mono ?_; rintro e w5 ⟨rfl, S5⟩))
          have q0 := S6.cells.1
          have HF6 := Lib.hid S6.isF
          have HW6 := Lib.hid (HWn.out _ S6.tn)
          have D6 := Lib.hid (blenF_any b b l2 w6 S6.isF)
          have hl6 : (l2.length : Int) ≤ 524280 := by have := Hbd2.out; rw [Hl2.out] at this; have := Hsz.out; omega
          have hb6 := S6.low
          clear S2 S5 S6 C1 C2 HWn
          go_wp2_with fail
          refine D6.out.mono ?_
          rintro e w7 ⟨rfl, rfl⟩
          go_wp2_with fail
          go_roundw
          case rel => exact ⟨j + 1, mk, by omega, om.1, by go_num, rfl, Lib.hid Hlast.out.symm, Lib.hid (by rw [Hl2.out]; exact HF6.out), hb6, HW6⟩
          case measure => simp [intOf]; omega
        · obtain rfl : j = n := by omega
          have hLj : L.take j = L := List.take_of_length_le (by have := Hlen.out; omega)
          rw [hLj] at HF
          have hlen : L.length = j := Hlen.out.symm
          have hsz := Hsz.out
          have j1 : ¬ (j : Int) < (j : Int) := by omega
          have Hblk : Hid (blkL L = (bodyL 0 [] L ++ be j 4) ++ be (crc (bodyL 0 [] L ++ be j 4)) 4) := Lib.hid (by unfold blkL; rw [hlen])
          obtain ⟨X, hX⟩ : ∃ X, bodyL 0 [] L = X := ⟨_, rfl⟩
          rw [hX] at HF Hblk hsz
          have C1 := Lib.hid (fixed_any j wr (by omega))
          clear hLj hlen hX Hpk
          go_wp2_with fail
          refine C1.out.mono ?_
          rintro e w2 ⟨rfl, hb2⟩
          have be4 : (be j 4).length = 4 := be_length j 4
          have D2 := Lib.hid (bstrF_any b b X ⟨(be j 4).toArray⟩ w2 (isF_tn HF.out hb2) (by rw [size_mk]; omega) (Nat.le_trans hbW hb2.size))
          have T2 := Lib.hid (Tn.of_below (B := b) (T := bT) hb2)
          clear hb2 C1
          go_wp2_with fail
          refine D2.out.mono ?_
          rintro e w3 ⟨rfl, h3, t3⟩
          have T3 := Lib.hid (T2.out.trans t3)
          have HB3 := Lib.hid (HW.out.trans ((T3.out.below hbW).mono hws))
          have hb3 : b ≤ w3.heap.size := Nat.le_trans hbW T3.out.size
          obtain ⟨Y, hY⟩ : ∃ Y, X ++ be j 4 = Y := ⟨_, rfl⟩
          have hYl : Y.length = X.length + 4 := by rw [← hY, List.length_append, be4]
          rw [hY] at h3 Hblk
          have E3 := Lib.hid (bstringF_any b b Y w3 h3 hb3)
          clear h3 t3 hY D2 T2
          go_wp2_with fail
          refine E3.out.mono ?_
          rintro e w4 ⟨rfl, h4, b4⟩
          have HB4 := Lib.hid (HB3.out.trans (b4.mono hws))
          have L4 := HT.out.on HB4.out
          have hb4 : b ≤ w4.heap.size := Nat.le_trans hb3 b4.size
          have S4 := Lib.hid (sum_any ⟨Y.toArray⟩ w4 (by rw [size_mk]; omega) L4.halves)
          have S4 : Hid (Calls Tryz.prog 29 #[.string ⟨Y.toArray⟩] w4 fun e w' => e = .returned (.int .i64 (crc Y : Int)) ∧ w4 = w') := S4
          have hcr := crc_lt Y
          obtain ⟨z, hz⟩ : ∃ z, crc Y = z := ⟨_, rfl⟩
          rw [hz] at S4 hcr Hblk
          have C4 := Lib.hid (fixed_any z w4 hcr)
          have H4 := Lib.hid h4
          clear hz h4 b4 L4 E3
          go_wp2_with fail
          refine S4.out.mono ?_
          rintro e w5 ⟨rfl, rfl⟩
          go_wp2_with fail
          refine C4.out.mono ?_
          rintro e w5 ⟨rfl, hb5⟩
          have ze4 : (be z 4).length = 4 := be_length z 4
          have D5 := Lib.hid (bstrF_any b b Y ⟨(be z 4).toArray⟩ w5 (isF_tn H4.out hb5) (by rw [size_mk]; omega) (Nat.le_trans hb4 hb5.size))
          have T5 := Lib.hid (Tn.of_below (B := b) (T := bT) hb5)
          clear hb5 C4 S4
          go_wp2_with fail
          refine D5.out.mono ?_
          rintro e w6 ⟨rfl, h6, t6⟩
          have T6 := Lib.hid (T5.out.trans t6)
          have HB6 := Lib.hid (HB4.out.trans ((T6.out.below hb4).mono hws))
          have hb6 : b ≤ w6.heap.size := Nat.le_trans hb4 T6.out.size
          have h6 : IsF b b (Y ++ be z 4) w6 := h6
          rw [← Hblk.out] at h6
          have E6 := Lib.hid (bstringF_any b b (blkL L) w6 h6 hb6)
          clear h6 t6 D5
          go_wp2_with fail
          refine E6.out.mono ?_
          rintro e w7 ⟨rfl, h7, b7⟩
          have HB7 := Lib.hid (HB6.out.trans (b7.mono hws))
          clear h7 b7
          go_wp2_with fail
          go_ret2
          exact ⟨rfl, HB7.out⟩
end Go.Proofs.YtmoffcgbjmeiaaaGreatDoor

namespace Go.Proofs.YtmoffcgbjmeiaaaGreatDoor
open Go.RowKit

def bname (i k : Nat) : ByteArray := ⟨#[109, UInt8.ofNat (65 + i % 26), UInt8.ofNat (65 + i / 26 % 26), UInt8.ofNat (48 + k % 10), UInt8.ofNat (48 + k / 10 % 10), UInt8.ofNat (48 + k / 100 % 10)]⟩

set_option maxRecDepth 100000 in
set_option maxHeartbeats 1000000 in
theorem bname_any (i k : Nat) (w : World) (hi : i ≤ 1000) (hk : k ≤ 1000000) :
    Calls Tryz.prog 145 #[.int .i64 (i : Int), .int .i64 (k : Int)] w fun e w' => e = .returned (.string (bname i k)) ∧ Below w.heap.size w w' := by
  have hi' : (i : Int) ≤ 1000 := by omega
  have hk' : (k : Int) ≤ 1000000 := by omega
  obtain ⟨z1, hz1, g1⟩ : ∃ z : Nat, 65 + (i : Int) % 26 = (z : Int) ∧ z < 256 ∧ UInt8.ofNat (65 + i % 26) = UInt8.ofNat z := ⟨65 + i % 26, by omega, by omega, rfl⟩
  obtain ⟨z2, hz2, g2⟩ : ∃ z : Nat, 65 + (i : Int) / 26 % 26 = (z : Int) ∧ z < 256 ∧ UInt8.ofNat (65 + i / 26 % 26) = UInt8.ofNat z := ⟨65 + i / 26 % 26, by omega, by omega, rfl⟩
  obtain ⟨z3, hz3, g3⟩ : ∃ z : Nat, 48 + (k : Int) % 10 = (z : Int) ∧ z < 256 ∧ UInt8.ofNat (48 + k % 10) = UInt8.ofNat z := ⟨48 + k % 10, by omega, by omega, rfl⟩
  obtain ⟨z4, hz4, g4⟩ : ∃ z : Nat, 48 + (k : Int) / 10 % 10 = (z : Int) ∧ z < 256 ∧ UInt8.ofNat (48 + k / 10 % 10) = UInt8.ofNat z := ⟨48 + k / 10 % 10, by omega, by omega, rfl⟩
  obtain ⟨z5, hz5, g5⟩ : ∃ z : Nat, 48 + (k : Int) / 100 % 10 = (z : Int) ∧ z < 256 ∧ UInt8.ofNat (48 + k / 100 % 10) = UInt8.ofNat z := ⟨48 + k / 100 % 10, by omega, by omega, rfl⟩
  unfold bname
  rw [g1.2, g2.2, g3.2, g4.2, g5.2]
  replace g1 := g1.1
  replace g2 := g2.1
  replace g3 := g3.1
  replace g4 := g4.1
  replace g5 := g5.1
  have hu : ∀ z : Nat, z < 256 → (z : Int) = ((UInt8.ofNat z).toNat : Int) := fun z hz => by rw [UInt8.toNat_ofNat']; omega
  have hcv : (convert 54 9 (.slice (some ⟨w.heap.size, 0, none⟩) 6 6)).run Tryz.prog (w.alloc (.cells #[.int .u8 109, .int .u8 (z1 : Int), .int .u8 (z2 : Int), .int .u8 (z3 : Int), .int .u8 (z4 : Int), .int .u8 (z5 : Int)] 5)) = .ok (.string ⟨#[109, UInt8.ofNat z1, UInt8.ofNat z2, UInt8.ofNat z3, UInt8.ofNat z4, UInt8.ofNat z5]⟩) (w.alloc (.cells #[.int .u8 109, .int .u8 (z1 : Int), .int .u8 (z2 : Int), .int .u8 (z3 : Int), .int .u8 (z4 : Int), .int .u8 (z5 : Int)] 5)) := by
    refine run_convert_bytes_back _ 54 9 5 ⟨w.heap.size, 0, none⟩ 6 [109, UInt8.ofNat z1, UInt8.ofNat z2, UInt8.ofNat z3, UInt8.ofNat z4, UInt8.ofNat z5] Tryz.underlying54 Tryz.underlying5 Tryz.underlying9 fun j hj => ?_
    refine cells_new w 5 [.int .u8 109, .int .u8 (z1 : Int), .int .u8 (z2 : Int), .int .u8 (z3 : Int), .int .u8 (z4 : Int), .int .u8 (z5 : Int)] j _ ?_
    rw [hu z1 g1, hu z2 g2, hu z3 g3, hu z4 g4, hu z5 g5]
    match j, hj with
    | 0, _ => rfl
    | 1, _ => rfl
    | 2, _ => rfl
    | 3, _ => rfl
    | 4, _ => rfl
    | 5, _ => rfl
  clear hu
  have hb : Below w.heap.size w (w.alloc (.cells #[.int .u8 109, .int .u8 (z1 : Int), .int .u8 (z2 : Int), .int .u8 (z3 : Int), .int .u8 (z4 : Int), .int .u8 (z5 : Int)] 5)) := (Below.refl _ _).alloc (Nat.le_refl _) _
  go_enter Tryz.func145, Tryz.ntmps145
  go_wp2_with fail
  go_ret
  exact ⟨rfl, hb⟩
end Go.Proofs.YtmoffcgbjmeiaaaGreatDoor

namespace Go.Proofs.YtmoffcgbjmeiaaaGreatDoor
open Go.RowKit

def elKeys : El (ByteArray × ByteArray) := ⟨fun x => [.string x.1, .string x.2], 2, by decide, fun _ => rfl, fun x u hu => by simp at hu; rcases hu with rfl | rfl <;> rfl, fun i k => (bname i k, ⟨#[]⟩)⟩
def okKeys (x : ByteArray × ByteArray) : Prop := x.1.size ≤ 9223372036854775807 ∧ x.2.size ≤ 9223372036854775807
theorem okmKeys (i start n : Nat) : ∀ x ∈ elKeys.marks i start n, okKeys x := by
  intro x hx
  obtain ⟨k, _, rfl⟩ := List.mem_map.1 hx
  exact ⟨by show (6 : Nat) ≤ _; decide, by show (0 : Nat) ≤ _; decide⟩
theorem infoKeys : (Tryz.prog.info? 53).map (fun i => (i.zero, i.size, i.bytes)) = some (some (.agg #[.string ⟨#[]⟩, .string ⟨#[]⟩]), elKeys.sz, 32) := by kernel_rfl
theorem underKeys : Tryz.prog.underlying 22 = some (.slice 53) := by kernel_rfl
set_option maxRecDepth 100000 in
set_option maxHeartbeats 1000000 in
theorem markKeys_any (i start n : Nat) (w : World) (hi : i ≤ 1000) (hn : start + n ≤ 1000000) :
    Calls Tryz.prog 126 #[.int .i64 (i : Int), .int .i64 (start : Int), .int .i64 (n : Int)] w fun e w' => ∃ v, e = .returned v ∧ Own elKeys w' w.heap.size 53 v (elKeys.marks i start n) ∧ w.grownBy w' none := by
  have a1 : (i : Int) ≤ 1000 := by omega
  have a2 : (start : Int) + (n : Int) ≤ 1000000 := by omega
  go_enter Tryz.func126, Tryz.ntmps126
  go_wp2_with fail
  go_loopw [7, 8] (fun o k wr => ∃ j : Nat, j ≤ n ∧ k = .int .i64 ((start : Int) + (j : Int)) ∧ Hid (Own elKeys wr w.heap.size 53 o (elKeys.marks i start j)) ∧ Hid (w.grownBy wr none)) (fun _ k _ => start + n - (intOf k).toNat)
  case atStart => exact ⟨0, by omega, by simp, World.ownsRow_nil _ _ _ _, grefl _ _⟩
  case round =>
    obtain ⟨j, hj, rfl, HN, HG⟩ := hrel
    by_cases hl : j < n
    · obtain ⟨ao, co, eo⟩ := HN.out.slice
      rw [El.marks_length] at eo
      subst eo
      have hl1 : (start : Int) + (j : Int) < (start : Int) + (n : Int) := by omega
      have hjn : j ≤ 1000000 := by omega
      have NM := fun W => Lib.hid (bname_any i (start + j) W hi (by omega))
      push_cast at NM
      clear hjn
      go_wp2_with fail
      refine (NM _).out.mono ?_
      rintro e w1 ⟨rfl, hb1⟩
      have HN1 := Lib.hid (HN.out.below hb1)
      have HG1 := Lib.hid (gnone HG.out (g_below hb1))
      clear hb1 NM
      have Ha : Own elKeys (w1.alloc (.cells #[.string (bname i (start + j)), .string ⟨#[]⟩] 53)) w.heap.size 53 (.slice ao j co) (elKeys.marks i start j) := World.ownsRow.alloc HN1.out _
      obtain ⟨v', w2, hr, hown, hgr, _, _⟩ := app_own (P := Tryz.prog) elKeys 22 53 (.agg #[.string ⟨#[]⟩, .string ⟨#[]⟩]) 32 underKeys infoKeys rfl (w1.alloc (.cells #[.string (bname i (start + j)), .string ⟨#[]⟩] 53)) w.heap.size (.slice ao j co) (elKeys.marks i start j) [elKeys.mark i (start + j)] Ha (some ⟨w1.heap.size, 0, none⟩) 1 (fun h => by cases h) (fun a ha j' u hu => by
        cases ha
        rw [El.row_one] at hu
        refine cells_new w1 53 [.string (bname i (start + j)), .string ⟨#[]⟩] j' u ?_
        skip
        exact hu) (by rw [El.marks_length]; unfold maxLen; simp; omega) (by rw [El.marks_length]; simp; omega) (Nat.le_trans HG1.out.size (by simp)) 1 rfl
      rw [← El.marks_succ] at hown
      have HR := fun ty => Lib.hid (hr ty)
      have HN2 := Lib.hid hown
      have HG2 := Lib.hid (grow_k (gnone HG1.out (World.grownBy_alloc w1 (.cells #[.string (bname i (start + j)), .string ⟨#[]⟩] 53) none)) Ha (Nat.le_refl _) hgr)
      clear hr hown hgr Ha HN HG HN1 HG1
      go_wp2_with (at_builtin; refine wpList_append_k _ w2 rfl (.tmp 17) (.tmp 22) 22 rfl _ _ v' rfl rfl (fun ty => (HR ty).out) ?_)
      go_roundw
      case rel => exact ⟨j + 1, by omega, by go_num, HN2, HG2⟩
      case measure => simp [intOf]; omega
    · obtain rfl : j = n := by omega
      go_wp2_with fail
      go_ret
      exact ⟨_, rfl, HN.out, HG.out⟩
theorem keysS2 (x y : ByteArray) (hx : x.size ≤ maxLen) (hy : y.size ≤ maxLen) : Tryz.prog.keyLits 2 53 [.string x, .string y] = some [.string x.data.toList, .string y.data.toList] := by
  have hc : Tryz.prog.cellsOf 9 = 1 := by kernel_rfl
  have r2 : List.range 2 = [0, 1] := rfl
  have hl : Tryz.prog.cellsOf 53 = 2 := by kernel_rfl
  unfold Program.keyLits
  rw [Tryz.underlying53]
  simp [hl, r2, hc, Program.keyLits, Tryz.underlying9, hx, hy]
theorem eqS2 (x y : ByteArray) (hx : x.size ≤ maxLen) (hy : y.size ≤ maxLen) (W : World) : (binOp .eql 53 (.agg #[.string x, .string y]) (.agg #[.string x, .string y])).run Tryz.prog W = .ok (.bool true) W := by
  rw [run_eql_struct]
  obtain ⟨r, hr, hiff⟩ := run_equalIn_deep (P := Tryz.prog) 9998 2 53 (by kernel_rfl) W 2 2 (.agg #[.string x, .string y]) (.agg #[.string x, .string y]) _ _ (by kernel_rfl) (by kernel_rfl) (keysS2 x y hx hy) (keysS2 x y hx hy)
  rw [show (10000 : Nat) = 9998 + 2 from rfl, hr]
  have : r = true := hiff.2 rfl
  subst this
  rfl

set_option maxRecDepth 100000 in
set_option maxHeartbeats 1000000 in
theorem sameKeys_any (A1 A2 : Option Addr) (n1 n2 c1 c2 B1 B2 : Nat) (L : List (ByteArray × ByteArray)) (w : World) (h1 : Own elKeys w B1 53 (.slice A1 n1 c1) L) (h2 : Own elKeys w B2 53 (.slice A2 n2 c2) L) (hL : L.length ≤ 1000000) (hok : ∀ x ∈ L, okKeys x) :
    Calls Tryz.prog 13 #[.slice A1 n1 c1, .slice A2 n2 c2] w fun e w' => e = .returned (.bool true) ∧ ∃ q, w' = w.drewN q := by
  have r1 := own_reads h1
  have r2 := own_reads h2
  obtain ⟨rfl, _, rd1⟩ := r1
  obtain ⟨rfl, _, rd2⟩ := r2
  have f1 := fun hn => Own.some_ h1 hn
  have f2 := fun hn => Own.some_ h2 hn
  obtain ⟨n, hn⟩ : ∃ n, n = L.length := ⟨_, rfl⟩
  have HL := Lib.hid hn
  rw [← hn] at f1 f2 hL ⊢
  have H1 := Lib.hid h1
  have H2 := Lib.hid h2
  have F1 := Lib.hid f1
  have F2 := Lib.hid f2
  have hL' : (n : Int) ≤ 1000000 := by omega
  clear h1 h2 rd1 rd2 f1 f2 hn
  go_enter Tryz.func13, Tryz.ntmps13
  go_wp2_with fail
  go_loopw [5] (fun i wr => ∃ k q : Nat, k ≤ n ∧ i = .int .i64 (k : Int) ∧ Hid (wr = w.drewN q)) (fun i _ => n - (intOf i).toNat)
  case atStart => exact ⟨0, 0, by omega, rfl, rfl⟩
  case round =>
    obtain ⟨k, q, hk, rfl, Hw⟩ := hrel
    by_cases hl : k < n
    · obtain ⟨g1, d1, cur1, e1, _⟩ := F1.out (by omega)
      obtain ⟨g2, d2, cur2, e2, _⟩ := F2.out (by omega)
      injection e1 with e1 e1b e1c
      injection e2 with e2 e2b e2c
      clear e1b e1c e2b e2c
      subst e1 e2
      have hkL : k < L.length := by rw [← HL.out]; exact hl
      obtain ⟨x, hx⟩ : ∃ x, L[k]? = some x := ⟨_, List.getElem?_eq_getElem hkL⟩
      have y0 : wr.cell? ⟨g1, k * 2, none⟩ = some (.string x.1) := by
        rw [Hw.out]
        have h9 := Own.cells (j := 0) H1.out hx (by decide) rfl
        rwa [show k * elKeys.sz + 0 = k * 2 from by show k * 2 + 0 = _; omega] at h9
      have y1 : wr.cell? ⟨g1, k * 2 + 1, none⟩ = some (.string x.2) := by
        rw [Hw.out]
        have h9 := Own.cells (j := 1) H1.out hx (by decide) rfl
        rwa [show k * elKeys.sz + 1 = k * 2 + 1 from by show k * 2 + 1 = _; omega] at h9
      have z0 : wr.cell? ⟨g2, k * 2, none⟩ = some (.string x.1) := by
        rw [Hw.out]
        have h9 := Own.cells (j := 0) H2.out hx (by decide) rfl
        rwa [show k * elKeys.sz + 0 = k * 2 from by show k * 2 + 0 = _; omega] at h9
      have z1 : wr.cell? ⟨g2, k * 2 + 1, none⟩ = some (.string x.2) := by
        rw [Hw.out]
        have h9 := Own.cells (j := 1) H2.out hx (by decide) rfl
        rwa [show k * elKeys.sz + 1 = k * 2 + 1 from by show k * 2 + 1 = _; omega] at h9
      have ox := hok x (List.mem_of_getElem? hx)
      obtain ⟨xa, xb⟩ := x
      have EQ := eqS2 xa xb ox.1 ox.2
      have hl1 : (k : Int) < (n : Int) := by omega
      clear hx hkL
      go_wp2_with fail
      go_quiet (fail)
      go_wp2_with fail
      go_roundw
      case rel => exact ⟨k + 1, _, by omega, by go_num, (by rw [Hw.out, World.drewN_drewN]; rfl)⟩
      case measure => simp [intOf]; omega
    · obtain rfl : k = n := by omega
      go_wp2_with fail
      go_ret
      exact ⟨rfl, q, Hw.out⟩
set_option maxRecDepth 100000 in
set_option maxHeartbeats 1000000 in
theorem copyKeys_any (A : Option Addr) (n c B : Nat) (L : List (ByteArray × ByteArray)) (w : World) (h : Own elKeys w B 53 (.slice A n c) L) (hL : L.length ≤ 1000000) :
    Calls Tryz.prog 36 #[.slice A n c] w fun e w' => ∃ A2 c2, e = .returned (.slice A2 n c2) ∧ Own elKeys w' w.heap.size 53 (.slice A2 n c2) L ∧ w.grownBy w' none := by
  obtain ⟨rfl, hA, hM⟩ := own_reads h
  obtain ⟨v', w2, hr, hown, hgr, _, _⟩ := app_own (P := Tryz.prog) elKeys 22 53 (.agg #[.string ⟨#[]⟩, .string ⟨#[]⟩]) 32 underKeys infoKeys rfl w w.heap.size (.slice none 0 0) [] L (World.ownsRow_nil _ _ _ _) A c hA hM (by unfold maxLen; simp; omega) (by simp; omega) (Nat.le_refl _) L.length rfl
  rw [List.nil_append] at hown
  obtain ⟨a2, c2, rfl⟩ := hown.slice
  have HO := Lib.hid hown
  have HG : Hid (w.grownBy w2 none) := hgr
  have HR := fun ty => Lib.hid (hr ty)
  clear h hA hM hr hown hgr hL
  generalize L.length = n at *
  go_enter Tryz.func36, Tryz.ntmps36
  go_wp2_with (at_builtin; refine wpList_append_k _ w2 rfl (.const (.slice none 0 0)) (.tmp 3) 22 rfl _ _ (.slice a2 n c2) rfl rfl (fun ty => (HR ty).out) ?_)
  go_ret
  exact ⟨_, _, rfl, HO.out, HG.out⟩
end Go.Proofs.YtmoffcgbjmeiaaaGreatDoor

namespace Go.Proofs.YtmoffcgbjmeiaaaGreatDoor
open Go.RowKit
section
variable {P : Program} {w : World} {B : Nat} {e : TypeId} {v : Value} {l : List UInt8}
theorem byt_up {w' : World} (h : Byt w B e v l) (hb : Below w.heap.size w w') : Byt w' B e v l := by
  refine ⟨h.1, ?_⟩
  rcases h.2 with hn | ⟨g, cap, cur, hv, hg, hh, r⟩
  · exact Or.inl hn
  · exact Or.inr ⟨g, cap, cur, hv, hg, (hb.block g (Array.getElem?_eq_some_iff.1 hh).1).trans hh, r⟩
theorem append_str (t u ty : TypeId) (ht : P.underlying t = some (.slice e)) (hu : P.underlying u = some .string) (hi : (P.info? e).map (fun i => (i.zero, i.size, i.bytes)) = some (some (.int .u8 0), 1, 1))
    (hown : Byt w B e v l) (s : ByteArray) (hl : l.length + s.size < 140737488355328) (hB : B ≤ w.heap.size) :
    ∃ v' w', (Builtin.append_ #[t, u] ty #[v, .string s]).run P w = .ok v' w' ∧ Byt w' B e v' (l ++ s.data.toList) ∧ w.grownBy w' v.ownBlock := by
  obtain ⟨i0, hi0, hz0, hz1, hz2⟩ := info_parts hi
  obtain ⟨v', w', h1, h2, h3, _⟩ := Go.Lib.run_append_own_string (P := P) w B t u ty e i0 ht hu hi0 hz0 hz1 hz2 v l.length (l.map b8) hown s (by unfold maxLen; omega) (by omega) hB
  refine ⟨v', w', h1, ?_, h3⟩
  unfold Byt
  rw [List.length_append, List.map_append]
  exact h2
/-- At a region that draws. -/
theorem step_append_str {ops : Array Oper} {o : Oper} {a : Act} {K : Act → World → Prop} {Q : Exit → Act → World → Prop} {E : Prop} (hgd : o.guard = none) (s x : Operand) (t u : TypeId)
    (ho : o.op = .call { callee := .builtin .append, args := #[s, x], argTypes := #[t, u] }) (ht : P.underlying t = some (.slice e)) (hu : P.underlying u = some .string) (hi : (P.info? e).map (fun i => (i.zero, i.size, i.bytes)) = some (some (.int .u8 0), 1, 1))
    (hs : a.eval s = v) (hown : Byt w B e v l) (str : ByteArray) (hx : a.eval x = .string str) (hl : l.length + str.size < 140737488355328) (hB : B ≤ w.heap.size)
    (h : ∀ v' w', Byt w' B e v' (l ++ str.data.toList) → w.grownBy w' v.ownBlock → K (a.put o.dst v') w') : if Region.wanted o (yielded ops a.tmps) = true then Oper.wp P o a w K Q else E := by
  have hw : Region.wanted o (yielded ops a.tmps) = true := by simp [Region.wanted, hgd]
  rw [if_pos hw]
  obtain ⟨v', w', h1, h2, h3⟩ := append_str (P := P) t u o.type ht hu hi hown str hl hB
  unfold Oper.wp
  simp [execOp, ho, resolve, invoke, builtin, hs, hx, h1, Result.andThen]
  exact h v' w' h2 h3
/-- In a list of operations. -/
theorem wpList_append_str (w : World) {ops : Array Oper} {rest : List Oper} {o : Oper} {a : Act} {Q : Exit → Act → World → Prop} (hgd : o.guard = none) (s x : Operand) (t u : TypeId)
    (ho : o.op = .call { callee := .builtin .append, args := #[s, x], argTypes := #[t, u] }) (ht : P.underlying t = some (.slice e)) (hu : P.underlying u = some .string) (hi : (P.info? e).map (fun i => (i.zero, i.size, i.bytes)) = some (some (.int .u8 0), 1, 1))
    (hs : a.eval s = v) (hown : Byt w B e v l) (str : ByteArray) (hx : a.eval x = .string str) (hl : l.length + str.size < 140737488355328) (hB : B ≤ w.heap.size)
    (h : ∀ v' w', Byt w' B e v' (l ++ str.data.toList) → w.grownBy w' v.ownBlock → wpList P ops Q rest (a.put o.dst v') w') : wpList P ops Q (o :: rest) a w := by
  refine wpList_plain hgd fun K hK => ?_
  obtain ⟨v', w', h1, h2, h3⟩ := append_str (P := P) t u o.type ht hu hi hown str hl hB
  unfold Oper.wp execOp
  simp only [ho, resolve, invoke, builtin, Sem.run_bind, Sem.run_pure, Result.andThen_ok, List.map_toArray, List.map_cons, List.map_nil, hs, hx, h1]
  exact hK _ _ (h v' w' h2 h3)
theorem cat_is (a b c : ByteArray) (hc : a ++ b = c) (h : a.size + b.size ≤ 9223372036854775807) (w : World) : (Op.stringOp .add a b).run P w = .ok (.string c) w := by rw [run_string_add_sum _ _ _ h, hc]
theorem cat_list (a b : ByteArray) : (a ++ b).data.toList = a.data.toList ++ b.data.toList := by rw [ByteArray.data_append, Array.toList_append]
theorem cat_size (a b : ByteArray) : (a ++ b).size = a.size + b.size := ByteArray.size_append
end
end Go.Proofs.YtmoffcgbjmeiaaaGreatDoor
