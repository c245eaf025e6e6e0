/-
  Several texts in one: Chapter 11, plain: bytes read pair by pair, just as Build lays them. No program is named.
  Tables, as plain values, 6: of keys that rise, those with one head stand side by side (no program is named).
  Tables, as plain values, 7: the bytes of a table; what Open reads of any bytes (no program is named).
  Tables, as plain values, 8: where a key's head ends; the place of a key among pairs (no program is named).
  The landed package block: common, fixed, must.
  The landed package block: what its reader takes: bytes, a number.
  strings.Builder: a byte and a text more, at this program.
  strings.Builder, one that was read before: a text more, at this program.
  The landed package block: lay.
  The landed package block: Build.
  The book of lists, Keys: marks, copies, are two alike? (Written by wip/gen/gen_bk.py.)
  'append(b, s...)' of a text's bytes; texts put together. No program is named.
  The landed package block: its reader takes a pair.
  The landed package block: its reader takes the first pair.
  The landed package block: its reader takes a pair behind others.
-/
import Derived.Test.YtcbgflidlpmhcaaDoorM3
import Derived.Lib.SlicesCompact
import Derived.Lib.Index
import Derived.Test.YtcbgflidlpmhcaaDoorM2
import Derived.BigQuiet
import Derived.Test.YtcbgflidlpmhcaaDoorRows
import Derived.Test.YtcbgflidlpmhcaaDoorM1
import Derived.Lib.Builder
import Derived.Lib.FrozenHead
import Derived.LoopTactic
import Derived.Deep.RegionHeld3
import Derived.Deep.Cut
import Derived.DeepKeys
import Derived.Lib.AppendStr
import Derived.Laws.Concat
import Derived.RegionDies
namespace Go.Proofs.YtcbgflidlpmhcaaDoor
open Go.RowKit

theorem bl_extract (s : ByteArray) (i j : Nat) (_h : j ≤ s.size) : bl (s.extract i j) = ((bl s).drop i).take (j - i) := by
  simp [bl]
theorem bl_drop (s : ByteArray) (i : Nat) : bl (s.extract i s.size) = (bl s).drop i := by
  rw [bl_extract s i s.size (Nat.le_refl _), List.take_of_length_le]
  rw [List.length_drop, bl_len]
  exact Nat.le_refl _
theorem bl_take (s : ByteArray) (j : Nat) (h : j ≤ s.size) : bl (s.extract 0 j) = (bl s).take j := by
  rw [bl_extract s 0 j h, List.drop_zero, Nat.sub_zero]

/-- What is read as a number is that number's bytes. -/
theorem gv_pv_of : ∀ (l : List UInt8) (i a v n : Nat), gv l i a = .ok v n → i < n ∧ n ≤ i + l.length ∧ i < 9 ∧ ∃ u, v = a + u * 2 ^ (7 * i) ∧ l.take (n - i) = pv u ∧ (0 < i → 0 < u) ∧ u < 2 ^ (7 * (9 - i))
  | [], i, a, v, n, h => by
    rw [gv] at h
    split at h <;> cases h
  | c :: r, i, a, v, n, h => by
    rw [gv] at h
    split at h
    · cases h
    · rename_i h9
      split at h
      · rename_i h128
        obtain ⟨h1, h2, h3, u, h4, h5, h6, h7⟩ := gv_pv_of r _ _ _ _ h
        have hc := UInt8.toNat_lt c
        have hu := h6 (by omega)
        refine ⟨by omega, by simp only [List.length_cons]; omega, by omega, c.toNat % 128 + 128 * u, ?_, ?_, fun _ => by omega, ?_⟩
        · rw [h4, show 7 * (i + 1) = 7 * i + 7 from by omega, Nat.pow_add, Nat.add_mul, Nat.add_assoc]
          congr 2
          rw [Nat.mul_comm (2 ^ (7 * i)), ← Nat.mul_assoc, Nat.mul_comm u]
        · rw [show n - i = (n - (i + 1)) + 1 from by omega, List.take_succ_cons, h5, pv_more (c.toNat % 128 + 128 * u) (by omega)]
          congr 1
          · rw [show (c.toNat % 128 + 128 * u) % 128 + 128 = c.toNat from by omega]
            simp
          · rw [show (c.toNat % 128 + 128 * u) / 128 = u from by omega]
        · rw [show 7 * (9 - i) = 7 * (9 - (i + 1)) + 7 from by omega, Nat.pow_add]
          omega
      · split at h
        · cases h
        · rename_i h128 h0
          cases h
          have hc : c.toNat % 128 = c.toNat := Nat.mod_eq_of_lt (by omega)
          refine ⟨by omega, by simp only [List.length_cons]; omega, by omega, c.toNat, by rw [hc], ?_, fun hi => by omega, ?_⟩
          · rw [Nat.add_sub_cancel_left, List.take_succ_cons, List.take_zero, pv_last _ (by omega)]
            simp
          · have : (2 : Nat) ^ 7 ≤ 2 ^ (7 * (9 - i)) := Nat.pow_le_pow_right (by decide) (by omega)
            omega
theorem gv_bytes {l : List UInt8} {v n : Nat} (h : gv l 0 0 = .ok v n) : l = pv v ++ l.drop n ∧ n ≤ l.length ∧ v < 9223372036854775808 := by
  obtain ⟨_, h2, _, u, h4, h5, _, h7⟩ := gv_pv_of l 0 0 v n h
  rw [Nat.mul_zero, Nat.pow_zero, Nat.mul_one, Nat.zero_add] at h4
  subst h4
  rw [Nat.sub_zero] at h5
  rw [Nat.zero_add] at h2
  refine ⟨?_, h2, h7⟩
  rw [← h5]
  exact (List.take_append_drop _ _).symm

/-- A pair, taken from the bytes behind others. -/
def stepP (i : Nat) (last rest : List UInt8) : Option (KV × List UInt8) :=
  match gv rest 0 0 with
  | .err _ => none
  | .ok x n1 => match gv (rest.drop n1) 0 0 with
    | .err _ => none
    | .ok y n2 => match gv ((rest.drop n1).drop n2) 0 0 with
      | .err _ => none
      | .ok z n3 =>
        if x ≤ last.length ∧ y ≤ (((rest.drop n1).drop n2).drop n3).length ∧ z ≤ ((((rest.drop n1).drop n2).drop n3).drop y).length ∧
            (last.take x ++ (((rest.drop n1).drop n2).drop n3).take y).length ≤ 65536 ∧ z ≤ 65536 ∧
            (i = 0 ∨ Lib.compareBytes last (last.take x ++ (((rest.drop n1).drop n2).drop n3).take y) < 0) ∧
            x = comI i last (last.take x ++ (((rest.drop n1).drop n2).drop n3).take y) then
          some ((⟨(last.take x ++ (((rest.drop n1).drop n2).drop n3).take y).toArray⟩, ⟨(((((rest.drop n1).drop n2).drop n3).drop y).take z).toArray⟩), ((((rest.drop n1).drop n2).drop n3).drop y).drop z)
        else none
/-- Is this pair one that Build lays behind the last key? -/
def okStep (i : Nat) (last : List UInt8) (m : KV) : Prop := m.1.size ≤ 65536 ∧ m.2.size ≤ 65536 ∧ (i = 0 ∨ Lib.compareBytes last (bl m.1) < 0)
theorem step_some {i : Nat} {last rest r' : List UInt8} {m : KV} (h : stepP i last rest = some (m, r')) : rest = onePair i last (bl m.1) (bl m.2) ++ r' ∧ okStep i last m := by
  unfold stepP at h
  split at h
  · cases h
  · rename_i x n1 g1
    split at h
    · cases h
    · rename_i y n2 g2
      split at h
      · cases h
      · rename_i z n3 g3
        obtain ⟨e1, l1, _⟩ := gv_bytes g1
        obtain ⟨e2, l2, _⟩ := gv_bytes g2
        obtain ⟨e3, l3, _⟩ := gv_bytes g3
        obtain ⟨t, ht⟩ : ∃ t, ((rest.drop n1).drop n2).drop n3 = t := ⟨_, rfl⟩
        rw [ht] at h e3
        split at h
        · rename_i hc
          obtain ⟨c1, c2, c3, c4, c5, c6, c7⟩ := hc
          obtain ⟨k, hk⟩ : ∃ k, last.take x ++ t.take y = k := ⟨_, rfl⟩
          rw [hk] at h c4 c6 c7
          cases h
          have hkl : k.length = x + y := by rw [← hk, List.length_append, List.length_take, List.length_take]; omega
          have hkd : k.drop x = t.take y := by
            rw [← hk, List.drop_append_of_le_length (by rw [List.length_take]; omega), List.drop_of_length_le (by rw [List.length_take]; omega), List.nil_append]
          have hvl : ((t.drop y).take z).length = z := by rw [List.length_take]; omega
          refine ⟨?_, by rw [size_mk]; omega, by rw [size_mk, hvl]; exact c5, c6⟩
          dsimp only
          rw [bl_mk, bl_mk, onePair, ← c7, hkl, Nat.add_sub_cancel_left, hvl, hkd]
          conv => lhs; rw [e1, e2, e3]
          simp only [List.append_assoc]
          congr 3
          rw [List.take_append_drop, List.take_append_drop]
        · cases h
theorem step_of {i : Nat} {last r : List UInt8} {m : KV} (h : okStep i last m) (hl : last.length < 9223372036854775808) : stepP i last (onePair i last (bl m.1) (bl m.2) ++ r) = some (m, r) := by
  obtain ⟨h1, h2, h3⟩ := h
  obtain ⟨c1, c2⟩ := comI_le i last (bl m.1)
  have ht := comI_take i last (bl m.1)
  have hl1 : (bl m.1).length = m.1.size := rfl
  have hl2 : (bl m.2).length = m.2.size := rfl
  obtain ⟨n, hn⟩ : ∃ n, comI i last (bl m.1) = n := ⟨_, rfl⟩
  rw [onePair, hn]
  rw [hn] at c1 c2 ht
  obtain ⟨B, hB⟩ : ∃ B, pv n ++ (pv ((bl m.1).length - n) ++ (pv (bl m.2).length ++ ((bl m.1).drop n ++ bl m.2))) ++ r = B := ⟨_, rfl⟩
  have g1 : gv B 0 0 = .ok n (pv n).length := by rw [← hB, List.append_assoc]; exact gv_pv0 _ n (by omega)
  have e1 : B.drop (pv n).length = pv ((bl m.1).length - n) ++ (pv (bl m.2).length ++ ((bl m.1).drop n ++ (bl m.2 ++ r))) := by
    rw [← hB, List.append_assoc, List.drop_append_of_le_length (Nat.le_refl _), List.drop_length]; simp
  have g2 : gv (B.drop (pv n).length) 0 0 = .ok ((bl m.1).length - n) (pv ((bl m.1).length - n)).length := by rw [e1]; exact gv_pv0 _ _ (by omega)
  have e2 : (B.drop (pv n).length).drop (pv ((bl m.1).length - n)).length = pv (bl m.2).length ++ ((bl m.1).drop n ++ (bl m.2 ++ r)) := by
    rw [e1, List.drop_append_of_le_length (Nat.le_refl _), List.drop_length]; simp
  have g3 : gv ((B.drop (pv n).length).drop (pv ((bl m.1).length - n)).length) 0 0 = .ok (bl m.2).length (pv (bl m.2).length).length := by rw [e2]; exact gv_pv0 _ _ (by omega)
  have e3 : ((B.drop (pv n).length).drop (pv ((bl m.1).length - n)).length).drop (pv (bl m.2).length).length = (bl m.1).drop n ++ (bl m.2 ++ r) := by
    rw [e2, List.drop_append_of_le_length (Nat.le_refl _), List.drop_length]; simp
  rw [hB]
  unfold stepP
  rw [g1]
  dsimp only
  rw [g2]
  dsimp only
  rw [g3]
  dsimp only
  rw [e3]
  have hd : ((bl m.1).drop n).length = (bl m.1).length - n := List.length_drop ..
  have t1 : ((bl m.1).drop n ++ (bl m.2 ++ r)).take ((bl m.1).length - n) = (bl m.1).drop n := by rw [← hd]; exact List.take_left
  have t2 : ((bl m.1).drop n ++ (bl m.2 ++ r)).drop ((bl m.1).length - n) = bl m.2 ++ r := by rw [← hd]; exact List.drop_left
  rw [t1, t2, ht, List.take_left, List.drop_left, hn]
  rw [if_pos ⟨c2, by rw [List.length_append, hd]; omega, by rw [List.length_append]; omega, by omega, by omega, h3, rfl⟩]

/-- Pairs, taken one behind the other. -/
def strictP : Nat → Nat → List UInt8 → List UInt8 → Option (List KV)
  | _, _, _, [] => some []
  | 0, _, _, _ :: _ => none
  | f + 1, i, last, c :: r => match stepP i last (c :: r) with
    | none => none
    | some (m, r') => (strictP f (i + 1) (bl m.1) r').map (m :: ·)
theorem strict_nil (f i : Nat) (last : List UInt8) : strictP f i last [] = some [] := by cases f <;> rfl
theorem strict_none {f i : Nat} {last rest : List UInt8} (hr : rest ≠ []) (h : stepP i last rest = none) : strictP f i last rest = none := by
  obtain ⟨c, r, rfl⟩ := List.exists_cons_of_ne_nil hr
  cases f with
  | zero => rfl
  | succ f => rw [strictP, h]
theorem strict_some {f i : Nat} {last rest r' : List UInt8} {m : KV} (hr : rest ≠ []) (h : stepP i last rest = some (m, r')) : strictP (f + 1) i last rest = (strictP f (i + 1) (bl m.1) r').map (m :: ·) := by
  obtain ⟨c, r, rfl⟩ := List.exists_cons_of_ne_nil hr
  rw [strictP, h]
/-- Pairs that Build lays one behind the other. -/
def okFrom : Nat → List UInt8 → List KV → Prop
  | _, _, [] => True
  | i, last, m :: r => okStep i last m ∧ okFrom (i + 1) (bl m.1) r
theorem strict_is : ∀ (f i : Nat) (last rest : List UInt8) (l : List KV), strictP f i last rest = some l → rest = bodyL i last l ∧ okFrom i last l
  | f, i, last, [], l, h => by
    rw [strict_nil] at h
    cases h
    exact ⟨rfl, trivial⟩
  | 0, i, last, c :: r, l, h => by cases h
  | f + 1, i, last, c :: r, l, h => by
    rw [strictP] at h
    split at h
    · cases h
    · rename_i m r' hs
      obtain ⟨e1, e2⟩ := step_some hs
      obtain ⟨q, hq, rfl⟩ := Option.map_eq_some_iff.1 h
      obtain ⟨e3, e4⟩ := strict_is f _ _ _ q hq
      refine ⟨?_, e2, e4⟩
      rw [e1, bodyL, ← e3]
theorem strict_of : ∀ (l : List KV) (f i : Nat) (last : List UInt8), okFrom i last l → l.length ≤ f → last.length < 9223372036854775808 → strictP f i last (bodyL i last l) = some l := by
  intro l
  induction l with
  | nil => intro f i last _ _ _; exact strict_nil _ _ _
  | cons m l ih =>
    intro f i last h hf hl
    obtain ⟨f, rfl⟩ : ∃ g, f = g + 1 := ⟨f - 1, by simp at hf; omega⟩
    have h1 := step_of (r := bodyL (i + 1) (bl m.1) l) h.1 hl
    have hne : onePair i last (bl m.1) (bl m.2) ++ bodyL (i + 1) (bl m.1) l ≠ [] := by
      intro e
      have := congrArg List.length e
      have h2 := pv_pos (comI i last (bl m.1))
      rw [onePair] at this
      simp only [List.length_append, List.length_nil] at this
      omega
    rw [bodyL, strict_some hne h1, ih f (i + 1) (bl m.1) h.2 (by simpa using hf) (by have := h.1.1; rw [bl_len]; omega)]
    rfl
theorem okFrom_rises : ∀ (l : List KV) (i : Nat) (x : KV), okFrom (i + 1) (bl x.1) l → risesK (x :: l) = true
  | [], _, _, _ => rfl
  | m :: r, i, x, h => by
    rw [risesK, Bool.and_eq_true, decide_eq_true_eq]
    refine ⟨?_, okFrom_rises r (i + 1) m h.2⟩
    rcases h.1.2.2 with h1 | h1
    · omega
    · exact h1
theorem okFrom_all : ∀ (l : List KV) (i : Nat) (last : List UInt8), okFrom i last l → longK l = false
  | [], _, _, _ => rfl
  | m :: r, i, last, h => by
    have h1 := okFrom_all r _ _ h.2
    obtain ⟨s1, s2, _⟩ := h.1
    unfold longK at h1 ⊢
    rw [List.any_cons, h1]
    simp
    omega
theorem okFrom_zero {l : List KV} {last : List UInt8} (h : okFrom 0 last l) : risesK l = true ∧ longK l = false := by
  refine ⟨?_, okFrom_all _ _ _ h⟩
  cases l with
  | nil => rfl
  | cons m r => exact okFrom_rises r 0 m h.2
theorem okFrom_of : ∀ (l : List KV) (i : Nat) (x : KV), risesK (x :: l) = true → longK l = false → okFrom i (bl x.1) l
  | [], _, _, _, _ => trivial
  | m :: r, i, x, h, hl => by
    rw [risesK, Bool.and_eq_true, decide_eq_true_eq] at h
    have hs := longK_ok hl m (List.mem_cons_self ..)
    refine ⟨⟨hs.1, hs.2, Or.inr h.1⟩, okFrom_of r (i + 1) m h.2 ?_⟩
    unfold longK at hl ⊢
    rw [List.any_cons, Bool.or_eq_false_iff] at hl
    exact hl.2
theorem okFrom_start {l : List KV} (h : risesK l = true) (hl : longK l = false) (last : List UInt8) : okFrom 0 last l := by
  cases l with
  | nil => trivial
  | cons m r =>
    have hs := longK_ok hl m (List.mem_cons_self ..)
    refine ⟨⟨hs.1, hs.2, Or.inl rfl⟩, okFrom_of r 1 m h ?_⟩
    unfold longK at hl ⊢
    rw [List.any_cons, Bool.or_eq_false_iff] at hl
    exact hl.2

/-- Four bytes are those of the number that they tell. -/
theorem be_getL4 : ∀ l : List UInt8, l.length = 4 → be (getL l) 4 = l := by
  intro l h
  match l, h with
  | [a, b, c, d], _ =>
    have ha := UInt8.toNat_lt a
    have hb := UInt8.toNat_lt b
    have hc := UInt8.toNat_lt c
    have hd := UInt8.toNat_lt d
    have e : getL [a, b, c, d] = ((a.toNat * 256 + b.toNat) * 256 + c.toNat) * 256 + d.toNat := by
      unfold getL
      simp
    rw [e]
    have r4 : List.range 4 = [0, 1, 2, 3] := by decide
    unfold be
    rw [r4]
    simp only [List.map_cons, List.map_nil]
    congr 1
    · apply UInt8.toNat_inj.1
      rw [UInt8.toNat_ofNat']
      simp only [Nat.reduceSub, Nat.reduceMul, Nat.reducePow]
      omega
    congr 1
    · apply UInt8.toNat_inj.1
      rw [UInt8.toNat_ofNat']
      simp only [Nat.reduceSub, Nat.reduceMul, Nat.reducePow]
      omega
    congr 1
    · apply UInt8.toNat_inj.1
      rw [UInt8.toNat_ofNat']
      simp only [Nat.reduceSub, Nat.reduceMul, Nat.reducePow]
      omega
    congr 1
    · apply UInt8.toNat_inj.1
      rw [UInt8.toNat_ofNat']
      simp only [Nat.reduceSub, Nat.reduceMul, Nat.reducePow]
      omega
theorem getL_be4 (v : Nat) (h : v < 4294967296) : getL (be v 4) = v := by
  have h1 := be_getL4 (be v 4) (be_length v 4)
  have h2 : getL (be v 4) < 4294967296 := by
    have : ∀ l : List UInt8, l.length = 4 → getL l < 4294967296 := by
      intro l h
      match l, h with
      | [a, b, c, d], _ =>
        have ha := UInt8.toNat_lt a
        have hb := UInt8.toNat_lt b
        have hc := UInt8.toNat_lt c
        have hd := UInt8.toNat_lt d
        have e : getL [a, b, c, d] = ((a.toNat * 256 + b.toNat) * 256 + c.toNat) * 256 + d.toNat := by
          unfold getL
          simp
        rw [e]
        omega
    exact this _ (be_length v 4)
  exact be4_inj h2 h h1
/-- What the landed Parse answers. -/
def sParse (b : ByteArray) : Option (List KV) :=
  if b.size < 8 ∨ 524288 < b.size then none
  else if getL ((bl b).drop (b.size - 4)) ≠ crc ((bl b).take (b.size - 4)) then none
  else match strictP b.size 0 [] ((bl b).take (b.size - 8)) with
    | none => none
    | some l => if getL (((bl b).take (b.size - 4)).drop (b.size - 8)) = l.length then some l else none
theorem sParse_some {b : ByteArray} {l : List KV} (h : sParse b = some l) : buildP l = (b, 0) := by
  unfold sParse at h
  split at h
  · cases h
  · rename_i h1
    split at h
    · cases h
    · rename_i h2
      split at h
      · cases h
      · rename_i l' hs
        split at h
        · rename_i h3
          cases h
          obtain ⟨e1, e2⟩ := strict_is _ _ _ _ _ hs
          obtain ⟨r1, r2⟩ := okFrom_zero e2
          have hb : (bl b).length = b.size := rfl
          have c1 := be_getL4 ((bl b).drop (b.size - 4)) (by rw [List.length_drop]; omega)
          have c2 := be_getL4 (((bl b).take (b.size - 4)).drop (b.size - 8)) (by rw [List.length_drop, List.length_take]; omega)
          have h2' := Classical.not_not.1 h2
          have d2 : (bl b).take (b.size - 4) = bodyL 0 [] l ++ be l.length 4 := by
            rw [← h3, c2, ← e1]
            have : (bl b).take (b.size - 8) = ((bl b).take (b.size - 4)).take (b.size - 8) := by rw [List.take_take, Nat.min_eq_left (by omega)]
            rw [this, List.take_append_drop]
          have d3 : bl b = blkL l := by
            unfold blkL
            rw [← d2, ← h2', c1, List.take_append_drop]
          have hl : (blkL l).length = b.size := by rw [← d3]; rfl
          unfold buildP
          rw [if_neg (by rw [r1]; decide), if_neg (by rw [r2]; decide), if_neg (by omega), ← d3]
        · cases h
theorem sParse_of {b : ByteArray} {l : List KV} (h : buildP l = (b, 0)) : sParse b = some l := by
  obtain ⟨h1, h2, h3, h4⟩ := buildP_ok h
  have hb : bl b = blkL l := by rw [h4]
  have hs : b.size = (blkL l).length := by rw [← hb]; rfl
  have h8 := blkL_length l
  have hc := body_count l 0 []
  have hn : b.size - 8 = (bodyL 0 [] l).length := by omega
  have hn4 : b.size - 4 = (bodyL 0 [] l ++ be l.length 4).length := by rw [List.length_append, be_length]; omega
  have t4 : (bl b).take (b.size - 4) = bodyL 0 [] l ++ be l.length 4 := by
    rw [hn4, hb]; unfold blkL; exact List.take_left
  have d4 : (bl b).drop (b.size - 4) = be (crc (bodyL 0 [] l ++ be l.length 4)) 4 := by
    rw [hn4, hb]; unfold blkL; exact List.drop_left
  have t8 : (bl b).take (b.size - 8) = bodyL 0 [] l := by rw [hs, hb, blkL_body]
  have d8 : ((bl b).take (b.size - 4)).drop (b.size - 8) = be l.length 4 := by rw [t4, hn]; exact List.drop_left
  unfold sParse
  rw [if_neg (by omega), d8, d4, t8, t4, getL_be4 _ (crc_lt _), if_neg (fun h => h rfl), strict_of l _ 0 [] (okFrom_start h1 h2 _) (by omega) (by decide)]
  dsimp only
  rw [getL_be4 _ (by omega), if_pos rfl]
theorem sParse_is (b : ByteArray) : parseP b = match sParse b with
    | none => ([], 31)
    | some l => (l, 0) := by
  cases h : sParse b with
  | some l => exact parse_build (sParse_some h)
  | none => exact parse_no fun l hl => by rw [sParse_of hl] at h; cases h
end Go.Proofs.YtcbgflidlpmhcaaDoor

namespace Go.Proofs.YtcbgflidlpmhcaaDoor
open Go.RowKit

/-- A head, as bytes. -/
def headL13 (l : List UInt8) : List UInt8 := l.take (headN l)
theorem headT_bl (s : ByteArray) : bl (headT s) = headL13 (bl s) := by
  unfold headT headL13
  exact bl_take s _ (by have := headN_le (bl s); rw [bl_len] at this; exact this)
theorem headL_two (x y : UInt8) (r : List UInt8) : headL13 (x :: y :: r) = if x = 0 ∧ y = 1 then [0, 1] else x :: headL13 (y :: r) := by
  unfold headL13
  rw [headN]
  by_cases h : x = 0 ∧ y = 1
  · rw [if_pos h, if_pos h, h.1, h.2]
    rfl
  · rw [if_neg h, if_neg h]
    rfl
theorem headL_first (x : UInt8) (r : List UInt8) : ∃ t, headL13 (x :: r) = x :: t := by
  cases r with
  | nil => exact ⟨[], rfl⟩
  | cons y r =>
    rw [headL_two]
    split
    · rename_i h
      exact ⟨[1], by rw [h.1]⟩
    · exact ⟨_, rfl⟩
theorem headL_one (x : UInt8) : headL13 [x] = [x] := rfl
theorem headL_nil : headL13 [] = [] := rfl
theorem headL_empty {l : List UInt8} (h : headL13 l = []) : l = [] := by
  cases l with
  | nil => rfl
  | cons x r =>
    obtain ⟨t, ht⟩ := headL_first x r
    rw [ht] at h
    cases h
theorem headL_single {l : List UInt8} {x : UInt8} (h : headL13 l = [x]) : l = [x] := by
  match l with
  | [] => cases h
  | [y] => exact h
  | y :: z :: r =>
    rw [headL_two] at h
    split at h
    · cases h
    · injection h with h1 h2
      have := headL_empty h2
      cases this
theorem cmp13_nil (b : List UInt8) (h : Lib.compareBytes b [] < 0) : False := by
  cases b with
  | nil => exact absurd h (by decide)
  | cons x r => exact absurd h (by show ¬ (1 : Int) < 0; decide)
theorem cmp13_cons {x y : UInt8} {a b : List UInt8} (h : Lib.compareBytes (x :: a) (y :: b) < 0) : x.toNat < y.toNat ∨ (x = y ∧ Lib.compareBytes a b < 0) := by
  rw [cmp9_cons] at h
  by_cases h1 : x.toNat < y.toNat
  · exact Or.inl h1
  · rw [if_neg h1] at h
    by_cases h2 : y.toNat < x.toNat
    · rw [if_pos h2] at h
      exact absurd h (by decide)
    · rw [if_neg h2] at h
      exact Or.inr ⟨UInt8.toNat_inj.1 (by omega), h⟩
/-- What stands between two keys of one head has that head. -/
theorem head_between : ∀ a b c : List UInt8, Lib.compareBytes a b < 0 → Lib.compareBytes b c < 0 → headL13 a = headL13 c → headL13 b = headL13 a
  | [], b, c, _, h2, hh => by
    have := headL_empty hh.symm
    subst this
    exact (cmp13_nil b h2).elim
  | [x], b, c, h1, h2, hh => by
    have := headL_single (hh.symm.trans (headL_one x))
    subst this
    have h3 := (cmp_trans _ _ _ (by omega) (by omega : Lib.compareBytes b [x] ≤ 0)).2 h1
    exfalso
    have h4 : Lib.compareBytes [x] [x] = 0 := (cmp_eq _ _).2 rfl
    omega
  | x :: y :: r, [], c, h1, _, _ => (cmp13_nil _ h1).elim
  | x :: y :: r, b0 :: b1, [], _, h2, _ => (cmp13_nil _ h2).elim
  | x :: y :: r, b0 :: b1, c0 :: c1, h1, h2, hh => by
    have hc0 : c0 = x := by
      obtain ⟨t, ht⟩ := headL_first x (y :: r)
      obtain ⟨t', ht'⟩ := headL_first c0 c1
      rw [ht, ht'] at hh
      injection hh with h
      exact h.symm
    subst hc0
    have e1 := cmp13_cons h1
    have e2 := cmp13_cons h2
    have hb0 : b0 = c0 := by
      rcases e1 with e1 | e1
      · rcases e2 with e2 | e2
        · omega
        · exact e2.1
      · exact e1.1.symm
    subst hb0
    have f1 : Lib.compareBytes (y :: r) b1 < 0 := by
      rcases e1 with e1 | e1
      · omega
      · exact e1.2
    have f2 : Lib.compareBytes b1 c1 < 0 := by
      rcases e2 with e2 | e2
      · omega
      · exact e2.2
    cases b1 with
    | nil => exact (cmp13_nil _ f1).elim
    | cons b1 b2 =>
      cases c1 with
      | nil => exact (cmp13_nil _ f2).elim
      | cons c1 c2 =>
        by_cases hxy : b0 = 0 ∧ y = 1
        · have hA := headL_two b0 y r
          rw [if_pos hxy] at hA
          rw [hA, headL_two] at hh
          rw [hA, headL_two]
          have hc1 : c1 = 1 := by
            split at hh
            · rename_i h; exact h.2
            · injection hh with _ h
              have := headL_single h.symm
              injection this
          have g1 := cmp13_cons f1
          have g2 := cmp13_cons f2
          have hb1 : b1 = 1 := by
            apply UInt8.toNat_inj.1
            rw [hc1] at g2
            rw [hxy.2] at g1
            rcases g1 with g1 | g1
            · rcases g2 with g2 | g2
              · omega
              · rw [g2.1]
            · rw [← g1.1]
          rw [if_pos ⟨hxy.1, hb1⟩]
        · have hA := headL_two b0 y r
          rw [if_neg hxy] at hA
          obtain ⟨t, ht⟩ := headL_first y r
          have hC : ¬ (b0 = 0 ∧ c1 = 1) := by
            rintro ⟨q1, q2⟩
            rw [hA, headL_two b0 c1 c2, if_pos ⟨q1, q2⟩] at hh
            injection hh with _ h
            have := headL_single h
            injection this with h5
            exact hxy ⟨q1, h5⟩
          have hC2 := headL_two b0 c1 c2
          rw [if_neg hC] at hC2
          rw [hA, hC2] at hh
          injection hh with _ hh2
          have ih := head_between (y :: r) (b1 :: b2) (c1 :: c2) f1 f2 hh2
          have hB : ¬ (b0 = 0 ∧ b1 = 1) := by
            rintro ⟨q1, q2⟩
            obtain ⟨t', ht'⟩ := headL_first b1 b2
            rw [ht, ht'] at ih
            injection ih with h5
            exact hxy ⟨q1, by rw [← h5, q2]⟩
          rw [hA, headL_two, if_neg hB, ih]

/-- The heads of keys, as bytes. -/
def hdsA (L : List KV) : Array (List UInt8) := (L.map fun m => bl (headT m.1)).toArray
theorem hdsA_size (L : List KV) : (hdsA L).size = L.length := by unfold hdsA; simp
theorem hdsA_at (L : List KV) (i : Nat) (m : KV) (h : L[i]? = some m) : (hdsA L)[i]! = bl (headT m.1) := by
  have h1 := (List.getElem?_eq_some_iff.1 h).1
  have h2 := (List.getElem?_eq_some_iff.1 h).2
  unfold hdsA
  rw [getElem!_pos _ i (by simpa using h1)]
  simp [h2]
/-- Compact of the heads of keys that rise is each of them once. -/
theorem heads_compact {L : List KV} (hR : risesK L = true) : ∀ k, k ≤ L.length → (Lib.compactUpTo (hdsA L) k).map (fun l => (⟨l.toArray⟩ : ByteArray)) = headsK (L.take k)
  | 0, _ => rfl
  | k + 1, hk => by
    have ih := heads_compact hR k (by omega)
    have hm : L[k]? = some L[k] := List.getElem?_eq_getElem (by omega)
    generalize L[k] = m at hm
    have ht : L.take (k + 1) = L.take k ++ [m] := by rw [List.take_add_one, hm]; rfl
    have hd := hdsA_at L k m hm
    rw [Lib.compactUpTo_succ, List.map_append, ih, ht, headsK_snoc, headsStep]
    have hmem : hasT (headsK (L.take k)) (headT m.1) = true ↔ Lib.keeps (hdsA L) k = false := by
      rw [hasT_mem, headsK_mem]
      constructor
      · rintro ⟨a, ha, he⟩
        obtain ⟨i, hi⟩ := List.mem_iff_getElem?.1 ha
        have hik : i < k := by
          have := (List.getElem?_eq_some_iff.1 hi).1
          rw [List.length_take] at this
          omega
        have hia : L[i]? = some a := by rw [List.getElem?_take_of_lt hik] at hi; exact hi
        have hp : L[k - 1]? = some L[k - 1] := List.getElem?_eq_getElem (by omega)
        have hdp := hdsA_at L (k - 1) _ hp
        generalize L[k - 1] = q at hp hdp
        refine Lib.keeps_neg (by omega) ?_
        rw [hd, hdp]
        by_cases e : i = k - 1
        · subst e
          rw [hp] at hia
          cases hia
          rw [he]
        · have c1 := rises_get hR (show i < k - 1 by omega) hia hp
          have c2 := rises_get hR (show k - 1 < k by omega) hp hm
          have := head_between (bl a.1) (bl q.1) (bl m.1) c1 c2 (by rw [← headT_bl, ← headT_bl, he])
          rw [headT_bl, headT_bl, this, ← headT_bl, ← headT_bl, he]
      · intro hk0
        unfold Lib.keeps at hk0
        have h9 := of_decide_eq_false hk0
        have h0 : k ≠ 0 := fun e => h9 (Or.inl e)
        have hp : L[k - 1]? = some L[k - 1] := List.getElem?_eq_getElem (by omega)
        have hdp := hdsA_at L (k - 1) _ hp
        generalize L[k - 1] = q at hp hdp
        have e1 : bl (headT m.1) = bl (headT q.1) := by
          rw [← hd, ← hdp]
          exact Classical.not_not.1 fun e => h9 (Or.inr e)
        refine ⟨q, List.mem_iff_getElem?.2 ⟨k - 1, ?_⟩, bl_inj e1⟩
        rw [List.getElem?_take_of_lt (by omega)]
        exact hp
    by_cases hkp : Lib.keeps (hdsA L) k = true
    · rw [if_pos hkp, if_neg (fun h => by rw [hmem.1 h] at hkp; cases hkp), hd]
      rfl
    · rw [if_neg hkp, if_pos (hmem.2 (by simpa using hkp))]
      simp
end Go.Proofs.YtcbgflidlpmhcaaDoor

namespace Go.Proofs.YtcbgflidlpmhcaaDoor
open Go.RowKit

/-- The blocks, one behind the other; how long each is. -/
def catB (G : List (List KV)) : List UInt8 := G.flatMap blkL
def idxB (G : List (List KV)) : List UInt8 := G.flatMap fun g => be (blkL g).length 4
/-- All ahead of a table's sum. -/
def tabB (G : List (List KV)) (F : ByteArray) : List UInt8 := catB G ++ (bl F ++ (idxB G ++ be G.length 4))
def tabL (G : List (List KV)) (F : ByteArray) : List UInt8 := tabB G F ++ be (crc (tabB G F)) 4
theorem catB_snoc (G : List (List KV)) (g : List KV) : catB (G ++ [g]) = catB G ++ blkL g := by unfold catB; rw [List.flatMap_append]; simp
theorem idxB_snoc (G : List (List KV)) (g : List KV) : idxB (G ++ [g]) = idxB G ++ be (blkL g).length 4 := by unfold idxB; rw [List.flatMap_append]; simp
theorem idxB_length (G : List (List KV)) : (idxB G).length = 4 * G.length := by
  induction G with
  | nil => rfl
  | cons g r ih =>
    unfold idxB at ih ⊢
    rw [List.flatMap_cons, List.length_append, be_length, ih, List.length_cons]
    omega
theorem sumK_append (l r : List KV) : sumK (l ++ r) = sumK l + sumK r := by
  induction l with
  | nil => simp [sumK]
  | cons x l ih => rw [List.cons_append, sumK, sumK, ih]; omega
theorem longK_append (l r : List KV) : longK (l ++ r) = (longK l || longK r) := by unfold longK; rw [List.any_append]
theorem flatten_len {G : List (List KV)} (h : ∀ g ∈ G, g ≠ []) : G.length ≤ G.flatten.length := by
  induction G with
  | nil => exact Nat.le_refl _
  | cons g r ih =>
    have h1 := ih (fun x hx => h x (List.mem_cons_of_mem _ hx))
    have h2 := List.length_pos_iff.2 (h g (List.mem_cons_self ..))
    rw [List.flatten_cons, List.length_append, List.length_cons]
    omega
theorem catB_length {G : List (List KV)} (h : longK G.flatten = false) : (catB G).length ≤ 8 * G.length + sumK G.flatten := by
  induction G with
  | nil => exact Nat.zero_le _
  | cons g r ih =>
    rw [List.flatten_cons, longK_append, Bool.or_eq_false_iff] at h
    have h1 := ih h.2
    have h2 := (blk_bounds h.1).1
    unfold catB at h1 ⊢
    rw [List.flatMap_cons, List.length_append, List.flatten_cons, sumK_append, List.length_cons]
    omega

/-- A block's pairs behind those that a table has. -/
def addB (l : List KV) (b : ByteArray) : Option (List KV) :=
  match sParse b with
  | none => none
  | some [] => none
  | some (m :: r) => match l[l.length - 1]? with
    | none => some (l ++ m :: r)
    | some a => if cmpT a.1 m.1 < 0 then some (l ++ m :: r) else none
/-- So many blocks, their sizes told by x, taken from s. -/
def addsB : Nat → ByteArray → ByteArray → List KV → Option (List KV × ByteArray)
  | 0, _, s, l => some (l, s)
  | n + 1, x, s, l => if s.size < getL (bl (x.extract 0 4)) then none else
    match addB l (s.extract 0 (getL (bl (x.extract 0 4)))) with
    | none => none
    | some l' => addsB n (x.extract 4 x.size) (s.extract (getL (bl (x.extract 0 4))) s.size) l'
/-- What Open reads: the pairs, how many blocks, the filter. -/
def readT2 (n : Nat) (s2 : ByteArray) : Option (List KV × Nat × ByteArray) :=
  if s2.size < 4 * n then none else
  match addsB n (s2.extract (s2.size - 4 * n) s2.size) (s2.extract 0 (s2.size - 4 * n)) [] with
  | none => none
  | some (l, s) => if l = [] then none else if (l.all fun m => mayT s (crc (bl (headT m.1)))) = true then some (l, n, s) else none
def readT (b : ByteArray) : Option (List KV × Nat × ByteArray) :=
  if b.size < 4 then none else
  if getL (bl (b.extract (b.size - 4) b.size)) ≠ crc (bl (b.extract 0 (b.size - 4))) then none else
  if b.size - 4 < 4 then none else
  readT2 (getL (bl ((b.extract 0 (b.size - 4)).extract (b.size - 4 - 4) (b.size - 4)))) ((b.extract 0 (b.size - 4)).extract 0 (b.size - 4 - 4))

theorem sParse_len {b : ByteArray} {l : List KV} (h : sParse b = some l) : l.length ≤ b.size ∧ longK l = false ∧ risesK l = true := by
  obtain ⟨h1, h2, h3, h4⟩ := buildP_ok (sParse_some h)
  refine ⟨?_, h2, h1⟩
  have h5 := body_count l 0 []
  have h6 := blkL_length l
  rw [h4, size_mk]
  omega
theorem addB_ok {l l' : List KV} {b : ByteArray} (h : addB l b = some l') (hl : risesK l = true) (hs : longK l = false) : risesK l' = true ∧ longK l' = false ∧ l'.length ≤ l.length + b.size ∧ l' ≠ [] := by
  unfold addB at h
  split at h
  · cases h
  · cases h
  · rename_i m r hp
    obtain ⟨c1, c2, c3⟩ := sParse_len hp
    split at h
    · rename_i hn
      cases h
      have : l = [] := by
        cases l with
        | nil => rfl
        | cons a l =>
          rw [List.getElem?_eq_getElem (by simp)] at hn
          cases hn
      subst this
      exact ⟨c3, c2, by simpa using c1, by simp⟩
    · rename_i a ha
      split at h
      · rename_i hc
        cases h
        refine ⟨rises_join hl c3 fun x y hx hy => ?_, by rw [longK_append, hs, c2]; rfl, by rw [List.length_append]; omega, by simp⟩
        rw [ha] at hx
        cases hx
        cases hy
        exact hc
      · cases h
theorem addsB_ok : ∀ (n : Nat) (x s : ByteArray) (l l' : List KV) (s' : ByteArray), addsB n x s l = some (l', s') → risesK l = true → longK l = false → risesK l' = true ∧ longK l' = false ∧ l'.length + s'.size ≤ l.length + s.size
  | 0, x, s, l, l', s', h, hl, hs => by
    cases h
    exact ⟨hl, hs, Nat.le_refl _⟩
  | n + 1, x, s, l, l', s', h, hl, hs => by
    rw [addsB] at h
    generalize getL (bl (x.extract 0 4)) = k at h
    split at h
    · cases h
    · rename_i hk
      split at h
      · cases h
      · rename_i q hq
        obtain ⟨d1, d2, d3, _⟩ := addB_ok hq hl hs
        obtain ⟨e1, e2, e3⟩ := addsB_ok n _ _ _ _ _ h d1 d2
        refine ⟨e1, e2, ?_⟩
        rw [ByteArray.size_extract] at d3 e3
        omega
theorem readT_ok {b : ByteArray} {l : List KV} {n : Nat} {s : ByteArray} (h : readT b = some (l, n, s)) : fitsB b ∧ risesK l = true ∧ longK l = false ∧ l ≠ [] ∧ l.length + s.size ≤ b.size := by
  unfold readT at h
  split at h
  · cases h
  · rename_i h1
    split at h
    · cases h
    · rename_i h2
      split at h
      · cases h
      · generalize getL (bl ((b.extract 0 (b.size - 4)).extract (b.size - 4 - 4) (b.size - 4))) = k at h
        have hz : ((b.extract 0 (b.size - 4)).extract 0 (b.size - 4 - 4)).size ≤ b.size := by simp; omega
        generalize (b.extract 0 (b.size - 4)).extract 0 (b.size - 4 - 4) = s2 at h hz
        unfold readT2 at h
        split at h
        · cases h
        · split at h
          · cases h
          · rename_i l1 s1 ha
            split at h
            · cases h
            · rename_i hne
              split at h
              · cases h
                obtain ⟨e1, e2, e3⟩ := addsB_ok _ _ _ _ _ _ ha rfl rfl
                refine ⟨?_, e1, e2, hne, ?_⟩
                · have h2 := Classical.not_not.1 h2
                  rw [fits_iff b (by omega)]
                  have d1 := bl_drop b (b.size - 4)
                  have d2 := bl_take b (b.size - 4) (by omega)
                  rw [← d1, ← d2, ← h2]
                  refine (be_getL4 _ ?_).symm
                  rw [d1, List.length_drop, bl_len]
                  omega
                · rw [ByteArray.size_extract] at e3
                  simp at e3
                  omega
              · cases h
/-- Bytes whose sum does not fit are none. -/
theorem readT_unfit {b : ByteArray} (h : ¬ fitsB b) : readT b = none := by
  cases hr : readT b with
  | none => rfl
  | some x =>
    obtain ⟨l, n, s⟩ := x
    exact absurd (readT_ok hr).1 h

theorem adds_groups : ∀ (G : List (List KV)) (P : List KV) (x s : ByteArray) (F : ByteArray), bl x = idxB G → bl s = catB G ++ bl F → (∀ g ∈ G, g ≠ [] ∧ longK g = false ∧ (blkL g).length ≤ 524288) → risesK (P ++ G.flatten) = true →
    addsB G.length x s P = some (P ++ G.flatten, F)
  | [], P, x, s, F, _, hs, _, _ => by
    rw [show s = F from bl_inj hs]
    simp [addsB]
  | g :: G, P, x, s, F, hx, hs, hg, hR => by
    obtain ⟨g1, g2, g3⟩ := hg g (List.mem_cons_self ..)
    have hx' : bl x = be (blkL g).length 4 ++ idxB G := hx
    have hs' : bl s = blkL g ++ (catB G ++ bl F) := by rw [hs]; unfold catB; rw [List.flatMap_cons, List.append_assoc]
    have hxl : x.size = 4 + 4 * G.length := by rw [← bl_len, hx', List.length_append, be_length, idxB_length]
    have hsl : s.size = (blkL g).length + (catB G ++ bl F).length := by rw [← bl_len, hs', List.length_append]
    have h4 : bl (x.extract 0 4) = be (blkL g).length 4 := by rw [bl_take x 4 (by omega), hx']; exact List.take_left' (be_length _ _)
    have hk : getL (bl (x.extract 0 4)) = (blkL g).length := by rw [h4]; exact getL_be4 _ (by omega)
    have hR2 : risesK ((P ++ g) ++ G.flatten) = true := by rw [List.append_assoc]; rw [List.flatten_cons] at hR; exact hR
    have hPg := (rises_both hR2).1
    have hgr := (rises_both hPg).2
    have hb : buildP g = (⟨(blkL g).toArray⟩, 0) := by
      unfold buildP
      rw [if_neg (by rw [hgr]; decide), if_neg (by rw [g2]; decide), if_neg (by omega)]
    have hse : s.extract 0 (blkL g).length = ⟨(blkL g).toArray⟩ := bl_inj (by rw [bl_take s _ (by omega), hs', bl_mk]; exact List.take_left)
    have hadd : addB P (s.extract 0 (blkL g).length) = some (P ++ g) := by
      obtain ⟨m, r, rfl⟩ := List.exists_cons_of_ne_nil g1
      unfold addB
      rw [hse, sParse_of hb]
      dsimp only
      split
      · rfl
      · rename_i a ha
        rw [if_pos]
        have hPl := (List.getElem?_eq_some_iff.1 ha).1
        exact rises_get hPg (show P.length - 1 < P.length by omega) (by rw [List.getElem?_append_left hPl]; exact ha) (by rw [List.getElem?_append_right (Nat.le_refl _), Nat.sub_self]; rfl)
    rw [List.length_cons, addsB, hk, if_neg (by omega), hadd]
    dsimp only
    rw [adds_groups G (P ++ g) _ _ F ?_ ?_ (fun y hy => hg y (List.mem_cons_of_mem _ hy)) hR2, List.append_assoc, List.flatten_cons]
    · rw [bl_drop, hx']; exact List.drop_left' (be_length _ _)
    · rw [bl_drop, hs']; exact List.drop_left
/-- What Write tells is read as it was. -/
theorem readT_tab {L : List KV} {G : List (List KV)} {F b : ByteArray} (hb : bl b = tabL G F) (hall : G.flatten = L) (hne : L ≠ []) (hG : ∀ g ∈ G, g ≠ [] ∧ longK g = false ∧ (blkL g).length ≤ 524288) (hR : risesK L = true) (hn : G.length < 4294967296)
    (hF : ∀ m ∈ L, mayT F (crc (bl (headT m.1))) = true) : readT b = some (L, G.length, F) := by
  have hbl : b.size = (tabB G F).length + 4 := by rw [← bl_len, hb]; unfold tabL; rw [List.length_append, be_length]
  have htl : (tabB G F).length = (catB G ++ bl F).length + 4 * G.length + 4 := by
    unfold tabB
    simp only [List.length_append, be_length, idxB_length]
    omega
  have e1 : b.size - 4 = (tabB G F).length := by omega
  have e2 : b.size - 4 - 4 = (catB G ++ bl F ++ idxB G).length := by rw [List.length_append, idxB_length]; omega
  have tb : tabB G F = (catB G ++ bl F ++ idxB G) ++ be G.length 4 := by unfold tabB; simp only [List.append_assoc]
  have t1 : bl (b.extract 0 (b.size - 4)) = tabB G F := by rw [bl_take b _ (by omega), e1, hb]; exact List.take_left
  have t2 : bl (b.extract (b.size - 4) b.size) = be (crc (tabB G F)) 4 := by rw [bl_drop, e1, hb]; exact List.drop_left
  have z1 : (b.extract 0 (b.size - 4)).size = b.size - 4 := by simp
  have t3 : bl ((b.extract 0 (b.size - 4)).extract (b.size - 4 - 4) (b.size - 4)) = be G.length 4 := by
    have := bl_drop (b.extract 0 (b.size - 4)) (b.size - 4 - 4)
    rw [z1] at this
    rw [this, t1, e2, tb]
    exact List.drop_left
  have t4 : bl ((b.extract 0 (b.size - 4)).extract 0 (b.size - 4 - 4)) = catB G ++ bl F ++ idxB G := by
    rw [bl_take _ _ (by omega), t1, e2, tb]
    exact List.take_left
  unfold readT
  rw [if_neg (by omega), t2, t1, getL_be4 _ (crc_lt _), if_neg (fun h => h rfl), if_neg (by omega), t3, getL_be4 _ hn]
  generalize (b.extract 0 (b.size - 4)).extract 0 (b.size - 4 - 4) = s2 at t4
  have z2 : s2.size = (catB G ++ bl F).length + 4 * G.length := by rw [← bl_len, t4, List.length_append, idxB_length]
  have e3 : s2.size - 4 * G.length = (catB G ++ bl F).length := by omega
  have t5 : bl (s2.extract (s2.size - 4 * G.length) s2.size) = idxB G := by rw [bl_drop, e3, t4]; exact List.drop_left
  have t6 : bl (s2.extract 0 (s2.size - 4 * G.length)) = catB G ++ bl F := by rw [bl_take s2 _ (by omega), e3, t4]; exact List.take_left
  unfold readT2
  rw [if_neg (by omega), adds_groups G [] _ _ F t5 t6 hG (by rw [List.nil_append, hall]; exact hR), List.nil_append, hall]
  dsimp only
  rw [if_neg hne, if_pos (List.all_eq_true.2 fun m hm => hF m hm)]
end Go.Proofs.YtcbgflidlpmhcaaDoor

namespace Go.Proofs.YtcbgflidlpmhcaaDoor
open Go.RowKit

/-- A head ends behind the first 0 and 1. -/
theorem head_index : ∀ l : List UInt8, (Lib.index l [0, 1] = -1 ∧ headN l = l.length) ∨ ∃ k : Nat, Lib.index l [0, 1] = (k : Int) ∧ headN l = k + 2 ∧ k + 2 ≤ l.length
  | [] => Or.inl ⟨rfl, rfl⟩
  | [b] => Or.inl ⟨by unfold Lib.index; simp [Lib.index, List.isPrefixOf], rfl⟩
  | b :: c :: r => by
    have hi : Lib.index (b :: c :: r) [0, 1] = if [0, 1].isPrefixOf (b :: c :: r) then 0 else if Lib.index (c :: r) [0, 1] == -1 then -1 else Lib.index (c :: r) [0, 1] + 1 := rfl
    have hp : List.isPrefixOf [0, 1] (b :: c :: r) = decide (b = 0 ∧ c = 1) := by
      simp only [List.isPrefixOf, Bool.and_true]
      by_cases h1 : b = 0
      · by_cases h2 : c = 1
        · rw [h1, h2]; rfl
        · rw [decide_eq_false (fun h => h2 h.2), h1]
          have : ((1 : UInt8) == c) = false := beq_eq_false_iff_ne.2 (fun e => h2 e.symm)
          rw [this]; rfl
      · rw [decide_eq_false (fun h => h1 h.1)]
        have : ((0 : UInt8) == b) = false := beq_eq_false_iff_ne.2 (fun e => h1 e.symm)
        rw [this]; rfl
    rw [hi, hp, headN]
    by_cases h : b = 0 ∧ c = 1
    · right
      rw [decide_eq_true h, if_pos rfl, if_pos h]
      exact ⟨0, rfl, rfl, by simp⟩
    · rw [decide_eq_false h, if_neg (by decide), if_neg h]
      rcases head_index (c :: r) with ⟨h1, h2⟩ | ⟨k, h1, h2, h3⟩
      · left
        rw [h1, h2]
        exact ⟨rfl, rfl⟩
      · right
        have h4 : (Lib.index (c :: r) [0, 1] == -1) = false := by rw [h1, beq_eq_false_iff_ne]; omega
        refine ⟨k + 1, by rw [h4, h1]; simp, by rw [h2], by simp at h3 ⊢; omega⟩

/-- Ahead of place i the lesser keys stand, from it on the others. -/
structure IsPos (L : List KV) (key : ByteArray) (i : Nat) : Prop where
  le : i ≤ L.length
  low : ∀ t m, t < i → L[t]? = some m → cmpT m.1 key < 0
  high : ∀ t m, i ≤ t → L[t]? = some m → 0 ≤ cmpT m.1 key
theorem IsPos.filter {L : List KV} {key : ByteArray} {i : Nat} (h : IsPos L key i) : L.filter (fun m => decide (0 ≤ cmpT m.1 key)) = L.drop i := by
  conv => lhs; rw [← List.take_append_drop i L]
  rw [List.filter_append]
  have h1 : (L.take i).filter (fun m => decide (0 ≤ cmpT m.1 key)) = [] := by
    rw [List.filter_eq_nil_iff]
    intro m hm
    obtain ⟨t, ht⟩ := List.mem_iff_getElem?.1 hm
    have hti : t < i := by
      have := (List.getElem?_eq_some_iff.1 ht).1
      rw [List.length_take] at this
      omega
    rw [List.getElem?_take_of_lt hti] at ht
    have := h.low t m hti ht
    simp
    omega
  have h2 : (L.drop i).filter (fun m => decide (0 ≤ cmpT m.1 key)) = L.drop i := by
    rw [List.filter_eq_self]
    intro m hm
    obtain ⟨t, ht⟩ := List.mem_iff_getElem?.1 hm
    rw [List.getElem?_drop] at ht
    exact decide_eq_true (h.high (i + t) m (by omega) ht)
  rw [h1, h2, List.nil_append]
theorem IsPos.from_ {L : List KV} {key : ByteArray} {i : Nat} (h : IsPos L key i) (most : Int) : fromK L key most = if most < 0 then L.drop i else (L.drop i).take most.toNat := by
  unfold fromK
  rw [h.filter]
theorem toList_eq_iff (a b : ByteArray) : (a.toList == b.toList) = decide (cmpT a b = 0) := by
  rw [Lib.toList_data, Lib.toList_data]
  by_cases h : cmpT a b = 0
  · rw [decide_eq_true h, (cmpT_eq a b).1 h]
    exact beq_self_eq_true _
  · rw [decide_eq_false h, beq_eq_false_iff_ne]
    intro e
    exact h ((cmpT_eq a b).2 (bl_inj e))
theorem IsPos.get {L : List KV} {key : ByteArray} {i : Nat} (h : IsPos L key i) : getK L key = match L[i]? with
    | some m => if cmpT m.1 key = 0 then (m.2, 0) else (⟨#[]⟩, 22)
    | none => (⟨#[]⟩, 22) := by
  unfold getK
  rw [h.from_ 1, if_neg (by decide)]
  cases hm : L[i]? with
  | none =>
    have : L.drop i = [] := List.drop_eq_nil_of_le (by rw [List.getElem?_eq_none_iff] at hm; exact hm)
    rw [this]
    rfl
  | some m =>
    obtain ⟨h1, h2⟩ := List.getElem?_eq_some_iff.1 hm
    rw [List.drop_eq_getElem_cons h1, h2]
    show (if (m.1.toList == key.toList) = true then (m.2, (0 : Int)) else (⟨#[]⟩, 22)) = _
    rw [toList_eq_iff]
    dsimp only
    by_cases h3 : cmpT m.1 key = 0
    · rw [if_pos h3, decide_eq_true h3, if_pos rfl]
    · rw [if_neg h3, decide_eq_false h3, if_neg (by decide)]
/-- In keys that rise, all behind one that is no lesser are no lesser; all ahead of a lesser one are lesser. -/
theorem rises_low {L : List KV} (hR : risesK L = true) {key : ByteArray} {i : Nat} {a : KV} (ha : L[i]? = some a) (h : cmpT a.1 key < 0) : ∀ t m, t ≤ i → L[t]? = some m → cmpT m.1 key < 0 := by
  intro t m ht hm
  rcases Nat.lt_or_eq_of_le ht with h1 | h1
  · exact cmpT_trans (rises_get hR h1 hm ha) h
  · subst h1
    rw [ha] at hm
    cases hm
    exact h
theorem rises_high {L : List KV} (hR : risesK L = true) {key : ByteArray} {i : Nat} {a : KV} (ha : L[i]? = some a) (h : 0 ≤ cmpT a.1 key) : ∀ t m, i ≤ t → L[t]? = some m → 0 ≤ cmpT m.1 key := by
  intro t m ht hm
  refine Int.not_lt.1 fun hc => ?_
  have := rises_low hR hm hc i a ht ha
  omega
end Go.Proofs.YtcbgflidlpmhcaaDoor

namespace Go.Proofs.YtcbgflidlpmhcaaDoor
open Go.RowKit

theorem comL_comm : ∀ a b : List UInt8, comL a b = comL b a
  | [], b => by cases b <;> simp [comL]
  | a :: x, [] => by simp [comL]
  | a :: x, b :: y => by
    rw [comL, comL, comL_comm x y]
    by_cases h : a = b
    · rw [if_pos h, if_pos h.symm]
    · rw [if_neg h, if_neg (fun e => h e.symm)]

set_option maxRecDepth 100000 in
set_option maxHeartbeats 2000000 in
theorem common_zero (i : Nat) (a k : ByteArray) (w : World) (hi : i < 4611686018427387904) (h8 : i % 8 = 0) :
    Calls Tryd.prog 40 #[.int .i64 (i : Int), .string a, .string k] w fun e w' => e = .returned (.int .i64 0) ∧ w' = w := by
  have e1 : ((i : Int) % 8 == 0) = true := by rw [beq_iff_eq]; omega
  clear h8
  generalize hr : (i : Int) % 8 = r at *
  go_enter Tryd.func40, Tryd.ntmps40
  go_wp2_with fail
  go_ret
  exact ⟨rfl, rfl⟩

set_option maxRecDepth 100000 in
set_option maxHeartbeats 2000000 in
theorem common_loop (i : Nat) (a k : ByteArray) (w : World) (hi : i < 4611686018427387904) (h8 : i % 8 ≠ 0) (ha : a.size ≤ 9223372036854775807) (hk : k.size ≤ 9223372036854775807) :
    Calls Tryd.prog 40 #[.int .i64 (i : Int), .string a, .string k] w fun e w' => e = .returned (.int .i64 (comL (bl k) (bl a) : Int)) ∧ ∃ j, w' = w.drewN j := by
  have e1 : ((i : Int) % 8 == 0) = false := by rw [beq_eq_false_iff_ne]; omega
  have hla : (bl a).length = a.size := rfl
  have hlk : (bl k).length = k.size := rfl
  obtain ⟨g, hg⟩ : ∃ g, comL (bl k) (bl a) = g := ⟨_, rfl⟩
  rw [hg]
  have Hg := Lib.hid hg
  have Hla := Lib.hid hla
  have Hlk := Lib.hid hlk
  clear h8 hg hla hlk
  generalize hr : (i : Int) % 8 = r at *
  go_enter Tryd.func40, Tryd.ntmps40
  go_wp2_with fail
  go_loopw [7] (fun i wr => ∃ k0 j : Nat, k0 ≤ a.size ∧ k0 ≤ k.size ∧ i = .int .i64 (k0 : Int) ∧ Hid (g = k0 + comL ((bl k).drop k0) ((bl a).drop k0)) ∧ Hid (wr = w.drewN j)) (fun i _ => a.size - (intOf i).toNat)
  case atStart => exact ⟨0, 0, by omega, by omega, rfl, Lib.hid (by rw [← Hg.out]; simp), Lib.hid rfl⟩
  case round =>
    obtain ⟨n, j0, hna, hnk, rfl, Hk, HW⟩ := hrel
    have n0 : (0 : Int) ≤ (n : Int) := by omega
    by_cases hl : n < a.size
    · by_cases hm : n < k.size
      · have hka' : (n : Int) < (a.size : Int) := by omega
        have hkb' : (n : Int) < (k.size : Int) := by omega
        by_cases h1 : k[n] = a[n]
        · have hk2 : g = (n + 1) + comL ((bl k).drop (n + 1)) ((bl a).drop (n + 1)) := by
            have := Hk.out
            rw [comL_step (bl k) (bl a) n (by rw [Hlk.out]; exact hm) (by rw [Hla.out]; exact hl) h1] at this
            omega
          have Hk2 := Lib.hid hk2
          have e2 : ((a[n].toNat : Int) == (k[n].toNat : Int)) = true := by rw [beq_iff_eq, h1]
          clear hk2 h1 Hk
          go_wp2_with fail
          go_quiet (fail)
          go_wp2_with fail
          go_roundw
          case rel => exact ⟨n + 1, _, by omega, by omega, by go_num, Hk2, Lib.hid (by rw [HW.out]; simp only [World.drewN_drewN]; rfl)⟩
          case measure => simp [intOf]; omega
        · have hk2 : g = n := by
            have := Hk.out
            rw [comL_stop (bl k) (bl a) n (Or.inr (Or.inr ⟨by rw [Hlk.out]; exact hm, by rw [Hla.out]; exact hl, h1⟩))] at this
            omega
          have Hk2 := Lib.hid hk2
          have e2 : ((a[n].toNat : Int) == (k[n].toNat : Int)) = false := by
            rw [beq_eq_false_iff_ne]
            intro e
            exact h1 (UInt8.toNat_inj.1 (by omega))
          clear hk2 h1 Hk
          go_wp2_with fail
          go_quiet (fail)
          go_wp2_with fail
          go_ret
          exact ⟨by rw [Hk2.out]; rfl, _, by rw [HW.out]; simp only [World.drewN_drewN]; rfl⟩
      · have hk2 : g = n := by
          have := Hk.out
          rw [comL_stop (bl k) (bl a) n (Or.inl (by rw [Hlk.out]; omega))] at this
          omega
        have Hk2 := Lib.hid hk2
        have hm' : ¬ (n : Int) < (k.size : Int) := by omega
        have hl' : (n : Int) < (a.size : Int) := by omega
        clear hk2 Hk
        go_wp2_with fail
        go_quiet (fail)
        go_wp2_with fail
        go_ret
        exact ⟨by rw [Hk2.out]; rfl, _, by rw [HW.out]; simp only [World.drewN_drewN]; rfl⟩
    · have hk2 : g = n := by
        have := Hk.out
        rw [comL_stop (bl k) (bl a) n (Or.inr (Or.inl (by rw [Hla.out]; omega)))] at this
        omega
      have Hk2 := Lib.hid hk2
      have hl' : ¬ (n : Int) < (a.size : Int) := by omega
      clear hk2 Hk
      go_wp2_with fail
      go_quiet (fail)
      go_wp2_with fail
      go_ret
      exact ⟨by rw [Hk2.out]; rfl, _, by rw [HW.out]; simp only [World.drewN_drewN]; rfl⟩
theorem common_any (i : Nat) (a k : ByteArray) (w : World) (hi : i < 4611686018427387904) (ha : a.size ≤ 9223372036854775807) (hk : k.size ≤ 9223372036854775807) :
    Calls Tryd.prog 40 #[.int .i64 (i : Int), .string a, .string k] w fun e w' => e = .returned (.int .i64 (comI i (bl a) (bl k) : Int)) ∧ ∃ j, w' = w.drewN j := by
  unfold comI
  by_cases h : i % 8 = 0
  · rw [if_pos h]
    exact (common_zero i a k w hi h).mono fun e w' ⟨h1, h2⟩ => ⟨h1, 0, h2⟩
  · rw [if_neg h]
    exact common_loop i a k w hi h ha hk
set_option maxRecDepth 100000 in
set_option maxHeartbeats 1000000 in
theorem fixed_any (v : Nat) (w : World) (hv : v < 4294967296) :
    Calls Tryd.prog 42 #[.int .i64 (v : Int)] w fun e w' => e = .returned (.string ⟨(be v 4).toArray⟩) ∧ Below w.heap.size w w' := by
  have C := Lib.hid (put_ok v 4 w (by decide) (by decide) hv)
  go_enter Tryd.func42, Tryd.ntmps42
  go_wp2_with fail
  refine C.out.mono ?_
  rintro e w1 ⟨rfl, hb⟩
  go_wp2_with fail
  go_ret
  exact ⟨rfl, hb⟩
set_option maxRecDepth 100000 in
set_option maxHeartbeats 1000000 in
theorem must_yes (w : World) : Calls Tryd.prog 84 #[.bool true] w fun e w' => e = .returned (.tuple #[]) ∧ w' = w := by
  go_enter Tryd.func84, Tryd.ntmps84
  go_wp2_with fail
  go_end0
  exact ⟨rfl, rfl⟩
/-- A step gave up. -/
abbrev gaveB : Ending := .panicked [{ v := .iface 26 (.int .i64 31), recovered := false }]
set_option maxRecDepth 100000 in
set_option maxHeartbeats 1000000 in
theorem must_no (w : World) : Calls Tryd.prog 84 #[.bool false] w fun e w' => e = gaveB ∧ w' = w := by
  go_enter Tryd.func84, Tryd.ntmps84
  go_wp2_with fail
  exact ⟨rfl, rfl, rfl⟩
end Go.Proofs.YtcbgflidlpmhcaaDoor

namespace Go.Proofs.YtcbgflidlpmhcaaDoor
open Go.RowKit

/-- The reader holds what is left, the pairs, the last key. -/
abbrev RdB (w : World) (p : Nat) (s : ByteArray) (v : Value) (a : ByteArray) : Prop := Blk w p 107 #[.string s, v, .string a]

set_option maxRecDepth 100000 in
set_option maxHeartbeats 2000000 in
theorem btake_ok (p : Nat) (s : ByteArray) (v : Value) (a : ByteArray) (k : Nat) (w : World) (B : RdB w p s v a) (hk : k ≤ s.size) :
    Calls Tryd.prog 93 #[.pointer (some ⟨p, 0, none⟩), .int .i64 (k : Int)] w fun e w' => e = .returned (.string (s.extract 0 k)) ∧ RdB w' p (s.extract k s.size) v a ∧ w.grownBy w' (some p) := by
  have c0 : w.cell? ⟨p, 0, none⟩ = some (.string s) := B.cell 0
  have f0 := B.frozen 0
  have hk1 : decide ((k : Int) ≤ (s.size : Int)) = true := decide_eq_true (by omega)
  have hk2 : (k : Int) ≤ (s.size : Int) := by omega
  have B := Lib.hid B
  have C := Lib.hid (must_yes w)
  go_enter Tryd.func93, Tryd.ntmps93
  go_wp2_with fail
  refine C.out.mono ?_
  rintro e w1 ⟨rfl, rfl⟩
  go_wp2_with fail
  go_ret
  exact ⟨rfl, B.out.set_ 0 _, only_setCell (World.grownBy.refl _ _) (Or.inl rfl) _⟩

set_option maxRecDepth 100000 in
set_option maxHeartbeats 2000000 in
theorem btake_short (p : Nat) (s : ByteArray) (v : Value) (a : ByteArray) (k : Nat) (w : World) (B : RdB w p s v a) (hk : s.size < k) :
    Calls Tryd.prog 93 #[.pointer (some ⟨p, 0, none⟩), .int .i64 (k : Int)] w fun e w' => e = gaveB ∧ w' = w := by
  have c0 : w.cell? ⟨p, 0, none⟩ = some (.string s) := B.cell 0
  have hk1 : decide ((k : Int) ≤ (s.size : Int)) = false := decide_eq_false (by omega)
  have hk2 : ¬ (k : Int) ≤ (s.size : Int) := by omega
  have C := Lib.hid (must_no w)
  go_enter Tryd.func93, Tryd.ntmps93
  go_wp2_with fail
  refine C.out.mono ?_
  rintro e w1 ⟨rfl, rfl⟩
  go_wp2_with fail
  exact ⟨rfl, rfl, rfl⟩

theorem gv_err' : ∀ (l : List UInt8) (i a : Nat) (e : Int), gv l i a = .err e → e = 3 ∨ e = 4
  | [], i, a, e, h => by
    rw [gv] at h
    split at h <;> (cases h; simp)
  | c :: r, i, a, e, h => by
    rw [gv] at h
    split at h
    · cases h; simp
    · split at h
      · exact gv_err' r _ _ e h
      · split at h
        · cases h; simp
        · cases h

set_option maxRecDepth 100000 in
set_option maxHeartbeats 2000000 in
theorem bnum_ok (p : Nat) (s : ByteArray) (v : Value) (a : ByteArray) (x n : Nat) (w : World) (B : RdB w p s v a) (hs : s.size ≤ 9223372036854775807) (h : gv (bl s) 0 0 = .ok x n) :
    Calls Tryd.prog 92 #[.pointer (some ⟨p, 0, none⟩)] w fun e w' => e = .returned (.int .i64 (x : Int)) ∧ RdB w' p (s.extract n s.size) v a ∧ w.grownBy w' (some p) := by
  have c0 : w.cell? ⟨p, 0, none⟩ = some (.string s) := B.cell 0
  have hn : n ≤ s.size := (gv_bytes h).2.1
  have CG := Lib.hid (getvar_ok s x n w hs h)
  have CM := fun W => Lib.hid (must_yes W)
  have CT := fun W h => Lib.hid (btake_ok p s v a n W h hn)
  have B := Lib.hid B
  clear h
  go_enter Tryd.func92, Tryd.ntmps92
  go_wp2_with fail
  refine CG.out.mono ?_
  rintro e w1 ⟨rfl, hb1⟩
  have B1 := B.out.below hb1 B.out.lt
  have g1 := Lib.hid (World.grownBy.mk hb1.os hb1.tape hb1.output hb1.size (fun k hk _ => hb1.block k hk) : w.grownBy w1 (some p))
  clear hb1
  have CT1 := CT w1 B1
  clear CT B1
  go_wp2_with fail
  refine (CM _).out.mono ?_
  rintro e w2 ⟨rfl, rfl⟩
  go_wp2_with fail
  refine CT1.out.mono ?_
  rintro e w3 ⟨rfl, B3, g3⟩
  have B3 := Lib.hid B3
  have g4 := Lib.hid (grown_trans g1.out g3)
  clear g3
  go_wp2_with fail
  go_ret
  exact ⟨rfl, B3.out, g4.out⟩

set_option maxRecDepth 100000 in
set_option maxHeartbeats 2000000 in
theorem bnum_bad (p : Nat) (s : ByteArray) (v : Value) (a : ByteArray) (er : Int) (w : World) (B : RdB w p s v a) (hs : s.size ≤ 9223372036854775807) (h : gv (bl s) 0 0 = .err er) :
    Calls Tryd.prog 92 #[.pointer (some ⟨p, 0, none⟩)] w fun e w' => e = gaveB ∧ w.grownBy w' (some p) := by
  have c0 : w.cell? ⟨p, 0, none⟩ = some (.string s) := B.cell 0
  have he := gv_err' _ _ _ _ h
  have e1 : (er == 0) = false := by rw [beq_eq_false_iff_ne]; omega
  have e2 : ¬ er = 0 := by omega
  have CG := Lib.hid (getvar_err s er w hs h)
  have CM := fun W => Lib.hid (must_no W)
  clear h he B
  go_enter Tryd.func92, Tryd.ntmps92
  go_wp2_with fail
  refine CG.out.mono ?_
  rintro e w1 ⟨rfl, hb1⟩
  have g1 := Lib.hid (World.grownBy.mk hb1.os hb1.tape hb1.output hb1.size (fun k hk _ => hb1.block k hk) : w.grownBy w1 (some p))
  clear hb1
  go_wp2_with fail
  refine (CM _).out.mono ?_
  rintro e w2 ⟨rfl, rfl⟩
  go_wp2_with fail
  exact ⟨rfl, rfl, g1.out⟩
end Go.Proofs.YtcbgflidlpmhcaaDoor

namespace Go.Proofs.YtcbgflidlpmhcaaDoor
open Go.RowKit Go.Shelf

abbrev IsB (B b : Nat) (bs : List Value) (w : World) : Prop := Lib.IsBuilder 54 5 B b bs w

theorem bu8 : (Tryd.prog.info? 5).map (fun i => (i.zero, i.size, i.bytes)) = some (some (.int .u8 0), 1, 1) := by kernel_rfl
theorem bsome : (Tryd.prog.info? 54).map (·.size) = some 2 := by kernel_rfl

set_option maxRecDepth 100000 in
theorem bcheck_used (b : Nat) (w : World) (h0 : w.cell? ⟨b, 0, none⟩ = some (.pointer (some ⟨b, 0, none⟩))) :
    Calls Tryd.prog 43 #[.pointer (some ⟨b, 0, none⟩)] w fun e w' => e = .returned (.tuple #[]) ∧ w' = w := by
  obtain ⟨j, hj, _⟩ := Option.map_eq_some_iff.1 bsome
  have hne := fun W : World => Lib.run_neq_ptr_same (P := Tryd.prog) (w := W) ⟨b, 0, none⟩ Tryd.underlying52 hj
  clear hj
  go_enter Tryd.func43, Tryd.ntmps43
  go_wp2_with fail
  go_end0
  exact ⟨rfl, rfl⟩

theorem run_noesc (x : Value) (W : World) : (callFunc 60 #[x]).run Tryd.prog W = .ok (.value x) W := by
  rw [run_callFunc_extern (e := Extern.AbiNoEscape.same) Tryd.func60 (by kernel_rfl) (by kernel_rfl) (by kernel_rfl) (by kernel_rfl), Lib.run_noEscape]
  rfl

set_option maxRecDepth 100000 in
theorem bcheck_fresh (b : Nat) (w : World) (h0 : w.cell? ⟨b, 0, none⟩ = some (.pointer none)) (hsh : w.shape? b = some (54, 2)) (hfz : w.frozen? ⟨b, 0, none⟩ = false) :
    Calls Tryd.prog 43 #[.pointer (some ⟨b, 0, none⟩)] w fun e w' => e = .returned (.tuple #[]) ∧ w' = w.setCell ⟨b, 0, none⟩ (.pointer (some ⟨b, 0, none⟩)) := by
  obtain ⟨j, hj, hjs⟩ := Option.map_eq_some_iff.1 bsome
  have c1 := Lib.run_to_unsafe (P := Tryd.prog) (w := w) (src := 52) (dst := 91) ⟨b, 0, none⟩ Tryd.underlying52 Tryd.underlying91 hj (by rw [hjs]; decide) hsh (Nat.zero_lt_succ 1)
  have c2 := run_noesc (.pointer (some ⟨b, 0, none⟩)) w
  have c3 := Lib.run_from_unsafe (P := Tryd.prog) (w := w) (src := 91) (dst := 52) ⟨b, 0, none⟩ Tryd.underlying91 Tryd.underlying52 hj hsh (by kernel_rfl)
  clear hj hjs hsh
  go_enter Tryd.func43, Tryd.ntmps43
  go_wp2_with fail
  go_end0
  exact ⟨rfl, rfl⟩

theorem bcheck_any (B b : Nat) (bs : List Value) (w : World) (h : IsB B b bs w) :
    Calls Tryd.prog 43 #[.pointer (some ⟨b, 0, none⟩)] w fun e w' => e = .returned (.tuple #[]) ∧ (Lib.BuilderAt 54 5 B b (.pointer (some ⟨b, 0, none⟩)) bs w' ∧ Below B w w') := by
  rcases h with h | h
  · exact (bcheck_fresh b w h.cell0 h.shape h.frozen0).mono fun _ _ ⟨he, hw⟩ => ⟨he, by subst hw; exact h.used _, by subst hw; exact (Below.refl B w).setCell (p := ⟨b, 0, none⟩) h.1 _⟩
  · exact (bcheck_used b w h.cell0).mono fun _ _ ⟨he, hw⟩ => ⟨he, by subst hw; exact h, by subst hw; exact Below.refl B _⟩

set_option maxHeartbeats 2000000 in
set_option maxRecDepth 100000 in
theorem bstr_any (B b : Nat) (bs : List Value) (s : ByteArray) (w : World) (h : IsB B b bs w) (hlen : bs.length + s.size ≤ 140737488355328) (hBw : B ≤ w.heap.size) :
    Calls Tryd.prog 25 #[.pointer (some ⟨b, 0, none⟩), .string s] w fun e w' => e = .returned (.tuple #[.int .i64 s.size, .nilIface]) ∧ IsB B b (bs ++ Lib.strCells s) w' ∧ Below B w w' := by
  obtain ⟨i0, hi, hz0, hz1, hz2⟩ := info_parts bu8
  have C := Lib.hid (bcheck_any B b bs w h)
  clear h
  go_enter Tryd.func25, Tryd.ntmps25
  go_wp2_with fail
  refine C.out.mono ?_
  rintro e w1 ⟨rfl, h1, hb1⟩
  obtain ⟨hB, v, hbk, hown, hne⟩ := h1
  have c1 : w1.cell? ⟨b, 1, none⟩ = some v := by rw [Lib.cell_of_heap hbk]; rfl
  go_wp2_with (at_builtin; refine Lib.wpList_append_own_string _ rfl _ _ 38 9 rfl B 5 i0 Tryd.underlying38 Tryd.underlying9 hi hz0 hz1 hz2 _ _ _ rfl hown s rfl ?c3 ?c4 ?c5 ?_)
  case c3 => unfold maxLen; omega
  case c4 => omega
  case c5 => have := hb1.size; omega
  intro v' w2 hown' hgrow _
  have hlt : b < w1.heap.size := by
    rcases Nat.lt_or_ge b w1.heap.size with h' | h'
    · exact h'
    · simp [Array.getElem?_eq_none h'] at hbk
  have hb2 : w2.heap[b]? = some (.cells #[.pointer (some ⟨b, 0, none⟩), v] 54 (0, 0)) := by
    rw [hgrow.block b hlt (fun e => hne e.symm)]
    exact hbk
  have d1 : w2.cell? ⟨b, 1, none⟩ = some v := by rw [Lib.cell_of_heap hb2]; rfl
  have f1 : w2.frozen? ⟨b, 1, none⟩ = false := Lib.frozen_of_heap hb2 1
  obtain ⟨ao, n', cap, rfl⟩ : ∃ ao n' cap, v' = .slice ao n' cap := by
    rcases hown'.2 with ⟨hv, _⟩ | ⟨g, cap, cur, hv, _⟩
    · exact ⟨_, _, _, hv⟩
    · exact ⟨_, _, _, hv⟩
  go_wp2
  go_ret2
  refine ⟨rfl, Or.inr ?_, ?_⟩
  · exact Lib.BuilderAt.put (T := 54) (e := 5) hB hb2 (bs' := bs ++ Lib.strCells s) (by rw [List.length_append, Lib.strCells_length]; exact hown') (by decide)
  · exact (hb1.grown hgrow (by have := hb1.size; omega) (fun k hk => (hown.lt k hk).1)).setCell (p := ⟨b, 1, none⟩) hB _

end Go.Proofs.YtcbgflidlpmhcaaDoor

namespace Go.Proofs.YtcbgflidlpmhcaaDoor
open Go.RowKit Go.Shelf

/-- The builder in block b holds these bytes. -/
abbrev IsF (B b : Nat) (l : List UInt8) (w : World) : Prop := Lib.IsBuilderF 54 5 B b (Lib.byteCells l) w
theorem isF_new (w : World) : IsF w.heap.size w.heap.size [] (w.alloc (.cells #[.pointer none, .slice none 0 0] 54)) := Lib.IsBuilderF.of (Lib.fresh_isBuilder _ _ w)
theorem isF_below {B b B' : Nat} {l : List UInt8} {w w' : World} (h : IsF B b l w) (hb : Below B' w w') (hB : w.heap.size ≤ B') : IsF B b l w' := by
  have key : ∀ p, Lib.BuilderAtF 54 5 B b p (Lib.byteCells l) w → Lib.BuilderAtF 54 5 B b p (Lib.byteCells l) w' := by
    rintro p hh
    have hlt := hh.lt
    obtain ⟨h1, v, h2, h3, h4⟩ := hh
    refine ⟨h1, v, (hb.block b (by omega)).trans h2, ⟨h3.1, ?_⟩, h4⟩
    rcases h3.2 with hn | ⟨g, cap, cur, fz, hv, hg, hh, r⟩
    · exact Or.inl hn
    · exact Or.inr ⟨g, cap, cur, fz, hv, hg, (hb.block g (Nat.lt_of_lt_of_le (Array.getElem?_eq_some_iff.1 hh).1 hB)).trans hh, r⟩
  exact h.elim (fun x => Or.inl (key _ x)) (fun x => Or.inr (key _ x))

/-- What a builder turns: itself, and its bytes. -/
def bT (o : Obj) : Bool := cellsT 54 o || cellsT 5 o
theorem bT_ne {t : TypeId} (h1 : t ≠ 54) (h2 : t ≠ 5) (cs : Array Value) (fr : Nat × Nat) : bT (.cells cs t fr) = false := by
  unfold bT
  rw [cellsT_ne h1, cellsT_ne h2]
  rfl
theorem isF_tn {B b : Nat} {l : List UInt8} {w w' : World} (h : IsF B b l w) (hb : Below w.heap.size w w') : IsF B b l w' := isF_below h hb (Nat.le_refl _)

theorem bcheckF_any (B b : Nat) (l : List UInt8) (w : World) (h : IsF B b l w) :
    Calls Tryd.prog 43 #[.pointer (some ⟨b, 0, none⟩)] w fun e w' => e = .returned (.tuple #[]) ∧ (Lib.BuilderAtF 54 5 B b (.pointer (some ⟨b, 0, none⟩)) (Lib.byteCells l) w' ∧ Tn B bT w w') := by
  rcases h with h | h
  · refine (bcheck_fresh b w h.cell0 h.shape h.frozen0).mono fun _ _ ⟨he, hw⟩ => ⟨he, by subst hw; exact h.used _, ?_⟩
    subst hw
    obtain ⟨hB, v, hbk, _⟩ := h
    exact (Tn.refl B bT w).setCell (p := ⟨b, 0, none⟩) (Or.inr ⟨hB, _, hbk, rfl⟩) _
  · exact (bcheck_used b w h.cell0).mono fun _ _ ⟨he, hw⟩ => ⟨he, by subst hw; exact h, by subst hw; exact Tn.refl B _ _⟩

set_option maxHeartbeats 2000000 in
set_option maxRecDepth 100000 in
theorem bstrF_any (B b : Nat) (l : List UInt8) (s : ByteArray) (w : World) (h : IsF B b l w) (hlen : l.length + s.size ≤ 140737488355328) (hBw : B ≤ w.heap.size) :
    Calls Tryd.prog 25 #[.pointer (some ⟨b, 0, none⟩), .string s] w fun e w' => e = .returned (.tuple #[.int .i64 s.size, .nilIface]) ∧ IsF B b (l ++ s.data.toList) w' ∧ Tn B bT w w' := by
  obtain ⟨i0, hi, hz0, hz1, hz2⟩ := info_parts bu8
  have C := Lib.hid (bcheckF_any B b l w h)
  clear h
  go_enter Tryd.func25, Tryd.ntmps25
  go_wp2_with fail
  refine C.out.mono ?_
  rintro e w1 ⟨rfl, h1, ht1⟩
  have hb1 := ht1.below hBw
  obtain ⟨hB, v, hbk, hown, hne⟩ := h1
  have c1 : w1.cell? ⟨b, 1, none⟩ = some v := by rw [Lib.cell_of_heap hbk]; rfl
  go_wp2_with (at_builtin; refine Lib.wpList_append_own_stringF _ rfl _ _ 38 9 rfl B 5 i0 Tryd.underlying38 Tryd.underlying9 hi hz0 hz1 hz2 _ _ _ rfl hown s rfl ?c3 ?c4 ?c5 ?_)
  case c3 => rw [Lib.byteCells_length]; unfold maxLen; omega
  case c4 => rw [Lib.byteCells_length]; omega
  case c5 => have := hb1.size; omega
  intro v' w2 hown' hgrow _
  have hlt : b < w1.heap.size := by
    rcases Nat.lt_or_ge b w1.heap.size with h' | h'
    · exact h'
    · simp [Array.getElem?_eq_none h'] at hbk
  have hb2 : w2.heap[b]? = some (.cells #[.pointer (some ⟨b, 0, none⟩), v] 54 (0, 0)) := by
    rw [hgrow.block b hlt (fun e => hne e.symm)]
    exact hbk
  have d1 : w2.cell? ⟨b, 1, none⟩ = some v := by rw [Lib.cell_of_heap hb2]; rfl
  have f1 : w2.frozen? ⟨b, 1, none⟩ = false := Lib.frozen_of_heap hb2 1
  obtain ⟨ao, n', cap, rfl⟩ : ∃ ao n' cap, v' = .slice ao n' cap := by
    rcases hown'.2 with ⟨hv, _⟩ | ⟨g, cap, cur, fz, hv, _⟩
    · exact ⟨_, _, _, hv⟩
    · exact ⟨_, _, _, hv⟩
  have e : Lib.byteCells (l ++ s.data.toList) = Lib.byteCells l ++ Lib.strCells s := by unfold Lib.byteCells Lib.strCells; rw [List.map_append]
  go_wp2
  go_ret2
  refine ⟨rfl, Or.inr ?_, ?_⟩
  · rw [e]
    exact Lib.BuilderAtF.put (T := 54) (e := 5) hB hb2 (bs' := Lib.byteCells l ++ Lib.strCells s) (by rw [List.length_append, Lib.strCells_length]; exact hown') (by decide)
  · refine (ht1.row hgrow (fun k hk => ?_)).setCell (p := ⟨b, 1, none⟩) (Or.inr ⟨hB, _, hb2, rfl⟩) _
    rcases hown.2 with ⟨hv, _⟩ | ⟨g, cap, cur, fz, hv, hg, hh, _⟩
    · rw [hv] at hk; cases hk
    · rw [hv] at hk
      cases hk
      exact Or.inr ⟨hg, _, hh, rfl⟩
theorem blenF_any (B b : Nat) (l : List UInt8) (w : World) (h : IsF B b l w) :
    Calls Tryd.prog 41 #[.pointer (some ⟨b, 0, none⟩)] w fun e w' => e = .returned (.int .i64 l.length) ∧ w' = w := by
  have := Tryd.Builder_Len_f B b (Lib.byteCells l) w h
  rw [Lib.byteCells_length] at this
  exact this
theorem bstringF_any (B b : Nat) (l : List UInt8) (w : World) (h : IsF B b l w) (hBw : B ≤ w.heap.size) :
    Calls Tryd.prog 29 #[.pointer (some ⟨b, 0, none⟩)] w fun e w' => e = .returned (.string ⟨l.toArray⟩) ∧ IsF B b l w' ∧ Below B w w' := Tryd.Builder_String_any_f B b l w h hBw
end Go.Proofs.YtcbgflidlpmhcaaDoor

namespace Go.Proofs.YtcbgflidlpmhcaaDoor
open Go.RowKit

theorem three_pv : ∀ (N : List Nat), N.length = 3 → (∀ x ∈ N, x ≤ 1000000) → ∀ j, (((N.take j).map pv).flatten).length ≤ 30 := by
  intro N h hx j
  match N, h with
  | [a, b, c], _ =>
    have p1 := pv_len9 a (by have := hx a (by simp); omega)
    have p2 := pv_len9 b (by have := hx b (by simp); omega)
    have p3 := pv_len9 c (by have := hx c (by simp); omega)
    match j with
    | 0 => simp
    | 1 => simp; omega
    | 2 => simp; omega
    | j + 3 => simp; omega

set_option maxRecDepth 100000 in
set_option maxHeartbeats 2000000 in
theorem lay_any (B b : Nat) (l : List UInt8) (k v : ByteArray) (sh : Nat) (w : World) (h : IsF B b l w) (hsh : sh ≤ k.size) (hk : k.size ≤ 1000000) (hv : v.size ≤ 1000000) (hl : l.length ≤ 100000000) (hB : B ≤ w.heap.size) :
    Calls Tryd.prog 39 #[.pointer (some ⟨b, 0, none⟩), .agg #[.string k, .string v], .int .i64 (sh : Int)] w fun e w' => e = .returned (.tuple #[]) ∧ IsF B b (l ++ (pv sh ++ (pv (k.size - sh) ++ (pv v.size ++ ((bl k).drop sh ++ bl v))))) w' ∧ Tn B bT w w' := by
  have H := Lib.hid h
  obtain ⟨R, hR⟩ : ∃ R, l ++ (pv sh ++ (pv (k.size - sh) ++ (pv v.size ++ ((bl k).drop sh ++ bl v)))) = R := ⟨_, rfl⟩
  rw [hR]
  have HR := Lib.hid hR
  clear h hR
  go_enter Tryd.func39, Tryd.ntmps39
  go_wp2_with fail
  have b1 := Blk.new w 35 #[.string k, .string v]
  have hb1 : Below w.heap.size w (w.alloc (.cells #[.string k, .string v] 35)) := below_alloc (Below.refl _ _) (Nat.le_refl _) _
  have H1 := Lib.hid (isF_below H.out hb1 (Nat.le_refl _))
  have Hb1 := Lib.hid ((Tn.refl B bT w).alloc (.cells #[.string k, .string v] 35))
  generalize w.alloc (.cells #[.string k, .string v] 35) = w1 at *
  have c0 : w1.cell? ⟨w.heap.size, 0, none⟩ = some (.string k) := b1.cell 0
  have c1 : w1.cell? ⟨w.heap.size, 1, none⟩ = some (.string v) := b1.cell 1
  have i0 : (0 : Int) ≤ (sh : Int) := by omega
  have i1 : (sh : Int) ≤ (k.size : Int) := by omega
  clear hb1 b1 H
  go_quiet (fail)
  go_wp2_with fail
  have hz : (k.extract sh k.size).size = k.size - sh := by simp
  have hbl : bl (k.extract sh k.size) = (bl k).drop sh := by
    show (k.extract sh k.size).data.toList = _
    rw [ByteArray.data_extract, Array.toList_extract, List.extract_eq_take_drop]
    exact List.take_of_length_le (by rw [List.length_drop]; exact Nat.le_refl _)
  generalize k.extract sh k.size = ks at *
  generalize hm : k.size - sh = m at *
  have hm9 : m ≤ 1000000 := by omega
  have H2 : Hid (IsF B b l ((w1.drewN nq).alloc (.cells #[.int .i64 (sh : Int), .int .i64 (m : Int), .int .i64 (v.size : Int)] 3))) := Lib.hid (isF_below H1.out (below_alloc (below_drewN (Below.refl w1.heap.size w1) nq) (Nat.le_refl _) _) (Nat.le_refl _))
  have B2 : Hid (Tn B bT w ((w1.drewN nq).alloc (.cells #[.int .i64 (sh : Int), .int .i64 (m : Int), .int .i64 (v.size : Int)] 3))) := Lib.hid ((Hb1.out.drewN nq).alloc _)
  have b2 : Hid (Blk ((w1.drewN nq).alloc (.cells #[.int .i64 (sh : Int), .int .i64 (m : Int), .int .i64 (v.size : Int)] 3)) w1.heap.size 3 #[.int .i64 (sh : Int), .int .i64 (m : Int), .int .i64 (v.size : Int)]) := Lib.hid (Blk.new (w1.drewN nq) _ _)
  generalize (w1.drewN nq).alloc (.cells #[.int .i64 (sh : Int), .int .i64 (m : Int), .int .i64 (v.size : Int)] 3) = w2 at *
  obtain ⟨N, hN⟩ : ∃ N : List Nat, N = [sh, m, v.size] := ⟨_, rfl⟩
  have hN3 : N.length = 3 := by rw [hN]; rfl
  have hNx : ∀ x ∈ N, x ≤ 1000000 := by
    intro x hx
    rw [hN] at hx
    simp at hx
    omega
  have b3 : Hid (Blk w2 w1.heap.size 3 (N.map fun (x : Nat) => Value.int .i64 (x : Int)).toArray) := Lib.hid (by rw [hN]; exact b2.out)
  have HR2 : Hid (l ++ (((N.take 3).map pv).flatten ++ (bl ks ++ bl v)) = R) := Lib.hid (by
    rw [← HR.out, hN, hbl]
    simp)
  have HN3 := Lib.hid hN3
  have HNx := Lib.hid hNx
  clear hN hN3 hNx b2 hbl H1 Hb1 HR
  generalize w1.heap.size = g at *
  go_loopw [23] (fun i wr => ∃ j : Nat, j ≤ 3 ∧ i = .int .i64 (j : Int) ∧ Hid (IsF B b (l ++ ((N.take j).map pv).flatten) wr) ∧ Hid (Blk wr g 3 (N.map fun (x : Nat) => Value.int .i64 (x : Int)).toArray) ∧ Hid (Tn B bT w wr)) (fun i _ => 3 - (intOf i).toNat)
  case atStart => exact ⟨0, by omega, rfl, Lib.hid (by simpa using H2.out), b3, B2⟩
  case round =>
    obtain ⟨j, hj, rfl, HF, HB, HW⟩ := hrel
    have hln : (((N.take j).map pv).flatten).length ≤ 30 := three_pv N HN3.out HNx.out j
    by_cases hl3 : j < 3
    · obtain ⟨x, hx⟩ : ∃ x, N[j]? = some x := ⟨_, List.getElem?_eq_getElem (by rw [HN3.out]; exact hl3)⟩
      have hx9 := HNx.out x (List.mem_of_getElem? hx)
      have hc : wr.cell? ⟨g, j, none⟩ = some (.int .i64 (x : Int)) := by
        rw [HB.out.cell j]
        simp [hx]
      have e1 : (j : Int) < 3 := by omega
      have e2 : (0 : Int) ≤ (j : Int) := by omega
      have hst : ((N.take (j + 1)).map pv).flatten = ((N.take j).map pv).flatten ++ pv x := by
        obtain ⟨h1, h2⟩ := List.getElem?_eq_some_iff.1 hx
        rw [List.take_succ_eq_append_getElem h1, h2]
        simp
      have Hst := Lib.hid hst
      have C := Lib.hid (putvar_any x wr (by omega))
      have hpl : (pv x).length ≤ 9 := pv_len9 x (by omega)
      have hBw : B ≤ wr.heap.size := Nat.le_trans hB HW.out.size
      clear hx hst
      go_wp2_with fail
      refine C.out.mono ?_
      rintro e w5 ⟨rfl, hb5⟩
      have H5 := isF_below HF.out hb5 (Nat.le_refl _)
      have D := Lib.hid (bstrF_any B b _ ⟨(pv x).toArray⟩ w5 H5 (by rw [List.length_append, size_mk]; omega) (Nat.le_trans hBw hb5.size))
      have HB5 := Lib.hid (HW.out.trans (Tn.of_below hb5))
      have HB6 := Lib.hid (HB.out.below hb5 HB.out.lt)
      clear H5 hb5
      go_wp2_with fail
      refine D.out.mono ?_
      rintro e w6 ⟨rfl, h6, hb6⟩
      have HF6 : Hid (IsF B b (l ++ ((N.take (j + 1)).map pv).flatten) w6) := Lib.hid (by rw [Hst.out, ← List.append_assoc]; exact h6)
      have HW6 := Lib.hid (HB5.out.trans hb6)
      have HG6 := Lib.hid (hb6.blk HB6.out (bT_ne (by decide) (by decide) _ _))
      clear h6 hb6 HF
      go_wp2_with fail
      go_roundw
      case rel => exact ⟨j + 1, by omega, by go_num, HF6, HG6, HW6⟩
      case measure => simp [intOf]; omega
    · obtain rfl : j = 3 := by omega
      have hBw : B ≤ wr.heap.size := Nat.le_trans hB HW.out.size
      have D := Lib.hid (bstrF_any B b _ ks wr HF.out (by rw [List.length_append]; omega) hBw)
      go_wp2_with fail
      refine D.out.mono ?_
      rintro e w6 ⟨rfl, h6, hb6⟩
      have D2 := Lib.hid (bstrF_any B b _ v w6 h6 (by rw [List.length_append, List.length_append]; have : ks.data.toList.length = ks.size := rfl; omega) (Nat.le_trans hBw hb6.size))
      have HW6 := Lib.hid (HW.out.trans hb6)
      clear h6 hb6 HF
      go_wp2_with fail
      refine D2.out.mono ?_
      rintro e w7 ⟨rfl, h7, hb7⟩
      have HF7 : Hid (IsF B b R w7) := Lib.hid (by rw [← HR2.out]; simpa [List.append_assoc] using h7)
      have HW7 := Lib.hid (HW6.out.trans hb7)
      clear h7 hb7
      go_wp2_with fail
      go_end0
      exact ⟨rfl, HF7.out, HW7.out⟩
end Go.Proofs.YtcbgflidlpmhcaaDoor

namespace Go.Proofs.YtcbgflidlpmhcaaDoor
open Go.RowKit

theorem bodyL_append (l r : List KV) : ∀ i prev, bodyL i prev (l ++ r) = bodyL i prev l ++ bodyL (i + l.length) (lastK prev l) r := by
  induction l with
  | nil => intro i prev; simp [bodyL, lastK]
  | cons x l ih =>
    intro i prev
    rw [List.cons_append, bodyL, ih, bodyL, List.append_assoc, lastK, List.length_cons]
    rw [show i + 1 + l.length = i + (l.length + 1) from by omega]
theorem body_take_le (L : List KV) (k : Nat) : (bodyL 0 [] (L.take k)).length ≤ (bodyL 0 [] L).length := by
  have := bodyL_append (L.take k) (L.drop k) 0 []
  rw [List.take_append_drop] at this
  rw [this, List.length_append]
  omega
theorem ctake_snoc {L : List KV} {k : Nat} {m : KV} (hm : L[k]? = some m) : L.take (k + 1) = L.take k ++ [m] := by
  obtain ⟨h1, h2⟩ := List.getElem?_eq_some_iff.1 hm
  rw [List.take_succ_eq_append_getElem h1, h2]
theorem ctake_body {L : List KV} {k : Nat} {m : KV} (hm : L[k]? = some m) : bodyL 0 [] (L.take (k + 1)) = bodyL 0 [] (L.take k) ++ onePair k (lastK [] (L.take k)) (bl m.1) (bl m.2) := by
  have h1 := (List.getElem?_eq_some_iff.1 hm).1
  rw [ctake_snoc hm, bodyL_snoc, List.length_take, Nat.min_eq_left (by omega), Nat.zero_add]
theorem clastK_take {L : List KV} {k : Nat} {m : KV} (hm : L[k]? = some m) : lastK [] (L.take (k + 1)) = bl m.1 := by
  rw [ctake_snoc hm, lastK_snoc]

/-- The table that package block reads. -/
structure LaidB (w : World) : Prop where
  halves : Lib.TabIs Tryd.prog w "bedrock/raw.halves" .u32 halvesL
theorem glob_halves' : Tryd.prog.globalNamed "bedrock/raw.halves" = some 0 := by kernel_rfl
theorem LaidB.on {w w' : World} (h : LaidB w) (hb : Below w.heap.size w w') : LaidB w' :=
  ⟨var?_below hb glob_halves' (lt_of_cell (h.halves.cell glob_halves' 0 (by decide))) h.halves⟩
theorem LaidB.at_ {B : Nat} {w w' : World} (h : LaidB w) (hb : Below B w w') (hB : w.heap.size ≤ B) : LaidB w' := LaidB.on h (hb.mono hB)

theorem compare_T (a b : ByteArray) (w : World) :
    Calls Tryd.prog 38 #[.string a, .string b] w fun e w' => e = .returned (.int .i64 (cmpT a b)) ∧ w' = w :=
  (compare_any a b w).mono fun _ _ ⟨h1, h2⟩ => ⟨h1, h2.symm⟩

/-- What stands while a pair is laid. -/
structure LaySt (w0 : World) (b p : Nat) (l : List UInt8) (mk mv : ByteArray) (W : World) : Prop where
  blk : Blk W p 35 #[.string mk, .string mv]
  isF : IsF b b l W
  tn : Tn b bT w0 W
  low : b ≤ W.heap.size
theorem LaySt.cells {w0 : World} {b p : Nat} {l : List UInt8} {mk mv : ByteArray} {W : World} (h : LaySt w0 b p l mk mv W) : W.cell? ⟨p, 0, none⟩ = some (.string mk) ∧ W.cell? ⟨p, 1, none⟩ = some (.string mv) := ⟨h.blk.cell 0, h.blk.cell 1⟩
theorem LaySt.drewN {w0 : World} {b p : Nat} {l : List UInt8} {mk mv : ByteArray} {W : World} (h : LaySt w0 b p l mk mv W) (j : Nat) : LaySt w0 b p l mk mv (W.drewN j) := ⟨h.blk.drewN j, h.isF, h.tn.drewN j, h.low⟩
theorem LaySt.drew {w0 : World} {b p : Nat} {l : List UInt8} {mk mv : ByteArray} {W : World} (h : LaySt w0 b p l mk mv W) : LaySt w0 b p l mk mv W.drew := ⟨h.blk.drew, h.isF, h.tn.drew, h.low⟩
theorem pst_common {w0 : World} {b p : Nat} {l : List UInt8} {mk mv : ByteArray} (j : Nat) (pk : ByteArray) (hj : j < 4611686018427387904) (hp : pk.size ≤ 65536) (hm : mk.size ≤ 65536) (W : World) (h : LaySt w0 b p l mk mv W) :
    Calls Tryd.prog 40 #[.int .i64 (j : Int), .string pk, .string mk] W fun e W' => e = .returned (.int .i64 (comI j (bl pk) (bl mk) : Int)) ∧ LaySt w0 b p l mk mv W' :=
  (common_any j pk mk W hj (by omega) (by omega)).mono fun _ _ ⟨h1, q, h2⟩ => ⟨h1, by rw [h2]; exact h.drewN q⟩
theorem pst_lay {w0 : World} {b p : Nat} {l : List UInt8} {mk mv : ByteArray} (sh : Nat) (hs : sh ≤ mk.size) (hm : mk.size ≤ 65536) (hv : mv.size ≤ 65536) (hl : l.length ≤ 100000000) (W : World) (h : LaySt w0 b p l mk mv W) :
    Calls Tryd.prog 39 #[.pointer (some ⟨b, 0, none⟩), .agg #[.string mk, .string mv], .int .i64 (sh : Int)] W fun e W' => e = .returned (.tuple #[]) ∧ LaySt w0 b p (l ++ (pv sh ++ (pv (mk.size - sh) ++ (pv mv.size ++ ((bl mk).drop sh ++ bl mv))))) mk mv W' :=
  (lay_any b b l mk mv sh W h.isF hs (by omega) (by omega) hl h.low).mono fun _ _ ⟨h1, h2, h3⟩ => ⟨h1, h3.blk h.blk (bT_ne (by decide) (by decide) _ _), h2, h.tn.trans h3, Nat.le_trans h.low h3.size⟩

set_option maxRecDepth 100000 in
set_option maxHeartbeats 4000000 in
theorem build_any (A : Option Addr) (n c : Nat) (L : List KV) (w : World) (h : KeysAt w A n L) (hok : okP L) (hn : n ≤ 1000000) (hsh : longK L = false) (hsz : (blkL L).length ≤ 524288) (hT : LaidB w) :
    Calls Tryd.prog 23 #[.slice A n c] w fun e w' => e = .returned (.tuple #[.string (buildP L).1, .int .i64 (buildP L).2]) ∧ Below w.heap.size w w' := by
  have HK := Lib.hid h
  have Hok := Lib.hid hok
  have Hlen := Lib.hid h.len
  have HT := Lib.hid hT
  obtain ⟨rs, re, hr⟩ : ∃ rs re, buildP L = (rs, re) := ⟨_, _, rfl⟩
  rw [hr]
  have Hr := Lib.hid hr
  have Hsh := Lib.hid (longK_ok hsh)
  have Hsz : Hid ((bodyL 0 [] L).length ≤ 524280) := Lib.hid (by have := blkL_length L; omega)
  have Hbp : Hid (risesK L = true → rs = ⟨(blkL L).toArray⟩ ∧ re = 0) := Lib.hid (by
    intro hx
    unfold buildP at hr
    rw [if_neg (by rw [hx]; decide), if_neg (by rw [hsh]; decide), if_neg (by omega)] at hr
    exact ⟨(congrArg Prod.fst hr).symm, (congrArg Prod.snd hr).symm⟩)
  clear h hok hr hsh hsz hT
  go_enter Tryd.func23, Tryd.ntmps23
  go_wp2_with fail
  go_loopw [11] (fun i wr => ∃ k : Nat, i = .int .i64 (k : Int) ∧ Hid (∀ (i : Nat) (a b : KV), i + 1 < k → L[i]? = some a → L[i + 1]? = some b → cmpT a.1 b.1 < 0) ∧ Hid (Below w.heap.size w wr)) (fun i _ => n + 1 - (intOf i).toNat)
  case atStart => exact ⟨0, rfl, Lib.hid (fun i a b hi => by omega), Lib.hid (Below.refl _ _)⟩
  case round =>
    obtain ⟨k, rfl, Hf, HB⟩ := hrel
    by_cases hl : k < n
    · have g1 : (k : Int) < (n : Int) := by omega
      have g2 : (0 : Int) ≤ (k : Int) := by omega
      by_cases hk0 : k = 0
      · subst hk0
        go_wp2_with fail
        go_quiet (fail)
        go_wp2_with fail
        go_roundw
        case rel => exact ⟨1, by go_num, Lib.hid (fun i a b hi => by omega), Lib.hid (below_drewN HB.out _)⟩
        case measure => simp [intOf]
      · obtain ⟨m, hkm⟩ : ∃ m, k = m + 1 := ⟨k - 1, by omega⟩
        have hmL : m < L.length := by have := Hlen.out; omega
        have hkL : k < L.length := by have := Hlen.out; omega
        have ha : L[m]? = some L[m] := List.getElem?_eq_getElem hmL
        have hb : L[k]? = some L[k] := List.getElem?_eq_getElem hkL
        have oa := (Hok.out L[m] (List.getElem_mem hmL)).1
        have ob := (Hok.out L[k] (List.getElem_mem hkL)).1
        generalize L[m] = a at *
        generalize L[k] = b at *
        obtain ⟨g, off, rfl, hg, x0, -, y0, -⟩ := (HK.out.below HB.out).two ha hb
        have CC := fun W => Lib.hid (compare_T a.1 b.1 W)
        have g3 : (m : Int) < (n : Int) := by omega
        have g4 : (0 : Int) ≤ (m : Int) := by omega
        have g5 : wrap64 ((k : Int) - 1) = (m : Int) := by unfold wrap64; omega
        have g6 : IntKind.i64.wrap ((k : Int) - 1) = (m : Int) := by rw [IntKind.wrap_i64]; omega
        have g7 : 0 < k := by omega
        have Ha := Lib.hid ha
        have Hb := Lib.hid hb
        have Hkm := Lib.hid hkm
        by_cases he : cmpT a.1 b.1 < 0
        · have e1 : ¬ (0 : Int) ≤ cmpT a.1 b.1 := by omega
          have e2 : decide ((0 : Int) ≤ cmpT a.1 b.1) = false := decide_eq_false e1
          have Hf2 : Hid (∀ (i : Nat) (a b : KV), i + 1 < k + 1 → L[i]? = some a → L[i + 1]? = some b → cmpT a.1 b.1 < 0) := Lib.hid (by
            intro i a' b' hi ha' hb'
            by_cases e : i = m
            · subst e
              rw [← hkm, Hb.out] at hb'
              rw [Ha.out] at ha'
              cases ha'
              cases hb'
              exact he
            · exact Hf.out i a' b' (by omega) ha' hb')
          generalize cmpT a.1 b.1 = cm at *
          clear he ha hb hkm hk0 hmL hkL oa ob Hf
          go_upto_region 4 with fail
          go_quiet ((go_at_call 38; refine Calls.quiet_of_same (CC _).out))
          go_wp2_with fail
          go_roundw
          case rel => exact ⟨k + 1, by go_num, Hf2, Lib.hid (below_drewN HB.out _)⟩
          case measure => simp [intOf]; omega
        · have e1 : (0 : Int) ≤ cmpT a.1 b.1 := by omega
          have e2 : decide ((0 : Int) ≤ cmpT a.1 b.1) = true := decide_eq_true e1
          have e3 : risesK L = false := rises_not ha (by rw [← hkm]; exact hb) he
          have Hre : Hid (rs = ByteArray.empty ∧ re = 32) := Lib.hid (by
            have := Hr.out
            unfold buildP at this
            rw [if_pos e3] at this
            exact ⟨(congrArg Prod.fst this).symm, (congrArg Prod.snd this).symm⟩)
          generalize cmpT a.1 b.1 = cm at *
          clear he ha hb hkm hk0 hmL hkL oa ob Hf e3
          go_upto_region 4 with fail
          go_quiet ((go_at_call 38; refine Calls.quiet_of_same (CC _).out))
          go_wp2_with fail
          go_ret2
          exact ⟨by rw [Hre.out.1, Hre.out.2]; rfl, below_drewN HB.out _⟩
    · have e3 : risesK L = true := rises_iff L fun i a b ha hb => Hf.out i a b (by
        have h1 := (List.getElem?_eq_some_iff.1 hb).1
        have := Hlen.out
        omega) ha hb
      obtain ⟨rfl, rfl⟩ := Hbp.out e3
      have g1 : ¬ (k : Int) < (n : Int) := by omega
      clear Hf e3 Hr Hbp
      go_wp2_with fail
      have H0 : Hid (IsF wr.heap.size wr.heap.size (bodyL 0 [] (L.take 0)) (wr.alloc (.cells #[.pointer none, .slice none 0 0] 54))) := Lib.hid (isF_new wr)
      have HB0 : Hid (Below w.heap.size w (wr.alloc (.cells #[.pointer none, .slice none 0 0] 54))) := Lib.hid (below_alloc HB.out (Nat.le_refl _) _)
      have hs0 : wr.heap.size ≤ (wr.alloc (.cells #[.pointer none, .slice none 0 0] 54)).heap.size := by simp
      have hws : w.heap.size ≤ wr.heap.size := HB.out.size
      generalize wr.alloc (.cells #[.pointer none, .slice none 0 0] 54) = w1 at *
      generalize wr.heap.size = b at *
      clear HB
      go_loopw [6, 34] (fun x i W => ∃ (j : Nat) (pk : ByteArray), j ≤ n ∧ pk.size ≤ 65536 ∧ i = .int .i64 (j : Int) ∧ x = .string pk ∧ Hid (bl pk = lastK [] (L.take j)) ∧ Hid (IsF b b (bodyL 0 [] (L.take j)) W) ∧ b ≤ W.heap.size ∧ Hid (Below w.heap.size w W)) (fun _ i _ => n - (intOf i).toNat)
      case atStart => exact ⟨0, _, by omega, by decide, rfl, rfl, Lib.hid rfl, H0, hs0, HB0⟩
      case round =>
        obtain ⟨j, pk, hj, hpk, rfl, rfl, Hpk, HF, hbW, HW⟩ := hrel
        rename_i W _
        by_cases hjn : j < n
        · have hjL : j < L.length := by have := Hlen.out; omega
          have hm : L[j]? = some L[j] := List.getElem?_eq_getElem hjL
          have om := Hsh.out L[j] (List.getElem_mem hjL)
          generalize L[j] = mm at *
          obtain ⟨mk, mv⟩ := mm
          dsimp only at om
          obtain ⟨g, off, hA, hg, x0, x1⟩ := (HK.out.below HW.out).at_ j _ hm
          subst hA
          dsimp only at x0 x1
          have j1 : (j : Int) < (n : Int) := by omega
          have j2 : (0 : Int) ≤ (j : Int) := by omega
          have o1 : ¬ (65536 : Int) < (mk.size : Int) := by omega
          have o2 : ¬ (65536 : Int) < (mv.size : Int) := by omega
          have Hm := Lib.hid hm
          clear hm hjL
          go_wp2_with fail
          have S1 : LaySt wr b wr.heap.size (bodyL 0 [] (L.take j)) mk mv (wr.alloc (.cells #[.string mk, .string mv] 35)) :=
            ⟨Blk.new _ _ _, isF_below HF.out (below_alloc (Below.refl wr.heap.size wr) (Nat.le_refl _) _) (Nat.le_refl _), (Tn.refl b bT wr).alloc _, by simp; omega⟩
          have hcl := comI_le j (bl pk) (bl mk)
          have hbl : (bl mk).length = mk.size := rfl
          have hbd := body_take_le L j
          have hbe : onePair j (lastK [] (L.take j)) (bl mk) (bl mv) = pv (comI j (bl pk) (bl mk)) ++ (pv (mk.size - comI j (bl pk) (bl mk)) ++ (pv mv.size ++ ((bl mk).drop (comI j (bl pk) (bl mk)) ++ bl mv))) := by
            rw [← Hpk.out]; rfl
          have hnx := ctake_body Hm.out
          have hlast := clastK_take Hm.out
          dsimp only at hnx hlast
          rw [hbe] at hnx
          have hsz := Hsz.out
          have hbd2 := body_take_le L (j + 1)
          have C1 := fun W h => Lib.hid (pst_common (w0 := wr) (b := b) (p := wr.heap.size) (l := bodyL 0 [] (L.take j)) (mk := mk) (mv := mv) j pk (by omega) hpk om.1 W h)
          have C2 := fun W h => Lib.hid (pst_lay (w0 := wr) (b := b) (p := wr.heap.size) (l := bodyL 0 [] (L.take j)) (mk := mk) (mv := mv) (comI j (bl pk) (bl mk)) (by omega) om.1 om.2 (by omega) W h)
          rw [← hnx] at C2
          generalize comI j (bl pk) (bl mk) = sh at *
          have Hlast := Lib.hid hlast
          have Hbd2 := Lib.hid hbd2
          have HWn : Hid (∀ W', Tn b bT wr W' → Below w.heap.size w W') := Lib.hid (fun W' ht => HW.out.trans ((ht.below hbW).mono hws))
          obtain ⟨l2, hl2⟩ : ∃ l2, bodyL 0 [] (L.take (j + 1)) = l2 := ⟨_, rfl⟩
          rw [hl2] at C2
          have Hl2 := Lib.hid hl2
          clear hl2
          generalize wr.alloc (.cells #[.string mk, .string mv] 35) = w2 at *
          generalize wr.heap.size = p at *
          clear hcl hbd hbe hnx hlast hsz hbd2 hbl x0 x1 Hpk HF HW
          have S2 := S1.drew
          clear S1
          go_upto_region 14 with fail
          go_region_held3 (fun W => W.cell? ⟨p, 0, none⟩ = some (.string mk) ∧ W.cell? ⟨p, 1, none⟩ = some (.string mv))
            (first | exact S2.cells | exact LaySt.cells (by assumption))
            (first
              | (go_at_call 39; refine (C2 _ S5).out.mono ?_; rintro e w6 ⟨rfl, S6⟩)
              | (go_at_call 40; refine (C1 _ S2).out.mono ?_; rintro e w5 ⟨rfl, S5⟩))
          have q0 := S6.cells.1
          have HF6 := Lib.hid S6.isF
          have HW6 := Lib.hid (HWn.out _ S6.tn)
          have D6 := Lib.hid (blenF_any b b l2 w6 S6.isF)
          have hl6 : (l2.length : Int) ≤ 524280 := by have := Hbd2.out; rw [Hl2.out] at this; have := Hsz.out; omega
          have hb6 := S6.low
          clear S2 S5 S6 C1 C2 HWn
          go_wp2_with fail
          refine D6.out.mono ?_
          rintro e w7 ⟨rfl, rfl⟩
          go_wp2_with fail
          go_roundw
          case rel => exact ⟨j + 1, mk, by omega, om.1, by go_num, rfl, Lib.hid Hlast.out.symm, Lib.hid (by rw [Hl2.out]; exact HF6.out), hb6, HW6⟩
          case measure => simp [intOf]; omega
        · obtain rfl : j = n := by omega
          have hLj : L.take j = L := List.take_of_length_le (by have := Hlen.out; omega)
          rw [hLj] at HF
          have hlen : L.length = j := Hlen.out.symm
          have hsz := Hsz.out
          have j1 : ¬ (j : Int) < (j : Int) := by omega
          have Hblk : Hid (blkL L = (bodyL 0 [] L ++ be j 4) ++ be (crc (bodyL 0 [] L ++ be j 4)) 4) := Lib.hid (by unfold blkL; rw [hlen])
          obtain ⟨X, hX⟩ : ∃ X, bodyL 0 [] L = X := ⟨_, rfl⟩
          rw [hX] at HF Hblk hsz
          have C1 := Lib.hid (fixed_any j wr (by omega))
          clear hLj hlen hX Hpk
          go_wp2_with fail
          refine C1.out.mono ?_
          rintro e w2 ⟨rfl, hb2⟩
          have be4 : (be j 4).length = 4 := be_length j 4
          have D2 := Lib.hid (bstrF_any b b X ⟨(be j 4).toArray⟩ w2 (isF_tn HF.out hb2) (by rw [size_mk]; omega) (Nat.le_trans hbW hb2.size))
          have T2 := Lib.hid (Tn.of_below (B := b) (T := bT) hb2)
          clear hb2 C1
          go_wp2_with fail
          refine D2.out.mono ?_
          rintro e w3 ⟨rfl, h3, t3⟩
          have T3 := Lib.hid (T2.out.trans t3)
          have HB3 := Lib.hid (HW.out.trans ((T3.out.below hbW).mono hws))
          have hb3 : b ≤ w3.heap.size := Nat.le_trans hbW T3.out.size
          obtain ⟨Y, hY⟩ : ∃ Y, X ++ be j 4 = Y := ⟨_, rfl⟩
          have hYl : Y.length = X.length + 4 := by rw [← hY, List.length_append, be4]
          rw [hY] at h3 Hblk
          have E3 := Lib.hid (bstringF_any b b Y w3 h3 hb3)
          clear h3 t3 hY D2 T2
          go_wp2_with fail
          refine E3.out.mono ?_
          rintro e w4 ⟨rfl, h4, b4⟩
          have HB4 := Lib.hid (HB3.out.trans (b4.mono hws))
          have L4 := HT.out.on HB4.out
          have hb4 : b ≤ w4.heap.size := Nat.le_trans hb3 b4.size
          have S4 := Lib.hid (sum_any ⟨Y.toArray⟩ w4 (by rw [size_mk]; omega) L4.halves)
          have S4 : Hid (Calls Tryd.prog 30 #[.string ⟨Y.toArray⟩] w4 fun e w' => e = .returned (.int .i64 (crc Y : Int)) ∧ w4 = w') := S4
          have hcr := crc_lt Y
          obtain ⟨z, hz⟩ : ∃ z, crc Y = z := ⟨_, rfl⟩
          rw [hz] at S4 hcr Hblk
          have C4 := Lib.hid (fixed_any z w4 hcr)
          have H4 := Lib.hid h4
          clear hz h4 b4 L4 E3
          go_wp2_with fail
          refine S4.out.mono ?_
          rintro e w5 ⟨rfl, rfl⟩
          go_wp2_with fail
          refine C4.out.mono ?_
          rintro e w5 ⟨rfl, hb5⟩
          have ze4 : (be z 4).length = 4 := be_length z 4
          have D5 := Lib.hid (bstrF_any b b Y ⟨(be z 4).toArray⟩ w5 (isF_tn H4.out hb5) (by rw [size_mk]; omega) (Nat.le_trans hb4 hb5.size))
          have T5 := Lib.hid (Tn.of_below (B := b) (T := bT) hb5)
          clear hb5 C4 S4
          go_wp2_with fail
          refine D5.out.mono ?_
          rintro e w6 ⟨rfl, h6, t6⟩
          have T6 := Lib.hid (T5.out.trans t6)
          have HB6 := Lib.hid (HB4.out.trans ((T6.out.below hb4).mono hws))
          have hb6 : b ≤ w6.heap.size := Nat.le_trans hb4 T6.out.size
          have h6 : IsF b b (Y ++ be z 4) w6 := h6
          rw [← Hblk.out] at h6
          have E6 := Lib.hid (bstringF_any b b (blkL L) w6 h6 hb6)
          clear h6 t6 D5
          go_wp2_with fail
          refine E6.out.mono ?_
          rintro e w7 ⟨rfl, h7, b7⟩
          have HB7 := Lib.hid (HB6.out.trans (b7.mono hws))
          clear h7 b7
          go_wp2_with fail
          go_ret2
          exact ⟨rfl, HB7.out⟩
end Go.Proofs.YtcbgflidlpmhcaaDoor

namespace Go.Proofs.YtcbgflidlpmhcaaDoor
open Go.RowKit

def elKeys : El (ByteArray × ByteArray) := ⟨fun x => [.string x.1, .string x.2], 2, by decide, fun _ => rfl, fun x u hu => by simp at hu; rcases hu with rfl | rfl <;> rfl, fun i k => (bname i k, ⟨#[]⟩)⟩
def okKeys (x : ByteArray × ByteArray) : Prop := x.1.size ≤ 9223372036854775807 ∧ x.2.size ≤ 9223372036854775807
theorem okmKeys (i start n : Nat) : ∀ x ∈ elKeys.marks i start n, okKeys x := by
  intro x hx
  obtain ⟨k, _, rfl⟩ := List.mem_map.1 hx
  exact ⟨by show (6 : Nat) ≤ _; decide, by show (0 : Nat) ≤ _; decide⟩
theorem infoKeys : (Tryd.prog.info? 35).map (fun i => (i.zero, i.size, i.bytes)) = some (some (.agg #[.string ⟨#[]⟩, .string ⟨#[]⟩]), elKeys.sz, 32) := by kernel_rfl
theorem underKeys : Tryd.prog.underlying 22 = some (.slice 35) := by kernel_rfl
theorem keysS2 (x y : ByteArray) (hx : x.size ≤ maxLen) (hy : y.size ≤ maxLen) : Tryd.prog.keyLits 2 35 [.string x, .string y] = some [.string x.data.toList, .string y.data.toList] := by
  have hc : Tryd.prog.cellsOf 9 = 1 := by kernel_rfl
  have r2 : List.range 2 = [0, 1] := rfl
  have hl : Tryd.prog.cellsOf 35 = 2 := by kernel_rfl
  unfold Program.keyLits
  rw [Tryd.underlying35]
  simp [hl, r2, hc, Program.keyLits, Tryd.underlying9, hx, hy]
theorem eqS2 (x y : ByteArray) (hx : x.size ≤ maxLen) (hy : y.size ≤ maxLen) (W : World) : (binOp .eql 35 (.agg #[.string x, .string y]) (.agg #[.string x, .string y])).run Tryd.prog W = .ok (.bool true) W := by
  rw [run_eql_struct]
  obtain ⟨r, hr, hiff⟩ := run_equalIn_deep (P := Tryd.prog) 9998 2 35 (by kernel_rfl) W 2 2 (.agg #[.string x, .string y]) (.agg #[.string x, .string y]) _ _ (by kernel_rfl) (by kernel_rfl) (keysS2 x y hx hy) (keysS2 x y hx hy)
  rw [show (10000 : Nat) = 9998 + 2 from rfl, hr]
  have : r = true := hiff.2 rfl
  subst this
  rfl

set_option maxRecDepth 100000 in
set_option maxHeartbeats 1000000 in
theorem sameKeys_any (A1 A2 : Option Addr) (n1 n2 c1 c2 B1 B2 : Nat) (L : List (ByteArray × ByteArray)) (w : World) (h1 : Own elKeys w B1 35 (.slice A1 n1 c1) L) (h2 : Own elKeys w B2 35 (.slice A2 n2 c2) L) (hL : L.length ≤ 1000000) (hok : ∀ x ∈ L, okKeys x) :
    Calls Tryd.prog 11 #[.slice A1 n1 c1, .slice A2 n2 c2] w fun e w' => e = .returned (.bool true) ∧ ∃ q, w' = w.drewN q := by
  have r1 := own_reads h1
  have r2 := own_reads h2
  obtain ⟨rfl, _, rd1⟩ := r1
  obtain ⟨rfl, _, rd2⟩ := r2
  have f1 := fun hn => Own.some_ h1 hn
  have f2 := fun hn => Own.some_ h2 hn
  obtain ⟨n, hn⟩ : ∃ n, n = L.length := ⟨_, rfl⟩
  have HL := Lib.hid hn
  rw [← hn] at f1 f2 hL ⊢
  have H1 := Lib.hid h1
  have H2 := Lib.hid h2
  have F1 := Lib.hid f1
  have F2 := Lib.hid f2
  have hL' : (n : Int) ≤ 1000000 := by omega
  clear h1 h2 rd1 rd2 f1 f2 hn
  go_enter Tryd.func11, Tryd.ntmps11
  go_wp2_with fail
  go_loopw [5] (fun i wr => ∃ k q : Nat, k ≤ n ∧ i = .int .i64 (k : Int) ∧ Hid (wr = w.drewN q)) (fun i _ => n - (intOf i).toNat)
  case atStart => exact ⟨0, 0, by omega, rfl, rfl⟩
  case round =>
    obtain ⟨k, q, hk, rfl, Hw⟩ := hrel
    by_cases hl : k < n
    · obtain ⟨g1, d1, cur1, e1, _⟩ := F1.out (by omega)
      obtain ⟨g2, d2, cur2, e2, _⟩ := F2.out (by omega)
      injection e1 with e1 e1b e1c
      injection e2 with e2 e2b e2c
      clear e1b e1c e2b e2c
      subst e1 e2
      have hkL : k < L.length := by rw [← HL.out]; exact hl
      obtain ⟨x, hx⟩ : ∃ x, L[k]? = some x := ⟨_, List.getElem?_eq_getElem hkL⟩
      have y0 : wr.cell? ⟨g1, k * 2, none⟩ = some (.string x.1) := by
        rw [Hw.out]
        have h9 := Own.cells (j := 0) H1.out hx (by decide) rfl
        rwa [show k * elKeys.sz + 0 = k * 2 from by show k * 2 + 0 = _; omega] at h9
      have y1 : wr.cell? ⟨g1, k * 2 + 1, none⟩ = some (.string x.2) := by
        rw [Hw.out]
        have h9 := Own.cells (j := 1) H1.out hx (by decide) rfl
        rwa [show k * elKeys.sz + 1 = k * 2 + 1 from by show k * 2 + 1 = _; omega] at h9
      have z0 : wr.cell? ⟨g2, k * 2, none⟩ = some (.string x.1) := by
        rw [Hw.out]
        have h9 := Own.cells (j := 0) H2.out hx (by decide) rfl
        rwa [show k * elKeys.sz + 0 = k * 2 from by show k * 2 + 0 = _; omega] at h9
      have z1 : wr.cell? ⟨g2, k * 2 + 1, none⟩ = some (.string x.2) := by
        rw [Hw.out]
        have h9 := Own.cells (j := 1) H2.out hx (by decide) rfl
        rwa [show k * elKeys.sz + 1 = k * 2 + 1 from by show k * 2 + 1 = _; omega] at h9
      have ox := hok x (List.mem_of_getElem? hx)
      obtain ⟨xa, xb⟩ := x
      have EQ := eqS2 xa xb ox.1 ox.2
      have hl1 : (k : Int) < (n : Int) := by omega
      clear hx hkL
      go_wp2_with fail
      go_quiet (fail)
      go_wp2_with fail
      go_roundw
      case rel => exact ⟨k + 1, _, by omega, by go_num, (by rw [Hw.out, World.drewN_drewN]; rfl)⟩
      case measure => simp [intOf]; omega
    · obtain rfl : k = n := by omega
      go_wp2_with fail
      go_ret
      exact ⟨rfl, q, Hw.out⟩
end Go.Proofs.YtcbgflidlpmhcaaDoor

namespace Go.Proofs.YtcbgflidlpmhcaaDoor
open Go.RowKit
section
variable {P : Program} {w : World} {B : Nat} {e : TypeId} {v : Value} {l : List UInt8}
theorem byt_up {w' : World} (h : Byt w B e v l) (hb : Below w.heap.size w w') : Byt w' B e v l := by
  refine ⟨h.1, ?_⟩
  rcases h.2 with hn | ⟨g, cap, cur, hv, hg, hh, r⟩
  · exact Or.inl hn
  · exact Or.inr ⟨g, cap, cur, hv, hg, (hb.block g (Array.getElem?_eq_some_iff.1 hh).1).trans hh, r⟩
theorem append_str (t u ty : TypeId) (ht : P.underlying t = some (.slice e)) (hu : P.underlying u = some .string) (hi : (P.info? e).map (fun i => (i.zero, i.size, i.bytes)) = some (some (.int .u8 0), 1, 1))
    (hown : Byt w B e v l) (s : ByteArray) (hl : l.length + s.size < 140737488355328) (hB : B ≤ w.heap.size) :
    ∃ v' w', (Builtin.append_ #[t, u] ty #[v, .string s]).run P w = .ok v' w' ∧ Byt w' B e v' (l ++ s.data.toList) ∧ w.grownBy w' v.ownBlock := by
  obtain ⟨i0, hi0, hz0, hz1, hz2⟩ := info_parts hi
  obtain ⟨v', w', h1, h2, h3, _⟩ := Go.Lib.run_append_own_string (P := P) w B t u ty e i0 ht hu hi0 hz0 hz1 hz2 v l.length (l.map b8) hown s (by unfold maxLen; omega) (by omega) hB
  refine ⟨v', w', h1, ?_, h3⟩
  unfold Byt
  rw [List.length_append, List.map_append]
  exact h2
/-- At a region that draws. -/
theorem step_append_str {ops : Array Oper} {o : Oper} {a : Act} {K : Act → World → Prop} {Q : Exit → Act → World → Prop} {E : Prop} (hgd : o.guard = none) (s x : Operand) (t u : TypeId)
    (ho : o.op = .call { callee := .builtin .append, args := #[s, x], argTypes := #[t, u] }) (ht : P.underlying t = some (.slice e)) (hu : P.underlying u = some .string) (hi : (P.info? e).map (fun i => (i.zero, i.size, i.bytes)) = some (some (.int .u8 0), 1, 1))
    (hs : a.eval s = v) (hown : Byt w B e v l) (str : ByteArray) (hx : a.eval x = .string str) (hl : l.length + str.size < 140737488355328) (hB : B ≤ w.heap.size)
    (h : ∀ v' w', Byt w' B e v' (l ++ str.data.toList) → w.grownBy w' v.ownBlock → K (a.put o.dst v') w') : if Region.wanted o (yielded ops a.tmps) = true then Oper.wp P o a w K Q else E := by
  have hw : Region.wanted o (yielded ops a.tmps) = true := by simp [Region.wanted, hgd]
  rw [if_pos hw]
  obtain ⟨v', w', h1, h2, h3⟩ := append_str (P := P) t u o.type ht hu hi hown str hl hB
  unfold Oper.wp
  simp [execOp, ho, resolve, invoke, builtin, hs, hx, h1, Result.andThen]
  exact h v' w' h2 h3
/-- In a list of operations. -/
theorem wpList_append_str (w : World) {ops : Array Oper} {rest : List Oper} {o : Oper} {a : Act} {Q : Exit → Act → World → Prop} (hgd : o.guard = none) (s x : Operand) (t u : TypeId)
    (ho : o.op = .call { callee := .builtin .append, args := #[s, x], argTypes := #[t, u] }) (ht : P.underlying t = some (.slice e)) (hu : P.underlying u = some .string) (hi : (P.info? e).map (fun i => (i.zero, i.size, i.bytes)) = some (some (.int .u8 0), 1, 1))
    (hs : a.eval s = v) (hown : Byt w B e v l) (str : ByteArray) (hx : a.eval x = .string str) (hl : l.length + str.size < 140737488355328) (hB : B ≤ w.heap.size)
    (h : ∀ v' w', Byt w' B e v' (l ++ str.data.toList) → w.grownBy w' v.ownBlock → wpList P ops Q rest (a.put o.dst v') w') : wpList P ops Q (o :: rest) a w := by
  refine wpList_plain hgd fun K hK => ?_
  obtain ⟨v', w', h1, h2, h3⟩ := append_str (P := P) t u o.type ht hu hi hown str hl hB
  unfold Oper.wp execOp
  simp only [ho, resolve, invoke, builtin, Sem.run_bind, Sem.run_pure, Result.andThen_ok, List.map_toArray, List.map_cons, List.map_nil, hs, hx, h1]
  exact hK _ _ (h v' w' h2 h3)
theorem cat_is (a b c : ByteArray) (hc : a ++ b = c) (h : a.size + b.size ≤ 9223372036854775807) (w : World) : (Op.stringOp .add a b).run P w = .ok (.string c) w := by rw [run_string_add_sum _ _ _ h, hc]
theorem cat_list (a b : ByteArray) : (a ++ b).data.toList = a.data.toList ++ b.data.toList := by rw [ByteArray.data_append, Array.toList_append]
theorem cat_size (a b : ByteArray) : (a ++ b).size = a.size + b.size := ByteArray.size_append
end
end Go.Proofs.YtcbgflidlpmhcaaDoor

namespace Go.Proofs.YtcbgflidlpmhcaaDoor
open Go.RowKit

/-- The reader, and the pairs that it holds. -/
structure RdSt (w : World) (B p : Nat) (s : ByteArray) (v : Value) (a : ByteArray) (L : List KV) : Prop where
  blk : RdB w p s v a
  own : Own elKeys w B 35 v L
  low : B ≤ p
theorem RdSt.off {w : World} {B p : Nat} {s : ByteArray} {v : Value} {a : ByteArray} {L : List KV} (h : RdSt w B p s v a L) : v.ownBlock = none ∨ v.ownBlock ≠ some p := by
  rcases h.own.2 with ⟨rfl, _⟩ | ⟨g, cap, cur, rfl, hg, hh, _⟩
  · exact Or.inl rfl
  · refine Or.inr fun e => ?_
    have e : g = p := Option.some.inj e
    subst e
    have := h.blk
    unfold RdB Blk at this
    rw [hh] at this
    injection this with this
    injection this with _ h2
    exact absurd h2 (by decide)
theorem RdSt.next {w w' : World} {B p : Nat} {s s' : ByteArray} {v : Value} {a : ByteArray} {L : List KV} (h : RdSt w B p s v a L) (hb : RdB w' p s' v a) (hg : w.grownBy w' (some p)) : RdSt w' B p s' v a L :=
  ⟨hb, World.ownsRow.kept h.own hg h.off, h.low⟩
theorem RdSt.drewN {w : World} {B p : Nat} {s : ByteArray} {v : Value} {a : ByteArray} {L : List KV} (h : RdSt w B p s v a L) (j : Nat) : RdSt (w.drewN j) B p s v a L := ⟨h.blk.drewN j, h.own, h.low⟩
theorem RdSt.drew {w : World} {B p : Nat} {s : ByteArray} {v : Value} {a : ByteArray} {L : List KV} (h : RdSt w B p s v a L) : RdSt w.drew B p s v a L := ⟨h.blk.drew, h.own, h.low⟩
theorem below_rd {w0 w w' : World} {B p : Nat} (h : Below B w0 w) (hg : w.grownBy w' (some p)) (hB : B ≤ w0.heap.size) (hp : B ≤ p) : Below B w0 w' :=
  h.grown hg (Nat.le_trans hB h.size) (fun k hk => by injection hk with hk; omega)

theorem rd_num {w : World} {B p : Nat} {s : ByteArray} {v : Value} {a : ByteArray} {L : List KV} (h : RdSt w B p s v a L) (hs : s.size ≤ 1000000) (w0 : World) (h0 : Below B w0 w) (hB : B ≤ w0.heap.size) :
    Calls Tryd.prog 92 #[.pointer (some ⟨p, 0, none⟩)] w fun e w' => Below B w0 w' ∧ match gv (bl s) 0 0 with
      | .err _ => e = gaveB
      | .ok x n => e = .returned (.int .i64 (x : Int)) ∧ ∃ s', bl s' = (bl s).drop n ∧ s'.size ≤ s.size ∧ RdSt w' B p s' v a L := by
  cases hg : gv (bl s) 0 0 with
  | err er => exact (bnum_bad p s v a er w h.blk (by omega) hg).mono fun e w' ⟨h1, h2⟩ => ⟨below_rd h0 h2 hB h.low, h1⟩
  | ok x n => exact (bnum_ok p s v a x n w h.blk (by omega) hg).mono fun e w' ⟨h1, h2, h3⟩ => ⟨below_rd h0 h3 hB h.low, h1, _, bl_drop s n, by simp, h.next h2 h3⟩
theorem rd_take {w : World} {B p : Nat} {s : ByteArray} {v : Value} {a : ByteArray} {L : List KV} (h : RdSt w B p s v a L) (k : Nat) (w0 : World) (h0 : Below B w0 w) (hB : B ≤ w0.heap.size) :
    Calls Tryd.prog 93 #[.pointer (some ⟨p, 0, none⟩), .int .i64 (k : Int)] w fun e w' => Below B w0 w' ∧ ((s.size < k ∧ e = gaveB) ∨
      (k ≤ s.size ∧ e = .returned (.string (s.extract 0 k)) ∧ ∃ s', bl s' = (bl s).drop k ∧ RdSt w' B p s' v a L)) := by
  by_cases hk : k ≤ s.size
  · exact (btake_ok p s v a k w h.blk hk).mono fun e w' ⟨h1, h2, h3⟩ => ⟨below_rd h0 h3 hB h.low, Or.inr ⟨hk, h1, _, bl_drop s k, h.next h2 h3⟩⟩
  · exact (btake_short p s v a k w h.blk (by omega)).mono fun e w' ⟨h1, h2⟩ => ⟨by rw [h2]; exact h0, Or.inl ⟨by omega, h1⟩⟩

theorem step_err1 {i : Nat} {last rest : List UInt8} {e : Int} (h : gv rest 0 0 = .err e) : stepP i last rest = none := by unfold stepP; rw [h]
theorem step_err2 {i : Nat} {last rest : List UInt8} {x n1 : Nat} {e : Int} (h1 : gv rest 0 0 = .ok x n1) (h : gv (rest.drop n1) 0 0 = .err e) : stepP i last rest = none := by unfold stepP; rw [h1]; dsimp only; rw [h]
theorem step_err3 {i : Nat} {last rest : List UInt8} {x n1 y n2 : Nat} {e : Int} (h1 : gv rest 0 0 = .ok x n1) (h2 : gv (rest.drop n1) 0 0 = .ok y n2) (h : gv ((rest.drop n1).drop n2) 0 0 = .err e) : stepP i last rest = none := by unfold stepP; rw [h1]; dsimp only; rw [h2]; dsimp only; rw [h]
/-- What a pair's three numbers make of the bytes behind them. -/
def stepT (i : Nat) (last : List UInt8) (x y z : Nat) (t : List UInt8) : Option (KV × List UInt8) :=
  if x ≤ last.length ∧ y ≤ t.length ∧ z ≤ (t.drop y).length ∧ (last.take x ++ t.take y).length ≤ 65536 ∧ z ≤ 65536 ∧ (i = 0 ∨ Lib.compareBytes last (last.take x ++ t.take y) < 0) ∧ x = comI i last (last.take x ++ t.take y) then
    some ((⟨(last.take x ++ t.take y).toArray⟩, ⟨((t.drop y).take z).toArray⟩), (t.drop y).drop z)
  else none
theorem step_ok3 {i : Nat} {last rest : List UInt8} {x n1 y n2 z n3 : Nat} (h1 : gv rest 0 0 = .ok x n1) (h2 : gv (rest.drop n1) 0 0 = .ok y n2) (h3 : gv ((rest.drop n1).drop n2) 0 0 = .ok z n3) :
    stepP i last rest = stepT i last x y z (((rest.drop n1).drop n2).drop n3) := by unfold stepP; rw [h1]; dsimp only; rw [h2]; dsimp only; rw [h3]; rfl

theorem stepT_in {i x y z : Nat} {last t : List UInt8} {kk vv : ByteArray} (h1 : x ≤ last.length) (h2 : y ≤ t.length) (h3 : z ≤ (t.drop y).length) (hk : bl kk = last.take x ++ t.take y) (hv : bl vv = (t.drop y).take z) :
    stepT i last x y z t = if kk.size ≤ 65536 ∧ vv.size ≤ 65536 ∧ (i = 0 ∨ Lib.compareBytes last (bl kk) < 0) ∧ x = comI i last (bl kk) then some ((kk, vv), (t.drop y).drop z) else none := by
  have e1 : (⟨(last.take x ++ t.take y).toArray⟩ : ByteArray) = kk := bl_inj (by rw [bl_mk, hk])
  have e2 : (⟨((t.drop y).take z).toArray⟩ : ByteArray) = vv := bl_inj (by rw [bl_mk, hv])
  have e3 : (last.take x ++ t.take y).length = kk.size := by rw [← hk]; rfl
  have e4 : z = vv.size := by
    have := congrArg List.length hv
    rw [List.length_take, Nat.min_eq_left h3] at this
    exact this.symm
  unfold stepT
  rw [e1, e2, e3, ← hk, ← e4]
  by_cases hc : kk.size ≤ 65536 ∧ z ≤ 65536 ∧ (i = 0 ∨ Lib.compareBytes last (bl kk) < 0) ∧ x = comI i last (bl kk)
  · rw [if_pos ⟨h1, h2, h3, hc⟩, if_pos hc]
  · rw [if_neg (fun hh => hc hh.2.2.2), if_neg hc]
theorem own_slice {w : World} {B n sz : Nat} {e : TypeId} {v : Value} {xs : List Value} (h : w.ownsRow B e sz v n xs) : ∃ A m c, v = .slice A m c := by
  rcases h.2 with ⟨rfl, _⟩ | ⟨g, cap, cur, rfl, _⟩
  · exact ⟨_, _, _, rfl⟩
  · exact ⟨_, _, _, rfl⟩
theorem off_ne {v : Value} {p : Nat} (h : v.ownBlock = none ∨ v.ownBlock ≠ some p) : some p ≠ v.ownBlock := by
  rcases h with h | h
  · rw [h]; intro e; cases e
  · exact fun e => h e.symm
theorem own_set {w : World} {B p i n : Nat} {e : TypeId} {v : Value} {xs : List Value} {sz : Nat} (h : w.ownsRow B e sz v n xs) (hp : v.ownBlock = none ∨ v.ownBlock ≠ some p) (u : Value) : (w.setCell ⟨p, i, none⟩ u).ownsRow B e sz v n xs :=
  World.ownsRow.kept (row := some p) h (only_setCell (World.grownBy.refl _ _) (Or.inl rfl) u) hp
theorem own_off {w : World} {B p n : Nat} {s : ByteArray} {v0 v : Value} {a : ByteArray} {xs : List Value} {sz : Nat} (h : w.ownsRow B 35 sz v n xs) (hb : RdB w p s v0 a) : v.ownBlock = none ∨ v.ownBlock ≠ some p := by
  rcases h.2 with ⟨rfl, _⟩ | ⟨g, cap, cur, rfl, hg, hh, _⟩
  · exact Or.inl rfl
  · refine Or.inr fun e => ?_
    have e : g = p := Option.some.inj e
    subst e
    unfold RdB Blk at hb
    rw [hh] at hb
    injection hb with hb
    injection hb with _ h2
    exact absurd h2 (by decide)
/-- What a pair leaves behind. -/
def PairPost (w0 : World) (B p : Nat) (L : List KV) : Option (KV × List UInt8) → Ending → World → Prop
  | none, e, w' => e = gaveB ∧ Below B w0 w'
  | some (m, r), e, w' => e = .returned (.tuple #[]) ∧ Below B w0 w' ∧ ∃ s' v', bl s' = r ∧ RdSt w' B p s' v' m.1 (L ++ [m])

end Go.Proofs.YtcbgflidlpmhcaaDoor

namespace Go.Proofs.YtcbgflidlpmhcaaDoor
open Go.RowKit

set_option maxRecDepth 100000 in
set_option maxHeartbeats 4000000 in
theorem bpair_zero {w : World} {B p : Nat} {s : ByteArray} {v : Value} {a : ByteArray} {L : List KV} (h : RdSt w B p s v a L) (hs : s.size ≤ 1000000) (ha : a.size ≤ 65536) (hL : L.length ≤ 1000000) (hn : L.length = 0) (w0 : World) (h0 : Below B w0 w) (hB : B ≤ w0.heap.size) :
    Calls Tryd.prog 86 #[.pointer (some ⟨p, 0, none⟩)] w fun e w' => PairPost w0 B p L (stepP L.length (bl a) (bl s)) e w' := by
  obtain ⟨R, hR⟩ : ∃ R, stepP L.length (bl a) (bl s) = R := ⟨_, rfl⟩
  rw [hR]
  have HR := Lib.hid hR
  have C1 := Lib.hid (rd_num h hs w0 h0 hB)
  have Hn := Lib.hid hn
  clear h h0 hR hn
  go_enter Tryd.func86, Tryd.ntmps86
  go_wp2_with fail
  refine C1.out.mono ?_
  rintro e w1 ⟨b1, hc⟩
  cases hg1 : gv (bl s) 0 0 with
  | err er =>
    rw [hg1] at hc
    obtain rfl : R = none := by rw [← HR.out]; exact step_err1 hg1
    obtain rfl : e = gaveB := hc
    have b1 := Lib.hid b1
    clear hg1 C1
    go_wp2_with fail
    exact ⟨rfl, rfl, b1.out⟩
  | ok x n1 =>
    rw [hg1] at hc
    obtain ⟨rfl, s1, hs1, hz1, R1⟩ := hc
    have C2 := Lib.hid (rd_num R1 (by omega) w0 b1 hB)
    clear R1 b1 C1
    go_wp2_with fail
    refine C2.out.mono ?_
    rintro e w2 ⟨b2, hc⟩
    rw [hs1] at hc
    cases hg2 : gv ((bl s).drop n1) 0 0 with
    | err er =>
      rw [hg2] at hc
      obtain rfl : R = none := by rw [← HR.out]; exact step_err2 hg1 hg2
      obtain rfl : e = gaveB := hc
      have b2 := Lib.hid b2
      clear hg1 hg2 C2 hs1
      go_wp2_with fail
      exact ⟨rfl, rfl, b2.out⟩
    | ok y n2 =>
      rw [hg2] at hc
      obtain ⟨rfl, s2, hs2, hz2, R2⟩ := hc
      have C3 := Lib.hid (rd_num R2 (by omega) w0 b2 hB)
      clear R2 b2 C2
      go_wp2_with fail
      refine C3.out.mono ?_
      rintro e w3 ⟨b3, hc⟩
      rw [hs2] at hc
      cases hg3 : gv (((bl s).drop n1).drop n2) 0 0 with
      | err er =>
        rw [hg3] at hc
        obtain rfl : R = none := by rw [← HR.out]; exact step_err3 hg1 hg2 hg3
        obtain rfl : e = gaveB := hc
        have b3 := Lib.hid b3
        clear hg1 hg2 hg3 C3 hs1 hs2
        go_wp2_with fail
        exact ⟨rfl, rfl, b3.out⟩
      | ok z n3 =>
        rw [hg3] at hc
        obtain ⟨rfl, t, ht, hz3, R3⟩ := hc
        have hst := HR.out
        rw [step_ok3 hg1 hg2 hg3, ← ht] at hst
        have Hst := Lib.hid hst
        have hz := Nat.le_trans hz3 (Nat.le_trans hz2 (Nat.le_trans hz1 hs))
        have S3 := Lib.hid R3
        have b3 := Lib.hid b3
        clear hst hg1 hg2 hg3 C3 hs1 hs2 ht hz1 hz2 hz3 HR R3
        have c0 : w3.cell? ⟨p, 2, none⟩ = some (.string a) := S3.out.blk.cell 2
        have c1 : w3.cell? ⟨p, 1, none⟩ = some v := S3.out.blk.cell 1
        have Y := fun W => Lib.hid (must_yes W)
        have N := fun W => Lib.hid (must_no W)
        by_cases hx : x ≤ a.size
        · have x1 : (x : Int) ≤ (a.size : Int) := by omega
          have x2 : (0 : Int) ≤ (x : Int) := by omega
          go_wp2_with fail
          refine (Y _).out.mono ?_
          rintro e w4 ⟨rfl, rfl⟩
          by_cases hy : y ≤ t.size
          · have T2 := Lib.hid (btake_ok p t v a y w4.drew S3.out.blk.drew hy)
            have hk1 : bl (a.extract 0 x) = (bl a).take x := bl_take a x hx
            have hk2 : bl (t.extract 0 y) = (bl t).take y := bl_take t y hy
            have hk3 : (a.extract 0 x).size ≤ 65536 := by simp; omega
            have hk4 : (t.extract 0 y).size ≤ 1000000 := by simp; omega
            have ht1 : bl (t.extract y t.size) = (bl t).drop y := bl_drop t y
            have ht2 : (t.extract y t.size).size ≤ 1000000 := by simp; omega
            obtain ⟨kk, hkk⟩ : ∃ kk, a.extract 0 x ++ t.extract 0 y = kk := ⟨_, rfl⟩
            have hkl : bl kk = (bl a).take x ++ (bl t).take y := by
              rw [← hkk, ← hk1, ← hk2]; exact cat_list _ _
            have hkz : kk.size ≤ 1065536 := by rw [← hkk, cat_size]; omega
            have CA := fun W => cat_is (P := Tryd.prog) (a.extract 0 x) (t.extract 0 y) kk hkk (by omega) W
            obtain ⟨t1, ht⟩ : ∃ t1, t.extract y t.size = t1 := ⟨_, rfl⟩
            rw [ht] at T2 ht1 ht2
            have Hkl := Lib.hid hkl
            have Ht1 := Lib.hid ht1
            clear hkk hkl ht ht1 hk1 hk2
            go_upto_region 2 with fail
            go_region_held3 (fun W => W.cell? ⟨p, 2, none⟩ = some (.string a))
              (first | exact c0 | assumption)
              ((go_at_call 93; refine T2.out.mono ?_; rintro e w5 ⟨rfl, B5, g5⟩; have d5 : w5.cell? ⟨p, 2, none⟩ = some (.string a) := B5.cell 2))
            have S5 := Lib.hid (S3.out.drew.next B5 g5)
            have b5 := Lib.hid (below_rd b3.out.drew g5 hB S3.out.low)
            clear B5 g5 d5 T2 c0 c1 S3 b3 CA hk3 hk4
            by_cases hz1 : z ≤ t1.size
            · have T3 := Lib.hid (btake_ok p t1 v a z w5 S5.out.blk hz1)
              have hv1 : bl (t1.extract 0 z) = (bl t1).take z := bl_take t1 z hz1
              have hv2 : bl (t1.extract z t1.size) = (bl t1).drop z := bl_drop t1 z
              have hv3 : (t1.extract 0 z).size ≤ 1000000 := by simp; omega
              rw [Ht1.out] at hv1 hv2
              have hst := Hst.out
              rw [stepT_in (kk := kk) (vv := t1.extract 0 z) (by rw [bl_len]; exact hx) (by rw [bl_len]; exact hy) (by rw [← Ht1.out, bl_len]; exact hz1) Hkl.out hv1, ← hv2] at hst
              obtain ⟨vv, hvv⟩ : ∃ vv, t1.extract 0 z = vv := ⟨_, rfl⟩
              obtain ⟨t2, ht2⟩ : ∃ t2, t1.extract z t1.size = t2 := ⟨_, rfl⟩
              rw [hvv, ht2] at T3
              rw [hvv] at hv3 hst
              rw [ht2] at hst
              have HR2 := Lib.hid hst
              clear hst hvv ht2 hv1 hv2 Hst Ht1 Hkl
              go_wp2_with fail
              refine T3.out.mono ?_
              rintro e w6 ⟨rfl, B6, g6⟩
              have S6 := Lib.hid (S5.out.next B6 g6)
              have b6 := Lib.hid (below_rd b5.out g6 hB S5.out.low)
              clear B6 g6 T3 S5 b5
              by_cases hm : kk.size ≤ 65536 ∧ vv.size ≤ 65536
              · have m1 : decide ((kk.size : Int) ≤ 65536) = true := decide_eq_true (by omega)
                have m2 : decide ((vv.size : Int) ≤ 65536) = true := decide_eq_true (by omega)
                have m3 : (kk.size : Int) ≤ 65536 := by omega
                have m4 : (vv.size : Int) ≤ 65536 := by omega
                go_wp2_with fail
                refine (Y _).out.mono ?_
                rintro e w7 ⟨rfl, rfl⟩
                obtain ⟨ao, co, rfl⟩ := S6.out.own.slice
                have hlt : L.length = 0 ∨ Lib.compareBytes (bl a) (bl kk) < 0 := Or.inl Hn.out
                have n1 : ((L.length : Int) == 0) = true := by rw [beq_iff_eq]; have := Hn.out; omega
                have c1 : w7.cell? ⟨p, 1, none⟩ = some (.slice ao L.length co) := S6.out.blk.cell 1
                go_wp2_with fail
                refine (Y _).out.mono ?_
                rintro e wa ⟨rfl, rfl⟩
                clear c1 n1
                have CC := fun W => Lib.hid (common_any L.length a kk W (by omega) (by omega) (by omega))
                have c1 : wa.cell? ⟨p, 1, none⟩ = some (.slice ao L.length co) := S6.out.blk.cell 1
                have c2 : wa.cell? ⟨p, 2, none⟩ = some (.string a) := S6.out.blk.cell 2
                generalize hcx : comI L.length (bl a) (bl kk) = cx at *
                by_cases hxc : x = cx
                · subst hxc
                  have hst := HR2.out
                  rw [if_pos ⟨hm.1, hm.2, hlt, rfl⟩] at hst
                  subst hst
                  have W8 : ∀ j, Hid (RdSt (wa.drewN (1 + j)) B p t2 (.slice ao L.length co) a L ∧ Below B w0 (wa.drewN (1 + j))) := fun j => Lib.hid ⟨S6.out.drewN (1 + j), below_drewN b6.out (1 + j)⟩
                  clear b6 S6 HR2
                  go_upto_region 6 with fail
                  go_region_held3 (fun W => W.cell? ⟨p, 1, none⟩ = some (.slice ao L.length co) ∧ W.cell? ⟨p, 2, none⟩ = some (.string a))
                    (first | exact ⟨c1, c2⟩ | assumption)
                    (first
                      | (go_at_call 84; refine (Y _).out.mono ?_; rintro e w9 ⟨rfl, rfl⟩)
                      | (go_at_call 40; refine (CC _).out.mono ?_; rintro e w7 ⟨rfl, j, rfl⟩))
                  obtain ⟨S8, b8⟩ := (W8 j).out
                  have c3 : (wa.drewN (1 + j)).cell? ⟨p, 1, none⟩ = some (.slice ao L.length co) := c1
                  have f3 : (wa.drewN (1 + j)).frozen? ⟨p, 1, none⟩ = false := S8.blk.frozen 1
                  clear W8 CC c1 c2
                  generalize wa.drewN (1 + j) = w8 at *
                  obtain ⟨v', w9, hr, hown, hgr, _, _⟩ := app_own (P := Tryd.prog) elKeys 22 35 (.agg #[.string ⟨#[]⟩, .string ⟨#[]⟩]) 32 underKeys infoKeys rfl (w8.alloc (.cells #[.string kk, .string vv] 35)) B (.slice ao L.length co) L [(kk, vv)] (World.ownsRow.alloc S8.own _) (some ⟨w8.heap.size, 0, none⟩) 1 (fun h => by cases h) (fun a ha j' u hu => by
                    cases ha
                    rw [El.row_one] at hu
                    exact cells_new w8 35 [.string kk, .string vv] j' u hu) (by unfold maxLen; simp; omega) (by simp; omega) (by have := b8.size; simp; omega) 1 rfl
                  obtain ⟨A9, n9, cc9, rfl⟩ := own_slice hown
                  have hoff := S8.off
                  have B9 : RdB w9 p t2 (.slice ao L.length co) a := (S8.blk.alloc _).grown hgr (off_ne hoff)
                  have b9 : Hid (Below B w0 w9) := Lib.hid ((b8.alloc (Nat.le_trans hB b8.size) _).grown hgr (by have := b8.size; simp; omega) (fun k hk => ((World.ownsRow.alloc S8.own _ : (w8.alloc (.cells #[.string kk, .string vv] 35)).ownsRow B 35 _ _ _ _).lt k hk).1))
                  have HR9 := fun ty => Lib.hid (hr ty)
                  have c9 : w9.cell? ⟨p, 1, none⟩ = some (.slice ao L.length co) := B9.cell 1
                  have f9 : w9.frozen? ⟨p, 1, none⟩ = false := B9.frozen 1
                  have g9 : w9.frozen? ⟨p, 2, none⟩ = false := B9.frozen 2
                  have d9 : w9.cell? ⟨p, 2, none⟩ = some (.string a) := B9.cell 2
                  have e9 : (w9.setCell ⟨p, 1, none⟩ (Value.slice A9 n9 cc9)).frozen? ⟨p, 2, none⟩ = false := (Blk.set_ B9 1 (Value.slice A9 n9 cc9)).frozen 2
                  have h9 : (w9.setCell ⟨p, 1, none⟩ (Value.slice A9 n9 cc9)).cell? ⟨p, 2, none⟩ = some (.string a) := (Blk.set_ B9 1 (Value.slice A9 n9 cc9)).cell 2
                  have hst9 : Hid (RdSt ((w9.setCell ⟨p, 1, none⟩ (Value.slice A9 n9 cc9)).setCell ⟨p, 2, none⟩ (.string kk)) B p t2 (Value.slice A9 n9 cc9) kk (L ++ [(kk, vv)])) := Lib.hid (by
                    have hv9 : (Value.slice A9 n9 cc9).ownBlock = none ∨ (Value.slice A9 n9 cc9).ownBlock ≠ some p := own_off hown B9
                    exact ⟨(Blk.set_ (Blk.set_ B9 1 (Value.slice A9 n9 cc9)) 2 (.string kk)), own_set (own_set hown hv9 _) hv9 _, S8.low⟩)
                  have bst9 : Hid (Below B w0 ((w9.setCell ⟨p, 1, none⟩ (Value.slice A9 n9 cc9)).setCell ⟨p, 2, none⟩ (.string kk))) := Lib.hid (below_setCell (below_setCell b9.out S8.low _) S8.low _)
                  have B9 := Lib.hid B9
                  clear hr hown hgr b9 S8 b8 c3 f3 hoff
                  go_wp2_with (at_builtin; refine wpList_append_k _ w9 rfl (.tmp 77) (.tmp 81) 22 rfl _ _ (Value.slice A9 n9 cc9) rfl rfl (fun ty => (HR9 ty).out) ?_)
                  go_end0
                  exact ⟨rfl, bst9.out, _, _, rfl, hst9.out⟩
                · obtain rfl : R = none := by
                    rw [← HR2.out]
                    exact if_neg (fun hh => hxc hh.2.2.2)
                  have hxc' : ((x : Int) == (cx : Int)) = false := by rw [beq_eq_false_iff_ne]; omega
                  have Hb := fun j => Lib.hid (below_drewN b6.out j)
                  clear b6 S6 HR2
                  go_upto_region 6 with fail
                  go_region_dies
                  all_goals
                    rename_i K hK
                    refine (CC _).out.mono ?_
                    rintro e w5 ⟨rfl, j, rfl⟩
                    refine hK _ _ ?_
                    refine wpAny_ready (rs := [12]) (by kernel_rfl) (by simp) ?_
                    refine AllReady.cons rfl (fun K2 hK2 => ?_) AllReady.nil
                    go_simp
                    refine hK2 _ _ ?_
                    refine wpAny_ready (rs := [13]) (by kernel_rfl) (by simp) ?_
                    refine AllReady.cons rfl (fun K3 hK3 => ?_) AllReady.nil
                    go_simp
                    refine (N _).out.mono ?_
                    rintro e w6 ⟨rfl, rfl⟩
                    go_wp2_with fail
                    exact ⟨rfl, rfl, (Hb (1 + j)).out⟩
              · obtain rfl : R = none := by
                  rw [← HR2.out]
                  exact if_neg (fun hh => hm ⟨hh.1, hh.2.1⟩)
                by_cases hm1 : kk.size ≤ 65536
                · have m2 : decide ((vv.size : Int) ≤ 65536) = false := decide_eq_false (by omega)
                  have m3 : (kk.size : Int) ≤ 65536 := by omega
                  go_wp2_with fail
                  refine (N _).out.mono ?_
                  rintro e w7 ⟨rfl, rfl⟩
                  go_wp2_with fail
                  exact ⟨rfl, rfl, b6.out⟩
                · have m3 : ¬ (kk.size : Int) ≤ 65536 := by omega
                  go_wp2_with fail
                  refine (N _).out.mono ?_
                  rintro e w7 ⟨rfl, rfl⟩
                  go_wp2_with fail
                  exact ⟨rfl, rfl, b6.out⟩
            · obtain rfl : R = none := by
                rw [← Hst.out]
                exact if_neg (fun hh => hz1 (by have := hh.2.2.1; rw [← Ht1.out, bl_len] at this; exact this))
              have T3 := Lib.hid (btake_short p t1 v a z w5 S5.out.blk (by omega))
              go_wp2_with fail
              refine T3.out.mono ?_
              rintro e w6 ⟨rfl, rfl⟩
              go_wp2_with fail
              exact ⟨rfl, rfl, b5.out⟩
          · obtain rfl : R = none := by
              rw [← Hst.out]
              exact if_neg (fun hh => hy hh.2.1)
            have T2 := Lib.hid (btake_short p t v a y w4.drew S3.out.blk.drew (by omega))
            go_upto_region 2 with fail
            go_region_dies
            all_goals
              refine T2.out.mono ?_
              rintro e w5 ⟨rfl, rfl⟩
              go_wp2_with fail
              exact ⟨rfl, rfl, b3.out.drew⟩
        · obtain rfl : R = none := by
            rw [← Hst.out]
            exact if_neg (fun hh => hx hh.1)
          have x1 : ¬ (x : Int) ≤ (a.size : Int) := by omega
          go_wp2_with fail
          refine (N _).out.mono ?_
          rintro e w4 ⟨rfl, rfl⟩
          go_wp2_with fail
          exact ⟨rfl, rfl, b3.out⟩
end Go.Proofs.YtcbgflidlpmhcaaDoor

namespace Go.Proofs.YtcbgflidlpmhcaaDoor
open Go.RowKit

set_option maxRecDepth 100000 in
set_option maxHeartbeats 4000000 in
theorem bpair_more {w : World} {B p : Nat} {s : ByteArray} {v : Value} {a : ByteArray} {L : List KV} (h : RdSt w B p s v a L) (hs : s.size ≤ 1000000) (ha : a.size ≤ 65536) (hL : L.length ≤ 1000000) (hn : ¬ L.length = 0) (w0 : World) (h0 : Below B w0 w) (hB : B ≤ w0.heap.size) :
    Calls Tryd.prog 86 #[.pointer (some ⟨p, 0, none⟩)] w fun e w' => PairPost w0 B p L (stepP L.length (bl a) (bl s)) e w' := by
  obtain ⟨R, hR⟩ : ∃ R, stepP L.length (bl a) (bl s) = R := ⟨_, rfl⟩
  rw [hR]
  have HR := Lib.hid hR
  have C1 := Lib.hid (rd_num h hs w0 h0 hB)
  have Hn := Lib.hid hn
  clear h h0 hR hn
  go_enter Tryd.func86, Tryd.ntmps86
  go_wp2_with fail
  refine C1.out.mono ?_
  rintro e w1 ⟨b1, hc⟩
  cases hg1 : gv (bl s) 0 0 with
  | err er =>
    rw [hg1] at hc
    obtain rfl : R = none := by rw [← HR.out]; exact step_err1 hg1
    obtain rfl : e = gaveB := hc
    have b1 := Lib.hid b1
    clear hg1 C1
    go_wp2_with fail
    exact ⟨rfl, rfl, b1.out⟩
  | ok x n1 =>
    rw [hg1] at hc
    obtain ⟨rfl, s1, hs1, hz1, R1⟩ := hc
    have C2 := Lib.hid (rd_num R1 (by omega) w0 b1 hB)
    clear R1 b1 C1
    go_wp2_with fail
    refine C2.out.mono ?_
    rintro e w2 ⟨b2, hc⟩
    rw [hs1] at hc
    cases hg2 : gv ((bl s).drop n1) 0 0 with
    | err er =>
      rw [hg2] at hc
      obtain rfl : R = none := by rw [← HR.out]; exact step_err2 hg1 hg2
      obtain rfl : e = gaveB := hc
      have b2 := Lib.hid b2
      clear hg1 hg2 C2 hs1
      go_wp2_with fail
      exact ⟨rfl, rfl, b2.out⟩
    | ok y n2 =>
      rw [hg2] at hc
      obtain ⟨rfl, s2, hs2, hz2, R2⟩ := hc
      have C3 := Lib.hid (rd_num R2 (by omega) w0 b2 hB)
      clear R2 b2 C2
      go_wp2_with fail
      refine C3.out.mono ?_
      rintro e w3 ⟨b3, hc⟩
      rw [hs2] at hc
      cases hg3 : gv (((bl s).drop n1).drop n2) 0 0 with
      | err er =>
        rw [hg3] at hc
        obtain rfl : R = none := by rw [← HR.out]; exact step_err3 hg1 hg2 hg3
        obtain rfl : e = gaveB := hc
        have b3 := Lib.hid b3
        clear hg1 hg2 hg3 C3 hs1 hs2
        go_wp2_with fail
        exact ⟨rfl, rfl, b3.out⟩
      | ok z n3 =>
        rw [hg3] at hc
        obtain ⟨rfl, t, ht, hz3, R3⟩ := hc
        have hst := HR.out
        rw [step_ok3 hg1 hg2 hg3, ← ht] at hst
        have Hst := Lib.hid hst
        have hz := Nat.le_trans hz3 (Nat.le_trans hz2 (Nat.le_trans hz1 hs))
        have S3 := Lib.hid R3
        have b3 := Lib.hid b3
        clear hst hg1 hg2 hg3 C3 hs1 hs2 ht hz1 hz2 hz3 HR R3
        have c0 : w3.cell? ⟨p, 2, none⟩ = some (.string a) := S3.out.blk.cell 2
        have c1 : w3.cell? ⟨p, 1, none⟩ = some v := S3.out.blk.cell 1
        have Y := fun W => Lib.hid (must_yes W)
        have N := fun W => Lib.hid (must_no W)
        by_cases hx : x ≤ a.size
        · have x1 : (x : Int) ≤ (a.size : Int) := by omega
          have x2 : (0 : Int) ≤ (x : Int) := by omega
          go_wp2_with fail
          refine (Y _).out.mono ?_
          rintro e w4 ⟨rfl, rfl⟩
          by_cases hy : y ≤ t.size
          · have T2 := Lib.hid (btake_ok p t v a y w4.drew S3.out.blk.drew hy)
            have hk1 : bl (a.extract 0 x) = (bl a).take x := bl_take a x hx
            have hk2 : bl (t.extract 0 y) = (bl t).take y := bl_take t y hy
            have hk3 : (a.extract 0 x).size ≤ 65536 := by simp; omega
            have hk4 : (t.extract 0 y).size ≤ 1000000 := by simp; omega
            have ht1 : bl (t.extract y t.size) = (bl t).drop y := bl_drop t y
            have ht2 : (t.extract y t.size).size ≤ 1000000 := by simp; omega
            obtain ⟨kk, hkk⟩ : ∃ kk, a.extract 0 x ++ t.extract 0 y = kk := ⟨_, rfl⟩
            have hkl : bl kk = (bl a).take x ++ (bl t).take y := by
              rw [← hkk, ← hk1, ← hk2]; exact cat_list _ _
            have hkz : kk.size ≤ 1065536 := by rw [← hkk, cat_size]; omega
            have CA := fun W => cat_is (P := Tryd.prog) (a.extract 0 x) (t.extract 0 y) kk hkk (by omega) W
            obtain ⟨t1, ht⟩ : ∃ t1, t.extract y t.size = t1 := ⟨_, rfl⟩
            rw [ht] at T2 ht1 ht2
            have Hkl := Lib.hid hkl
            have Ht1 := Lib.hid ht1
            clear hkk hkl ht ht1 hk1 hk2
            go_upto_region 2 with fail
            go_region_held3 (fun W => W.cell? ⟨p, 2, none⟩ = some (.string a))
              (first | exact c0 | assumption)
              ((go_at_call 93; refine T2.out.mono ?_; rintro e w5 ⟨rfl, B5, g5⟩; have d5 : w5.cell? ⟨p, 2, none⟩ = some (.string a) := B5.cell 2))
            have S5 := Lib.hid (S3.out.drew.next B5 g5)
            have b5 := Lib.hid (below_rd b3.out.drew g5 hB S3.out.low)
            clear B5 g5 d5 T2 c0 c1 S3 b3 CA hk3 hk4
            by_cases hz1 : z ≤ t1.size
            · have T3 := Lib.hid (btake_ok p t1 v a z w5 S5.out.blk hz1)
              have hv1 : bl (t1.extract 0 z) = (bl t1).take z := bl_take t1 z hz1
              have hv2 : bl (t1.extract z t1.size) = (bl t1).drop z := bl_drop t1 z
              have hv3 : (t1.extract 0 z).size ≤ 1000000 := by simp; omega
              rw [Ht1.out] at hv1 hv2
              have hst := Hst.out
              rw [stepT_in (kk := kk) (vv := t1.extract 0 z) (by rw [bl_len]; exact hx) (by rw [bl_len]; exact hy) (by rw [← Ht1.out, bl_len]; exact hz1) Hkl.out hv1, ← hv2] at hst
              obtain ⟨vv, hvv⟩ : ∃ vv, t1.extract 0 z = vv := ⟨_, rfl⟩
              obtain ⟨t2, ht2⟩ : ∃ t2, t1.extract z t1.size = t2 := ⟨_, rfl⟩
              rw [hvv, ht2] at T3
              rw [hvv] at hv3 hst
              rw [ht2] at hst
              have HR2 := Lib.hid hst
              clear hst hvv ht2 hv1 hv2 Hst Ht1 Hkl
              go_wp2_with fail
              refine T3.out.mono ?_
              rintro e w6 ⟨rfl, B6, g6⟩
              have S6 := Lib.hid (S5.out.next B6 g6)
              have b6 := Lib.hid (below_rd b5.out g6 hB S5.out.low)
              clear B6 g6 T3 S5 b5
              by_cases hm : kk.size ≤ 65536 ∧ vv.size ≤ 65536
              · have m1 : decide ((kk.size : Int) ≤ 65536) = true := decide_eq_true (by omega)
                have m2 : decide ((vv.size : Int) ≤ 65536) = true := decide_eq_true (by omega)
                have m3 : (kk.size : Int) ≤ 65536 := by omega
                have m4 : (vv.size : Int) ≤ 65536 := by omega
                go_wp2_with fail
                refine (Y _).out.mono ?_
                rintro e w7 ⟨rfl, rfl⟩
                obtain ⟨ao, co, rfl⟩ := S6.out.own.slice
                have Cc := Lib.hid (compare_T a kk w7)
                have n1 : ((L.length : Int) == 0) = false := by rw [beq_eq_false_iff_ne]; have := Hn.out; omega
                have c1 : w7.cell? ⟨p, 1, none⟩ = some (.slice ao L.length co) := S6.out.blk.cell 1
                have c2 : w7.cell? ⟨p, 2, none⟩ = some (.string a) := S6.out.blk.cell 2
                by_cases hlt0 : cmpT a kk < 0
                · have hlt : L.length = 0 ∨ Lib.compareBytes (bl a) (bl kk) < 0 := Or.inr hlt0
                  have n2 : decide (cmpT a kk < 0) = true := decide_eq_true hlt0
                  generalize cmpT a kk = cm at *
                  go_wp2_with fail
                  refine Cc.out.mono ?_
                  rintro e w8 ⟨rfl, rfl⟩
                  go_wp2_with fail
                  refine (Y _).out.mono ?_
                  rintro e wa ⟨rfl, rfl⟩
                  clear c1 c2 n1 n2 hlt0 Cc
                  have CC := fun W => Lib.hid (common_any L.length a kk W (by omega) (by omega) (by omega))
                  have c1 : wa.cell? ⟨p, 1, none⟩ = some (.slice ao L.length co) := S6.out.blk.cell 1
                  have c2 : wa.cell? ⟨p, 2, none⟩ = some (.string a) := S6.out.blk.cell 2
                  generalize hcx : comI L.length (bl a) (bl kk) = cx at *
                  by_cases hxc : x = cx
                  · subst hxc
                    have hst := HR2.out
                    rw [if_pos ⟨hm.1, hm.2, hlt, rfl⟩] at hst
                    subst hst
                    have W8 : ∀ j, Hid (RdSt (wa.drewN (1 + j)) B p t2 (.slice ao L.length co) a L ∧ Below B w0 (wa.drewN (1 + j))) := fun j => Lib.hid ⟨S6.out.drewN (1 + j), below_drewN b6.out (1 + j)⟩
                    clear b6 S6 HR2
                    go_upto_region 6 with fail
                    go_region_held3 (fun W => W.cell? ⟨p, 1, none⟩ = some (.slice ao L.length co) ∧ W.cell? ⟨p, 2, none⟩ = some (.string a))
                      (first | exact ⟨c1, c2⟩ | assumption)
                      (first
                        | (go_at_call 84; refine (Y _).out.mono ?_; rintro e w9 ⟨rfl, rfl⟩)
                        | (go_at_call 40; refine (CC _).out.mono ?_; rintro e w7 ⟨rfl, j, rfl⟩))
                    obtain ⟨S8, b8⟩ := (W8 j).out
                    have c3 : (wa.drewN (1 + j)).cell? ⟨p, 1, none⟩ = some (.slice ao L.length co) := c1
                    have f3 : (wa.drewN (1 + j)).frozen? ⟨p, 1, none⟩ = false := S8.blk.frozen 1
                    clear W8 CC c1 c2
                    generalize wa.drewN (1 + j) = w8 at *
                    obtain ⟨v', w9, hr, hown, hgr, _, _⟩ := app_own (P := Tryd.prog) elKeys 22 35 (.agg #[.string ⟨#[]⟩, .string ⟨#[]⟩]) 32 underKeys infoKeys rfl (w8.alloc (.cells #[.string kk, .string vv] 35)) B (.slice ao L.length co) L [(kk, vv)] (World.ownsRow.alloc S8.own _) (some ⟨w8.heap.size, 0, none⟩) 1 (fun h => by cases h) (fun a ha j' u hu => by
                      cases ha
                      rw [El.row_one] at hu
                      exact cells_new w8 35 [.string kk, .string vv] j' u hu) (by unfold maxLen; simp; omega) (by simp; omega) (by have := b8.size; simp; omega) 1 rfl
                    obtain ⟨A9, n9, cc9, rfl⟩ := own_slice hown
                    have hoff := S8.off
                    have B9 : RdB w9 p t2 (.slice ao L.length co) a := (S8.blk.alloc _).grown hgr (off_ne hoff)
                    have b9 : Hid (Below B w0 w9) := Lib.hid ((b8.alloc (Nat.le_trans hB b8.size) _).grown hgr (by have := b8.size; simp; omega) (fun k hk => ((World.ownsRow.alloc S8.own _ : (w8.alloc (.cells #[.string kk, .string vv] 35)).ownsRow B 35 _ _ _ _).lt k hk).1))
                    have HR9 := fun ty => Lib.hid (hr ty)
                    have c9 : w9.cell? ⟨p, 1, none⟩ = some (.slice ao L.length co) := B9.cell 1
                    have f9 : w9.frozen? ⟨p, 1, none⟩ = false := B9.frozen 1
                    have g9 : w9.frozen? ⟨p, 2, none⟩ = false := B9.frozen 2
                    have d9 : w9.cell? ⟨p, 2, none⟩ = some (.string a) := B9.cell 2
                    have e9 : (w9.setCell ⟨p, 1, none⟩ (Value.slice A9 n9 cc9)).frozen? ⟨p, 2, none⟩ = false := (Blk.set_ B9 1 (Value.slice A9 n9 cc9)).frozen 2
                    have h9 : (w9.setCell ⟨p, 1, none⟩ (Value.slice A9 n9 cc9)).cell? ⟨p, 2, none⟩ = some (.string a) := (Blk.set_ B9 1 (Value.slice A9 n9 cc9)).cell 2
                    have hst9 : Hid (RdSt ((w9.setCell ⟨p, 1, none⟩ (Value.slice A9 n9 cc9)).setCell ⟨p, 2, none⟩ (.string kk)) B p t2 (Value.slice A9 n9 cc9) kk (L ++ [(kk, vv)])) := Lib.hid (by
                      have hv9 : (Value.slice A9 n9 cc9).ownBlock = none ∨ (Value.slice A9 n9 cc9).ownBlock ≠ some p := own_off hown B9
                      exact ⟨(Blk.set_ (Blk.set_ B9 1 (Value.slice A9 n9 cc9)) 2 (.string kk)), own_set (own_set hown hv9 _) hv9 _, S8.low⟩)
                    have bst9 : Hid (Below B w0 ((w9.setCell ⟨p, 1, none⟩ (Value.slice A9 n9 cc9)).setCell ⟨p, 2, none⟩ (.string kk))) := Lib.hid (below_setCell (below_setCell b9.out S8.low _) S8.low _)
                    have B9 := Lib.hid B9
                    clear hr hown hgr b9 S8 b8 c3 f3 hoff
                    go_wp2_with (at_builtin; refine wpList_append_k _ w9 rfl (.tmp 77) (.tmp 81) 22 rfl _ _ (Value.slice A9 n9 cc9) rfl rfl (fun ty => (HR9 ty).out) ?_)
                    go_end0
                    exact ⟨rfl, bst9.out, _, _, rfl, hst9.out⟩
                  · obtain rfl : R = none := by
                      rw [← HR2.out]
                      exact if_neg (fun hh => hxc hh.2.2.2)
                    have hxc' : ((x : Int) == (cx : Int)) = false := by rw [beq_eq_false_iff_ne]; omega
                    have Hb := fun j => Lib.hid (below_drewN b6.out j)
                    clear b6 S6 HR2
                    go_upto_region 6 with fail
                    go_region_dies
                    all_goals
                      rename_i K hK
                      refine (CC _).out.mono ?_
                      rintro e w5 ⟨rfl, j, rfl⟩
                      refine hK _ _ ?_
                      refine wpAny_ready (rs := [12]) (by kernel_rfl) (by simp) ?_
                      refine AllReady.cons rfl (fun K2 hK2 => ?_) AllReady.nil
                      go_simp
                      refine hK2 _ _ ?_
                      refine wpAny_ready (rs := [13]) (by kernel_rfl) (by simp) ?_
                      refine AllReady.cons rfl (fun K3 hK3 => ?_) AllReady.nil
                      go_simp
                      refine (N _).out.mono ?_
                      rintro e w6 ⟨rfl, rfl⟩
                      go_wp2_with fail
                      exact ⟨rfl, rfl, (Hb (1 + j)).out⟩
                · obtain rfl : R = none := by
                    rw [← HR2.out]
                    refine if_neg (fun hh => ?_)
                    rcases hh.2.2.1 with h | h
                    · exact Hn.out h
                    · exact hlt0 h
                  have n2 : decide (cmpT a kk < 0) = false := decide_eq_false hlt0
                  generalize cmpT a kk = cm at *
                  go_wp2_with fail
                  refine Cc.out.mono ?_
                  rintro e w8 ⟨rfl, rfl⟩
                  go_wp2_with fail
                  refine (N _).out.mono ?_
                  rintro e wa ⟨rfl, rfl⟩
                  go_wp2_with fail
                  exact ⟨rfl, rfl, b6.out⟩
              · obtain rfl : R = none := by
                  rw [← HR2.out]
                  exact if_neg (fun hh => hm ⟨hh.1, hh.2.1⟩)
                by_cases hm1 : kk.size ≤ 65536
                · have m2 : decide ((vv.size : Int) ≤ 65536) = false := decide_eq_false (by omega)
                  have m3 : (kk.size : Int) ≤ 65536 := by omega
                  go_wp2_with fail
                  refine (N _).out.mono ?_
                  rintro e w7 ⟨rfl, rfl⟩
                  go_wp2_with fail
                  exact ⟨rfl, rfl, b6.out⟩
                · have m3 : ¬ (kk.size : Int) ≤ 65536 := by omega
                  go_wp2_with fail
                  refine (N _).out.mono ?_
                  rintro e w7 ⟨rfl, rfl⟩
                  go_wp2_with fail
                  exact ⟨rfl, rfl, b6.out⟩
            · obtain rfl : R = none := by
                rw [← Hst.out]
                exact if_neg (fun hh => hz1 (by have := hh.2.2.1; rw [← Ht1.out, bl_len] at this; exact this))
              have T3 := Lib.hid (btake_short p t1 v a z w5 S5.out.blk (by omega))
              go_wp2_with fail
              refine T3.out.mono ?_
              rintro e w6 ⟨rfl, rfl⟩
              go_wp2_with fail
              exact ⟨rfl, rfl, b5.out⟩
          · obtain rfl : R = none := by
              rw [← Hst.out]
              exact if_neg (fun hh => hy hh.2.1)
            have T2 := Lib.hid (btake_short p t v a y w4.drew S3.out.blk.drew (by omega))
            go_upto_region 2 with fail
            go_region_dies
            all_goals
              refine T2.out.mono ?_
              rintro e w5 ⟨rfl, rfl⟩
              go_wp2_with fail
              exact ⟨rfl, rfl, b3.out.drew⟩
        · obtain rfl : R = none := by
            rw [← Hst.out]
            exact if_neg (fun hh => hx hh.1)
          have x1 : ¬ (x : Int) ≤ (a.size : Int) := by omega
          go_wp2_with fail
          refine (N _).out.mono ?_
          rintro e w4 ⟨rfl, rfl⟩
          go_wp2_with fail
          exact ⟨rfl, rfl, b3.out⟩
end Go.Proofs.YtcbgflidlpmhcaaDoor
