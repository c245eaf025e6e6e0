/-
  Package skip, part 1, plain: the order of keys, places, who comes next in a lane, who stands last ahead of a place; no program is named but in what is imported.
-/
import Derived.Test.YtmagkkkecihgmaaGreatSk5
import Derived.Test.YtmagkkkecihgmaaGreatSk6
import Derived.Test.YtmagkkkecihgmaaGreatSk8
import Derived.Test.YtmagkkkecihgmaaGreatRaw7
namespace Go.Proofs.YtmagkkkecihgmaaGreat
open Go.RowKit

theorem cmpT_range (a b : ByteArray) : -1 ≤ cmpT a b ∧ cmpT a b ≤ 1 := cmp_range _ _
theorem cmpT_swap (a b : ByteArray) : cmpT b a = -cmpT a b := cmp_swap _ _
theorem cmpT_eq (a b : ByteArray) : cmpT a b = 0 ↔ a = b := by
  unfold cmpT
  rw [cmp_eq]
  exact ⟨fun h => ByteArray.ext (Array.toList_inj.1 h), fun h => by rw [h]⟩
theorem cmpT_trans {a b c : ByteArray} (h : cmpT a b < 0) (h' : cmpT b c < 0) : cmpT a c < 0 := (cmp_trans _ _ _ (by unfold cmpT at h; omega) (by unfold cmpT at h'; omega)).2 h
theorem cmpT_le_lt {a b c : ByteArray} (h : cmpT a b ≤ 0) (h' : cmpT b c < 0) : cmpT a c < 0 := by
  by_cases e : cmpT a b = 0
  · rw [(cmpT_eq a b).1 e]; exact h'
  · exact cmpT_trans (by omega) h'
theorem cmpT_ge_gt {a b c : ByteArray} (h : 0 ≤ cmpT a c) (h' : cmpT a b < 0) : 0 < cmpT b c := by
  have h1 := cmpT_swap a c
  have h2 := cmpT_swap b c
  have h3 : cmpT c b < 0 := cmpT_le_lt (by omega) h'
  omega

/-- Keys that rise. -/
def Rising (L : List P10) : Prop := ∀ (i j : Nat) (m n : P10), i < j → L[i]? = some m → L[j]? = some n → cmpT m.1 n.1 < 0
theorem place_lt {L : List P10} {key : ByteArray} {i : Nat} {m : P10} (h : i < placeL L key) (hm : L[i]? = some m) : cmpT m.1 key < 0 := by
  induction L generalizing i with
  | nil => simp at hm
  | cons x L ih =>
    unfold placeL at h
    by_cases z : cmpT x.1 key < 0
    · rw [List.takeWhile_cons_of_pos (by simpa using z)] at h
      cases i with
      | zero => simp at hm; subst hm; exact z
      | succ i => exact ih (i := i) (by unfold placeL; simpa using h) (by simpa using hm)
    · rw [List.takeWhile_cons_of_neg (by simpa using z)] at h
      simp at h
theorem place_at {L : List P10} {key : ByteArray} {m : P10} (hm : L[placeL L key]? = some m) : 0 ≤ cmpT m.1 key := by
  induction L with
  | nil => simp at hm
  | cons x L ih =>
    unfold placeL at hm
    by_cases z : cmpT x.1 key < 0
    · rw [List.takeWhile_cons_of_pos (by simpa using z)] at hm
      exact ih (by unfold placeL; simpa using hm)
    · rw [List.takeWhile_cons_of_neg (by simpa using z)] at hm
      simp at hm
      subst hm
      omega
theorem place_ge {L : List P10} (hR : Rising L) {key : ByteArray} {i : Nat} {m : P10} (h : placeL L key ≤ i) (hm : L[i]? = some m) : 0 ≤ cmpT m.1 key := by
  have hlt := (List.getElem?_eq_some_iff.1 hm).1
  obtain ⟨n, hn⟩ : ∃ n, L[placeL L key]? = some n := ⟨_, List.getElem?_eq_getElem (by omega)⟩
  have h0 := place_at hn
  rcases Nat.lt_or_ge (placeL L key) i with hl | hl
  · have := cmpT_ge_gt h0 (hR _ _ _ _ hl hn hm)
    omega
  · obtain rfl : i = placeL L key := by omega
    rw [hn] at hm
    cases hm
    exact h0
theorem insL_lt {L : List P10} {pl i : Nat} {x : P10} (hpl : pl ≤ L.length) (h : i < pl) : (insL L pl x)[i]? = L[i]? := by
  unfold insL
  rw [List.append_assoc, List.getElem?_append_left (by rw [List.length_take]; omega), List.getElem?_take, if_pos h]
theorem insL_at {L : List P10} {pl : Nat} {x : P10} (hpl : pl ≤ L.length) : (insL L pl x)[pl]? = some x := by
  unfold insL
  have e : (L.take pl).length = pl := by rw [List.length_take]; omega
  rw [List.append_assoc, List.getElem?_append_right (by omega), e]
  simp
theorem insL_gt {L : List P10} {pl i : Nat} {x : P10} (hpl : pl ≤ L.length) (h : pl ≤ i) : (insL L pl x)[i + 1]? = L[i]? := by
  unfold insL
  have e : (L.take pl ++ [x]).length = pl + 1 := by rw [List.length_append, List.length_take]; simp; omega
  rw [List.getElem?_append_right (by omega), e, List.getElem?_drop]
  congr 1
  omega
theorem insL_length {L : List P10} {pl : Nat} {x : P10} (hpl : pl ≤ L.length) : (insL L pl x).length = L.length + 1 := by
  unfold insL
  simp
  omega
theorem rising_ins {L : List P10} (hR : Rising L) {x : P10} (hne : ∀ m, L[placeL L x.1]? = some m → m.1 ≠ x.1) : Rising (insL L (placeL L x.1) x) := by
  have hpl := placeL_le L x.1
  have lo : ∀ i m, i < placeL L x.1 → (insL L (placeL L x.1) x)[i]? = some m → L[i]? = some m := fun i m hi hm => by rwa [insL_lt hpl hi] at hm
  have up : ∀ i m, placeL L x.1 < i → (insL L (placeL L x.1) x)[i]? = some m → L[i - 1]? = some m := fun i m hi hm => by
    obtain ⟨k, rfl⟩ : ∃ k, i = k + 1 := ⟨i - 1, by omega⟩
    rwa [insL_gt hpl (by omega)] at hm
  have gt : ∀ i m, placeL L x.1 ≤ i → L[i]? = some m → cmpT x.1 m.1 < 0 := fun i m hi hm => by
    have h0 := place_ge hR hi hm
    have h1 : cmpT m.1 x.1 ≠ 0 := fun e => by
      have e := (cmpT_eq _ _).1 e
      rcases Nat.lt_or_ge (placeL L x.1) i with hl | hl
      · have hlt := (List.getElem?_eq_some_iff.1 hm).1
        obtain ⟨n, hn⟩ : ∃ n, L[placeL L x.1]? = some n := ⟨_, List.getElem?_eq_getElem (by omega)⟩
        have := cmpT_ge_gt (place_at hn) (hR _ _ _ _ hl hn hm)
        rw [e, (cmpT_eq _ _).2 rfl] at this
        omega
      · obtain rfl : i = placeL L x.1 := by omega
        exact hne m hm e
    have := cmpT_swap m.1 x.1
    omega
  intro i j m n hij hm hn
  rcases Nat.lt_trichotomy j (placeL L x.1) with hj | hj | hj
  · exact hR i j m n hij (lo i m (by omega) hm) (lo j n hj hn)
  · subst hj
    rw [insL_at hpl] at hn
    cases hn
    exact place_lt hij (lo i m hij hm)
  · have hn2 := up j n hj hn
    rcases Nat.lt_trichotomy i (placeL L x.1) with hi | hi | hi
    · exact hR i (j - 1) m n (by omega) (lo i m hi hm) hn2
    · subst hi
      rw [insL_at hpl] at hm
      cases hm
      exact gt _ n (by omega) hn2
    · exact hR (i - 1) (j - 1) m n (by omega) (up i m hi hm) hn2

/-! ### Lanes -/
/-- A pair with its height, and the block in which it lies. -/
abbrev Z10 := Nat × P10
/-- The first one that stands in lane h. -/
def nxt (h : Nat) : List Z10 → Option Z10
  | [] => none
  | m :: R => if (h : Int) < m.2.2.2 then some m else nxt h R
theorem nxt_append (h : Nat) (A C : List Z10) : nxt h (A ++ C) = (match nxt h A with | some m => some m | none => nxt h C) := by
  induction A with
  | nil => rfl
  | cons m A ih =>
    simp only [List.cons_append, nxt]
    by_cases z : (h : Int) < m.2.2.2
    · rw [if_pos z, if_pos z]
    · rw [if_neg z, if_neg z, ih]
theorem nxt_none (h : Nat) : ∀ (A : List Z10), (∀ (i : Nat) (m : Z10), A[i]? = some m → m.2.2.2 ≤ (h : Int)) → nxt h A = none
  | [], _ => rfl
  | m :: R, hh => by
    have h0 := hh 0 m rfl
    unfold nxt
    rw [if_neg (by omega)]
    exact nxt_none h R (fun i n hn => hh (i + 1) n (by simpa using hn))
theorem nxt_spec (h : Nat) : ∀ (A : List Z10), (nxt h A = none ∧ ∀ (i : Nat) (m : Z10), A[i]? = some m → m.2.2.2 ≤ (h : Int)) ∨ ∃ (j : Nat) (m : Z10), nxt h A = some m ∧ A[j]? = some m ∧ (h : Int) < m.2.2.2 ∧ ∀ (i : Nat) (n : Z10), i < j → A[i]? = some n → n.2.2.2 ≤ (h : Int)
  | [] => Or.inl ⟨rfl, fun i m hm => by simp at hm⟩
  | m :: R => by
    by_cases z : (h : Int) < m.2.2.2
    · exact Or.inr ⟨0, m, by unfold nxt; rw [if_pos z], rfl, z, fun i n hi => by omega⟩
    · have e : nxt h (m :: R) = nxt h R := by rw [nxt, if_neg z]
      rcases nxt_spec h R with ⟨h1, h2⟩ | ⟨j, n, h1, h2, h3, h4⟩
      · refine Or.inl ⟨e.trans h1, fun i n hn => ?_⟩
        cases i with
        | zero => simp at hn; subst hn; omega
        | succ i => exact h2 i n (by simpa using hn)
      · refine Or.inr ⟨j + 1, n, e.trans h1, by simpa using h2, h3, fun i n' hi hn => ?_⟩
        cases i with
        | zero => simp at hn; subst hn; omega
        | succ i => exact h4 i n' (by omega) (by simpa using hn)
/-- The greatest place of at most n whose pair ahead of it stands in lane h; 0: the head. -/
def bef (Z : List Z10) (h : Nat) : Nat → Nat
  | 0 => 0
  | n + 1 => match Z[n]? with
    | some m => if (h : Int) < m.2.2.2 then n + 1 else bef Z h n
    | none => bef Z h n
/-- Lane h goes on from place k. -/
def Opn (Z : List Z10) (k h : Nat) : Prop := k = 0 ∨ ∃ m, Z[k - 1]? = some m ∧ (h : Int) < m.2.2.2
theorem Opn.down {Z : List Z10} {k h h' : Nat} (o : Opn Z k h) (hh : h' ≤ h) : Opn Z k h' := by
  rcases o with o | ⟨m, h1, h2⟩
  · exact Or.inl o
  · exact Or.inr ⟨m, h1, by omega⟩
theorem bef_le (Z : List Z10) (h : Nat) : ∀ n, bef Z h n ≤ n
  | 0 => Nat.le_refl _
  | n + 1 => by
    have ih := bef_le Z h n
    unfold bef
    split
    · split <;> omega
    · omega
theorem bef_opn (Z : List Z10) (h : Nat) : ∀ n, Opn Z (bef Z h n) h
  | 0 => Or.inl rfl
  | n + 1 => by
    have ih := bef_opn Z h n
    unfold bef
    split
    · next m hm =>
      by_cases z : (h : Int) < m.2.2.2
      · rw [if_pos z]
        exact Or.inr ⟨m, by simpa using hm, z⟩
      · rw [if_neg z]; exact ih
    · exact ih
/-- What is open, and has nothing open behind it up to n, is the last one. -/
theorem bef_of {Z : List Z10} {h k : Nat} (o : Opn Z k h) : ∀ n, k ≤ n → (∀ (i : Nat) (m : Z10), k ≤ i → i < n → Z[i]? = some m → m.2.2.2 ≤ (h : Int)) → bef Z h n = k
  | 0, hk, _ => by simp at hk; subst hk; rfl
  | n + 1, hk, hh => by
    rcases Nat.lt_or_ge k (n + 1) with hl | hl
    · have ih := bef_of o n (by omega) (fun i m h1 h2 h3 => hh i m h1 (by omega) h3)
      unfold bef
      split
      · next m hm =>
        have := hh n m (by omega) (by omega) hm
        rw [if_neg (by omega)]
        exact ih
      · exact ih
    · obtain rfl : k = n + 1 := by omega
      rcases o with o | ⟨m, h1, h2⟩
      · omega
      · rw [Nat.add_sub_cancel] at h1
        unfold bef
        rw [h1]
        dsimp only
        rw [if_pos h2]
theorem bef_max {Z : List Z10} {h : Nat} : ∀ (n k : Nat), Opn Z k h → k ≤ n → k ≤ bef Z h n
  | 0, k, _, hk => by omega
  | n + 1, k, o, hk => by
    have ih := bef_max (Z := Z) (h := h) n k o
    unfold bef
    split
    · next m hm =>
      by_cases z : (h : Int) < m.2.2.2
      · rw [if_pos z]; exact hk
      · rw [if_neg z]
        rcases Nat.lt_or_ge k (n + 1) with hl | hl
        · exact ih (by omega)
        · exfalso
          obtain rfl : k = n + 1 := by omega
          rcases o with o | ⟨m', h1, h2⟩
          · omega
          · rw [Nat.add_sub_cancel, hm] at h1
            cases h1
            exact z h2
    · next hm =>
      rcases Nat.lt_or_ge k (n + 1) with hl | hl
      · exact ih (by omega)
      · exfalso
        obtain rfl : k = n + 1 := by omega
        rcases o with o | ⟨m', h1, h2⟩
        · omega
        · rw [Nat.add_sub_cancel, hm] at h1
          cases h1

def toA (m : Z10) : Addr := ⟨m.1, 0, none⟩
def opnB (Z : List Z10) (k h : Nat) : Bool := k == 0 || match Z[k - 1]? with
  | some m => decide ((h : Int) < m.2.2.2)
  | none => false
theorem opnB_iff (Z : List Z10) (k h : Nat) : opnB Z k h = true ↔ Opn Z k h := by
  unfold opnB Opn
  rw [Bool.or_eq_true, beq_iff_eq]
  cases hm : Z[k - 1]? with
  | none => simp
  | some m => simp
/-- Where the pair at place k (0: the head) goes on to in lane h. -/
def lnk (Z : List Z10) (k h : Nat) : Option Addr := if opnB Z k h = true then (nxt h (Z.drop k)).map toA else none
theorem lnk_pos {Z : List Z10} {k h : Nat} (o : Opn Z k h) : lnk Z k h = (nxt h (Z.drop k)).map toA := by unfold lnk; rw [if_pos ((opnB_iff Z k h).2 o)]
theorem lnk_neg {Z : List Z10} {k h : Nat} (o : ¬ Opn Z k h) : lnk Z k h = none := by unfold lnk; rw [if_neg (fun e => o ((opnB_iff Z k h).1 e))]
/-- While a new pair in block a is put in, the lanes below t are done. -/
def lnkM (Z : List Z10) (pl a t k h : Nat) : Option Addr := if h < t ∧ k = bef Z h pl then some ⟨a, 0, none⟩ else lnk Z k h
def lnkN (Z : List Z10) (pl t h : Nat) : Option Addr := if h < t then lnk Z (bef Z h pl) h else none
/-- The list with the new one in it. -/
def insZ (Z : List Z10) (pl : Nat) (x : Z10) : List Z10 := Z.take pl ++ [x] ++ Z.drop pl
theorem insZ_map (Z : List Z10) (pl : Nat) (x : Z10) : (insZ Z pl x).map Prod.snd = insL (Z.map Prod.snd) pl x.2 := by
  unfold insZ insL
  simp [List.map_take, List.map_drop]
theorem insZ_lt {Z : List Z10} {pl i : Nat} {x : Z10} (hpl : pl ≤ Z.length) (h : i < pl) : (insZ Z pl x)[i]? = Z[i]? := by
  unfold insZ
  rw [List.append_assoc, List.getElem?_append_left (by rw [List.length_take]; omega), List.getElem?_take, if_pos h]
theorem insZ_at {Z : List Z10} {pl : Nat} {x : Z10} (hpl : pl ≤ Z.length) : (insZ Z pl x)[pl]? = some x := by
  unfold insZ
  have e : (Z.take pl).length = pl := by rw [List.length_take]; omega
  rw [List.append_assoc, List.getElem?_append_right (by omega), e]
  simp
theorem insZ_gt {Z : List Z10} {pl i : Nat} {x : Z10} (hpl : pl ≤ Z.length) (h : pl ≤ i) : (insZ Z pl x)[i + 1]? = Z[i]? := by
  unfold insZ
  have e : (Z.take pl ++ [x]).length = pl + 1 := by rw [List.length_append, List.length_take]; simp; omega
  rw [List.getElem?_append_right (by omega), e, List.getElem?_drop]
  congr 1
  omega
theorem insZ_drop {Z : List Z10} {pl k : Nat} {x : Z10} (hpl : pl ≤ Z.length) (h : k ≤ pl) : (insZ Z pl x).drop k = (Z.take pl).drop k ++ ([x] ++ Z.drop pl) := by
  unfold insZ
  rw [List.append_assoc, List.drop_append_of_le_length (by rw [List.length_take]; omega)]
theorem insZ_drop2 {Z : List Z10} {pl k : Nat} {x : Z10} (hpl : pl ≤ Z.length) (h : pl ≤ k) : (insZ Z pl x).drop (k + 1) = Z.drop k := by
  unfold insZ
  have e : (Z.take pl ++ [x]).length = pl + 1 := by rw [List.length_append, List.length_take]; simp; omega
  rw [List.drop_append, List.drop_eq_nil_of_le (by omega), List.nil_append, e, List.drop_drop]
  congr 1
  omega
theorem take_drop_split (Z : List Z10) {pl k : Nat} (hpl : pl ≤ Z.length) (h : k ≤ pl) : Z.drop k = (Z.take pl).drop k ++ Z.drop pl := by
  conv => lhs; rw [← List.take_append_drop pl Z]
  rw [List.drop_append_of_le_length (by rw [List.length_take]; omega)]
theorem bef_none {Z : List Z10} {h pl : Nat} : ∀ (i : Nat) (m : Z10), bef Z h pl ≤ i → i < pl → Z[i]? = some m → m.2.2.2 ≤ (h : Int) := by
  intro i m h1 h2 h3
  rcases Int.lt_or_le (h : Int) m.2.2.2 with z | z
  · have := bef_max (Z := Z) (h := h) pl (i + 1) (Or.inr ⟨m, by simpa using h3, z⟩) (by omega)
    omega
  · exact z
theorem nxt_bef {Z : List Z10} {h pl : Nat} (hpl : pl ≤ Z.length) : nxt h (Z.drop (bef Z h pl)) = nxt h (Z.drop pl) := by
  rw [take_drop_split Z hpl (bef_le Z h pl), nxt_append, nxt_none]
  intro i m hm
  rw [List.getElem?_drop, List.getElem?_take] at hm
  split at hm
  · exact bef_none (pl := pl) _ m (by omega) (by omega) hm
  · cases hm
theorem lnk_bef {Z : List Z10} {h pl : Nat} (hpl : pl ≤ Z.length) : lnk Z (bef Z h pl) h = (nxt h (Z.drop pl)).map toA := by rw [lnk_pos (bef_opn Z h pl), nxt_bef hpl]
/-- When all lanes of the new one are done, the links are those of the new list. -/
theorem lnk_old {Z : List Z10} {pl k h : Nat} {x : Z10} (hpl : pl ≤ Z.length) (hk : k ≤ pl) (H : Nat) (hH : x.2.2.2 = (H : Int)) : lnk (insZ Z pl x) k h = lnkM Z pl x.1 H k h := by
  have ho : Opn (insZ Z pl x) k h ↔ Opn Z k h := by
    unfold Opn
    rcases Nat.eq_zero_or_pos k with e | e
    · simp [e]
    · rw [insZ_lt hpl (by omega)]
  unfold lnkM
  by_cases o : Opn Z k h
  · have hb := bef_max pl k o hk
    rw [lnk_pos (ho.2 o), lnk_pos o, insZ_drop hpl hk, take_drop_split Z hpl hk, nxt_append h ((Z.take pl).drop k) ([x] ++ Z.drop pl), nxt_append h ((Z.take pl).drop k) (Z.drop pl)]
    by_cases e : k = bef Z h pl
    · have hn : nxt h ((Z.take pl).drop k) = none := by
        refine nxt_none _ _ fun i m hm => ?_
        rw [List.getElem?_drop, List.getElem?_take] at hm
        split at hm
        · exact bef_none (pl := pl) _ m (by omega) (by omega) hm
        · cases hm
      rw [hn]
      dsimp only
      rw [show [x] ++ Z.drop pl = x :: Z.drop pl from rfl, nxt, hH]
      by_cases z : h < H
      · rw [if_pos (by omega), if_pos ⟨z, e⟩]
        rfl
      · rw [if_neg (by omega), if_neg (by omega)]
    · rw [if_neg (fun h => e h.2)]
      rcases nxt_spec h ((Z.take pl).drop k) with ⟨h1, h2⟩ | ⟨j, m, h1, _⟩
      · exfalso
        rcases bef_opn Z h pl with o2 | ⟨m, h3, h4⟩
        · omega
        · have hle := bef_le Z h pl
          have := h2 (bef Z h pl - 1 - k) m (by
            rw [List.getElem?_drop, List.getElem?_take, if_pos (by omega), ← h3]
            congr 1
            omega)
          omega
      · rw [h1]
  · rw [lnk_neg (fun h => o (ho.1 h)), lnk_neg o, if_neg]
    rintro ⟨_, e⟩
    exact o (e ▸ bef_opn Z h pl)
theorem lnk_new {Z : List Z10} {pl h : Nat} {x : Z10} (hpl : pl ≤ Z.length) (H : Nat) (hH : x.2.2.2 = (H : Int)) : lnk (insZ Z pl x) (pl + 1) h = lnkN Z pl H h := by
  unfold lnkN
  by_cases z : h < H
  · rw [if_pos z, lnk_pos (Or.inr ⟨x, by rw [Nat.add_sub_cancel, insZ_at hpl], by omega⟩), insZ_drop2 hpl (Nat.le_refl _), lnk_bef hpl]
  · rw [if_neg z, lnk_neg]
    rintro (o | ⟨m, h1, h2⟩)
    · omega
    · rw [Nat.add_sub_cancel, insZ_at hpl] at h1
      cases h1
      omega
theorem lnk_far {Z : List Z10} {pl k h : Nat} {x : Z10} (hpl : pl ≤ Z.length) (hk : pl < k) (H : Nat) : lnk (insZ Z pl x) (k + 1) h = lnkM Z pl x.1 H k h := by
  have hb := bef_le Z h pl
  have ho : Opn (insZ Z pl x) (k + 1) h ↔ Opn Z k h := by
    unfold Opn
    rw [Nat.add_sub_cancel]
    obtain ⟨k, rfl⟩ : ∃ k', k = k' + 1 := ⟨k - 1, by omega⟩
    rw [insZ_gt hpl (by omega), Nat.add_sub_cancel]
    exact ⟨fun h => Or.inr (h.resolve_left (by omega)), fun h => Or.inr (h.resolve_left (by omega))⟩
  unfold lnkM
  rw [if_neg (by omega)]
  by_cases o : Opn Z k h
  · rw [lnk_pos o, lnk_pos (ho.2 o), insZ_drop2 hpl (by omega)]
  · rw [lnk_neg o, lnk_neg (fun h => o (ho.1 h))]
end Go.Proofs.YtmagkkkecihgmaaGreat
