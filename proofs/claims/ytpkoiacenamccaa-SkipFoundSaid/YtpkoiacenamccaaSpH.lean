/-
  Package skip, plain: two rising lists of the same keys; how long a way is; what a list of given keys tells.
-/
import Derived.Test.YtpkoiacenamccaaSpP
import Derived.Test.YtpkoiacenamccaaSp3
namespace Go.Proofs.Ytpkoiacenamccaa
open Go.RowKit

theorem rising_pw {L : List P10} (h : Rising L) : L.Pairwise fun m n => cmpT m.1 n.1 < 0 :=
  List.pairwise_iff_getElem.2 fun i j hi hj hij => h i j _ _ hij (List.getElem?_eq_getElem hi) (List.getElem?_eq_getElem hj)
theorem cmpT_irr {a b : ByteArray} (h : cmpT a b < 0) : a ≠ b := fun e => by
  rw [(cmpT_eq a b).2 e] at h
  omega
/-- Two rising lists of the same keys have them in the same places. -/
theorem same_keys : ∀ (L M : List P10), (L.Pairwise fun m n => cmpT m.1 n.1 < 0) → (M.Pairwise fun m n => cmpT m.1 n.1 < 0) → (∀ k, (∃ m ∈ L, m.1 = k) ↔ ∃ n ∈ M, n.1 = k) → L.map Prod.fst = M.map Prod.fst
  | [], [], _, _, _ => rfl
  | [], y :: M, _, _, h => by
    obtain ⟨m, hm, _⟩ := (h y.1).2 ⟨y, by simp, rfl⟩
    simp at hm
  | x :: L, [], _, _, h => by
    obtain ⟨m, hm, _⟩ := (h x.1).1 ⟨x, by simp, rfl⟩
    simp at hm
  | x :: L, y :: M, h1, h2, h => by
    obtain ⟨a1, a2⟩ := List.pairwise_cons.1 h1
    obtain ⟨b1, b2⟩ := List.pairwise_cons.1 h2
    have exy : x.1 = y.1 := by
      obtain ⟨m, hm, e⟩ := (h y.1).2 ⟨y, by simp, rfl⟩
      obtain ⟨n, hn, e'⟩ := (h x.1).1 ⟨x, by simp, rfl⟩
      rcases List.mem_cons.1 hm with rfl | hm
      · exact e
      · rcases List.mem_cons.1 hn with rfl | hn
        · exact e'.symm
        · have z1 := a1 m hm
          have z2 := b1 n hn
          rw [e] at z1
          rw [e', cmpT_swap] at z2
          omega
    have ih := same_keys L M a2 b2 fun k => by
      constructor
      · rintro ⟨m, hm, rfl⟩
        obtain ⟨n, hn, e⟩ := (h m.1).1 ⟨m, by simp [hm], rfl⟩
        rcases List.mem_cons.1 hn with rfl | hn
        · exact absurd (exy.trans e) (cmpT_irr (a1 m hm))
        · exact ⟨n, hn, e⟩
      · rintro ⟨n, hn, rfl⟩
        obtain ⟨m, hm, e⟩ := (h n.1).2 ⟨n, by simp [hn], rfl⟩
        rcases List.mem_cons.1 hm with rfl | hm
        · exact absurd (exy.symm.trans e) (cmpT_irr (b1 n hn))
        · exact ⟨m, hm, e⟩
    rw [List.map_cons, List.map_cons, exy, ih]

theorem scan_le {L : List P10} (hR : Rising L) (key : ByteArray) (h : Nat) : ∀ (R : List P10) (i : Nat) (st : Nat × Nat), R = L.drop i → st.1 ≤ i → st.2 ≤ st.1 → st.1 ≤ placeL L key →
    (scanL key h R i st).2 ≤ (scanL key h R i st).1 ∧ (scanL key h R i st).1 ≤ placeL L key
  | [], _, st, _, _, h2, h3 => ⟨h2, h3⟩
  | m :: R, i, st, e, h1, h2, h3 => by
    have hm : L[i]? = some m := by
      have := congrArg (fun l => l[0]?) e
      simp only [List.getElem?_cons_zero, List.getElem?_drop, Nat.add_zero] at this
      exact this.symm
    have e' : R = L.drop (i + 1) := by
      have := congrArg List.tail e
      rw [List.tail_cons, List.tail_drop] at this
      exact this
    rw [scanL]
    split
    · exact scan_le hR key h R (i + 1) st e' (by omega) h2 h3
    · split
      · exact ⟨h2, h3⟩
      · rename_i z1 z2
        have hi : i < placeL L key := by
          rcases Nat.lt_or_ge i (placeL L key) with a | a
          · exact a
          · exact absurd (place_ge hR a hm) z2
        exact scan_le hR key h R (i + 1) (i + 1, st.2 + 1) e' (Nat.le_refl _) (by show st.2 + 1 ≤ i + 1; omega) hi
theorem down_le {L : List P10} (hR : Rising L) (key : ByteArray) : ∀ (h : Nat) (st : Nat × Nat), st.2 ≤ st.1 → st.1 ≤ placeL L key → (downL L key h st).2 ≤ placeL L key
  | 0, st, h1, h2 => Nat.le_trans h1 h2
  | h + 1, st, h1, h2 => by
    obtain ⟨a, b⟩ := scan_le hR key h (L.drop st.1) st.1 st rfl (Nat.le_refl _) h1 h2
    exact down_le hR key h _ a b
/-- A way is never longer than there are pairs ahead. -/
theorem steps_le {L : List P10} (hR : Rising L) (key : ByteArray) : stepsL L key ≤ placeL L key := down_le hR key _ _ (Nat.le_refl _) (Nat.zero_le _)

theorem scan_one (key : ByteArray) : ∀ (R : List P10) (i c : Nat), (∀ m ∈ R, m.2.2 = 1) → (scanL key 0 R i (i, c)).2 = c + (R.takeWhile fun m => decide (cmpT m.1 key < 0)).length
  | [], _, _, _ => rfl
  | m :: R, i, c, h => by
    have hm := h m (by simp)
    rw [scanL, if_neg (by rw [hm]; decide)]
    by_cases z : 0 ≤ cmpT m.1 key
    · rw [if_pos z, List.takeWhile_cons_of_neg (by simpa using z)]
      rfl
    · rw [if_neg z, List.takeWhile_cons_of_pos (by simp; omega), List.length_cons, scan_one key R (i + 1) (c + 1) (fun n hn => h n (by simp [hn]))]
      omega
/-- With one lane a way goes over each pair. -/
theorem steps_one {L : List P10} (h : ∀ m ∈ L, m.2.2 = 1) (key : ByteArray) : stepsL L key = placeL L key := by
  have h1 : cntL L 1 = 0 := by
    unfold cntL
    rw [List.length_eq_zero_iff, List.filter_eq_nil_iff]
    intro m hm
    rw [h m hm]
    decide
  have h2 : hiL L ≤ 1 := by
    rcases Nat.lt_or_ge 1 (hiL L) with a | a
    · have := (hiL_spec L).1 1 a
      omega
    · exact a
  rw [← down_hi L key 1 h2 (by omega)]
  show (scanL key 0 (L.drop 0) 0 (0, 0)).2 = _
  rw [List.drop_zero, scan_one key L 0 0 h]
  unfold placeL
  omega

/-- What has been put are the first k of these keys, each with itself. -/
structure InvK (f : Nat → ByteArray) (k : Nat) (s : S10) : Prop where
  fz : s.frozen = false
  len : s.L.length ≤ k
  all : ∀ j, j < k → ∃ m ∈ s.L, m.1 = f j
  val : ∀ m ∈ s.L, m.2.1 = m.1 ∧ ∃ j, j < k ∧ m.1 = f j
theorem InvK.put {f : Nat → ByteArray} {k : Nat} {s : S10} (h : InvK f k s) (hR : Rising s.L) (t : Int) (hk : (f k).size ≤ 65536) : InvK f (k + 1) (putL s (f k) (f k) t).2 := by
  obtain ⟨h1, h2, h3, h4⟩ := put_spec s (f k) (f k) t hR h.fz hk hk
  refine ⟨h1, Nat.le_trans h2 (by have := h.len; omega), fun j hj => ?_, fun m hm => ?_⟩
  · by_cases e : j = k
    · subst e
      rcases h4 with ⟨a, _, b⟩ | ⟨a, _, b, c⟩
      · rw [b]; exact (hasL_iff hR _).1 a
      · rw [b]; exact ⟨_, mem_insL.2 (Or.inr rfl), rfl⟩
    · obtain ⟨m, hm, e2⟩ := h.all j (by omega)
      exact ⟨m, h3 m hm, e2⟩
  · rcases h4 with ⟨a, _, b⟩ | ⟨a, _, b, c⟩
    · rw [b] at hm
      obtain ⟨e1, j, hj, e2⟩ := h.val m hm
      exact ⟨e1, j, by omega, e2⟩
    · rw [b] at hm
      rcases mem_insL.1 hm with hm | rfl
      · obtain ⟨e1, j, hj, e2⟩ := h.val m hm
        exact ⟨e1, j, by omega, e2⟩
      · exact ⟨rfl, k, by omega, rfl⟩
/-- The heights are all 1. -/
theorem ones_put {s : S10} (h : ∀ m ∈ s.L, m.2.2 = 1) (hR : Rising s.L) (hf : s.frozen = false) (key v : ByteArray) (hk : key.size ≤ 65536) (hv : v.size ≤ 65536) : ∀ m ∈ (putL s key v 1).2.L, m.2.2 = 1 := by
  obtain ⟨_, _, _, h4⟩ := put_spec s key v 1 hR hf hk hv
  intro m hm
  rcases h4 with ⟨a, _, b⟩ | ⟨a, _, b, c⟩
  · rw [b] at hm; exact h m hm
  · rw [b] at hm
    rcases mem_insL.1 hm with hm | rfl
    · exact h m hm
    · rfl
theorem rows_of {L M : List P10} (h : L.map Prod.fst = M.map Prod.fst) (hL : ∀ m ∈ L, m.2.1 = m.1) (hM : ∀ m ∈ M, m.2.1 = m.1) : (L.map fun m => (m.1, m.2.1)) = M.map fun m => (m.1, m.2.1) := by
  have e : ∀ X : List P10, (∀ m ∈ X, m.2.1 = m.1) → (X.map fun m => (m.1, m.2.1)) = (X.map Prod.fst).map fun k => (k, k) := fun X hX => by
    rw [List.map_map]
    exact List.map_congr_left fun m hm => by rw [hX m hm]; rfl
  rw [e L hL, e M hM, h]
theorem bytes_rows (L : List P10) : bytesL L = ((L.map fun m => (m.1, m.2.1)).map fun r => r.1.size + r.2.size).sum := by
  unfold bytesL
  rw [List.map_map]
  rfl
/-- Two lists into which the same keys were put, in two orders. -/
theorem two_orders {n : Nat} {f g : Nat → ByteArray} {sa sb : S10} (ha : InvK f n sa) (hb : InvK g n sb) (hfg : ∀ i, i < n → ∃ j, j < n ∧ f i = g j) (hgf : ∀ i, i < n → ∃ j, j < n ∧ g i = f j) (Ra : Rising sa.L) (Rb : Rising sb.L) :
    (sa.L.map fun m => (m.1, m.2.1)) = (sb.L.map fun m => (m.1, m.2.1)) ∧ sa.L.length = sb.L.length ∧ bytesL sa.L = bytesL sb.L := by
  have hk : sa.L.map Prod.fst = sb.L.map Prod.fst := same_keys _ _ (rising_pw Ra) (rising_pw Rb) fun k => by
    constructor
    · rintro ⟨m, hm, rfl⟩
      obtain ⟨_, i, hi, e⟩ := ha.val m hm
      obtain ⟨j, hj, e2⟩ := hfg i hi
      obtain ⟨x, hx, e3⟩ := hb.all j hj
      exact ⟨x, hx, by rw [e3, e, e2]⟩
    · rintro ⟨m, hm, rfl⟩
      obtain ⟨_, i, hi, e⟩ := hb.val m hm
      obtain ⟨j, hj, e2⟩ := hgf i hi
      obtain ⟨x, hx, e3⟩ := ha.all j hj
      exact ⟨x, hx, by rw [e3, e, e2]⟩
  have hr := rows_of hk (fun m hm => (ha.val m hm).1) (fun m hm => (hb.val m hm).1)
  refine ⟨hr, by simpa using congrArg List.length hk, ?_⟩
  rw [bytes_rows, bytes_rows, hr]
/-- Turned by r, the same indices. -/
theorem turn_to {n r : Nat} (hr : r < n) (i : Nat) (hi : i < n) : ∃ j, j < n ∧ (j + r) % n = i := by
  rcases Nat.lt_or_ge i r with h | h
  · exact ⟨i + n - r, by omega, by rw [show i + n - r + r = i + n by omega, Nat.add_mod_right, Nat.mod_eq_of_lt hi]⟩
  · exact ⟨i - r, by omega, by rw [show i - r + r = i by omega, Nat.mod_eq_of_lt hi]⟩
theorem sl_cons (a b : UInt8) (x y : List UInt8) : Op.bytesLess (a :: x) (b :: y) = (decide (a < b) || (a == b && Op.bytesLess x y)) := rfl
theorem sl_same (a : UInt8) (x y : List UInt8) : Op.bytesLess (a :: x) (a :: y) = Op.bytesLess x y := by
  rw [sl_cons]
  simp
theorem sl_ne {a b : UInt8} (h : a ≠ b) (x y : List UInt8) : Op.bytesLess (a :: x) (b :: y) = decide (a < b) := by
  rw [sl_cons]
  simp [h]
theorem sl_iff : ∀ (a b : List UInt8), Op.bytesLess a b = decide (Lib.compareBytes a b < 0)
  | [], [] => by simp [Op.bytesLess, Lib.compareBytes]
  | [], _ :: _ => by simp [Op.bytesLess, Lib.compareBytes]
  | _ :: _, [] => by simp [Op.bytesLess, Lib.compareBytes]
  | a :: x, b :: y => by
    unfold Lib.compareBytes
    by_cases h : a = b
    · subst h
      have hn : ¬ a < a := fun h => by simp at h
      rw [sl_same, if_neg hn, if_neg hn]
      exact sl_iff x y
    · rw [sl_ne h]
      by_cases hl : a < b
      · simp [hl]
      · have hb : b < a := by
          rcases Nat.lt_trichotomy a.toNat b.toNat with g | g | g
          · exact absurd (UInt8.lt_iff_toNat_lt.2 g) hl
          · exact absurd (UInt8.toNat_inj.1 g) h
          · exact UInt8.lt_iff_toNat_lt.2 g
        simp [hl, hb]
/-- The order of Go's texts is that of their bytes. -/
theorem sl_text (a b : ByteArray) : Op.bytesLess a.toList b.toList = decide (cmpT a b < 0) := by
  rw [Lib.toList_data, Lib.toList_data, sl_iff]
  rfl
end Go.Proofs.Ytpkoiacenamccaa
