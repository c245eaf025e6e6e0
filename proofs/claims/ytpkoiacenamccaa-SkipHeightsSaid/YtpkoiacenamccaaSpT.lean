/-
  Two lists of package skip, side by side.
-/
import Derived.Test.YtpkoiacenamccaaSp13
import Derived.Test.YtpkoiacenamccaaSpP
namespace Go.Proofs.Ytpkoiacenamccaa
open Go.RowKit

/-- Two lists that have no block in common. -/
structure Two (B pa pb : Nat) (w : World) (sa sb : S10) (Za Zb : List Z10) : Prop where
  a : SkZ B pa w sa Za
  b : SkZ B pb w sb Zb
  apart : ∀ q, Foot pa Za q → ¬ Foot pb Zb q
section
variable {B pa pb : Nat} {w w' : World} {sa sb sa' sb' : S10} {Za Zb Za' Zb' : List Z10}
theorem Two.up (h : Two B pa pb w sa sb Za Zb) (g : w.grownBy w' none) : Two B pa pb w' sa sb Za Zb := ⟨h.a.up g, h.b.up g, h.apart⟩
theorem Two.setA (h : Two B pa pb w sa sb Za Zb) (h1 : SkZ B pa w' sa' Za') (h2 : Tu (Foot pa Za) w w') (h3 : Grew w.heap.size Za Za') : Two B pa pb w' sa' sb Za' Zb := by
  refine ⟨h1, h.b.tu h2 (fun q hq hS => h.apart q hS hq), fun q hq hb => ?_⟩
  rcases h3.foot hq with h4 | h4
  · exact h.apart q h4 hb
  · have := (h.b.foot_lt hb).2
    omega
theorem Two.setB (h : Two B pa pb w sa sb Za Zb) (h1 : SkZ B pb w' sb' Zb') (h2 : Tu (Foot pb Zb) w w') (h3 : Grew w.heap.size Zb Zb') : Two B pa pb w' sa sb' Za Zb' := by
  refine ⟨h.a.tu h2 (fun q hq hS => h.apart q hq hS), h1, fun q hq hb => ?_⟩
  rcases h3.foot hb with h4 | h4
  · exact h.apart q hq h4
  · have := (h.a.foot_lt hq).2
    omega
theorem Two.low (h : Two B pa pb w sa sb Za Zb) : ∀ q, (Foot pa Za q ∨ Foot pb Zb q) → B ≤ q := fun _ hq => hq.elim (fun h1 => (h.a.foot_lt h1).1) (fun h1 => (h.b.foot_lt h1).1)
end
/-- Two new lists. -/
theorem two_new (w : World) : Two w.heap.size w.heap.size (w.heap.size + 1) ((w.alloc (.cells newC 54)).alloc (.cells newC 54)) ⟨[], false⟩ ⟨[], false⟩ [] [] := by
  refine ⟨skz_new ((Blk.new w _ _).alloc _) (Nat.le_refl _), skz_new (Blk.new' (by simp) _ _) (by omega), fun q hq hb => ?_⟩
  rcases hq with rfl | ⟨m, hm, _⟩
  · rcases hb with hb | ⟨m, hm, _⟩
    · omega
    · simp at hm
  · simp at hm

/-- The same keys, and no height is greater on the left. -/
def Und : List P10 → List P10 → Prop
  | [], [] => True
  | m :: L, n :: M => m.1 = n.1 ∧ m.2.2 ≤ n.2.2 ∧ Und L M
  | _, _ => False
theorem Und.len : ∀ {L M : List P10}, Und L M → L.length = M.length
  | [], [], _ => rfl
  | _ :: _, _ :: _, ⟨_, _, h⟩ => congrArg (· + 1) (Und.len h)
  | [], _ :: _, h => h.elim
  | _ :: _, [], h => h.elim
theorem Und.at_ : ∀ {L M : List P10}, Und L M → ∀ (i : Nat) (m : P10), L[i]? = some m → ∃ n, M[i]? = some n ∧ m.1 = n.1 ∧ m.2.2 ≤ n.2.2
  | [], [], _, i, m, hm => by simp at hm
  | x :: L, y :: M, ⟨h1, h2, h⟩, i, m, hm => by
    cases i with
    | zero => simp at hm; subst hm; exact ⟨y, rfl, h1, h2⟩
    | succ i => exact Und.at_ h i m (by simpa using hm)
  | [], _ :: _, h, _, _, _ => h.elim
  | _ :: _, [], h, _, _, _ => h.elim
theorem Und.place : ∀ {L M : List P10}, Und L M → ∀ key, placeL L key = placeL M key
  | [], [], _, _ => rfl
  | x :: L, y :: M, ⟨h1, _, h⟩, key => by
    have ih := Und.place h key
    unfold placeL at *
    by_cases z : cmpT x.1 key < 0
    · rw [List.takeWhile_cons_of_pos (by simpa using z), List.takeWhile_cons_of_pos (by rw [← h1]; simpa using z), List.length_cons, List.length_cons, ih]
    · rw [List.takeWhile_cons_of_neg (by simpa using z), List.takeWhile_cons_of_neg (by rw [← h1]; simpa using z)]
  | [], _ :: _, h, _ => h.elim
  | _ :: _, [], h, _ => h.elim
theorem Und.has {L M : List P10} (h : Und L M) (key : ByteArray) : hasL L key = hasL M key := by
  unfold hasL
  rw [← h.place key]
  cases hm : L[placeL L key]? with
  | none =>
    have := List.getElem?_eq_none_iff.1 hm
    rw [List.getElem?_eq_none (by rw [← h.len]; exact this)]
  | some m =>
    obtain ⟨n, hn, e, _⟩ := h.at_ _ m hm
    rw [hn]
    dsimp only
    rw [e]
theorem Und.ins : ∀ {L M : List P10}, Und L M → ∀ (k : Nat) (x y : P10), x.1 = y.1 → x.2.2 ≤ y.2.2 → Und (insL L k x) (insL M k y)
  | [], [], _, k, x, y, h1, h2 => by
    unfold insL
    simp only [List.take_nil, List.drop_nil, List.nil_append, List.append_nil]
    exact ⟨h1, h2, trivial⟩
  | a :: L, b :: M, ⟨e1, e2, h⟩, k, x, y, h1, h2 => by
    cases k with
    | zero => exact ⟨h1, h2, e1, e2, h⟩
    | succ k => exact ⟨e1, e2, Und.ins h k x y h1 h2⟩
  | [], _ :: _, h, _, _, _, _, _ => h.elim
  | _ :: _, [], h, _, _, _, _, _ => h.elim
theorem Und.cnt : ∀ {L M : List P10}, Und L M → ∀ t, cntL L t ≤ cntL M t
  | [], [], _, _ => Nat.le_refl _
  | x :: L, y :: M, ⟨_, h2, h⟩, t => by
    have ih := Und.cnt h t
    unfold cntL at *
    by_cases z : (t : Int) < x.2.2
    · rw [List.filter_cons_of_pos (by simpa using z), List.filter_cons_of_pos (by simp; omega), List.length_cons, List.length_cons]
      omega
    · rw [List.filter_cons_of_neg (by simpa using z)]
      by_cases y' : (t : Int) < y.2.2
      · rw [List.filter_cons_of_pos (by simpa using y'), List.length_cons]
        omega
      · rw [List.filter_cons_of_neg (by simpa using y')]
        exact ih
  | [], _ :: _, h, _ => h.elim
  | _ :: _, [], h, _ => h.elim
theorem Und.put {sa sb : S10} (h : Und sa.L sb.L) (fa : sa.frozen = false) (fb : sb.frozen = false) (Ra : Rising sa.L) (Rb : Rising sb.L) (key v v' : ByteArray) (ha hb : Int) (hk : key.size ≤ 65536) (hv : v.size ≤ 65536) (hv' : v'.size ≤ 65536) (hh : clampH ha ≤ clampH hb) :
    Und (putL sa key v ha).2.L (putL sb key v' hb).2.L ∧ (putL sa key v ha).2.frozen = false ∧ (putL sb key v' hb).2.frozen = false := by
  obtain ⟨a1, _, _, a2⟩ := put_spec sa key v ha Ra fa hk hv
  obtain ⟨b1, _, _, b2⟩ := put_spec sb key v' hb Rb fb hk hv'
  refine ⟨?_, a1, b1⟩
  have e := h.has key
  rcases a2 with ⟨x1, _, x2⟩ | ⟨x1, _, x2, _⟩
  · rcases b2 with ⟨y1, _, y2⟩ | ⟨y1, _, y2, _⟩
    · rw [x2, y2]; exact h
    · rw [x1, y1] at e; cases e
  · rcases b2 with ⟨y1, _, y2⟩ | ⟨y1, _, y2, _⟩
    · rw [x1, y1] at e; cases e
    · rw [x2, y2]
      show Und (insL sa.L _ _) (insL sb.L _ _)
      rw [← h.place key]
      exact h.ins _ _ _ rfl hh
end Go.Proofs.Ytpkoiacenamccaa
