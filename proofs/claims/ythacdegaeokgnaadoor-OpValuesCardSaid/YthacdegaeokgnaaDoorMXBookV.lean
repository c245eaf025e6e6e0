/-
  The book of lists: versions lent, with a mark behind them, their vectors lent too; are they as they were?
-/
import Derived.Test.YthacdegaeokgnaaDoorMXLat2
import Derived.Test.YthacdegaeokgnaaDoorMXBook11
namespace Go.Proofs.YthacdegaeokgnaaDoor
open Go.RowKit

/-- The mark behind the versions. -/
def markR : VerR := ⟨⟨#[109, 97, 114, 107]⟩, none, 0, 0, 0, 0, 0, 0, 0, ⟨#[]⟩, []⟩
/-- The same version with a vector that stands elsewhere. -/
def VerR.at_ (r : VerR) (A : Option Addr) (n c : Nat) : VerR := { r with A := A, n := n, c := c }
theorem s6_at (r : VerR) (A : Option Addr) (n c : Nat) : s6 (r.at_ A n c) = s6 r := rfl
/-- u is r, but that its vector was lent. -/
def LentOf (w : World) (B : Nat) (u r : VerR) : Prop := ∃ A c, u = r.at_ A r.xs.length c ∧ LentV w B (.slice A r.xs.length c) r.xs
theorem cells_at (r : VerR) (A : Option Addr) (n c : Nat) : (r.at_ A n c).cells = r.cells.set 1 (.slice A n c) := rfl
theorem cellsV_set : ∀ (ws : List VerR) (k : Nat) (r : VerR) (A : Option Addr) (n c : Nat), ws[k]? = some r → (cellsV ws).set (k * 8 + 1) (.slice A n c) = cellsV (ws.set k (r.at_ A n c))
  | [], k, r, A, n, c, h => by simp at h
  | s :: ws, 0, r, A, n, c, h => by
    simp at h
    subst h
    unfold cellsV
    rw [List.set_cons_zero, List.flatMap_cons, List.flatMap_cons, cells_at, Nat.zero_mul, Nat.zero_add, List.set_append_left _ _ (by rw [cells_length]; decide)]
  | s :: ws, k + 1, r, A, n, c, h => by
    have ih := cellsV_set ws k r A n c (by simpa using h)
    unfold cellsV at ih ⊢
    rw [List.set_cons_succ, List.flatMap_cons, List.flatMap_cons, ← ih, List.set_append_right _ _ (by rw [cells_length]; omega), cells_length]
    congr 2
    omega
/-- One version's vector is put elsewhere. -/
theorem VRow.set_at {w : World} {B g N cap k : Nat} {e : TypeId} {ws : List VerR} {r : VerR} (h : VRow w B e (.slice (some ⟨g, 0, none⟩) N cap) ws) (hk : ws[k]? = some r) (A : Option Addr) (n c : Nat) :
    VRow (w.setCell ⟨g, k * 8 + 1, none⟩ (.slice A n c)) B e (.slice (some ⟨g, 0, none⟩) N cap) (ws.set k (r.at_ A n c)) := by
  have hkl : k < ws.length := (List.getElem?_eq_some_iff.1 hk).1
  refine ⟨by rw [cellsV_length], ?_⟩
  rcases h.2 with ⟨h', _⟩ | ⟨g', cap', cur, h', hB, hh, hnc, hcm, hsz, ht⟩
  · simp at h'
  · simp only [Value.slice.injEq, Option.some.injEq, Addr.mk.injEq, and_true] at h'
    obtain ⟨rfl, hN, rfl⟩ := h'
    have E : Blk w g e cur := hh
    refine Or.inr ⟨g, cap, cur.setIfInBounds (k * 8 + 1) (.slice A n c), by rw [List.length_set, hN], hB, E.set_ _ _, by rw [List.length_set]; exact hnc, hcm, by rw [Array.size_setIfInBounds]; exact hsz, ?_⟩
    rw [List.length_set, Array.toList_setIfInBounds, List.take_set, ht, cellsV_set ws k r A n c hk]
/-- What is lent stays where one cell of another kind of block turns. -/
theorem LentV.set_other {w : World} {B g i : Nat} {e : TypeId} {cur : Array Value} {v u : Value} {zs : List Int} (h : LentV w B v zs) (E : Blk w g e cur) (he : 3 ≠ e) : LentV (w.setCell ⟨g, i, none⟩ u) B v zs := by
  obtain ⟨k, c, rfl, hc, ho⟩ := h
  refine ⟨k, c, rfl, hc, ho.1, ?_⟩
  rcases ho.2 with ⟨h', _⟩ | ⟨g', cap, cu, h', hB, hh, hx⟩
  · simp at h'
  · have E2 : Blk w g' 3 cu := hh
    exact Or.inr ⟨g', cap, cu, h', hB, E2.far (Blk.ne_ E2 E he) u, hx⟩
/-- Lent versions: a row of the call's own, the mark behind it; of the first k the vectors are lent, the others are as they came. -/
structure LentN (w0 w : World) (B : Nat) (g cap k n : Nat) (us vs : List VerR) : Prop where
  len : us.length = n
  row : VRow w B 44 (.slice (some ⟨g, 0, none⟩) (n + 1) cap) (us ++ [markR])
  room : n + 1 ≤ cap
  done : ∀ j, j < k → LentOf w B (us.getD j VerR.zero) (vs.getD j VerR.zero)
  rest : ∀ j, k ≤ j → j < n → us.getD j VerR.zero = vs.getD j VerR.zero
  below : Below B w0 w
theorem LentOf.below {w w' : World} {B B' : Nat} {u r : VerR} (h : LentOf w B u r) (hb : Below B' w w') (hB : w.heap.size ≤ B') : LentOf w' B u r := by
  obtain ⟨A, c, rfl, hl⟩ := h
  exact ⟨A, c, rfl, hl.below hb hB⟩
theorem LentN.on {w0 w w' : World} {B g cap k n : Nat} {us vs : List VerR} (h : LentN w0 w B g cap k n us vs) (hw : B ≤ w0.heap.size) (hb : Below w.heap.size w w') : LentN w0 w' B g cap k n us vs :=
  ⟨h.len, VRow.below h.row hb (Nat.le_refl _), h.room, fun j hj => (h.done j hj).below hb (Nat.le_refl _), h.rest, h.below.trans (hb.mono (Nat.le_trans hw h.below.size))⟩
theorem getD_set {us : List VerR} {k j : Nat} {x : VerR} (hk : k < us.length) : (us.set k x).getD j VerR.zero = if k = j then x else us.getD j VerR.zero := by
  rw [List.getD_eq_getElem?_getD, List.getD_eq_getElem?_getD, List.getElem?_set]
  split
  · rfl
  · rfl
/-- One more of them is lent. -/
theorem LentN.next {w0 w : World} {B g cap k n : Nat} {us vs : List VerR} (h : LentN w0 w B g cap k n us vs) (hk : k < n) {A : Option Addr} {c : Nat} (hl : LentV w B (.slice A (vs.getD k VerR.zero).xs.length c) (vs.getD k VerR.zero).xs) :
    LentN w0 (w.setCell ⟨g, k * 8 + 1, none⟩ (.slice A (vs.getD k VerR.zero).xs.length c)) B g cap (k + 1) n (us.set k ((vs.getD k VerR.zero).at_ A (vs.getD k VerR.zero).xs.length c)) vs := by
  obtain ⟨hlen, hrow, hroom, hdone, hrest, hbel⟩ := h
  have hku : k < us.length := by omega
  have e0 : us.getD k VerR.zero = vs.getD k VerR.zero := hrest k (Nat.le_refl _) hk
  have e1 : (us ++ [markR])[k]? = some (vs.getD k VerR.zero) := by
    rw [List.getElem?_append_left hku, ← e0, List.getD_eq_getElem?_getD, List.getElem?_eq_getElem hku]; rfl
  have R := VRow.set_at hrow e1 A (vs.getD k VerR.zero).xs.length c
  rw [List.set_append_left _ _ hku] at R
  obtain ⟨cur, E, hB⟩ : ∃ cur, Blk w g 44 cur ∧ B ≤ g := by
    rcases hrow.2 with ⟨h', _⟩ | ⟨g', cap', cur, h', hB, hh, _⟩
    · simp at h'
    · simp only [Value.slice.injEq, Option.some.injEq, Addr.mk.injEq, and_true] at h'
      obtain ⟨rfl, _, _⟩ := h'
      exact ⟨cur, hh, hB⟩
  refine ⟨by rw [List.length_set]; exact hlen, R, hroom, fun j hj => ?_, fun j hj hjn => ?_, below_setCell hbel hB _⟩
  · rw [getD_set hku]
    by_cases e : k = j
    · subst e
      rw [if_pos rfl]
      exact ⟨A, c, rfl, hl.set_other E (by decide)⟩
    · rw [if_neg e]
      obtain ⟨A2, c2, h1, h2⟩ := hdone j (by omega)
      exact ⟨A2, c2, h1, h2.set_other E (by decide)⟩
  · rw [getD_set hku, if_neg (by omega)]
    exact hrest j (by omega) hjn
theorem LentV.base {w : World} {B B' : Nat} {v : Value} {zs : List Int} (h : LentV w B v zs) (hB : B' ≤ B) : LentV w B' v zs := by
  obtain ⟨k, c, rfl, hc, ho⟩ := h
  refine ⟨k, c, rfl, hc, ho.1, ?_⟩
  rcases ho.2 with h' | ⟨g', cap, cu, h', hb, hx⟩
  · exact Or.inl h'
  · exact Or.inr ⟨g', cap, cu, h', Nat.le_trans hB hb, hx⟩
theorem vrow_shape {w : World} {B n : Nat} {e : TypeId} {v : Value} {vs : List VerR} {r : VerR} (h : VRow w B e v (vs ++ [r])) (hl : vs.length = n) : ∃ g cap, v = .slice (some ⟨g, 0, none⟩) (n + 1) cap ∧ n + 1 ≤ cap ∧ cap ≤ maxLen := by
  have hlen : (vs ++ [r]).length = n + 1 := by simp [hl]
  rcases h.2 with ⟨_, h'⟩ | ⟨g, cap, cur, h', hB, hh, hnc, hcm, _⟩
  · omega
  · rw [hlen] at h' hnc
    exact ⟨g, cap, h', hnc, hcm⟩
theorem VRow.cell {w : World} {B g N cap : Nat} {e : TypeId} {ws : List VerR} (h : VRow w B e (.slice (some ⟨g, 0, none⟩) N cap) ws) {j k : Nat} (hj : j < ws.length) (hk : k < 8) : w.cell? ⟨g, j * 8 + k, none⟩ = (ws.getD j VerR.zero).cells[k]? := by
  have h2 := cellsV_at ws j k hj hk
  obtain ⟨u, hu⟩ : ∃ u, (cellsV ws)[j * 8 + k]? = some u := ⟨_, List.getElem?_eq_getElem (by rw [cellsV_length]; omega)⟩
  have h4 := World.ownsRow.cells (g := g) h rfl (j * 8 + k) u hu
  rw [Go.WideShapes.add_plain, Nat.zero_add] at h4
  rw [h4, ← h2, hu]
theorem VRow.frozen {w : World} {B g N cap : Nat} {e : TypeId} {ws : List VerR} (h : VRow w B e (.slice (some ⟨g, 0, none⟩) N cap) ws) (i : Nat) : w.frozen? ⟨g, i, none⟩ = false := by
  rcases h.2 with ⟨h', _⟩ | ⟨g', cap', cur, h', hB, hh, _⟩
  · simp at h'
  · simp only [Value.slice.injEq, Option.some.injEq, Addr.mk.injEq, and_true] at h'
    obtain ⟨rfl, _, _⟩ := h'
    have E : Blk w g e cur := hh
    exact E.frozen i

set_option maxRecDepth 100000 in
set_option maxHeartbeats 4000000 in
theorem lentvers_any (A : Option Addr) (n c : Nat) (vs : List VerR) (w : World) (I : VersIn w A n vs) (hn : n ≤ 1000) (hx : ∀ j, j < n → (vs.getD j VerR.zero).n ≤ 100000) :
    Calls Tryd.prog 28 #[.slice A n c] w fun e w' => ∃ g cap us, e = .returned (.slice (some ⟨g, 0, none⟩) n cap) ∧ LentN w w' w.heap.size g cap n n us vs := by
  have hlen := Lib.hid I.len
  have I := Lib.hid I
  have HN : Hid (n ≤ 100000) := by unfold Hid; omega
  have HN2 : Hid (vs.length ≤ 100000) := by rw [hlen.out]; exact HN
  have hn' : (n : Int) ≤ 1000 := by omega
  have HX := Lib.hid hx
  clear hx
  go_enter Tryd.func28, Tryd.ntmps28
  go_wp2_with (first
    | (at_builtin; refine wpList_append_vers0 _ rfl _ _ rfl rfl rfl I.out HN.out ?_; intro va wa R1 hc1)
    | (at_builtin; refine wpList_append_ver1 _ rfl _ _ rfl markR rfl (VRow.below R1 ((Below.refl _ wa).alloc (Nat.le_refl _) (.cells #[.string ⟨#[109, 97, 114, 107]⟩, .slice none 0 0, .int .i64 0, .int .i64 0, .int .i64 0, .float .f64 0, .int .i64 0, .string ⟨#[]⟩] 44)) (Nat.le_refl _)) wa.heap.size 1 rfl (Blk.new wa _ _) HN2.out (Nat.le_trans hc1.size (by simp)) ?_; intro v2 wb R2 g2; have hc2 := Lib.hid (VRow.grown (VRow.below R1 ((Below.refl _ wa).alloc (Nat.le_refl _) (.cells #[.string ⟨#[109, 97, 114, 107]⟩, .slice none 0 0, .int .i64 0, .int .i64 0, .int .i64 0, .float .f64 0, .int .i64 0, .string ⟨#[]⟩] 44)) (Nat.le_refl _)) (hc1.alloc hc1.size (.cells #[.string ⟨#[109, 97, 114, 107]⟩, .slice none 0 0, .int .i64 0, .int .i64 0, .int .i64 0, .float .f64 0, .int .i64 0, .string ⟨#[]⟩] 44)) (Nat.le_trans hc1.size (by simp)) g2); obtain ⟨g, cap, rfl, hcap, hmx⟩ := vrow_shape R2 hlen.out; have R2 := Lib.hid R2; have hcap1 : (n : Int) ≤ (cap : Int) := (by omega); have hcap2 : n ≤ cap := (by omega); clear g2 R1 hc1))
  go_loopw [4] (fun i wx => ∃ (k : Nat) (us : List VerR), k ≤ n ∧ i = .int .i64 (k : Int) ∧ Hid (LentN w wx w.heap.size g cap k n us vs)) (fun i _ => n - (intOf i).toNat)
  case atStart => exact ⟨0, vs, by omega, rfl, hlen.out, R2.out, hcap, fun j hj => absurd hj (by omega), fun _ _ _ => rfl, hc2.out⟩
  case round =>
    obtain ⟨k, us, hk, rfl, HL⟩ := hrel
    by_cases hkn : k < n
    · obtain ⟨r, hr⟩ : ∃ r, vs.getD k VerR.zero = r := ⟨_, rfl⟩
      have IX := I.out.below HL.out.below
      obtain ⟨b, off, rfl, _, hc⟩ := IX.some (by omega)
      obtain ⟨d0, d1, d2, d3, d4, d5, d6, d7⟩ := VersIn.at_ hc hkn hr
      have RI : Hid (IntsIn wr r.A r.n r.xs) := by rw [← hr]; exact (IX.each k hkn).ints
      have hrn : Hid (r.n ≤ 100000) := by rw [← hr]; exact HX.out k hkn
      have hkn' : (k : Int) < (n : Int) := by omega
      have HR := Lib.hid hr
      clear hc hr IX d0 d2 d3 d4 d5 d6 d7
      go_wp2_with fail
      refine (lent_any r.A r.n r.c r.xs wr RI.out hrn.out).mono ?_
      rintro e w2 ⟨v, rfl, hl, g2⟩
      have HL2 := Lib.hid (HL.out.on (Nat.le_refl _) g2)
      have hl2 := hl.base HL.out.below.size
      obtain ⟨gv, cv, rfl, _, _⟩ := id hl
      have k1 := VRow.cell HL2.out.row (j := k) (k := 1) (by rw [List.length_append, HL2.out.len]; omega) (by decide)
      obtain ⟨u0, hu0⟩ : ∃ u0, w2.cell? ⟨g, k * 8 + 1, none⟩ = some u0 := ⟨_, k1.trans (List.getElem?_eq_getElem (by rw [cells_length]; decide))⟩
      have f0 := VRow.frozen HL2.out.row (k * 8 + 1)
      have hlx : Hid (LentV w2 w.heap.size (.slice (some ⟨gv, 0, none⟩) (vs.getD k VerR.zero).xs.length cv) (vs.getD k VerR.zero).xs) := by rw [HR.out]; exact hl2
      have HL3 := Lib.hid (HL2.out.next hkn hlx.out)
      rw [HR.out] at HL3
      clear k1 hl hl2 hlx HL2 g2 d1
      go_wp2_with fail
      go_roundw
      case rel => exact ⟨k + 1, _, by omega, by go_num, HL3⟩
      case measure => simp [intOf]; omega
    · obtain rfl : k = n := by omega
      have hnn : ¬ (k : Int) < (k : Int) := by omega
      go_wp2_with fail
      go_ret
      exact ⟨_, _, rfl, _, HL.out⟩
end Go.Proofs.YthacdegaeokgnaaDoor
