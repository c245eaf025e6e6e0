/-
  Several texts in one: The document's own answer to chapter 12, part 6: Bloom.
  What a filter that was built tells (no program is named).
  Tables, as plain values, 7: the bytes of a table; what Open reads of any bytes (no program is named).
  Tables, as plain values, 8: where a key's head ends; the place of a key among pairs (no program is named).
  The landed package merge, part 10: a key's head; how many bytes pairs have; groups, as plain lists and as they lie.
  The landed package merge, part 11: lists of lists that grow; how many bytes pairs have.
  The landed package merge, part 12: Group.
  Slices of structs of two whole numbers and two texts that came in: what a walk asks of them, out of how they read. No program is named.
  Slices of pairs of texts that came in: what a walk asks of them, out of how they read. No program is named.
  Are pairs few and short enough? (as the laws of chapter 11 ask; no package block named)
  The landed package merge, part 11b: how many bytes pairs have.
  The landed package merge, part 13: Split.
  The laws of chapter 16: their first call.
  Slices of slices of pairs of texts that came in: what a walk asks of them, out of how they read. Are they light?
  Are two lists of pairs alike? (of rows that can be read)
  What is merged in another grouping is the same (plain); lists that were merged, as an argument again.
  The last step of a law's row: the call leaves all that was there as it was.
  'There is an input that fits' for a row with a condition and listed variables, at a world whose shape is shown as one likes. No program is named.
-/
import Derived.Test.YteackdafggomhaaM3
import Derived.StillTailTactics
import Derived.Deep.RegionHeld3
import Derived.LoopTactic
import Derived.Deep.CutBlock
import Derived.Deep.CutRange
import Derived.Lib.Index
import Derived.Test.YteackdafggomhaaM2
import Derived.Test.YteackdafggomhaaM1
import Derived.Deep.RegionLaw
import Derived.Deep.DeepCutAuto
import Derived.Lib.SmallJoins
import Derived.Deep.Slices
import Derived.Deep.Strs
import Derived.SizedLaws
import Derived.Laws.IdiomArrays
import Derived.Below
import Derived.ChangeSame
import Derived.ProofKit
import Derived.Test.YteackdafggomhaaRows
import Derived.Deep.DeepHandedRow
namespace Go.Proofs.Yteackdafggomhaa
open Go.RowKit

/-- A byte of a filter in a cell. -/
def cU (v : Nat) : Value := .int .u8 (v : Int)
theorem bit_or : ∀ j : Nat, j < 8 → ∀ c : Nat, c < 256 → bits .or .u8 (c : Int) ((2 : Int) ^ j % 256) = ((c ||| 2 ^ j : Nat) : Int) := by decide +kernel
/-- A filter as a text. -/
def filterT (hs : List Nat) (n k : Nat) : ByteArray := ⟨((filterL hs n k ++ [k]).map UInt8.ofNat).toArray⟩
/-- What Bloom answers. -/
def bloomT (keys : List ByteArray) (x : Nat) : ByteArray := filterT (keys.map fun s => crc s.data.toList) (sizeN (keys.length : Int) x) (probesN x)
theorem madeU (n : Nat) : (madeCells #[Value.int IntKind.u8 0] n).toList = (List.replicate n 0).map cU := (toList_madeCells_one _ _).trans (by simp [cU])

theorem own_setB {w : World} {B p i n : Nat} {e : TypeId} {v : Value} {xs : List Value} {sz : Nat} (h : w.ownsRow B e sz v n xs) (hp : v.ownBlock = none ∨ v.ownBlock ≠ some p) (u : Value) : (w.setCell ⟨p, i, none⟩ u).ownsRow B e sz v n xs :=
  World.ownsRow.kept (row := some p) h (only_setCell (World.grownBy.refl _ _) (Or.inl rfl) u) hp
/-- What a call leaves of a row that lay ahead of it. -/
theorem own_upB {w w' : World} {B n sz : Nat} {e : TypeId} {v : Value} {xs : List Value} (h : w.ownsRow B e sz v n xs) (hb : Below w.heap.size w w') : w'.ownsRow B e sz v n xs :=
  (Tn.of_below (B := 0) (T := fun _ => false) hb).own h (fun _ _ => rfl)
/-- A filter as it lies. -/
def FilAt (w : World) (B g z : Nat) (M : List Nat) : Prop := w.ownsRow B 5 1 (.slice (some ⟨g, 0, none⟩) z z) z (M.map cU)
theorem set_map (M : List Nat) (q y : Nat) : (M.map cU).set q (cU y) = (M.set q y).map cU := (List.map_set).symm
theorem fill_snoc (M : List Nat) (n k h : Nat) (hs : List Nat) : fillL M n k (hs ++ [h]) = (placesH h n k).foldl markL (fillL M n k hs) := by
  unfold fillL
  rw [List.foldl_append]
  rfl
end Go.Proofs.Yteackdafggomhaa

namespace Go.Proofs.Yteackdafggomhaa
open Go.RowKit Ieee

theorem filterT_size (hs : List Nat) (n k : Nat) : (filterT hs n k).size = n + 1 := by
  show ((filterL hs n k ++ [k]).map UInt8.ofNat).toArray.size = n + 1
  simp [filterL_length]
theorem hasB_snoc (L : List Nat) (k p : Nat) (h : p / 8 < L.length) : hasB (L ++ [k]) p = hasB L p := by
  unfold hasB
  rw [List.getD_eq_getElem?_getD, List.getD_eq_getElem?_getD, List.getElem?_append_left h]
/-- What May tells of a filter that was built. -/
theorem may_filter (hs : List Nat) (z k h : Nat) (hz : 1 ≤ z) (hk : 1 ≤ k) (hk2 : k ≤ 30) : mayT (filterT hs z k) h = mayL (filterL hs z k) h z k := by
  have hsz := filterT_size hs z k
  have hd : (filterT hs z k).data.toList = (filterL hs z k ++ [k]).map UInt8.ofNat := by unfold filterT; simp
  have hn : ((filterL hs z k ++ [k]).map UInt8.ofNat).map UInt8.toNat = filterL hs z k ++ [k] := by
    rw [List.map_map]
    have hall : ∀ x ∈ filterL hs z k ++ [k], (UInt8.toNat ∘ UInt8.ofNat) x = x := fun x hx => by
      have hx2 : x < 256 := by
        rcases List.mem_append.1 hx with h1 | h1
        · exact filterL_byte hs z k x h1
        · rw [List.mem_singleton] at h1; omega
      show (UInt8.ofNat x).toNat = x
      rw [UInt8.toNat_ofNat', Nat.mod_eq_of_lt hx2]
    rw [List.map_congr_left hall, List.map_id']
  have hlast : (((filterL hs z k ++ [k]).map UInt8.ofNat).getD z 0).toNat = k := by
    have hl := filterL_length hs z k
    rw [List.getD_eq_getElem?_getD, List.getElem?_map, List.getElem?_append_right (by omega), hl, Nat.sub_self]
    show (UInt8.ofNat k).toNat = k
    rw [UInt8.toNat_ofNat', Nat.mod_eq_of_lt (by omega)]
  unfold mayT
  rw [hsz, if_neg (by omega), show z + 1 - 1 = z from by omega, hd, hlast, if_neg (by omega), hn]
  unfold mayL
  rw [Bool.eq_iff_iff, List.all_eq_true, List.all_eq_true]
  have hh : ∀ p ∈ placesH h z k, hasB (filterL hs z k ++ [k]) p = hasB (filterL hs z k) p := fun p hp => by
    have := placesP_lt _ _ (by omega) _ _ p hp
    exact hasB_snoc _ _ _ (by rw [filterL_length]; omega)
  constructor
  · intro h1 p hp; rw [← hh p hp]; exact h1 p hp
  · intro h1 p hp; rw [hh p hp]; exact h1 p hp
/-- Of each key that was built in. -/
theorem may_built (L : List ByteArray) (x : Nat) (s : ByteArray) (hs : s ∈ L) : mayT (bloomT L x) (crc s.data.toList) = true := by
  have z1 := sizeN_ge (L.length : Int) x
  unfold bloomT
  rw [may_filter _ _ _ _ (by omega) (probesN_ge x) (probesN_le x)]
  exact may_member _ _ _ _ (by omega) (List.mem_map.2 ⟨s, hs, rfl⟩)
end Go.Proofs.Yteackdafggomhaa

namespace Go.Proofs.Yteackdafggomhaa
open Go.RowKit

/-- The blocks, one behind the other; how long each is. -/
def catB (G : List (List KV)) : List UInt8 := G.flatMap blkL
def idxB (G : List (List KV)) : List UInt8 := G.flatMap fun g => be (blkL g).length 4
/-- All ahead of a table's sum. -/
def tabB (G : List (List KV)) (F : ByteArray) : List UInt8 := catB G ++ (bl F ++ (idxB G ++ be G.length 4))
def tabL (G : List (List KV)) (F : ByteArray) : List UInt8 := tabB G F ++ be (crc (tabB G F)) 4
theorem catB_snoc (G : List (List KV)) (g : List KV) : catB (G ++ [g]) = catB G ++ blkL g := by unfold catB; rw [List.flatMap_append]; simp
theorem idxB_snoc (G : List (List KV)) (g : List KV) : idxB (G ++ [g]) = idxB G ++ be (blkL g).length 4 := by unfold idxB; rw [List.flatMap_append]; simp
theorem idxB_length (G : List (List KV)) : (idxB G).length = 4 * G.length := by
  induction G with
  | nil => rfl
  | cons g r ih =>
    unfold idxB at ih ⊢
    rw [List.flatMap_cons, List.length_append, be_length, ih, List.length_cons]
    omega
theorem sumK_append (l r : List KV) : sumK (l ++ r) = sumK l + sumK r := by
  induction l with
  | nil => simp [sumK]
  | cons x l ih => rw [List.cons_append, sumK, sumK, ih]; omega
theorem longK_append (l r : List KV) : longK (l ++ r) = (longK l || longK r) := by unfold longK; rw [List.any_append]
theorem flatten_len {G : List (List KV)} (h : ∀ g ∈ G, g ≠ []) : G.length ≤ G.flatten.length := by
  induction G with
  | nil => exact Nat.le_refl _
  | cons g r ih =>
    have h1 := ih (fun x hx => h x (List.mem_cons_of_mem _ hx))
    have h2 := List.length_pos_iff.2 (h g (List.mem_cons_self ..))
    rw [List.flatten_cons, List.length_append, List.length_cons]
    omega
theorem catB_length {G : List (List KV)} (h : longK G.flatten = false) : (catB G).length ≤ 8 * G.length + sumK G.flatten := by
  induction G with
  | nil => exact Nat.zero_le _
  | cons g r ih =>
    rw [List.flatten_cons, longK_append, Bool.or_eq_false_iff] at h
    have h1 := ih h.2
    have h2 := (blk_bounds h.1).1
    unfold catB at h1 ⊢
    rw [List.flatMap_cons, List.length_append, List.flatten_cons, sumK_append, List.length_cons]
    omega

/-- A block's pairs behind those that a table has. -/
def addB (l : List KV) (b : ByteArray) : Option (List KV) :=
  match sParse b with
  | none => none
  | some [] => none
  | some (m :: r) => match l[l.length - 1]? with
    | none => some (l ++ m :: r)
    | some a => if cmpT a.1 m.1 < 0 then some (l ++ m :: r) else none
/-- So many blocks, their sizes told by x, taken from s. -/
def addsB : Nat → ByteArray → ByteArray → List KV → Option (List KV × ByteArray)
  | 0, _, s, l => some (l, s)
  | n + 1, x, s, l => if s.size < getL (bl (x.extract 0 4)) then none else
    match addB l (s.extract 0 (getL (bl (x.extract 0 4)))) with
    | none => none
    | some l' => addsB n (x.extract 4 x.size) (s.extract (getL (bl (x.extract 0 4))) s.size) l'
/-- What Open reads: the pairs, how many blocks, the filter. -/
def readT2 (n : Nat) (s2 : ByteArray) : Option (List KV × Nat × ByteArray) :=
  if s2.size < 4 * n then none else
  match addsB n (s2.extract (s2.size - 4 * n) s2.size) (s2.extract 0 (s2.size - 4 * n)) [] with
  | none => none
  | some (l, s) => if l = [] then none else if (l.all fun m => mayT s (crc (bl (headT m.1)))) = true then some (l, n, s) else none
def readT (b : ByteArray) : Option (List KV × Nat × ByteArray) :=
  if b.size < 4 then none else
  if getL (bl (b.extract (b.size - 4) b.size)) ≠ crc (bl (b.extract 0 (b.size - 4))) then none else
  if b.size - 4 < 4 then none else
  readT2 (getL (bl ((b.extract 0 (b.size - 4)).extract (b.size - 4 - 4) (b.size - 4)))) ((b.extract 0 (b.size - 4)).extract 0 (b.size - 4 - 4))

theorem sParse_len {b : ByteArray} {l : List KV} (h : sParse b = some l) : l.length ≤ b.size ∧ longK l = false ∧ risesK l = true := by
  obtain ⟨h1, h2, h3, h4⟩ := buildP_ok (sParse_some h)
  refine ⟨?_, h2, h1⟩
  have h5 := body_count l 0 []
  have h6 := blkL_length l
  rw [h4, size_mk]
  omega
theorem addB_ok {l l' : List KV} {b : ByteArray} (h : addB l b = some l') (hl : risesK l = true) (hs : longK l = false) : risesK l' = true ∧ longK l' = false ∧ l'.length ≤ l.length + b.size ∧ l' ≠ [] := by
  unfold addB at h
  split at h
  · cases h
  · cases h
  · rename_i m r hp
    obtain ⟨c1, c2, c3⟩ := sParse_len hp
    split at h
    · rename_i hn
      cases h
      have : l = [] := by
        cases l with
        | nil => rfl
        | cons a l =>
          rw [List.getElem?_eq_getElem (by simp)] at hn
          cases hn
      subst this
      exact ⟨c3, c2, by simpa using c1, by simp⟩
    · rename_i a ha
      split at h
      · rename_i hc
        cases h
        refine ⟨rises_join hl c3 fun x y hx hy => ?_, by rw [longK_append, hs, c2]; rfl, by rw [List.length_append]; omega, by simp⟩
        rw [ha] at hx
        cases hx
        cases hy
        exact hc
      · cases h
theorem addsB_ok : ∀ (n : Nat) (x s : ByteArray) (l l' : List KV) (s' : ByteArray), addsB n x s l = some (l', s') → risesK l = true → longK l = false → risesK l' = true ∧ longK l' = false ∧ l'.length + s'.size ≤ l.length + s.size
  | 0, x, s, l, l', s', h, hl, hs => by
    cases h
    exact ⟨hl, hs, Nat.le_refl _⟩
  | n + 1, x, s, l, l', s', h, hl, hs => by
    rw [addsB] at h
    generalize getL (bl (x.extract 0 4)) = k at h
    split at h
    · cases h
    · rename_i hk
      split at h
      · cases h
      · rename_i q hq
        obtain ⟨d1, d2, d3, _⟩ := addB_ok hq hl hs
        obtain ⟨e1, e2, e3⟩ := addsB_ok n _ _ _ _ _ h d1 d2
        refine ⟨e1, e2, ?_⟩
        rw [ByteArray.size_extract] at d3 e3
        omega
theorem readT_ok {b : ByteArray} {l : List KV} {n : Nat} {s : ByteArray} (h : readT b = some (l, n, s)) : fitsB b ∧ risesK l = true ∧ longK l = false ∧ l ≠ [] ∧ l.length + s.size ≤ b.size := by
  unfold readT at h
  split at h
  · cases h
  · rename_i h1
    split at h
    · cases h
    · rename_i h2
      split at h
      · cases h
      · generalize getL (bl ((b.extract 0 (b.size - 4)).extract (b.size - 4 - 4) (b.size - 4))) = k at h
        have hz : ((b.extract 0 (b.size - 4)).extract 0 (b.size - 4 - 4)).size ≤ b.size := by simp; omega
        generalize (b.extract 0 (b.size - 4)).extract 0 (b.size - 4 - 4) = s2 at h hz
        unfold readT2 at h
        split at h
        · cases h
        · split at h
          · cases h
          · rename_i l1 s1 ha
            split at h
            · cases h
            · rename_i hne
              split at h
              · cases h
                obtain ⟨e1, e2, e3⟩ := addsB_ok _ _ _ _ _ _ ha rfl rfl
                refine ⟨?_, e1, e2, hne, ?_⟩
                · have h2 := Classical.not_not.1 h2
                  rw [fits_iff b (by omega)]
                  have d1 := bl_drop b (b.size - 4)
                  have d2 := bl_take b (b.size - 4) (by omega)
                  rw [← d1, ← d2, ← h2]
                  refine (be_getL4 _ ?_).symm
                  rw [d1, List.length_drop, bl_len]
                  omega
                · rw [ByteArray.size_extract] at e3
                  simp at e3
                  omega
              · cases h
/-- Bytes whose sum does not fit are none. -/
theorem readT_unfit {b : ByteArray} (h : ¬ fitsB b) : readT b = none := by
  cases hr : readT b with
  | none => rfl
  | some x =>
    obtain ⟨l, n, s⟩ := x
    exact absurd (readT_ok hr).1 h

theorem adds_groups : ∀ (G : List (List KV)) (P : List KV) (x s : ByteArray) (F : ByteArray), bl x = idxB G → bl s = catB G ++ bl F → (∀ g ∈ G, g ≠ [] ∧ longK g = false ∧ (blkL g).length ≤ 524288) → risesK (P ++ G.flatten) = true →
    addsB G.length x s P = some (P ++ G.flatten, F)
  | [], P, x, s, F, _, hs, _, _ => by
    rw [show s = F from bl_inj hs]
    simp [addsB]
  | g :: G, P, x, s, F, hx, hs, hg, hR => by
    obtain ⟨g1, g2, g3⟩ := hg g (List.mem_cons_self ..)
    have hx' : bl x = be (blkL g).length 4 ++ idxB G := hx
    have hs' : bl s = blkL g ++ (catB G ++ bl F) := by rw [hs]; unfold catB; rw [List.flatMap_cons, List.append_assoc]
    have hxl : x.size = 4 + 4 * G.length := by rw [← bl_len, hx', List.length_append, be_length, idxB_length]
    have hsl : s.size = (blkL g).length + (catB G ++ bl F).length := by rw [← bl_len, hs', List.length_append]
    have h4 : bl (x.extract 0 4) = be (blkL g).length 4 := by rw [bl_take x 4 (by omega), hx']; exact List.take_left' (be_length _ _)
    have hk : getL (bl (x.extract 0 4)) = (blkL g).length := by rw [h4]; exact getL_be4 _ (by omega)
    have hR2 : risesK ((P ++ g) ++ G.flatten) = true := by rw [List.append_assoc]; rw [List.flatten_cons] at hR; exact hR
    have hPg := (rises_both hR2).1
    have hgr := (rises_both hPg).2
    have hb : buildP g = (⟨(blkL g).toArray⟩, 0) := by
      unfold buildP
      rw [if_neg (by rw [hgr]; decide), if_neg (by rw [g2]; decide), if_neg (by omega)]
    have hse : s.extract 0 (blkL g).length = ⟨(blkL g).toArray⟩ := bl_inj (by rw [bl_take s _ (by omega), hs', bl_mk]; exact List.take_left)
    have hadd : addB P (s.extract 0 (blkL g).length) = some (P ++ g) := by
      obtain ⟨m, r, rfl⟩ := List.exists_cons_of_ne_nil g1
      unfold addB
      rw [hse, sParse_of hb]
      dsimp only
      split
      · rfl
      · rename_i a ha
        rw [if_pos]
        have hPl := (List.getElem?_eq_some_iff.1 ha).1
        exact rises_get hPg (show P.length - 1 < P.length by omega) (by rw [List.getElem?_append_left hPl]; exact ha) (by rw [List.getElem?_append_right (Nat.le_refl _), Nat.sub_self]; rfl)
    rw [List.length_cons, addsB, hk, if_neg (by omega), hadd]
    dsimp only
    rw [adds_groups G (P ++ g) _ _ F ?_ ?_ (fun y hy => hg y (List.mem_cons_of_mem _ hy)) hR2, List.append_assoc, List.flatten_cons]
    · rw [bl_drop, hx']; exact List.drop_left' (be_length _ _)
    · rw [bl_drop, hs']; exact List.drop_left
/-- What Write tells is read as it was. -/
theorem readT_tab {L : List KV} {G : List (List KV)} {F b : ByteArray} (hb : bl b = tabL G F) (hall : G.flatten = L) (hne : L ≠ []) (hG : ∀ g ∈ G, g ≠ [] ∧ longK g = false ∧ (blkL g).length ≤ 524288) (hR : risesK L = true) (hn : G.length < 4294967296)
    (hF : ∀ m ∈ L, mayT F (crc (bl (headT m.1))) = true) : readT b = some (L, G.length, F) := by
  have hbl : b.size = (tabB G F).length + 4 := by rw [← bl_len, hb]; unfold tabL; rw [List.length_append, be_length]
  have htl : (tabB G F).length = (catB G ++ bl F).length + 4 * G.length + 4 := by
    unfold tabB
    simp only [List.length_append, be_length, idxB_length]
    omega
  have e1 : b.size - 4 = (tabB G F).length := by omega
  have e2 : b.size - 4 - 4 = (catB G ++ bl F ++ idxB G).length := by rw [List.length_append, idxB_length]; omega
  have tb : tabB G F = (catB G ++ bl F ++ idxB G) ++ be G.length 4 := by unfold tabB; simp only [List.append_assoc]
  have t1 : bl (b.extract 0 (b.size - 4)) = tabB G F := by rw [bl_take b _ (by omega), e1, hb]; exact List.take_left
  have t2 : bl (b.extract (b.size - 4) b.size) = be (crc (tabB G F)) 4 := by rw [bl_drop, e1, hb]; exact List.drop_left
  have z1 : (b.extract 0 (b.size - 4)).size = b.size - 4 := by simp
  have t3 : bl ((b.extract 0 (b.size - 4)).extract (b.size - 4 - 4) (b.size - 4)) = be G.length 4 := by
    have := bl_drop (b.extract 0 (b.size - 4)) (b.size - 4 - 4)
    rw [z1] at this
    rw [this, t1, e2, tb]
    exact List.drop_left
  have t4 : bl ((b.extract 0 (b.size - 4)).extract 0 (b.size - 4 - 4)) = catB G ++ bl F ++ idxB G := by
    rw [bl_take _ _ (by omega), t1, e2, tb]
    exact List.take_left
  unfold readT
  rw [if_neg (by omega), t2, t1, getL_be4 _ (crc_lt _), if_neg (fun h => h rfl), if_neg (by omega), t3, getL_be4 _ hn]
  generalize (b.extract 0 (b.size - 4)).extract 0 (b.size - 4 - 4) = s2 at t4
  have z2 : s2.size = (catB G ++ bl F).length + 4 * G.length := by rw [← bl_len, t4, List.length_append, idxB_length]
  have e3 : s2.size - 4 * G.length = (catB G ++ bl F).length := by omega
  have t5 : bl (s2.extract (s2.size - 4 * G.length) s2.size) = idxB G := by rw [bl_drop, e3, t4]; exact List.drop_left
  have t6 : bl (s2.extract 0 (s2.size - 4 * G.length)) = catB G ++ bl F := by rw [bl_take s2 _ (by omega), e3, t4]; exact List.take_left
  unfold readT2
  rw [if_neg (by omega), adds_groups G [] _ _ F t5 t6 hG (by rw [List.nil_append, hall]; exact hR), List.nil_append, hall]
  dsimp only
  rw [if_neg hne, if_pos (List.all_eq_true.2 fun m hm => hF m hm)]
end Go.Proofs.Yteackdafggomhaa

namespace Go.Proofs.Yteackdafggomhaa
open Go.RowKit

/-- A head ends behind the first 0 and 1. -/
theorem head_index : ∀ l : List UInt8, (Lib.index l [0, 1] = -1 ∧ headN l = l.length) ∨ ∃ k : Nat, Lib.index l [0, 1] = (k : Int) ∧ headN l = k + 2 ∧ k + 2 ≤ l.length
  | [] => Or.inl ⟨rfl, rfl⟩
  | [b] => Or.inl ⟨by unfold Lib.index; simp [Lib.index, List.isPrefixOf], rfl⟩
  | b :: c :: r => by
    have hi : Lib.index (b :: c :: r) [0, 1] = if [0, 1].isPrefixOf (b :: c :: r) then 0 else if Lib.index (c :: r) [0, 1] == -1 then -1 else Lib.index (c :: r) [0, 1] + 1 := rfl
    have hp : List.isPrefixOf [0, 1] (b :: c :: r) = decide (b = 0 ∧ c = 1) := by
      simp only [List.isPrefixOf, Bool.and_true]
      by_cases h1 : b = 0
      · by_cases h2 : c = 1
        · rw [h1, h2]; rfl
        · rw [decide_eq_false (fun h => h2 h.2), h1]
          have : ((1 : UInt8) == c) = false := beq_eq_false_iff_ne.2 (fun e => h2 e.symm)
          rw [this]; rfl
      · rw [decide_eq_false (fun h => h1 h.1)]
        have : ((0 : UInt8) == b) = false := beq_eq_false_iff_ne.2 (fun e => h1 e.symm)
        rw [this]; rfl
    rw [hi, hp, headN]
    by_cases h : b = 0 ∧ c = 1
    · right
      rw [decide_eq_true h, if_pos rfl, if_pos h]
      exact ⟨0, rfl, rfl, by simp⟩
    · rw [decide_eq_false h, if_neg (by decide), if_neg h]
      rcases head_index (c :: r) with ⟨h1, h2⟩ | ⟨k, h1, h2, h3⟩
      · left
        rw [h1, h2]
        exact ⟨rfl, rfl⟩
      · right
        have h4 : (Lib.index (c :: r) [0, 1] == -1) = false := by rw [h1, beq_eq_false_iff_ne]; omega
        refine ⟨k + 1, by rw [h4, h1]; simp, by rw [h2], by simp at h3 ⊢; omega⟩

/-- Ahead of place i the lesser keys stand, from it on the others. -/
structure IsPos (L : List KV) (key : ByteArray) (i : Nat) : Prop where
  le : i ≤ L.length
  low : ∀ t m, t < i → L[t]? = some m → cmpT m.1 key < 0
  high : ∀ t m, i ≤ t → L[t]? = some m → 0 ≤ cmpT m.1 key
theorem IsPos.filter {L : List KV} {key : ByteArray} {i : Nat} (h : IsPos L key i) : L.filter (fun m => decide (0 ≤ cmpT m.1 key)) = L.drop i := by
  conv => lhs; rw [← List.take_append_drop i L]
  rw [List.filter_append]
  have h1 : (L.take i).filter (fun m => decide (0 ≤ cmpT m.1 key)) = [] := by
    rw [List.filter_eq_nil_iff]
    intro m hm
    obtain ⟨t, ht⟩ := List.mem_iff_getElem?.1 hm
    have hti : t < i := by
      have := (List.getElem?_eq_some_iff.1 ht).1
      rw [List.length_take] at this
      omega
    rw [List.getElem?_take_of_lt hti] at ht
    have := h.low t m hti ht
    simp
    omega
  have h2 : (L.drop i).filter (fun m => decide (0 ≤ cmpT m.1 key)) = L.drop i := by
    rw [List.filter_eq_self]
    intro m hm
    obtain ⟨t, ht⟩ := List.mem_iff_getElem?.1 hm
    rw [List.getElem?_drop] at ht
    exact decide_eq_true (h.high (i + t) m (by omega) ht)
  rw [h1, h2, List.nil_append]
theorem IsPos.from_ {L : List KV} {key : ByteArray} {i : Nat} (h : IsPos L key i) (most : Int) : fromK L key most = if most < 0 then L.drop i else (L.drop i).take most.toNat := by
  unfold fromK
  rw [h.filter]
theorem toList_eq_iff (a b : ByteArray) : (a.toList == b.toList) = decide (cmpT a b = 0) := by
  rw [Lib.toList_data, Lib.toList_data]
  by_cases h : cmpT a b = 0
  · rw [decide_eq_true h, (cmpT_eq a b).1 h]
    exact beq_self_eq_true _
  · rw [decide_eq_false h, beq_eq_false_iff_ne]
    intro e
    exact h ((cmpT_eq a b).2 (bl_inj e))
theorem IsPos.get {L : List KV} {key : ByteArray} {i : Nat} (h : IsPos L key i) : getK L key = match L[i]? with
    | some m => if cmpT m.1 key = 0 then (m.2, 0) else (⟨#[]⟩, 22)
    | none => (⟨#[]⟩, 22) := by
  unfold getK
  rw [h.from_ 1, if_neg (by decide)]
  cases hm : L[i]? with
  | none =>
    have : L.drop i = [] := List.drop_eq_nil_of_le (by rw [List.getElem?_eq_none_iff] at hm; exact hm)
    rw [this]
    rfl
  | some m =>
    obtain ⟨h1, h2⟩ := List.getElem?_eq_some_iff.1 hm
    rw [List.drop_eq_getElem_cons h1, h2]
    show (if (m.1.toList == key.toList) = true then (m.2, (0 : Int)) else (⟨#[]⟩, 22)) = _
    rw [toList_eq_iff]
    dsimp only
    by_cases h3 : cmpT m.1 key = 0
    · rw [if_pos h3, decide_eq_true h3, if_pos rfl]
    · rw [if_neg h3, decide_eq_false h3, if_neg (by decide)]
/-- In keys that rise, all behind one that is no lesser are no lesser; all ahead of a lesser one are lesser. -/
theorem rises_low {L : List KV} (hR : risesK L = true) {key : ByteArray} {i : Nat} {a : KV} (ha : L[i]? = some a) (h : cmpT a.1 key < 0) : ∀ t m, t ≤ i → L[t]? = some m → cmpT m.1 key < 0 := by
  intro t m ht hm
  rcases Nat.lt_or_eq_of_le ht with h1 | h1
  · exact cmpT_trans (rises_get hR h1 hm ha) h
  · subst h1
    rw [ha] at hm
    cases hm
    exact h
theorem rises_high {L : List KV} (hR : risesK L = true) {key : ByteArray} {i : Nat} {a : KV} (ha : L[i]? = some a) (h : 0 ≤ cmpT a.1 key) : ∀ t m, i ≤ t → L[t]? = some m → 0 ≤ cmpT m.1 key := by
  intro t m ht hm
  refine Int.not_lt.1 fun hc => ?_
  have := rises_low hR hm hc i a ht ha
  omega
end Go.Proofs.Yteackdafggomhaa

namespace Go.Proofs.Yteackdafggomhaa
open Go.RowKit

/-- The variable that searching texts reads, as it lies. -/
structure LaidH (w : World) : Prop where
  most : ∃ m, w.cell? ⟨0, 0, none⟩ = some (.int .i64 m)
theorem LaidH.on {w w' : World} (h : LaidH w) (hb : Below w.heap.size w w') : LaidH w' := by
  obtain ⟨m, hm⟩ := h.most
  exact ⟨m, (hb.cell (p := ⟨0, 0, none⟩) (lt_of_cell hm)).trans hm⟩
set_option maxRecDepth 100000 in
set_option maxHeartbeats 2000000 in
theorem mhead_any (s : ByteArray) (w : World) (hs : s.size ≤ 4294967000) (hT : LaidH w) :
    Calls Try.prog 21 #[.string s] w fun e w' => e = .returned (.string (headT s)) ∧ w' = w := by
  obtain ⟨m, hm⟩ := hT.most
  have C : Calls Try.prog 27 #[.string s, .string ⟨#[0, 1]⟩] w fun e w' => e = .returned (.int .i64 (Lib.index (bl s) [0, 1])) ∧ w' = w := Try.strings_Index s ⟨#[0, 1]⟩ m w (by omega) hm
  unfold headT
  rcases head_index (bl s) with ⟨h1, h2⟩ | ⟨k, h1, h2, h3⟩
  · rw [h1] at C
    rw [h2]
    have he : s.extract 0 (bl s).length = s := bl_inj (by rw [bl_take s _ (by rw [bl_len]; exact Nat.le_refl _)]; exact List.take_length)
    rw [he]
    have C := Lib.hid C
    clear h1 h2 he hT hm
    go_enter Try.func21, Try.ntmps21
    go_wp2_with fail
    refine C.out.mono ?_
    rintro e w1 ⟨rfl, rfl⟩
    go_wp2_with fail
    go_ret
    exact ⟨rfl, rfl⟩
  · rw [h1] at C
    rw [h2]
    rw [bl_len] at h3
    have g1 : (0 : Int) ≤ (k : Int) := by omega
    have g2 : (k : Int) + 2 ≤ (s.size : Int) := by omega
    have g3 : wrap64 ((k : Int) + 2) = (k : Int) + 2 := by unfold wrap64; omega
    have C := Lib.hid C
    clear h1 h2 hT hm
    go_enter Try.func21, Try.ntmps21
    go_wp2_with fail
    refine C.out.mono ?_
    rintro e w1 ⟨rfl, rfl⟩
    go_wp2_with fail
    go_ret
    exact ⟨by first | rfl | (congr 3), rfl⟩

/-- A pair more in the last list. -/
def addLast (G : List (List KV)) (X : List KV) : List (List KV) := G.set (G.length - 1) (G.getD (G.length - 1) [] ++ X)
/-- Is there a cut ahead of place i? -/
def cutAt (L : List KV) (i : Nat) : Bool := decide (i = 0) || !decide (((L[i - 1]?).map fun m => headT m.1) = ((L[i]?).map fun m => headT m.1))
/-- The groups of the first i pairs. -/
def groupN (L : List KV) : Nat → List (List KV)
  | 0 => []
  | i + 1 => addLast (if cutAt L i = true then groupN L i ++ [[]] else groupN L i) (L[i]?).toList
def groupP (L : List KV) : List (List KV) := groupN L L.length
theorem addLast_len (G : List (List KV)) (X : List KV) : (addLast G X).length = G.length := List.length_set
theorem groupN_len (L : List KV) : ∀ i, (groupN L i).length ≤ i
  | 0 => Nat.le_refl _
  | i + 1 => by
    rw [groupN, addLast_len]
    have := groupN_len L i
    split
    · rw [List.length_append, List.length_singleton]; omega
    · omega
theorem groupN_pos (L : List KV) : ∀ i, 0 < i → 0 < (groupN L i).length
  | 0, h => by omega
  | i + 1, _ => by
    rw [groupN, addLast_len]
    by_cases h : i = 0
    · subst h
      rw [if_pos (by unfold cutAt; simp)]
      simp
    · have := groupN_pos L i (by omega)
      split
      · simp
      · exact this
/-- Lists of pairs, each with a row of the call's own, in a row of the call's own. -/
def Rlk (w : World) (B : Nat) (v : Value) (G : List (List KV)) : Prop :=
  ∃ a : Nat → Value, w.ownsRow B 25 1 v G.length ((List.range G.length).map a) ∧ Rwk elKeys w B 33 G.length a (fun i => G.getD i [])
theorem Rlk.nil (w : World) (B : Nat) : Rlk w B (.slice none 0 0) [] := ⟨fun _ => .slice none 0 0, World.ownsRow_nil _ _ _ _, ⟨fun _i hi => absurd hi (Nat.not_lt_zero _), fun _i _j hi => absurd hi (Nat.not_lt_zero _)⟩⟩
theorem Rlk.slice {w : World} {B : Nat} {v : Value} {G : List (List KV)} (h : Rlk w B v G) : ∃ A c, v = .slice A G.length c := by
  obtain ⟨a, h, _⟩ := h
  exact srow_slice h
theorem Rlk.below {w w' : World} {B : Nat} {v : Value} {G : List (List KV)} (h : Rlk w B v G) (hb : Below w.heap.size w w') : Rlk w' B v G := by
  obtain ⟨a, h1, h2⟩ := h
  exact ⟨a, (Tn.of_below (B := 0) (T := fun _ => false) hb).own h1 (fun _ _ => rfl), h2.below hb⟩
theorem Rlk.at_ {w : World} {B : Nat} {v : Value} {G : List (List KV)} (h : Rlk w B v G) {i : Nat} {L : List KV} (hL : G[i]? = some L) :
    ∃ g c u, v = .slice (some ⟨g, 0, none⟩) G.length c ∧ B ≤ g ∧ g < w.heap.size ∧ w.cell? ⟨g, i, none⟩ = some u ∧ Own elKeys w B 33 u L := by
  obtain ⟨a, h1, h2⟩ := h
  have hi := (List.getElem?_eq_some_iff.1 hL).1
  obtain ⟨g, c, e, hb, hg, hc⟩ := srow_at h1 hi
  have := h2.each i hi
  rw [List.getD_eq_getElem?_getD, hL] at this
  exact ⟨g, c, a i, e, hb, hg, hc, this⟩
end Go.Proofs.Yteackdafggomhaa

namespace Go.Proofs.Yteackdafggomhaa
open Go.RowKit

theorem infoLs : (Try.prog.info? 25).map (fun i => (i.zero, i.size, i.bytes)) = some (some (.slice none 0 0), 1, 24) := by kernel_rfl
theorem underLs : Try.prog.underlying 22 = some (.slice 25) := by kernel_rfl
theorem off_nil (v : Value) : Off v (.slice none 0 0) := fun g _ h => by simp [Value.ownBlock] at h
theorem nil_off (v : Value) : Off (.slice none 0 0) v := fun g h => by simp [Value.ownBlock] at h
/-- A list without pairs is laid behind the others. -/
theorem Rlk.more {w : World} {B : Nat} {v : Value} {G : List (List KV)} (h : Rlk w B v G) (hB : B ≤ w.heap.size) (g c : Nat) (hc : w.cell? ⟨g, 0, none⟩ = some (.slice none 0 0)) (hn : G.length ≤ 100000) :
    ∃ v' w', (∀ ty, (Builtin.append_ #[22, 22] ty #[v, .slice (some ⟨g, 0, none⟩) 1 c]).run Try.prog w = .ok v' w') ∧ Rlk w' B v' (G ++ [[]]) ∧ Tn B (cellsT 25) w w' := by
  obtain ⟨a, h1, h2⟩ := h
  obtain ⟨v', w', hr, hown, hgr, _, _⟩ := app_srow 22 25 underLs infoLs w B v G.length _ h1 (.slice none 0 0) rfl g c hc hn hB
  have t : Tn B (cellsT 25) w w' := (Tn.refl B _ w).grow h1 hgr
  have h3 := h2.tn t (fun cs fr => cellsT_ne (by decide) cs fr)
  refine ⟨v', w', hr, ⟨upk a G.length (.slice none 0 0), ?_, ?_, ?_⟩, t⟩
  · rw [List.length_append, List.length_singleton, ← range_upk]
    exact hown
  · intro i hi
    rw [List.length_append, List.length_singleton] at hi
    by_cases e : i = G.length
    · subst e
      rw [upk_at, List.getD_eq_getElem?_getD, List.getElem?_concat_length]
      exact World.ownsRow_nil _ _ _ _
    · rw [upk_ne _ _ e, List.getD_eq_getElem?_getD, List.getElem?_append_left (by omega), ← List.getD_eq_getElem?_getD]
      exact h3.each i (by omega)
  · intro i j hi hj hij
    rw [List.length_append, List.length_singleton] at hi hj
    by_cases e : j = G.length
    · subst e; rw [upk_at]; exact off_nil _
    · by_cases e2 : i = G.length
      · subst e2; rw [upk_at]; exact nil_off _
      · rw [upk_ne _ _ e, upk_ne _ _ e2]
        exact h3.apart i j (by omega) (by omega) hij
/-- What growing and storing turn. -/
def lsT (o : Obj) : Bool := cellsT 25 o || cellsT 33 o
theorem lsT_ne {t : TypeId} (h1 : t ≠ 25) (h2 : t ≠ 33) (cs : Array Value) (fr : Nat × Nat) : lsT (.cells cs t fr) = false := by
  unfold lsT
  rw [cellsT_ne h1, cellsT_ne h2]
  rfl
theorem map_set_upk (a : Nat → Value) (m k : Nat) (x : Value) : ((List.range m).map a).set k x = (List.range m).map (upk a k x) := by
  apply List.ext_getElem?
  intro i
  rw [List.getElem?_set]
  by_cases e : k = i
  · subst e
    rw [if_pos rfl]
    by_cases h : k < m
    · rw [if_pos (by simpa using h), List.getElem?_map, List.getElem?_range h]
      simp [upk_at]
    · rw [if_neg (by simpa using h), List.getElem?_eq_none (by simpa using h)]
  · rw [if_neg e, List.getElem?_map, List.getElem?_map]
    by_cases h : i < m
    · rw [List.getElem?_range h]
      simp [upk_ne a x (fun e2 => e e2.symm)]
    · rw [List.getElem?_eq_none (by simpa using h)]
      rfl
/-- The last list grows by some pairs: what it became is stored. -/
theorem Rlk.last {w1 w2 : World} {B g c : Nat} {G : List (List KV)} {X : List KV} {u v' : Value} (h : Rlk w1 B (.slice (some ⟨g, 0, none⟩) G.length c) G) (hG : 0 < G.length)
    (hu : w1.cell? ⟨g, G.length - 1, none⟩ = some u) (hown : Own elKeys w2 B 33 v' (G.getD (G.length - 1) [] ++ X)) (hgr : w1.grownBy w2 u.ownBlock) (hblk : v'.ownBlock = u.ownBlock ∨ ∀ g, v'.ownBlock = some g → w1.heap.size ≤ g) :
    Rlk (w2.setCell ⟨g, G.length - 1, none⟩ v') B (.slice (some ⟨g, 0, none⟩) G.length c) (addLast G X) ∧ Tn B lsT w1 (w2.setCell ⟨g, G.length - 1, none⟩ v') ∧
      (∃ z, w2.cell? ⟨g, G.length - 1, none⟩ = some z) ∧ w2.frozen? ⟨g, G.length - 1, none⟩ = false := by
  obtain ⟨a, h1, h2⟩ := h
  have hlt : G.length - 1 < G.length := by omega
  obtain ⟨g', c', ev, hgB, _, hcu⟩ := srow_at h1 hlt
  cases ev
  rw [hu] at hcu
  cases hcu
  have hul := h2.each _ hlt
  have t1 : Tn B (cellsT 33) w1 w2 := (Tn.refl B _ w1).grow hul hgr
  have h1' := t1.own h1 (fun cs fr => cellsT_ne (by decide) cs fr)
  obtain ⟨g', c', ev, _, _, hcu2⟩ := srow_at h1' hlt
  cases ev
  have hfz : w2.frozen? ⟨g, G.length - 1, none⟩ = false := by
    rcases h1'.2 with ⟨h', _⟩ | ⟨g', cap, cur, h', _, hh, _⟩
    · cases h'
    · cases h'
      simp [World.frozen?, hh]
  have hcells : ∃ cur, w2.heap[g]? = some (.cells cur 25 (0, 0)) := by
    rcases h1'.2 with ⟨h', _⟩ | ⟨g', cap, cur, h', _, hh, _⟩
    · cases h'
    · cases h'
      exact ⟨cur, hh⟩
  obtain ⟨cur, hcur⟩ := hcells
  have hst := (World.ownsRow.stored h1' (G.length - 1) v').1
  rw [map_set_upk] at hst
  have t2 : Tn B (cellsT 25) w2 (w2.setCell ⟨g, G.length - 1, none⟩ v') := (Tn.refl B _ w2).setCell (p := ⟨g, G.length - 1, none⟩) (Or.inr ⟨hgB, _, hcur, by simp [cellsT]⟩) _
  have hT : ∀ cs fr, cellsT 25 (.cells cs 33 fr) = false := fun cs fr => cellsT_ne (by decide) cs fr
  refine ⟨⟨upk a (G.length - 1) v', by rw [addLast_len]; exact hst, fun i hi => ?_, fun i j hi hj hij => ?_⟩, ?_, ⟨_, hcu2⟩, hfz⟩
  · rw [addLast_len] at hi
    have hget : (addLast G X).getD i [] = if i = G.length - 1 then G.getD (G.length - 1) [] ++ X else G.getD i [] := by
      unfold addLast
      rw [List.getD_eq_getElem?_getD, List.getElem?_set]
      by_cases e : i = G.length - 1
      · subst e
        rw [if_pos rfl, if_pos hlt, if_pos rfl]
        rfl
      · rw [if_neg (fun e2 => e e2.symm), if_neg e, List.getD_eq_getElem?_getD]
    show Own elKeys _ _ _ (upk a (G.length - 1) v' i) ((addLast G X).getD i [])
    rw [hget]
    by_cases e : i = G.length - 1
    · subst e
      rw [upk_at, if_pos rfl]
      exact hown.tn t2 hT
    · rw [upk_ne _ _ e, if_neg e]
      have hk : Own elKeys w2 B 33 (a i) (G.getD i []) := World.ownsRow.kept (h2.each i hi) hgr (offk_none (h2.apart _ i hlt hi (fun e2 => e e2.symm)))
      exact hk.tn t2 hT
  · rw [addLast_len] at hi hj
    have offv : ∀ i, i < G.length → i ≠ G.length - 1 → Off (a i) v' := fun i hi hne g' hg' hv => by
      rcases hblk with e | e
      · exact h2.apart i _ hi hlt hne g' hg' (e ▸ hv)
      · have h3 := e g' hv
        have h4 := ((h2.each i hi).lt hg').2
        omega
    by_cases e : j = G.length - 1
    · subst e
      rw [upk_at, upk_ne _ _ hij]
      exact offv i hi hij
    · rw [upk_ne _ _ e]
      by_cases e2 : i = G.length - 1
      · subst e2
        rw [upk_at]
        exact (offv j hj e).symm
      · rw [upk_ne _ _ e2]
        exact h2.apart i j hi hj hij
  · have m1 : Tn B lsT w1 w2 := t1.mono fun o ho => by unfold lsT at ho; exact (Bool.or_eq_false_iff.1 ho).2
    have m2 : Tn B lsT w2 (w2.setCell ⟨g, G.length - 1, none⟩ v') := t2.mono fun o ho => by unfold lsT at ho; exact (Bool.or_eq_false_iff.1 ho).1
    exact m1.trans m2
end Go.Proofs.Yteackdafggomhaa

namespace Go.Proofs.Yteackdafggomhaa
open Go.RowKit

theorem mem_addLast {G : List (List KV)} {X Y : List KV} (h : Y ∈ addLast G X) : Y ∈ G ∨ Y = G.getD (G.length - 1) [] ++ X := by
  unfold addLast at h
  exact List.mem_or_eq_of_mem_set h
theorem last_len {G : List (List KV)} {k : Nat} (h : ∀ X ∈ G, X.length ≤ k) : (G.getD (G.length - 1) []).length ≤ k := by
  rw [List.getD_eq_getElem?_getD]
  cases e : G[G.length - 1]? with
  | none => exact Nat.zero_le _
  | some X => exact h X (List.mem_of_getElem? e)
theorem groupN_each (L : List KV) : ∀ i, ∀ X ∈ groupN L i, X.length ≤ i
  | 0, X, h => by cases h
  | i + 1, X, h => by
    have ih := groupN_each L i
    have ih2 : ∀ X ∈ (if cutAt L i = true then groupN L i ++ [[]] else groupN L i), X.length ≤ i := fun X hX => by
      split at hX
      · rcases List.mem_append.1 hX with hX | hX
        · exact ih X hX
        · rw [List.mem_singleton.1 hX]; exact Nat.zero_le _
      · exact ih X hX
    rw [groupN] at h
    rcases mem_addLast h with h | h
    · have := ih2 X h; omega
    · have := last_len ih2
      rw [h, List.length_append]
      have : (L[i]?).toList.length ≤ 1 := by cases L[i]? <;> simp
      omega
/-- What lies while a list is cut: what is made, and where. -/
structure GrSt (w wr : World) (v : Value) (G : List (List KV)) : Prop where
  row : Rlk wr w.heap.size v G
  bel : Below w.heap.size w wr
theorem GrSt.up {w wr w' : World} {v : Value} {G : List (List KV)} (h : GrSt w wr v G) (hb : Below wr.heap.size wr w') : GrSt w w' v G :=
  ⟨h.row.below hb, h.bel.trans (hb.mono h.bel.size)⟩
set_option maxRecDepth 100000 in
set_option maxHeartbeats 8000000 in
theorem mgroup_any (A : Option Addr) (n c : Nat) (L : List KV) (w : World) (h : KeysAt w A n L) (hn : n ≤ 90000) (hs : ∀ m ∈ L, m.1.size ≤ 4294967000) (hT : LaidH w) :
    Calls Try.prog 14 #[.slice A n c] w fun e w' => ∃ v, e = .returned v ∧ Rlk w' w.heap.size v (groupP L) ∧ w.grownBy w' none := by
  have H := Lib.hid h
  have HL := Lib.hid h.len
  have HS := Lib.hid hs
  have HT := Lib.hid hT
  have hnI : (n : Int) ≤ 90000 := by omega
  clear h hs hT
  go_enter Try.func14, Try.ntmps14
  go_wp2_with fail
  go_loopw [3, 9] (fun v i wr => ∃ k : Nat, k ≤ n ∧ i = .int .i64 (k : Int) ∧ Hid (GrSt w wr v (groupN L k))) (fun _ i _ => n - (intOf i).toNat)
  case atStart => exact ⟨0, by omega, rfl, Lib.hid ⟨Rlk.nil _ _, Below.refl _ _⟩⟩
  case round =>
    obtain ⟨k, hk, rfl, HG⟩ := hrel
    obtain ⟨av, cv, rfl⟩ := HG.out.row.slice
    by_cases hl : k < n
    · have g1 : (k : Int) < (n : Int) := Int.ofNat_lt.2 hl
      have g2 : (0 : Int) ≤ (k : Int) := Int.natCast_nonneg k
      have w1' : wrap64 ((k : Int) + 1) = (k : Int) + 1 := by unfold wrap64; omega
      have hkL : k < L.length := by rw [← HL.out]; exact hl
      have hs := List.getElem?_eq_getElem hkL
      generalize L[k] = m at hs
      have HSm := Lib.hid hs
      obtain ⟨g, o, rfl, hg, x0, x1⟩ := H.out.at_ k m hs
      have x0' : wr.cell? ⟨g, o + k * 2, none⟩ = some (.string m.1) := (HG.out.bel.cell (p := ⟨g, o + k * 2, none⟩) hg).trans x0
      have x1' : wr.cell? ⟨g, o + k * 2 + 1, none⟩ = some (.string m.2) := (HG.out.bel.cell (p := ⟨g, o + k * 2 + 1, none⟩) hg).trans x1
      have hlen := groupN_len L k
      have D1 : Hid (GrSt w (wr.alloc (.cells #[.string m.1, .string m.2] 33)) (.slice av (groupN L k).length cv) (groupN L k)) := Lib.hid (HG.out.up (below_alloc (Below.refl _ _) (Nat.le_refl _) _))
      have Bq : Hid (Blk (wr.alloc (.cells #[.string m.1, .string m.2] 33)) wr.heap.size 33 #[.string m.1, .string m.2]) := Lib.hid (Blk.new _ _ _)
      have hlo : w.heap.size ≤ wr.heap.size := HG.out.bel.size
      have hcut0 : k = 0 → cutAt L k = true := fun e => by unfold cutAt; rw [decide_eq_true e]; rfl
      have prev : 0 < k → ∃ m', L[k - 1]? = some m' ∧ w.cell? ⟨g, o + (k - 1) * 2, none⟩ = some (.string m'.1) ∧ cutAt L k = !((headT m.1).toList == (headT m'.1).toList) := fun hpos => by
        have hlt : k - 1 < L.length := by omega
        obtain ⟨g', o', e', _, z0, _⟩ := H.out.at_ (k - 1) _ (List.getElem?_eq_getElem hlt)
        cases e'
        refine ⟨_, List.getElem?_eq_getElem hlt, z0, ?_⟩
        unfold cutAt
        rw [decide_eq_false (by omega), Bool.false_or, List.getElem?_eq_getElem hlt, hs, eqlP']
        simp only [Option.map_some, Option.some.injEq]
        by_cases e : headT L[k - 1].1 = headT m.1
        · rw [decide_eq_true e, decide_eq_true e.symm]
        · rw [decide_eq_false e, decide_eq_false (fun h => e h.symm)]
      have PREV := Lib.hid prev
      have CUT0 := Lib.hid hcut0
      have HT6 := Lib.hid (HT.out.on D1.out.bel)
      have HW6 := Lib.hid D1.out.bel
      have hg6 := hg
      obtain ⟨cu, hcu⟩ : ∃ cu, cutAt L k = cu := ⟨_, rfl⟩
      have HCU := Lib.hid hcu
      have HGN : Hid (groupN L (k + 1) = addLast (if cu = true then groupN L k ++ [[]] else groupN L k) [m]) := Lib.hid (by rw [groupN, hcu, hs]; rfl)
      have HLN := Lib.hid hlen
      have HPS := Lib.hid (groupN_pos L k)
      clear hs hkL x0 x1 hcut0 prev hcu hlen
      go_upto_region 5 with fail
      generalize wr.alloc (.cells #[.string m.1, .string m.2] 33) = w6 at *
      generalize wr.heap.size = q6 at *
      have y0 : w6.cell? ⟨q6, 0, none⟩ = some (.string m.1) := Bq.out.cell 0
      go_cut [28] from 14 to 28 (fun s wx => s = .bool cu ∧ ∃ q, wx = w6.drewN q)
      case first =>
        as_aux_lemma =>
        by_cases h0 : k = 0
        · have hc := CUT0.out h0
          rw [HCU.out] at hc
          subst hc
          subst h0
          clear CUT0 PREV HCU HGN
          go_quiet (fail)
          go_wp2_with fail
          go_meet
          exact ⟨rfl, _, rfl⟩
        · obtain ⟨m', hm', z0, hc⟩ := PREV.out (by omega)
          rw [HCU.out] at hc
          have z0' : w6.cell? ⟨g, o + (k - 1) * 2, none⟩ = some (.string m'.1) := (HW6.out.cell (p := ⟨g, o + (k - 1) * 2, none⟩) hg6).trans z0
          have nz : ((k : Int) == 0) = false := beq_eq_false_iff_ne.2 (by omega)
          obtain ⟨j, hj⟩ : ∃ j, j = k - 1 := ⟨_, rfl⟩
          rw [← hj] at z0'
          have d1 : wrap64 ((k : Int) - 1) = (j : Int) := by unfold wrap64; omega
          have d4 : IntKind.i64.wrap ((k : Int) - 1) = (j : Int) := by rw [IntKind.wrap_i64]; omega
          have d2 : (j : Int) < (n : Int) := by omega
          have d3 : (0 : Int) ≤ (j : Int) := by omega
          have HTq : ∀ q, LaidH (w6.drewN q) := fun q => HT6.out.on (below_drewN (Below.refl _ _) q)
          have CHH := fun (s : ByteArray) (hz : s.size ≤ 4294967000) q => Lib.hid (mhead_any s (w6.drewN q) hz (HTq q))
          have hz1 := HS.out m (List.mem_of_getElem? HSm.out)
          have hz2 := HS.out m' (List.mem_of_getElem? hm')
          generalize m'.1 = k2 at *
          generalize m.1 = k1 at *
          clear CUT0 PREV HCU HGN hm' hj z0 HTq
          cases hb : ((headT k1).toList == (headT k2).toList)
          all_goals
            rw [hb] at hc
            subst hc
            go_quiet ((go_at_call 21; refine Calls.quiet_of_same (CHH _ (by assumption) _).out))
            go_wp2_with fail
            go_meet
            exact ⟨rfl, _, rfl⟩
      case rest =>
      obtain ⟨rfl, qd, hwc⟩ := hcut
      have D7 := D1.out.up (w' := w6.drewN qd) (below_drewN (Below.refl _ _) qd)
      have B7 : Blk (w6.drewN qd) q6 33 #[.string m.1, .string m.2] := Bq.out
      rw [← hwc] at D7 B7
      have D7 := Lib.hid D7
      have B7 := Lib.hid B7
      clear hwc D1 Bq y0 PREV CUT0 HW6 HT6 x0' x1' hg hg6
      go_upto_if 28 with fail
      go_cut [3] from 29 to 31 (fun s wx => ∃ v1, s = v1 ∧ Hid (GrSt w wx v1 (if cu = true then groupN L k ++ [[]] else groupN L k)) ∧ Hid (Blk wx q6 33 #[.string m.1, .string m.2]))
      case first =>
        as_aux_lemma =>
        cases cu with
        | false =>
          go_wp2_with fail
          go_meet
          exact ⟨_, rfl, D7, B7⟩
        | true =>
          have D8 := D7.out.up (below_alloc (Below.refl _ _) (Nat.le_refl _) (.cells #[.slice none 0 0] 25))
          have hnb : (wc.alloc (.cells #[.slice none 0 0] 25)).cell? ⟨wc.heap.size, 0, none⟩ = some (.slice none 0 0) := (Blk.new wc _ _).cell 0
          obtain ⟨v1, w2, hr, hrl, ht⟩ := D8.row.more D8.bel.size wc.heap.size 1 hnb (by have := HLN.out; omega)
          obtain ⟨a1, c1, rfl⟩ := hrl.slice
          have HR := fun ty => Lib.hid (hr ty)
          have E1 : Hid (GrSt w w2 (.slice a1 (groupN L k ++ [[]]).length c1) (groupN L k ++ [[]])) := Lib.hid ⟨hrl, D8.bel.trans (ht.below D8.bel.size)⟩
          have E2 : Hid (Blk w2 q6 33 #[.string m.1, .string m.2]) := Lib.hid (ht.blk (B7.out.alloc _) (cellsT_ne (by decide) _ _))
          clear D8 hnb hr hrl ht
          generalize (groupN L k ++ [[]]).length = l1 at *
          generalize (groupN L k).length = l0 at *
          go_wp2_with (at_builtin; refine wpList_append_k _ w2 rfl (.tmp 29) (.tmp 30) 22 rfl _ _ (.slice a1 l1 c1) rfl rfl (fun ty => (HR ty).out) ?_)
          go_meet
          exact ⟨_, rfl, E1, E2⟩
      case rest =>
      obtain ⟨v1, rfl, E1, E2⟩ := hcut
      have hpos : 0 < (if cu = true then groupN L k ++ [[]] else groupN L k).length := by
        cases hc : cu with
        | true => simp
        | false =>
          rw [if_neg (by decide)]
          refine HPS.out (Nat.pos_of_ne_zero fun e => ?_)
          have := HCU.out
          rw [hc, e] at this
          exact absurd this (by unfold cutAt; simp)
      have hlen1 : (if cu = true then groupN L k ++ [[]] else groupN L k).length ≤ 90001 := by
        have := HLN.out
        split
        · rw [List.length_append, List.length_singleton]; omega
        · omega
      have HEA : Hid (∀ X ∈ (if cu = true then groupN L k ++ [[]] else groupN L k), X.length ≤ k) := Lib.hid fun X hX => by
        split at hX
        · rcases List.mem_append.1 hX with hX | hX
          · exact groupN_each L k X hX
          · rw [List.mem_singleton.1 hX]; exact Nat.zero_le _
        · exact groupN_each L k X hX
      generalize (if cu = true then groupN L k ++ [[]] else groupN L k) = G1 at *
      obtain ⟨lp, hlp⟩ : ∃ lp, lp = G1.length - 1 := ⟨_, rfl⟩
      have hgl := List.getElem?_eq_getElem (show G1.length - 1 < G1.length by omega)
      obtain ⟨go, c1, u, rfl, hgoB, hgoL, hcu, hou⟩ := E1.out.row.at_ hgl
      have hgd : G1[G1.length - 1] = G1.getD (G1.length - 1) [] := by rw [List.getD_eq_getElem?_getD, hgl]; rfl
      rw [hgd] at hou
      have d1 : wrap64 ((G1.length : Int) - 1) = (lp : Int) := by unfold wrap64; omega
      have d2 : (lp : Int) < (G1.length : Int) := by omega
      have d3 : (0 : Int) ≤ (lp : Int) := by omega
      have hLl : (G1.getD (G1.length - 1) []).length ≤ 90000000000 := by
        have := HEA.out _ (List.mem_of_getElem? hgl)
        rw [hgd] at this
        omega
      have W1b : Below wc.heap.size wc (wc.alloc (.cells #[.string m.1, .string m.2] 33)).drew := by
        have h1 : Below wc.heap.size wc (wc.alloc (.cells #[.string m.1, .string m.2] 33)) := below_alloc (Below.refl _ _) (Nat.le_refl _) _
        exact ⟨h1.os, h1.tape, h1.output, h1.size, h1.block⟩
      have E1' := E1.out.up W1b
      have hou1 := hou.below W1b
      have hcu1 : (wc.alloc (.cells #[.string m.1, .string m.2] 33)).drew.cell? ⟨go, G1.length - 1, none⟩ = some u := (W1b.cell (p := ⟨go, G1.length - 1, none⟩) hgoL).trans hcu
      obtain ⟨au, cu2, eu⟩ := hou.slice
      obtain ⟨v', w2, hr, hown, hgr, _, hblk⟩ := app_own (P := Try.prog) elKeys 25 33 (.agg #[.string ⟨#[]⟩, .string ⟨#[]⟩]) 32 underKeys infoKeys rfl (wc.alloc (.cells #[.string m.1, .string m.2] 33)).drew w.heap.size u (G1.getD (G1.length - 1) []) [m] hou1 (some ⟨wc.heap.size, 0, none⟩) 1 (fun h => by cases h) (fun a' ha' j' u' hu' => by
        cases ha'
        rw [El.row_one] at hu'
        exact cells_new wc 33 [.string m.1, .string m.2] j' u' hu') (by unfold maxLen; simp only [List.length_singleton]; omega) (by simp only [List.length_singleton]; omega) E1'.bel.size 1 rfl
      obtain ⟨hrl, htl, ⟨zz, hzz⟩, hfz⟩ := Rlk.last E1'.row hpos hcu1 hown hgr hblk
      obtain ⟨av', cv', ev'⟩ := hown.slice
      have FIN := Lib.hid (show GrSt w (w2.setCell ⟨go, G1.length - 1, none⟩ v') (.slice (some ⟨go, 0, none⟩) G1.length c1) (groupN L (k + 1)) from ⟨by rw [HGN.out]; exact hrl, E1'.bel.trans (htl.below E1'.bel.size)⟩)
      rw [← hlp] at hcu hcu1 hzz hfz FIN
      rw [ev'] at FIN hr
      rw [eu] at hr hcu hcu1
      have HR := fun ty => Lib.hid (hr ty)
      have q0 : wc.cell? ⟨q6, 0, none⟩ = some (.string m.1) := E2.out.cell 0
      have q1 : wc.cell? ⟨q6, 1, none⟩ = some (.string m.2) := E2.out.cell 1
      have A1 := E2.out.alloc (.cells #[.string m.1, .string m.2] 33)
      have q2 : (wc.alloc (.cells #[.string m.1, .string m.2] 33)).cell? ⟨q6, 0, none⟩ = some (.string m.1) := A1.cell 0
      have q3 : (wc.alloc (.cells #[.string m.1, .string m.2] 33)).cell? ⟨go, lp, none⟩ = some (.slice au (G1.getD (G1.length - 1) []).length cu2) := hcu1
      clear hr hown hgr hblk hrl htl E1' hou hou1 hgd hgl W1b eu ev' A1 E1 E2 HGN HCU HPS HLN HSm hgoB hgoL hcu1 hLl hlp hpos hlen1
      generalize (G1.getD (G1.length - 1) []).length = ll at *
      generalize (G1.getD (G1.length - 1) [] ++ [m]).length = ll2 at *
      generalize G1.length = lg at *
      go_wp2_with fail
      go_region_law (first
        | (refine step_append_k rfl (.tmp 40) (.tmp 42) 25 rfl _ _ (.slice av' ll2 cv') (by simp [Act.eval]) (by simp [Act.eval]) (HR _).out ?_))
      all_goals
        go_wp2_with fail
        first
          | (go_roundw; (case rel => exact ⟨k + 1, hl, by go_num, FIN⟩); (case measure => simp [intOf]; omega))
          | exact ⟨⟨k + 1, hl, by go_num, FIN⟩, by simp [intOf]; omega⟩
    · obtain rfl : k = n := by omega
      have g3 : ¬ (k : Int) < (k : Int) := Int.lt_irrefl _
      have hgp : groupN L k = groupP L := by unfold groupP; rw [HL.out]
      rw [hgp] at HG ⊢
      generalize (groupP L).length = lg at *
      go_wp2_with fail
      go_ret
      exact ⟨_, rfl, HG.out.row, g_below HG.out.bel⟩
end Go.Proofs.Yteackdafggomhaa

namespace Go.Proofs.Yteackdafggomhaa
open Go.RowKit Go.WideShapes Go.ChangeShapes Go.Deep

/-- n structs of two whole numbers and two texts stand at A. -/
structure SOpsIn (w : World) (A : Option Addr) (n : Nat) (K X : Nat → Int) (Y D : Nat → ByteArray) : Prop where
  max : n ≤ 9223372036854775807
  some : 0 < n → ∃ b off, A = .some ⟨b, off, none⟩ ∧ b < w.heap.size ∧ ∀ j, j < n → w.cell? ⟨b, off + j * 4, none⟩ = .some (.int .i64 (K j)) ∧ w.cell? ⟨b, off + j * 4 + 1, none⟩ = .some (.int .i64 (X j)) ∧ w.cell? ⟨b, off + j * 4 + 2, none⟩ = .some (.string (Y j)) ∧ w.cell? ⟨b, off + j * 4 + 3, none⟩ = .some (.string (D j))
  wf : ∀ j, j < n → (Lit.int .i64 (X j)).wf = true ∧ (Y j).size ≤ 140737488351232 ∧ (D j).size ≤ 140737488351232

/-- One of them, in every world from there on. -/
theorem SOpsIn.at {w : World} {A : Option Addr} {n : Nat} {K X : Nat → Int} {Y D : Nat → ByteArray} (h : SOpsIn w A n K X Y D) {k : Nat} (hk : k < n) :
    ∃ b off, A = .some ⟨b, off, none⟩ ∧ (∀ W, Below w.heap.size w W → W.cell? ⟨b, off + k * 4, none⟩ = .some (.int .i64 (K k)) ∧ W.cell? ⟨b, off + k * 4 + 1, none⟩ = .some (.int .i64 (X k)) ∧ W.cell? ⟨b, off + k * 4 + 2, none⟩ = .some (.string (Y k)) ∧ W.cell? ⟨b, off + k * 4 + 3, none⟩ = .some (.string (D k))) := by
  obtain ⟨b, off, e, hlt, hc⟩ := h.some (by omega)
  obtain ⟨c0, c1, c2, c3⟩ := hc k hk
  exact ⟨b, off, e, fun W hb => ⟨(hb.cell (p := ⟨b, off + k * 4, none⟩) hlt).trans c0, (hb.cell (p := ⟨b, off + k * 4 + 1, none⟩) hlt).trans c1, (hb.cell (p := ⟨b, off + k * 4 + 2, none⟩) hlt).trans c2, (hb.cell (p := ⟨b, off + k * 4 + 3, none⟩) hlt).trans c3⟩⟩

theorem weights_all {H : Type} {P : Program} {e : TypeId} {n : Nat} {d : DataW H} (hn : n ∈ d.weights P e) : ∀ {l : List (DataW H)}, d ∈ l → n ∈ DataW.weightsAll P e l
  | x :: r, h => by
    rw [DataW.weightsAll, List.mem_append]
    rcases List.mem_cons.1 h with rfl | h
    · exact Or.inl hn
    · exact Or.inr (weights_all hn h)
section
variable {H : Type} {enc : TypeId × Value → H} {P : Program} {w : World} {t e : TypeId} {A : Option Addr} {n cp : Nat} {d : DataW H} {p : List MemPlace}
theorem sops_view {f0 f1 f2 f3 : Field} (ht : P.underlying t = some (.slice e)) (he : P.underlying e = some (.struct #[f0, f1, f2, f3])) (hc : P.cellsOf e = 4) (o0 : f0.offset = 0) (o1 : f1.offset = 1) (o2 : f2.offset = 2) (o3 : f3.offset = 3) (c0 : P.cellsOf f0.type = 1) (c1 : P.cellsOf f1.type = 1) (c2 : P.cellsOf f2.type = 1) (c3 : P.cellsOf f3.type = 1)
    (u0 : P.underlying f0.type = some (.int .i64)) (u1 : P.underlying f1.type = some (.int .i64)) (u2 : P.underlying f2.type = some .string) (u3 : P.underlying f3.type = some .string)
    (h : DataW.Trod enc P w 0 (fun _ => true) true t (.slice A n cp) d p) (hwt : ∀ x ∈ d.weights P t, x ≤ 140737488351232) : ∃ K X Y D, SOpsIn w A n K X Y D := by
  obtain ⟨fuel, hf⟩ := h
  rcases open_slice ht hf with ⟨hcs, _⟩ | ⟨a, len', cap', m, k, D, Pl, hcs, _, hl, hm, hmm, hdx, hx⟩
  · simp [Value.cells] at hcs
    obtain ⟨rfl, rfl, rfl⟩ := hcs
    exact ⟨fun _ => 0, fun _ => 0, fun _ => ByteArray.empty, fun _ => ByteArray.empty, by decide, fun h => absurd h (by decide), fun j h => absurd h (by omega)⟩
  · simp [Value.cells] at hcs
    obtain ⟨rfl, rfl, rfl⟩ := hcs
    rw [if_pos rfl] at hmm
    unfold maxLen at hm
    have each : ∀ j, j < n → ∃ q : Int × Int × ByteArray × ByteArray, w.cell? (a.add (j * 4)) = some (.int .i64 q.1) ∧ w.cell? (a.add (j * 4 + 1)) = some (.int .i64 q.2.1) ∧ w.cell? (a.add (j * 4 + 2)) = some (.string q.2.2.1) ∧ w.cell? (a.add (j * 4 + 3)) = some (.string q.2.2.2) ∧ (Lit.int .i64 q.2.1).wf = true ∧ q.2.2.1.size ≤ 140737488351232 ∧ q.2.2.2.size ≤ 140737488351232 := by
      intro j hj
      obtain ⟨cs', h1, h2⟩ := hx j (by omega)
      have hwj : ∀ x ∈ (D j).weights P e, x ≤ 140737488351232 := fun x hxm => hwt x (by
        rw [show d = _ from congrArg Prod.fst hdx]
        simp only [DataW.weights, ht]
        exact List.mem_cons_of_mem _ (List.mem_append_left _ (weights_all hxm (List.mem_map.2 ⟨j, List.mem_range.2 hj, rfl⟩))))
      rw [hc] at h1
      obtain ⟨_, hlen, hcell⟩ := World.cells?_some h1
      obtain ⟨y0, y1, y2, y3, g, hxe, _, g0, g1, g2, g3⟩ := Joins.trod_struct4 he h2
      have hDj : D j = .agg [y0.1, y1.1, y2.1, y3.1] := congrArg Prod.fst hxe
      rw [hDj, DataW.weights, he] at hwj
      match cs', hlen, hcell, g0, g1, g2, g3 with
      | [v0, v1, v2, v3], _, hcell, g0, g1, g2, g3 =>
        obtain ⟨k0, e0, _, _⟩ := DataW.trod_int u0 g0
        obtain ⟨k1, e1, _, w1⟩ := DataW.trod_int u1 g1
        obtain ⟨k2, e2, d2, w2⟩ := DataW.trod_string u2 g2
        obtain ⟨k3, e3, d3, w3⟩ := DataW.trod_string u3 g3
        simp [o0, o1, o2, o3, c0, c1, c2, c3] at e0 e1 e2 e3
        subst e0 e1 e2 e3
        have z2 := hwj k2.data.toList.length (by rw [d2]; simp [DataW.weightsEach, DataW.weights])
        have z3 := hwj k3.data.toList.length (by rw [d3]; simp [DataW.weightsEach, DataW.weights])
        rw [show k2.data.toList.length = k2.size from rfl] at z2
        rw [show k3.data.toList.length = k3.size from rfl] at z3
        refine ⟨(k0, k1, k2, k3), ?_, ?_, ?_, ?_, w1, by omega, by omega⟩
        · have := hcell 0 (by simp)
          simpa [Go.Deep.add_add] using this
        · have := hcell 1 (by simp)
          simpa [Go.Deep.add_add] using this
        · have := hcell 2 (by simp)
          simpa [Go.Deep.add_add] using this
        · have := hcell 3 (by simp)
          simpa [Go.Deep.add_add] using this
    obtain ⟨q, hq⟩ := choose_lt each
    refine ⟨fun j => (q j).1, fun j => (q j).2.1, fun j => (q j).2.2.1, fun j => (q j).2.2.2, by omega, fun hn => ?_, fun j hj => ⟨(hq j hj).2.2.2.2.1, (hq j hj).2.2.2.2.2.1, (hq j hj).2.2.2.2.2.2⟩⟩
    obtain ⟨b, off, spot⟩ := a
    have hspot : spot = none := by simpa [Addr.add] using World.cell?_spot (hq 0 hn).1
    subst hspot
    refine ⟨b, off, rfl, ?_, fun j hj => ?_⟩
    · have := (hq 0 hn).1
      rw [Go.WideShapes.add_plain] at this
      exact block_lt this
    · have := hq j hj
      rw [Go.WideShapes.add_plain, Go.WideShapes.add_plain, Go.WideShapes.add_plain, Go.WideShapes.add_plain, ← Nat.add_assoc, ← Nat.add_assoc, ← Nat.add_assoc] at this
      exact ⟨this.1, this.2.1, this.2.2.1, this.2.2.2.1⟩
end
end Go.Proofs.Yteackdafggomhaa

namespace Go.Proofs.Yteackdafggomhaa
open Go.RowKit Go.WideShapes Go.ChangeShapes Go.Deep

/-- The pairs L stand at A; nothing of them is longer than what can be read. -/
structure PairsIn (w : World) (A : Option Addr) (n : Nat) (L : List KV) : Prop where
  at_ : KeysAt w A n L
  max : n ≤ 9223372036854775807
  size : ∀ m ∈ L, m.1.size ≤ 140737488351232 ∧ m.2.size ≤ 140737488351232

section
variable {H : Type} {enc : TypeId × Value → H} {P : Program} {w : World} {t e : TypeId} {A : Option Addr} {n cp : Nat} {d : DataW H} {p : List MemPlace}
theorem trod_array2 {base : Nat} {spare : Nat → Bool} {held : Bool} {t e : TypeId} {fuel : Nat} {c0 c1 : Value} {x : DataW H × List MemPlace} (ht : P.underlying t = some (.array 2 e)) (hce : P.cellsOf e = 1)
    (h : DataW.trod enc P w base spare held fuel t [c0, c1] = some x) :
    ∃ y0 y1 n, x = (.agg [y0.1, y1.1], y0.2 ++ y1.2) ∧ DataW.trod enc P w base spare held n e [c0] = some y0 ∧ DataW.trod enc P w base spare held n e [c1] = some y1 := by
  cases fuel with
  | zero => simp [DataW.trod] at h
  | succ n =>
    unfold DataW.trod at h
    rw [ht] at h
    have r2 : List.range 2 = [0, 1] := rfl
    simp [r2, hce] at h
    obtain ⟨_, h⟩ := h
    cases h0 : DataW.trod enc P w base spare held n e [c0] with
    | none => simp [h0] at h
    | some y0 =>
      cases h1 : DataW.trod enc P w base spare held n e [c1] with
      | none => simp [h0, h1] at h
      | some y1 =>
        simp [h0, h1] at h
        exact ⟨y0, y1, n, h.symm, h0, h1⟩
theorem pairs_view {f : TypeId} (ht : P.underlying t = some (.slice e)) (he : P.underlying e = some (.array 2 f)) (hf : P.underlying f = some .string) (hc : P.cellsOf e = 2) (hcf : P.cellsOf f = 1)
    (h : DataW.Trod enc P w 0 (fun _ => true) true t (.slice A n cp) d p) (hwt : ∀ x ∈ d.weights P t, x ≤ 140737488351232) : ∃ L, PairsIn w A n L := by
  obtain ⟨fuel, hfu⟩ := h
  rcases open_slice ht hfu with ⟨hcs, _⟩ | ⟨a, len', cap', m, k, D, Pl, hcs, _, hl, hm, hmm, hdx, hx⟩
  · simp [Value.cells] at hcs
    obtain ⟨rfl, rfl, rfl⟩ := hcs
    exact ⟨[], ⟨rfl, fun i m hm => by simp at hm⟩, by decide, fun m hm => by cases hm⟩
  · simp [Value.cells] at hcs
    obtain ⟨rfl, rfl, rfl⟩ := hcs
    rw [if_pos rfl] at hmm
    have hm' := hm
    unfold maxLen at hm
    have each : ∀ j, j < n → ∃ q : KV, w.cell? (a.add (j * 2)) = some (.string q.1) ∧ w.cell? (a.add (j * 2 + 1)) = some (.string q.2) ∧ q.1.size ≤ 140737488351232 ∧ q.2.size ≤ 140737488351232 := by
      intro j hj
      obtain ⟨cs', h1, h2⟩ := hx j (by omega)
      have hwj : ∀ x ∈ (D j).weights P e, x ≤ 140737488351232 := fun x hxm => hwt x (by
        rw [show d = _ from congrArg Prod.fst hdx]
        simp only [DataW.weights, ht]
        exact List.mem_cons_of_mem _ (List.mem_append_left _ (weights_all hxm (List.mem_map.2 ⟨j, List.mem_range.2 hj, rfl⟩))))
      rw [hc] at h1
      obtain ⟨_, hlen, hcell⟩ := World.cells?_some h1
      match cs', hlen, hcell, h2 with
      | [v0, v1], _, hcell, h2 =>
        obtain ⟨y0, y1, g, hxe, g0, g1⟩ := trod_array2 he hcf h2
        have hDj : D j = .agg [y0.1, y1.1] := congrArg Prod.fst hxe
        rw [hDj, DataW.weights, he] at hwj
        obtain ⟨k0, e0, d0, w0⟩ := DataW.trod_string hf g0
        obtain ⟨k1, e1, d1, w1⟩ := DataW.trod_string hf g1
        simp at e0 e1
        subst e0 e1
        have z0 := hwj k0.data.toList.length (by rw [d0]; simp [DataW.weightsAll, DataW.weights])
        have z1 := hwj k1.data.toList.length (by rw [d1]; simp [DataW.weightsAll, DataW.weights])
        rw [show k0.data.toList.length = k0.size from rfl] at z0
        rw [show k1.data.toList.length = k1.size from rfl] at z1
        refine ⟨(k0, k1), ?_, ?_, z0, z1⟩
        · have := hcell 0 (by simp)
          simpa [Go.Deep.add_add] using this
        · have := hcell 1 (by simp)
          simpa [Go.Deep.add_add] using this
    obtain ⟨q, hq⟩ := choose_lt each
    have hget : ∀ (i : Nat) (m : KV), ((List.range n).map q)[i]? = some m → i < n ∧ m = q i := by
      intro i m hm
      have hi : i < n := by
        have := (List.getElem?_eq_some_iff.1 hm).1
        simpa using this
      rw [List.getElem?_map, List.getElem?_range hi] at hm
      cases hm
      exact ⟨hi, rfl⟩
    refine ⟨(List.range n).map q, ⟨by simp, fun i m hm => ?_⟩, by omega, fun m hm => ?_⟩
    · obtain ⟨hi, rfl⟩ := hget i m hm
      obtain ⟨b, off, spot⟩ := a
      have hspot : spot = none := by simpa [Addr.add] using World.cell?_spot (hq 0 (by omega)).1
      subst hspot
      have := hq i hi
      rw [Go.WideShapes.add_plain, Go.WideShapes.add_plain, ← Nat.add_assoc] at this
      exact ⟨b, off, rfl, block_lt this.1, this.1, this.2.1⟩
    · obtain ⟨i, hi⟩ := List.mem_iff_getElem?.1 hm
      obtain ⟨hj, rfl⟩ := hget i m hi
      exact (hq i hj).2.2
end
end Go.Proofs.Yteackdafggomhaa

namespace Go.Proofs.Yteackdafggomhaa
open Go.RowKit

/-- What Light counts. -/
def wtK : List KV → Nat
  | [] => 0
  | m :: r => 20 + m.1.size + m.2.size + wtK r
theorem wtK_snoc (l : List KV) (m : KV) : wtK (l ++ [m]) = wtK l + (20 + m.1.size + m.2.size) := by
  induction l with
  | nil => simp [wtK]
  | cons x r ih => rw [List.cons_append, wtK, wtK, ih]; omega
theorem wtK_append (l r : List KV) : wtK (l ++ r) = wtK l + wtK r := by
  induction l with
  | nil => simp [wtK]
  | cons x l ih => rw [List.cons_append, wtK, wtK, ih]; omega
theorem wtK_take (L : List KV) (k : Nat) : wtK (L.take k) ≤ wtK L := by
  have := wtK_append (L.take k) (L.drop k)
  rw [List.take_append_drop] at this
  omega
theorem wtK_all : ∀ (L : List KV) (m : KV), m ∈ L → 20 + m.1.size + m.2.size ≤ wtK L
  | x :: r, m, h => by
    rw [wtK]
    rcases List.mem_cons.1 h with rfl | h
    · omega
    · have := wtK_all r m h; omega
theorem wtK_len : ∀ (L : List KV), 20 * L.length ≤ wtK L
  | [] => Nat.zero_le _
  | x :: r => by have := wtK_len r; rw [wtK, List.length_cons]; omega
theorem ltake_snoc {α : Type} {L : List α} {k : Nat} {m : α} (hm : L[k]? = some m) : L.take (k + 1) = L.take k ++ [m] := by
  obtain ⟨h1, h2⟩ := List.getElem?_eq_some_iff.1 hm
  rw [List.take_succ_eq_append_getElem h1, h2]
set_option maxRecDepth 100000 in
set_option maxHeartbeats 4000000 in
theorem light_any (A : Option Addr) (n c : Nat) (L : List KV) (w : World) (h : PairsIn w A n L) :
    Calls Try.prog 10 #[.slice A n c] w fun e w' => e = .returned (.bool (decide (wtK L ≤ 60000))) ∧ Below w.heap.size w w' := by
  have HK := Lib.hid h.at_
  have Hlen := Lib.hid h.at_.len
  have Hz := Lib.hid h.size
  have hmax := h.max
  obtain ⟨r, hr⟩ : ∃ r, decide (wtK L ≤ 60000) = r := ⟨_, rfl⟩
  rw [hr]
  have Hr := Lib.hid hr
  clear h hr
  go_enter Try.func10, Try.ntmps10
  go_wp2_with fail
  go_loopw [3, 4] (fun x i wr => ∃ k t : Nat, k ≤ n ∧ t ≤ 300000000000000 ∧ i = .int .i64 (k : Int) ∧ x = .int .i64 (t : Int) ∧ Hid (t = wtK (L.take k)) ∧ Hid (Below w.heap.size w wr)) (fun _ i _ => n - (intOf i).toNat)
  case atStart => exact ⟨0, 0, by omega, by omega, rfl, rfl, Lib.hid rfl, Lib.hid (Below.refl _ _)⟩
  case round =>
    obtain ⟨k, t, hk, ht, rfl, rfl, Ht, HB⟩ := hrel
    by_cases hl : k < n
    · have g1 : (k : Int) < (n : Int) := by omega
      have g0 : (0 : Int) ≤ (k : Int) := by omega
      by_cases h6 : t ≤ 60000
      · have g2 : (t : Int) ≤ 60000 := by omega
        have g3 : decide ((t : Int) ≤ 60000) = true := decide_eq_true g2
        have hkL : k < L.length := by have := Hlen.out; omega
        have hm : L[k]? = some L[k] := List.getElem?_eq_getElem hkL
        have oz := Hz.out L[k] (List.getElem_mem hkL)
        generalize L[k] = mm at *
        obtain ⟨mk, mv⟩ := mm
        dsimp only at oz
        obtain ⟨g, off, hA, hg, x0, x1⟩ := (HK.out.below HB.out).at_ k _ hm
        subst hA
        dsimp only at x0 x1
        have hw : wtK (L.take (k + 1)) = wtK (L.take k) + (20 + mk.size + mv.size) := by rw [ltake_snoc hm, wtK_snoc]
        rw [← Ht.out] at hw
        have Hw := Lib.hid hw
        obtain ⟨oz1, oz2⟩ := oz
        clear hw hm hkL Ht
        go_wp2_with fail
        go_quiet (fail)
        go_wp2_with fail
        go_roundw
        case rel => exact ⟨k + 1, t + 20 + mk.size + mv.size, by omega, by omega, by go_num, by go_num, Lib.hid (by rw [Hw.out]; omega), Lib.hid (below_drewN HB.out _)⟩
        case measure => simp [intOf]; omega
      · have g2 : ¬ (t : Int) ≤ 60000 := by omega
        have g3 : decide ((t : Int) ≤ 60000) = false := decide_eq_false g2
        have hf : r = false := by
          rw [← Hr.out]
          refine decide_eq_false fun hc => ?_
          have := wtK_take L k
          have := Ht.out
          omega
        subst hf
        clear Hr Ht
        go_wp2_with fail
        go_ret
        exact ⟨rfl, HB.out⟩
    · have g1 : ¬ (k : Int) < (n : Int) := by omega
      have g4 : decide ((k : Int) < (n : Int)) = false := decide_eq_false g1
      have hf : r = decide ((t : Int) ≤ 60000) := by
        rw [← Hr.out, Ht.out, List.take_of_length_le (by have := Hlen.out; omega)]
        by_cases h : wtK L ≤ 60000
        · rw [decide_eq_true h, decide_eq_true (by omega)]
        · rw [decide_eq_false h, decide_eq_false (by omega)]
      subst hf
      clear Hr Ht
      go_wp2_with fail
      go_ret
      exact ⟨rfl, HB.out⟩

end Go.Proofs.Yteackdafggomhaa

namespace Go.Proofs.Yteackdafggomhaa
open Go.RowKit

/-- How many bytes keys and values have. -/
def byteK : List KV → Nat
  | [] => 0
  | m :: r => m.1.size + m.2.size + byteK r
theorem byteK_snoc (l : List KV) (m : KV) : byteK (l ++ [m]) = byteK l + (m.1.size + m.2.size) := by
  induction l with
  | nil => simp [byteK]
  | cons x r ih => rw [List.cons_append, byteK, byteK, ih]; omega
theorem byteK_append (l r : List KV) : byteK (l ++ r) = byteK l + byteK r := by
  induction l with
  | nil => simp [byteK]
  | cons x l ih => rw [List.cons_append, byteK, byteK, ih]; omega
theorem wrap_sml {x : Int} (h0 : 0 ≤ x) (h1 : x ≤ 4000000000000) : wrap64 x = x := by unfold wrap64; omega
set_option maxRecDepth 100000 in
set_option maxHeartbeats 4000000 in
theorem mbytes_any (A : Option Addr) (n c : Nat) (L : List KV) (w : World) (h : KeysAt w A n L) (hn : n ≤ 1000000) (hb : byteK L ≤ 1000000000000) :
    Calls Try.prog 20 #[.slice A n c] w fun e w' => e = .returned (.int .i64 (byteK L : Int)) ∧ w.grownBy w' none := by
  have H := Lib.hid h
  have HL := Lib.hid h.len
  have HB := Lib.hid hb
  clear h hb
  go_enter Try.func20, Try.ntmps20
  go_wp2_with fail
  go_loopw [3, 8] (fun x i wr => ∃ k t : Nat, k ≤ n ∧ t ≤ 1000000000000 ∧ x = .int .i64 (t : Int) ∧ i = .int .i64 (k : Int) ∧ Hid (t = byteK (L.take k)) ∧ Hid (w.grownBy wr none)) (fun _ i _ => n - (intOf i).toNat)
  case atStart => exact ⟨0, 0, by omega, by omega, rfl, rfl, Lib.hid rfl, Lib.hid (grefl _ _)⟩
  case round =>
    obtain ⟨k, t, hk, ht, rfl, rfl, HT, HG⟩ := hrel
    by_cases hl : k < n
    · have g1 : (k : Int) < (n : Int) := Int.ofNat_lt.2 hl
      have g2 : (0 : Int) ≤ (k : Int) := Int.natCast_nonneg k
      have w1' : wrap64 ((k : Int) + 1) = (k : Int) + 1 := by unfold wrap64; omega
      have hkL : k < L.length := by rw [← HL.out]; exact hl
      have hs := List.getElem?_eq_getElem hkL
      generalize L[k] = m at hs
      obtain ⟨g, o, rfl, _, x0, x1⟩ := (H.out.below (below_g HG.out)).at_ k m hs
      have hsn := byteK_snoc (L.take k) m
      rw [← ltake_snoc hs, ← HT.out] at hsn
      have hle : byteK (L.take (k + 1)) ≤ 1000000000000 := by
        have := byteK_append (L.take (k + 1)) (L.drop (k + 1))
        rw [List.take_append_drop] at this
        have := HB.out
        omega
      obtain ⟨mk, mv⟩ := m
      dsimp only at x0 x1 hsn
      have hle2 : t + (mk.size + mv.size) ≤ 1000000000000 := by rw [← hsn]; exact hle
      have HLE := Lib.hid hle2
      have z1 : (mk.size : Int) + (mv.size : Int) ≤ 4000000000000 := by omega
      have z2 : (t : Int) + ((mk.size : Int) + (mv.size : Int)) ≤ 4000000000000 := by omega
      have d1 := wrap_sml (Int.add_nonneg (Int.natCast_nonneg mk.size) (Int.natCast_nonneg mv.size)) z1
      have d2 := wrap_sml (Int.add_nonneg (Int.natCast_nonneg t) (Int.add_nonneg (Int.natCast_nonneg mk.size) (Int.natCast_nonneg mv.size))) z2
      have HG2 := Lib.hid (gnone HG.out (World.grownBy_alloc wr (.cells #[.string mk, .string mv] 33) none))
      have HSN := Lib.hid hsn
      clear hs hkL hsn hle hle2 z1 z2
      go_wp2_with fail
      go_roundw
      case rel => exact ⟨k + 1, t + (mk.size + mv.size), hl, HLE.out, by go_num, by go_num, Lib.hid HSN.out.symm, HG2⟩
      case measure => simp [intOf]; omega
    · obtain rfl : k = n := by omega
      have g3 : ¬ (k : Int) < (k : Int) := Int.lt_irrefl _
      have ht : t = byteK L := by rw [HT.out, HL.out, List.take_length]
      subst ht
      clear HT
      go_wp2_with fail
      go_ret
      exact ⟨rfl, HG.out⟩
end Go.Proofs.Yteackdafggomhaa

namespace Go.Proofs.Yteackdafggomhaa
open Go.RowKit

/-- The pieces of the first i groups, and how many bytes the last one has. -/
def splitN (Gs : List (List KV)) (z : Int) : Nat → List (List KV) × Int
  | 0 => ([], z)
  | i + 1 => (addLast (if z ≤ (splitN Gs z i).2 then (splitN Gs z i).1 ++ [[]] else (splitN Gs z i).1) (Gs.getD i []), (if z ≤ (splitN Gs z i).2 then 0 else (splitN Gs z i).2) + (byteK (Gs.getD i []) : Int))
def splitP (L : List KV) (size : Int) : List (List KV) := (splitN (groupP L) (max size 1) (groupP L).length).1
theorem splitN_len (Gs : List (List KV)) (z : Int) : ∀ i, (splitN Gs z i).1.length ≤ i
  | 0 => Nat.le_refl _
  | i + 1 => by
    have := splitN_len Gs z i
    rw [splitN, addLast_len]
    split
    · rw [List.length_append, List.length_singleton]; omega
    · omega
theorem flat_take (Gs : List (List KV)) (i : Nat) (h : i < Gs.length) : (Gs.take (i + 1)).flatten = (Gs.take i).flatten ++ Gs.getD i [] := by
  rw [List.take_succ_eq_append_getElem h, List.flatten_append, List.getD_eq_getElem?_getD, List.getElem?_eq_getElem h]
  simp
theorem splitN_n (Gs : List (List KV)) (z : Int) : ∀ i, i ≤ Gs.length → (i = 0 ∧ (splitN Gs z i).2 = z) ∨ (0 ≤ (splitN Gs z i).2 ∧ (splitN Gs z i).2 ≤ (byteK ((Gs.take i).flatten) : Int))
  | 0, _ => Or.inl ⟨rfl, rfl⟩
  | i + 1, h => by
    right
    have ih := splitN_n Gs z i (by omega)
    rw [flat_take Gs i (by omega), byteK_append, splitN]
    simp only []
    split
    · omega
    · rcases ih with ⟨_, e⟩ | ⟨h1, h2⟩
      · omega
      · omega
theorem splitN_pos (Gs : List (List KV)) (z : Int) : ∀ i, 0 < i → 0 < (splitN Gs z i).1.length
  | 0, h => by omega
  | i + 1, _ => by
    rw [splitN, addLast_len]
    by_cases h : i = 0
    · subst h
      rw [if_pos (show z ≤ (splitN Gs z 0).2 from Int.le_refl _)]
      simp
    · have := splitN_pos Gs z i (by omega)
      split
      · simp
      · exact this
theorem splitN_each (Gs : List (List KV)) (z : Int) : ∀ i, i ≤ Gs.length → ∀ X ∈ (splitN Gs z i).1, X.length ≤ (Gs.take i).flatten.length
  | 0, _, X, h => by cases h
  | i + 1, hi, X, h => by
    have ih := splitN_each Gs z i (by omega)
    have ih2 : ∀ X ∈ (if z ≤ (splitN Gs z i).2 then (splitN Gs z i).1 ++ [[]] else (splitN Gs z i).1), X.length ≤ (Gs.take i).flatten.length := fun X hX => by
      split at hX
      · rcases List.mem_append.1 hX with hX | hX
        · exact ih X hX
        · rw [List.mem_singleton.1 hX]; exact Nat.zero_le _
      · exact ih X hX
    rw [flat_take Gs i (by omega), List.length_append]
    rw [splitN] at h
    rcases mem_addLast h with h | h
    · have := ih2 X h; omega
    · have := last_len ih2
      rw [h, List.length_append]
      omega
theorem flat_sub (Gs : List (List KV)) (i : Nat) : byteK ((Gs.take i).flatten) ≤ byteK Gs.flatten ∧ (Gs.take i).flatten.length ≤ Gs.flatten.length := by
  have e : Gs.flatten = (Gs.take i).flatten ++ (Gs.drop i).flatten := by rw [← List.flatten_append, List.take_append_drop]
  rw [e, byteK_append, List.length_append]
  omega
/-- Groups, one behind the other, are the list. -/
theorem addLast_flat {G : List (List KV)} (h : 0 < G.length) (X : List KV) : (addLast G X).flatten = G.flatten ++ X := by
  obtain ⟨G', l, rfl⟩ : ∃ G' l, G = G' ++ [l] := by
    rcases List.eq_nil_or_concat G with e | ⟨a, b, e⟩
    · subst e; exact absurd h (by simp)
    · exact ⟨a, b, by rw [e, List.concat_eq_append]⟩
  unfold addLast
  have e : (G' ++ [l]).length - 1 = G'.length := by simp
  rw [e, List.getD_eq_getElem?_getD, List.getElem?_concat_length, List.set_append_right _ _ (Nat.le_refl _), Nat.sub_self]
  simp
theorem groupN_flat (L : List KV) : ∀ i, i ≤ L.length → (groupN L i).flatten = L.take i
  | 0, _ => by simp [groupN]
  | i + 1, h => by
    have ih := groupN_flat L i (by omega)
    have hi : i < L.length := by omega
    rw [groupN, List.getElem?_eq_getElem hi, List.take_succ_eq_append_getElem hi, ← ih]
    by_cases hc : cutAt L i = true
    · rw [if_pos hc, addLast_flat (by simp)]
      simp
    · rw [if_neg hc, addLast_flat]
      · rfl
      · refine groupN_pos L i (Nat.pos_of_ne_zero fun e => hc ?_)
        subst e
        unfold cutAt
        simp
theorem groupP_flat (L : List KV) : (groupP L).flatten = L := by unfold groupP; rw [groupN_flat L _ (Nat.le_refl _), List.take_length]
theorem Rlk.low {w : World} {B B' : Nat} {v : Value} {G : List (List KV)} (h : Rlk w B v G) (hB : B' ≤ B) : Rlk w B' v G := by
  obtain ⟨a, h1, h2⟩ := h
  exact ⟨a, World.ownsRow.mono h1 hB, ⟨fun i hi => (h2.each i hi).low hB, h2.apart⟩⟩
/-- A row of the call's own, as a list of pairs that can be read. -/
theorem own_keysAt {w : World} {B n c : Nat} {A : Option Addr} {L : List KV} (h : Own elKeys w B 33 (.slice A n c) L) : KeysAt w A n L := by
  obtain ⟨hn, hA, _⟩ := own_reads h
  refine ⟨hn, fun i m hm => ?_⟩
  have h0 : 0 < L.length := by have := (List.getElem?_eq_some_iff.1 hm).1; omega
  obtain ⟨g, c', cur, e1, _, _⟩ := h.some_ h0
  injection e1 with e1 e2 e3
  subst e1
  have hlt := (h.lt (g := g) rfl).2
  have z0 := Own.cells (j := 0) (u := .string m.1) h hm (by decide) rfl
  have z1 := Own.cells (j := 1) (u := .string m.2) h hm (by decide) rfl
  refine ⟨g, 0, rfl, hlt, ?_, ?_⟩ <;> rw [Nat.zero_add]
  · exact z0
  · exact z1
set_option maxRecDepth 100000 in
set_option maxHeartbeats 8000000 in
theorem msplit_any (A : Option Addr) (n c : Nat) (L : List KV) (size : Int) (hsz : -9223372036854775808 ≤ size ∧ size ≤ 9223372036854775807) (w : World) (h : KeysAt w A n L) (hn : n ≤ 90000) (hs : ∀ m ∈ L, m.1.size ≤ 4294967000) (hb : byteK L ≤ 1000000000000) (hT : LaidH w) :
    Calls Try.prog 11 #[.slice A n c, .int .i64 size] w fun e w' => ∃ v, e = .returned v ∧ Rlk w' w.heap.size v (splitP L size) ∧ w.grownBy w' none := by
  have CG := Lib.hid (mgroup_any A n c L w h hn hs hT)
  have HFL : Hid (byteK (groupP L).flatten ≤ 1000000000000 ∧ (groupP L).flatten.length ≤ 90000) := Lib.hid (by rw [groupP_flat]; exact ⟨hb, by rw [← h.len]; exact hn⟩)
  have HGL : Hid ((groupP L).length ≤ 90000) := Lib.hid (by have := groupN_len L L.length; have := h.len; unfold groupP; omega)
  obtain ⟨R, hR⟩ : ∃ R, splitP L size = R := ⟨_, rfl⟩
  rw [hR]
  unfold splitP at hR
  have hz1 : max size 1 ≤ 9223372036854775807 ∧ 1 ≤ max size 1 := by omega
  obtain ⟨z, hz⟩ : ∃ z, max size 1 = z := ⟨_, rfl⟩
  rw [hz] at hR hz1
  have HR0 := Lib.hid hR
  have HZ := Lib.hid hz
  have HZ1 := Lib.hid hz1
  clear h hn hs hb hT hR hz1
  generalize groupP L = Gs at *
  go_enter Try.func11, Try.ntmps11
  go_wp2_with fail
  clear hz hsz
  refine CG.out.mono ?_
  rintro e w2 ⟨vg, rfl, hrg, hg2⟩
  obtain ⟨ag, cg, rfl⟩ := hrg.slice
  have HRG := Lib.hid hrg
  have HG2 := Lib.hid hg2
  have hgn := HGL.out
  obtain ⟨lg, hlg⟩ : ∃ lg, Gs.length = lg := ⟨_, rfl⟩
  have HLG := Lib.hid hlg
  rw [hlg] at hgn
  have HRG2 : Hid (Rlk w2 w.heap.size (.slice ag lg cg) Gs) := Lib.hid (by rw [← hlg]; exact hrg)
  rw [hlg]
  clear hrg hg2 CG hlg
  go_wp2_with fail
  go_loopw [5, 6, 16] (fun v x i wr => ∃ (k : Nat) (nn : Int), k ≤ lg ∧ i = .int .i64 (k : Int) ∧ x = .int .i64 nn ∧ Hid (nn = (splitN Gs z k).2) ∧ Hid (GrSt w2 wr v (splitN Gs z k).1)) (fun _ _ i _ => lg - (intOf i).toNat)
  case atStart => exact ⟨0, z, by omega, rfl, rfl, Lib.hid rfl, Lib.hid ⟨Rlk.nil _ _, Below.refl _ _⟩⟩
  case round =>
    obtain ⟨k, nn, hk, rfl, rfl, HNN, HG⟩ := hrel
    obtain ⟨av, cv, rfl⟩ := HG.out.row.slice
    by_cases hl : k < lg
    · have g1 : (k : Int) < (lg : Int) := Int.ofNat_lt.2 hl
      have g2 : (0 : Int) ≤ (k : Int) := Int.natCast_nonneg k
      have w1' : wrap64 ((k : Int) + 1) = (k : Int) + 1 := by unfold wrap64; omega
      have hkG : k < Gs.length := by rw [HLG.out]; exact hl
      obtain ⟨gg, cg2, ug, eg, _, hgL, hcg, hog⟩ := HRG2.out.at_ (List.getElem?_eq_getElem hkG)
      injection eg with eg1 eg2 eg3
      subst eg1
      clear eg2 eg3
      have hgd : Gs[k] = Gs.getD k [] := by rw [List.getD_eq_getElem?_getD, List.getElem?_eq_getElem hkG]; rfl
      rw [hgd] at hog
      obtain ⟨X, hX⟩ : ∃ X, Gs.getD k [] = X := ⟨_, rfl⟩
      have HX := Lib.hid hX
      have hft := flat_take Gs k hkG
      rw [hX] at hog hft
      obtain ⟨au, cu2, rfl⟩ := hog.slice
      have x0 : wr.cell? ⟨gg, k, none⟩ = some (.slice au X.length cu2) := (HG.out.bel.cell (p := ⟨gg, k, none⟩) hgL).trans hcg
      have HOG := Lib.hid hog
      have hln := splitN_len Gs z k
      have HLN := Lib.hid hln
      have hnb := splitN_n Gs z k (Nat.le_of_lt hkG)
      rw [← HNN.out] at hnb
      have hfs := flat_sub Gs k
      have hfs1 := flat_sub Gs (k + 1)
      have hsum : byteK ((Gs.take k).flatten) + byteK X ≤ 1000000000000 := by
        rw [hft, byteK_append] at hfs1
        exact Nat.le_trans hfs1.1 HFL.out.1
      have hgl : X.length ≤ 90000 := by
        rw [hft, List.length_append] at hfs1
        have := HFL.out.2
        omega
      have HNB := Lib.hid hnb
      have HSUM := Lib.hid hsum
      have HGL2 := Lib.hid hgl
      have HEA : Hid (∀ X ∈ (splitN Gs z k).1, X.length ≤ 90000) := Lib.hid fun X hX => by
        have := splitN_each Gs z k (Nat.le_of_lt hkG) X hX
        have := HFL.out.2
        omega
      have HPS := Lib.hid (splitN_pos Gs z k)
      obtain ⟨cu, hcu⟩ : ∃ cu, decide (z ≤ nn) = cu := ⟨_, rfl⟩
      have HCU := Lib.hid hcu
      have HSN : Hid (splitN Gs z (k + 1) = (addLast (if cu = true then (splitN Gs z k).1 ++ [[]] else (splitN Gs z k).1) X, (if cu = true then 0 else nn) + (byteK X : Int))) := Lib.hid (by
        rw [splitN, ← HNN.out, ← hcu, hX]
        simp only [decide_eq_true_eq])
      clear hcg hog hkG hgd hln hnb hfs hfs1 hft hsum hgl hX
      go_upto_if 22 with fail
      go_cut [5, 6] from 23 to 25 (fun s5 s6 wx => ∃ v1, s5 = v1 ∧ s6 = .int .i64 (if cu = true then 0 else nn) ∧ Hid (GrSt w2 wx v1 (if cu = true then (splitN Gs z k).1 ++ [[]] else (splitN Gs z k).1)) ∧ Hid (Below wr.heap.size wr wx ∨ True))
      case first =>
        as_aux_lemma =>
        cases cu with
        | false =>
          have hcu : decide (z ≤ nn) = false := hcu
          have hcu2 : ¬ z ≤ nn := of_decide_eq_false hcu
          go_wp2_with fail
          go_meet
          exact ⟨_, rfl, rfl, HG, Lib.hid (Or.inr trivial)⟩
        | true =>
          have hcu2 : z ≤ nn := of_decide_eq_true hcu
          have D8 := HG.out.up (below_alloc (Below.refl _ _) (Nat.le_refl _) (.cells #[.slice none 0 0] 25))
          have hnb : (wr.alloc (.cells #[.slice none 0 0] 25)).cell? ⟨wr.heap.size, 0, none⟩ = some (.slice none 0 0) := (Blk.new wr _ _).cell 0
          obtain ⟨v1, w3, hr, hrl, ht⟩ := D8.row.more D8.bel.size wr.heap.size 1 hnb (by have := HLN.out; omega)
          obtain ⟨a1, c1, rfl⟩ := hrl.slice
          have HR := fun ty => Lib.hid (hr ty)
          have E1 : Hid (GrSt w2 w3 (.slice a1 ((splitN Gs z k).1 ++ [[]]).length c1) ((splitN Gs z k).1 ++ [[]])) := Lib.hid ⟨hrl, D8.bel.trans (ht.below D8.bel.size)⟩
          clear D8 hnb hr hrl ht
          generalize ((splitN Gs z k).1 ++ [[]]).length = l1 at *
          generalize (splitN Gs z k).1.length = l0 at *
          go_wp2_with (at_builtin; refine wpList_append_k _ w3 rfl (.tmp 23) (.tmp 24) 22 rfl _ _ (.slice a1 l1 c1) rfl rfl (fun ty => (HR ty).out) ?_)
          go_meet
          exact ⟨_, rfl, rfl, E1, Lib.hid (Or.inr trivial)⟩
      case rest =>
      obtain ⟨v1, rfl, rfl, E1, _⟩ := hcut
      have hpos : 0 < (if cu = true then (splitN Gs z k).1 ++ [[]] else (splitN Gs z k).1).length := by
        cases hc : cu with
        | true => simp
        | false =>
          rw [if_neg (by decide)]
          refine HPS.out (Nat.pos_of_ne_zero fun e => ?_)
          have h1 := HCU.out
          rw [hc, HNN.out, e] at h1
          exact of_decide_eq_false h1 (Int.le_refl _)
      have hlen1 : (if cu = true then (splitN Gs z k).1 ++ [[]] else (splitN Gs z k).1).length ≤ 90001 := by
        have := HLN.out
        split
        · rw [List.length_append, List.length_singleton]; omega
        · omega
      have HEA2 : Hid (∀ Y ∈ (if cu = true then (splitN Gs z k).1 ++ [[]] else (splitN Gs z k).1), Y.length ≤ 90000) := Lib.hid fun Y hY => by
        split at hY
        · rcases List.mem_append.1 hY with hY | hY
          · exact HEA.out Y hY
          · rw [List.mem_singleton.1 hY]; exact Nat.zero_le _
        · exact HEA.out Y hY
      have hn1 : 0 ≤ (if cu = true then 0 else nn) ∧ (if cu = true then 0 else nn) + (byteK X : Int) ≤ 1000000000000 := by
        have h1 := HNB.out
        have h2 := HSUM.out
        have h3 := HCU.out
        cases hc : cu with
        | true => rw [if_pos rfl]; omega
        | false =>
          rw [hc] at h3
          have h3 := of_decide_eq_false h3
          rw [if_neg (by decide)]
          omega
      generalize (if cu = true then (splitN Gs z k).1 ++ [[]] else (splitN Gs z k).1) = G1 at *
      generalize (if cu = true then 0 else nn) = n1 at *
      obtain ⟨lp, hlp⟩ : ∃ lp, lp = G1.length - 1 := ⟨_, rfl⟩
      have hgl := List.getElem?_eq_getElem (show G1.length - 1 < G1.length by omega)
      obtain ⟨go, c1, u, rfl, hgoB, hgoL, hcu2, hou⟩ := E1.out.row.at_ hgl
      have hgd : G1[G1.length - 1] = G1.getD (G1.length - 1) [] := by rw [List.getD_eq_getElem?_getD, hgl]; rfl
      rw [hgd] at hou
      have hLl : (G1.getD (G1.length - 1) []).length ≤ 90000 := by
        have := HEA2.out _ (List.mem_of_getElem? hgl)
        rw [hgd] at this
        exact this
      have d1 : wrap64 ((G1.length : Int) - 1) = (lp : Int) := by unfold wrap64; omega
      have d2 : (lp : Int) < (G1.length : Int) := by omega
      have d3 : (0 : Int) ≤ (lp : Int) := by omega
      have d4 : wrap64 (n1 + (byteK X : Int)) = n1 + (byteK X : Int) := wrap_sml (by omega) (by omega)
      have hogc : Own elKeys wc w.heap.size 33 (.slice au X.length cu2) X := HOG.out.below E1.out.bel
      obtain ⟨_, hAN, hMR⟩ := own_reads hogc
      have hx1 : wc.cell? ⟨go, G1.length - 1, none⟩ = some u := hcu2
      obtain ⟨aw, cw, eu⟩ := hou.slice
      have hXl := HGL2.out
      obtain ⟨v', w3, hr, hown, hgr, _, hblk⟩ := app_own (P := Try.prog) elKeys 25 33 (.agg #[.string ⟨#[]⟩, .string ⟨#[]⟩]) 32 underKeys infoKeys rfl wc w2.heap.size u (G1.getD (G1.length - 1) []) X hou au cu2 hAN hMR (by unfold maxLen; omega) (by omega) E1.out.bel.size X.length rfl
      obtain ⟨hrl, htl, ⟨zz, hzz⟩, hfz⟩ := Rlk.last E1.out.row hpos hcu2 hown hgr hblk
      obtain ⟨av', cv', ev'⟩ := hown.slice
      have FIN := Lib.hid (show GrSt w2 (w3.setCell ⟨go, G1.length - 1, none⟩ v') (.slice (some ⟨go, 0, none⟩) G1.length c1) (splitN Gs z (k + 1)).1 from ⟨by rw [HSN.out]; exact hrl, E1.out.bel.trans (htl.below E1.out.bel.size)⟩)
      rw [← hlp] at hcu2 hx1 hzz hfz FIN
      rw [ev'] at FIN hr
      rw [eu] at hr hcu2 hx1
      have HR := fun ty => Lib.hid (hr ty)
      have HN2 : Hid (n1 + (byteK X : Int) = (splitN Gs z (k + 1)).2) := Lib.hid (by rw [HSN.out])
      have CBY := Lib.hid (mbytes_any au X.length cu2 X _ (own_keysAt (HOG.out.below FIN.out.bel)) (by omega) (by omega))
      clear hr hown hgr hblk hrl htl hou hgd hgl eu ev' E1 HSN HCU HPS HLN HEA HEA2 HNB HSUM HGL2 HOG hogc hAN hMR hgoB hgoL hcu2 hLl hlp hpos hlen1 hXl hn1 HG HNN HX
      generalize (G1.getD (G1.length - 1) []).length = ll at *
      generalize (G1.getD (G1.length - 1) [] ++ X).length = ll2 at *
      generalize G1.length = l1 at *
      generalize byteK X = bx at *
      generalize X.length = xl at *
      go_wp2_with (at_builtin; refine wpList_append_k _ w3 rfl (.tmp 34) (.tmp 35) 25 rfl _ _ (.slice av' ll2 cv') rfl rfl (fun ty => (HR ty).out) ?_)
      refine CBY.out.mono ?_
      rintro e w5 ⟨rfl, hg5⟩
      have FIN2 := Lib.hid (FIN.out.up (below_g hg5))
      clear hg5 CBY FIN
      go_wp2_with fail
      go_roundw
      case rel => exact ⟨k + 1, n1 + (bx : Int), hl, by go_num, by rw [d4], HN2, FIN2⟩
      case measure => simp [intOf]; omega
    · obtain rfl : k = lg := by omega
      have g3 : ¬ (k : Int) < (k : Int) := Int.lt_irrefl _
      have hfin : (splitN Gs z k).1 = R := by rw [← HLG.out]; exact HR0.out
      rw [hfin] at HG ⊢
      have F := Lib.hid (show Rlk wr w.heap.size (.slice av R.length cv) R ∧ w.grownBy wr none from ⟨HG.out.row.low HG2.out.size, gnone HG2.out (g_below HG.out.bel)⟩)
      clear HG HNN
      generalize R.length = lr at *
      go_wp2_with fail
      go_ret
      exact ⟨_, rfl, F.out⟩
end Go.Proofs.Yteackdafggomhaa

namespace Go.Proofs.Yteackdafggomhaa
open Go.RowKit

def tA : ByteArray := ⟨#[97]⟩
def tB : ByteArray := ⟨#[98]⟩
def tC : ByteArray := ⟨#[99]⟩
def t1 : ByteArray := ⟨#[49]⟩
def t2 : ByteArray := ⟨#[50]⟩
def t3 : ByteArray := ⟨#[51]⟩
def t9 : ByteArray := ⟨#[57]⟩
def al1 : List KV := [(tA, t1), (tC, t2)]
def al2 : List KV := [(tA, t9), (tB, t3)]
def alR : List KV := [(tA, t1), (tB, t3), (tC, t2)]
theorem al_ris : risesK al1 = true ∧ risesK al2 = true ∧ risesK alR = true := by decide +kernel
theorem al_ne : tB ≠ tA ∧ tC ≠ tA ∧ tC ≠ tB := by
  refine ⟨fun h => ?_, fun h => ?_, fun h => ?_⟩ <;> exact absurd (congrArg (fun s : ByteArray => s.data.toList) h) (by decide)
theorem al_merge : IsMerge [al1, al2] alR := by
  obtain ⟨n1, n2, n3⟩ := al_ne
  refine ⟨al_ris.2.2, fun m => ?_⟩
  constructor
  · intro hm
    unfold alR at hm
    simp only [List.mem_cons, List.not_mem_nil, or_false] at hm
    rcases hm with rfl | rfl | rfl
    · exact ⟨0, al1, rfl, List.mem_cons_self, fun j M hj => absurd hj (Nat.not_lt_zero _)⟩
    · refine ⟨1, al2, rfl, List.mem_cons_of_mem _ List.mem_cons_self, fun j M hj hM x hx e => ?_⟩
      obtain rfl : j = 0 := by omega
      cases hM
      unfold al1 at hx
      simp only [List.mem_cons, List.not_mem_nil, or_false] at hx
      rcases hx with rfl | rfl
      · exact n1 e.symm
      · exact n3 e
    · exact ⟨0, al1, rfl, List.mem_cons_of_mem _ List.mem_cons_self, fun j M hj => absurd hj (Nat.not_lt_zero _)⟩
  · rintro ⟨i, L, hL, hm, hmin⟩
    match i, hL with
    | 0, hL =>
      cases hL
      unfold al1 at hm
      simp only [List.mem_cons, List.not_mem_nil, or_false] at hm
      rcases hm with rfl | rfl
      · exact List.mem_cons_self
      · exact List.mem_cons_of_mem _ (List.mem_cons_of_mem _ List.mem_cons_self)
    | 1, hL =>
      cases hL
      unfold al2 at hm
      simp only [List.mem_cons, List.not_mem_nil, or_false] at hm
      rcases hm with rfl | rfl
      · exact absurd rfl (hmin 0 al1 (by omega) rfl (tA, t1) List.mem_cons_self)
      · exact List.mem_cons_of_mem _ List.mem_cons_self
    | i + 2, hL => simp at hL
theorem al_split : splitP alR 3 = [[(tA, t1), (tB, t3)], [(tC, t2)]] := by decide +kernel
theorem al_group : (groupP alR).length = 3 := by decide +kernel
theorem al_byte : byteK alR ≤ 1000000000000 := by decide +kernel
theorem al_size : ∀ m ∈ alR, m.1.size ≤ 4294967000 := by
  intro m hm
  unfold alR at hm
  simp only [List.mem_cons, List.not_mem_nil, or_false] at hm
  rcases hm with rfl | rfl | rfl <;> decide
set_option maxRecDepth 100000 in
set_option maxHeartbeats 4000000 in
theorem alive16_any (w : World) (hT : LaidH w) : Calls Try.prog 7 #[] w fun e w' => e = .returned (.bool true) ∧ w.grownBy w' none := by
  obtain ⟨w3, hw3⟩ : ∃ w3, w3 = ((w.alloc (.cells #[.string ⟨#[97]⟩, .string ⟨#[49]⟩, .string ⟨#[99]⟩, .string ⟨#[50]⟩] 33)).alloc (.cells #[.string ⟨#[97]⟩, .string ⟨#[57]⟩, .string ⟨#[98]⟩, .string ⟨#[51]⟩] 33)).alloc (.cells #[.slice (some ⟨w.heap.size, 0, none⟩) 2 2, .slice (some ⟨w.heap.size + 1, 0, none⟩) 2 2] 25) := ⟨_, rfl⟩
  have hg : w.grownBy w3 none := by rw [hw3]; exact gnone (gnone (World.grownBy_alloc w _ none) (World.grownBy_alloc _ _ none)) (World.grownBy_alloc _ _ none)
  have B0 : Blk w3 w.heap.size 33 #[.string ⟨#[97]⟩, .string ⟨#[49]⟩, .string ⟨#[99]⟩, .string ⟨#[50]⟩] := by rw [hw3]; exact ((Blk.new w _ _).alloc _).alloc _
  have B1 : Blk w3 (w.heap.size + 1) 33 #[.string ⟨#[97]⟩, .string ⟨#[57]⟩, .string ⟨#[98]⟩, .string ⟨#[51]⟩] := by rw [hw3]; exact (Blk.new' (by simp) _ _).alloc _
  have B2 : Blk w3 (w.heap.size + 2) 25 #[.slice (some ⟨w.heap.size, 0, none⟩) 2 2, .slice (some ⟨w.heap.size + 1, 0, none⟩) 2 2] := by rw [hw3]; exact Blk.new' (by simp) _ _
  have K0 : KeysAt w3 (some ⟨w.heap.size, 0, none⟩) 2 al1 := ⟨rfl, fun i m hm => by
    match i, hm with
    | 0, hm => cases hm; exact ⟨_, 0, rfl, B0.lt, B0.cell 0, B0.cell 1⟩
    | 1, hm => cases hm; exact ⟨_, 0, rfl, B0.lt, B0.cell 2, B0.cell 3⟩
    | i + 2, hm => simp [al1] at hm⟩
  have K1 : KeysAt w3 (some ⟨w.heap.size + 1, 0, none⟩) 2 al2 := ⟨rfl, fun i m hm => by
    match i, hm with
    | 0, hm => cases hm; exact ⟨_, 0, rfl, B1.lt, B1.cell 0, B1.cell 1⟩
    | 1, hm => cases hm; exact ⟨_, 0, rfl, B1.lt, B1.cell 2, B1.cell 3⟩
    | i + 2, hm => simp [al2] at hm⟩
  have LA : ListsAt w3 (some ⟨w.heap.size + 2, 0, none⟩) 2 [al1, al2] := ⟨rfl, fun i L hL => by
    match i, hL with
    | 0, hL => cases hL; exact ⟨_, 0, _, 2, 2, rfl, B2.lt, B2.cell 0, K0, Nat.le_refl _⟩
    | 1, hL => cases hL; exact ⟨_, 0, _, 2, 2, rfl, B2.lt, B2.cell 1, K1, Nat.le_refl _⟩
    | i + 2, hL => simp at hL⟩
  have CM := Lib.hid (mmerge_any _ 2 2 [al1, al2] w3 LA (by omega) (fun L hL => by
    simp only [List.mem_cons, List.not_mem_nil, or_false] at hL
    rcases hL with rfl | rfl <;> decide))
  have PM : Hid (∀ e w', MergeP w3 [al1, al2] e w' → w3.grownBy w' none ∧ ∃ v, e = .returned (.tuple #[v, .int .i64 0]) ∧ Own elKeys w' w3.heap.size 33 v alR) := Lib.hid fun e w' h => by
    obtain ⟨h1, h2, _⟩ := h
    obtain ⟨v, R, e1, ho, hm⟩ := h2 (fun L hL => by
      simp only [List.mem_cons, List.not_mem_nil, or_false] at hL
      rcases hL with rfl | rfl
      · exact al_ris.1
      · exact al_ris.2.1)
    rw [hm.uniq al_merge] at ho
    exact ⟨h1, v, e1, ho⟩
  have CS := fun W A c (h : KeysAt W A 3 alR) (hW : LaidH W) => Lib.hid (msplit_any A 3 c alR 3 (by omega) W h (by omega) al_size al_byte hW)
  have CGr := fun W A c (h : KeysAt W A 3 alR) (hW : LaidH W) => Lib.hid (mgroup_any A 3 c alR W h (by omega) al_size hW)
  have HG := Lib.hid hg
  have HW := Lib.hid hw3
  have HT := Lib.hid hT
  clear hg hw3 B0 B1 B2 K0 K1 LA hT
  go_enter Try.func7, Try.ntmps7
  go_wp2_with fail
  rw [← HW.out]
  refine CM.out.mono ?_
  intro e w4 hm
  obtain ⟨hg4, v, rfl, ho⟩ := PM.out e w4 hm
  obtain ⟨a4, c4, rfl⟩ := ho.slice
  have HO := Lib.hid ho
  have HG4 := Lib.hid (gnone HG.out hg4)
  have CS4 := CS w4 a4 c4 (own_keysAt ho) (HT.out.on (below_g HG4.out))
  rw [al_split] at CS4
  obtain ⟨ga, cx, cur, ev, _, _⟩ := ho.some_ (by decide)
  injection ev with ev1 ev2 ev3
  clear ev2 ev3
  subst ev1
  have y1 := Own.cells (i := 0) (j := 1) (u := .string t1) ho rfl (by decide) rfl
  have y2 := Own.cells (i := 1) (j := 0) (u := .string tB) ho rfl (by decide) rfl
  have Y1 : Hid (w4.cell? ⟨ga, 1, none⟩ = some (.string ⟨#[49]⟩)) := Lib.hid y1
  have Y2 : Hid (w4.cell? ⟨ga, 2, none⟩ = some (.string ⟨#[98]⟩)) := Lib.hid y2
  clear hm hg4 ho CS CM PM y1 y2
  go_wp2_with fail
  refine CS4.out.mono ?_
  rintro e w5 ⟨vs, rfl, hrs, hg5⟩
  obtain ⟨gs, cs, u, rfl, _, _, hcu, hou⟩ := hrs.at_ (i := 0) rfl
  obtain ⟨au, cu, rfl⟩ := hou.slice
  have HG5 := Lib.hid (gnone HG4.out hg5)
  have y1 : w5.cell? ⟨ga, 1, none⟩ = some (.string ⟨#[49]⟩) := hg5.cell Y1.out (by simp)
  have y2 : w5.cell? ⟨ga, 2, none⟩ = some (.string ⟨#[98]⟩) := hg5.cell Y2.out (by simp)
  have y3 : w5.cell? ⟨gs, 0, none⟩ = some (.slice au 2 cu) := hcu
  have CG5 := CGr w5 _ c4 (own_keysAt (HO.out.below (below_g hg5))) (HT.out.on (below_g HG5.out))
  clear hrs hg5 hcu hou CS4 CGr HO
  go_wp2_with fail
  refine CG5.out.mono ?_
  rintro e w6 ⟨vg, rfl, hrg, hg6⟩
  obtain ⟨ag, cg, rfl⟩ := hrg.slice
  have HG6 := Lib.hid (gnone HG5.out hg6)
  rw [al_group]
  clear hrg hg6 CG5
  go_wp2_with fail
  go_ret
  exact ⟨rfl, HG6.out⟩
end Go.Proofs.Yteackdafggomhaa

namespace Go.Proofs.Yteackdafggomhaa
open Go.RowKit Go.WideShapes Go.ChangeShapes Go.Deep

/-- The lists Ls stand at A; nothing of them is longer than what can be read. -/
structure ListsIn (w : World) (A : Option Addr) (n : Nat) (Ls : List (List KV)) : Prop where
  at_ : ListsAt w A n Ls
  max : n ≤ 140737488351232
  each : ∀ (i : Nat) (L : List KV), Ls[i]? = some L → ∃ g off B ni ci, A = some ⟨g, off, none⟩ ∧ g < w.heap.size ∧ w.cell? ⟨g, off + i, none⟩ = some (.slice B ni ci) ∧ PairsIn w B ni L
section
variable {H : Type} {enc : TypeId × Value → H} {P : Program} {w : World} {t e : TypeId} {A : Option Addr} {n cp : Nat} {d : DataW H} {p : List MemPlace}
theorem lists_view {f s : TypeId} (ht : P.underlying t = some (.slice e)) (hce : P.cellsOf e = 1) (he : P.underlying e = some (.slice f)) (hf : P.underlying f = some (.array 2 s)) (hs : P.underlying s = some .string) (hc : P.cellsOf f = 2) (hcs : P.cellsOf s = 1) (hbe : 0 < P.bytesOf e)
    (h : DataW.Trod enc P w 0 (fun _ => true) true t (.slice A n cp) d p) (hwt : ∀ x ∈ d.weights P t, x ≤ 140737488351232) : ∃ Ls, ListsIn w A n Ls ∧ n ≤ cp ∧ (A = none → cp = 0) := by
  obtain ⟨fuel, hfu⟩ := h
  rcases open_slice ht hfu with ⟨hcs', _⟩ | ⟨a, len', cap', m, k, D, Pl, hcs', _, hl, hm, hmm, hdx, hx⟩
  · simp [Value.cells] at hcs'
    obtain ⟨rfl, rfl, rfl⟩ := hcs'
    exact ⟨[], ⟨⟨rfl, fun i m hm => by simp at hm⟩, by decide, fun i m hm => by simp at hm⟩, Nat.le_refl _, fun _ => rfl⟩
  · simp [Value.cells] at hcs'
    obtain ⟨rfl, rfl, rfl⟩ := hcs'
    rw [if_pos rfl] at hmm
    have hm' := hm
    unfold maxLen at hm
    have each : ∀ j, j < n → ∃ q : List KV, ∃ B ni ci, w.cell? (a.add j) = some (.slice B ni ci) ∧ PairsIn w B ni q ∧ ni ≤ ci := by
      intro j hj
      obtain ⟨cs', h1, h2⟩ := hx j (by omega)
      have hwj : ∀ x ∈ (D j).weights P e, x ≤ 140737488351232 := fun x hxm => hwt x (by
        rw [show d = _ from congrArg Prod.fst hdx]
        simp only [DataW.weights, ht]
        exact List.mem_cons_of_mem _ (List.mem_append_left _ (weights_all hxm (List.mem_map.2 ⟨j, List.mem_range.2 hj, rfl⟩))))
      rw [hce] at h1
      obtain ⟨_, hlen, hcell⟩ := World.cells?_some h1
      match cs', hlen, hcell, h2 with
      | [v0], _, hcell, h2 =>
        have hc0 := hcell 0 (by simp)
        rw [Nat.mul_one] at hc0
        have hc0 : w.cell? (a.add j) = some v0 := by simpa [Go.Deep.add_add] using hc0
        have hle : ∃ B ni ci, v0 = .slice B ni ci ∧ ni ≤ ci := by
          rcases open_slice he h2 with ⟨e1, _⟩ | ⟨a', l', c', _, _, _, _, e1, _, hl', _⟩
          · exact ⟨none, 0, 0, by simpa using e1, Nat.le_refl _⟩
          · exact ⟨some a', l', c', by simpa using e1, hl'⟩
        obtain ⟨B, ni, ci, rfl, hle⟩ := hle
        obtain ⟨L, hL⟩ := pairs_view (A := B) (n := ni) (cp := ci) (d := D j) (p := Pl j) he hf hs hc hcs ⟨_, by simpa [Value.cells] using h2⟩ hwj
        exact ⟨L, B, ni, ci, hc0, hL, hle⟩
    obtain ⟨q, hq⟩ := choose_lt each
    have hget : ∀ (i : Nat) (m : List KV), ((List.range n).map q)[i]? = some m → i < n ∧ m = q i := by
      intro i m hm
      have hi : i < n := by
        have := (List.getElem?_eq_some_iff.1 hm).1
        simpa using this
      rw [List.getElem?_map, List.getElem?_range hi] at hm
      cases hm
      exact ⟨hi, rfl⟩
    have two : ∀ (i : Nat) (L : List KV), ((List.range n).map q)[i]? = some L → ∃ g off B ni ci, some a = some (⟨g, off, none⟩ : Addr) ∧ g < w.heap.size ∧ w.cell? ⟨g, off + i, none⟩ = some (.slice B ni ci) ∧ PairsIn w B ni L ∧ ni ≤ ci := fun i L hL => by
      obtain ⟨hi, rfl⟩ := hget i L hL
      obtain ⟨b, off, spot⟩ := a
      obtain ⟨B0, n0, c0, hz, _⟩ := hq 0 (by omega)
      have hspot : spot = none := by simpa [Addr.add] using World.cell?_spot hz
      subst hspot
      obtain ⟨B, ni, ci, h1, h2, h3⟩ := hq i hi
      rw [Go.WideShapes.add_plain] at h1
      exact ⟨b, off, B, ni, ci, rfl, block_lt h1, h1, h2, h3⟩
    have hbd : n ≤ 140737488351232 := by
      have h1 := hwt ((((List.range n).map D).length + ((List.range (m - n)).map fun j => D (n + j)).length) * P.bytesOf e) (by
        rw [show d = _ from congrArg Prod.fst hdx]
        simp only [DataW.weights, ht]
        exact List.mem_cons_self)
      have h2 : ((List.range n).map D).length = n := by simp
      rw [h2] at h1
      have h3 := Nat.le_mul_of_pos_right (n + ((List.range (m - n)).map fun j => D (n + j)).length) hbe
      omega
    refine ⟨(List.range n).map q, ⟨⟨by simp, fun i L hL => ?_⟩, hbd, fun i L hL => ?_⟩, hl, fun h => by cases h⟩
    · obtain ⟨g, off, B, ni, ci, e1, e2, e3, e4, e5⟩ := two i L hL
      exact ⟨g, off, B, ni, ci, e1, e2, e3, e4.at_, e5⟩
    · obtain ⟨g, off, B, ni, ci, e1, e2, e3, e4, e5⟩ := two i L hL
      exact ⟨g, off, B, ni, ci, e1, e2, e3, e4⟩
end
def sumLen (Ls : List (List KV)) : Nat := (Ls.map List.length).sum
def lightL (Ls : List (List KV)) : Bool := decide (∀ L ∈ Ls, wtK L ≤ 60000) && (decide (Ls.length ≤ 40) && decide (sumLen Ls ≤ 2000))
theorem sumLen_snoc (Ls : List (List KV)) (L : List KV) : sumLen (Ls ++ [L]) = sumLen Ls + L.length := by unfold sumLen; simp
set_option maxRecDepth 100000 in
set_option maxHeartbeats 4000000 in
theorem light16_any (A : Option Addr) (n c : Nat) (Ls : List (List KV)) (w : World) (h : ListsIn w A n Ls) :
    Calls Try.prog 6 #[.slice A n c] w fun e w' => e = .returned (.bool (lightL Ls)) ∧ w.grownBy w' none := by
  have H := Lib.hid h
  have HL := Lib.hid h.at_.len
  have hmax := h.max
  have HM := Lib.hid h.max
  obtain ⟨R, hR⟩ : ∃ R, lightL Ls = R := ⟨_, rfl⟩
  rw [hR]
  have HR := Lib.hid hR
  clear h hR
  go_enter Try.func6, Try.ntmps6
  go_wp2_with fail
  go_loopw [3, 4] (fun x i wr => ∃ k t : Nat, k ≤ n ∧ t ≤ 500000000000000000 ∧ x = .int .i64 (t : Int) ∧ i = .int .i64 (k : Int) ∧ Hid (t ≤ 3000 * k) ∧ Hid (t = sumLen (Ls.take k)) ∧ Hid (∀ L ∈ Ls.take k, wtK L ≤ 60000) ∧ Hid (w.grownBy wr none)) (fun _ i _ => n - (intOf i).toNat)
  case atStart => exact ⟨0, 0, by omega, by omega, rfl, rfl, Lib.hid (by omega), Lib.hid rfl, Lib.hid (fun L hL => by simp at hL), Lib.hid (grefl _ _)⟩
  case round =>
    obtain ⟨k, t, hk, ht, rfl, rfl, HB, HT, HW, HG⟩ := hrel
    by_cases hl : k < n
    · have g1 : (k : Int) < (n : Int) := Int.ofNat_lt.2 hl
      have g2 : (0 : Int) ≤ (k : Int) := Int.natCast_nonneg k
      have w1' : wrap64 ((k : Int) + 1) = (k : Int) + 1 := by unfold wrap64; omega
      have hkL : k < Ls.length := by rw [← HL.out]; exact hl
      have hs := List.getElem?_eq_getElem hkL
      generalize Ls[k] = L at hs
      have hin := List.mem_of_getElem? hs
      obtain ⟨g, off, B, ni, ci, rfl, hg, hc, hP⟩ := H.out.each k L hs
      have x0 : wr.cell? ⟨g, off + k, none⟩ = some (.slice B ni ci) := HG.out.cell hc (by simp)
      have hPn : PairsIn wr B ni L := ⟨hP.at_.below (below_g HG.out), hP.max, hP.size⟩
      have CLt := Lib.hid (light_any B ni ci L wr hPn)
      have hts := ltake_snoc hs
      have hlen := hP.at_.len
      cases hd : decide (wtK L ≤ 60000) with
      | false =>
        rw [hd] at CLt
        have hf : R = false := by
          rw [← HR.out]
          unfold lightL
          rw [decide_eq_false (fun h => of_decide_eq_false hd (h L hin))]
          rfl
        subst hf
        clear hs hkL hc hP hPn hts hlen hin HR hd
        go_wp2_with fail
        refine CLt.out.mono ?_
        rintro e w2 ⟨rfl, hb2⟩
        have HG2 := Lib.hid (gnone HG.out (g_below hb2))
        clear hb2
        go_wp2_with fail
        go_ret
        exact ⟨rfl, HG2.out⟩
      | true =>
        rw [hd] at CLt
        have hwl := of_decide_eq_true hd
        have h20 := wtK_len L
        have hb1 := HB.out
        have hmx := HM.out
        have hni : ni ≤ 3000 := by omega
        have ht2 : t + ni ≤ 500000000000000000 := by omega
        have HB2 : Hid (t + ni ≤ 3000 * (k + 1)) := Lib.hid (by omega)
        have HT2 : Hid (t + ni = sumLen (Ls.take (k + 1))) := Lib.hid (by rw [hts, sumLen_snoc, ← HT.out, hlen])
        have HW2 : Hid (∀ L ∈ Ls.take (k + 1), wtK L ≤ 60000) := Lib.hid fun M hM => by
          rw [hts] at hM
          rcases List.mem_append.1 hM with hM | hM
          · exact HW.out M hM
          · rw [List.mem_singleton.1 hM]; exact hwl
        have d1 : wrap64 ((t : Int) + (ni : Int)) = (t : Int) + (ni : Int) := by unfold wrap64; omega
        have HT3 := Lib.hid ht2
        have y0 : ∀ w2, w.grownBy w2 none → Hid (w2.cell? ⟨g, off + k, none⟩ = some (.slice B ni ci)) := fun w2 h => Lib.hid (h.cell hc (by simp))
        clear hs hkL hc hP hPn hts hlen hin hd hwl h20 hb1 hni ht2 hmx x0 HT HW HB
        have x0 := (y0 wr HG.out).out
        go_wp2_with fail
        refine CLt.out.mono ?_
        rintro e w2 ⟨rfl, hb2⟩
        have HG2 := Lib.hid (gnone HG.out (g_below hb2))
        have x2 := (y0 w2 HG2.out).out
        clear hb2 y0 x0 CLt
        go_wp2_with fail
        go_roundw
        case rel => exact ⟨k + 1, t + ni, hl, HT3.out, by go_num, by go_num, HB2, HT2, HW2, HG2⟩
        case measure => simp [intOf]; omega
    · obtain rfl : k = n := by omega
      have g3 : ¬ (k : Int) < (k : Int) := Int.lt_irrefl _
      have htk : Ls.take k = Ls := by rw [HL.out]; exact List.take_length
      have hr : (decide (k ≤ 40) && decide (t ≤ 2000)) = R := by
        rw [← HR.out]
        unfold lightL
        have hw := HW.out
        rw [htk] at hw
        rw [show decide (∀ L ∈ Ls, wtK L ≤ 60000) = true from decide_eq_true hw, Bool.true_and, ← HL.out]
        have := HT.out
        rw [htk] at this
        rw [this]
      clear HT HW HB HR htk
      by_cases h40 : k ≤ 40
      · have e1 : decide ((k : Int) ≤ 40) = true := decide_eq_true (by omega)
        by_cases h2 : t ≤ 2000
        · have e2 : decide ((t : Int) ≤ 2000) = true := decide_eq_true (by omega)
          rw [decide_eq_true h40, decide_eq_true h2] at hr
          subst hr
          have z1 : (k : Int) ≤ 40 := by omega
          have z2 : (t : Int) ≤ 2000 := by omega
          go_wp2_with fail
          go_ret
          exact ⟨rfl, HG.out⟩
        · rw [decide_eq_true h40, decide_eq_false h2] at hr
          subst hr
          have z1 : (k : Int) ≤ 40 := by omega
          have z2 : ¬ (t : Int) ≤ 2000 := by omega
          go_wp2_with fail
          go_ret
          exact ⟨rfl, HG.out⟩
      · rw [decide_eq_false h40, Bool.false_and] at hr
        subst hr
        have z1 : ¬ (k : Int) ≤ 40 := by omega
        go_wp2_with fail
        go_ret
        exact ⟨rfl, HG.out⟩
end Go.Proofs.Yteackdafggomhaa

namespace Go.Proofs.Yteackdafggomhaa
open Go.RowKit

set_option maxRecDepth 100000 in
set_option maxHeartbeats 1000000 in
theorem same_at (A1 A2 : Option Addr) (n c1 c2 : Nat) (L : List KV) (w : World) (h1 : KeysAt w A1 n L) (h2 : KeysAt w A2 n L) (hn : n ≤ 1000000) (hok : ∀ x ∈ L, okKeys x) :
    Calls Try.prog 9 #[.slice A1 n c1, .slice A2 n c2] w fun e w' => e = .returned (.bool true) ∧ Below w.heap.size w w' := by
  have H1 := Lib.hid h1
  have H2 := Lib.hid h2
  have HL := Lib.hid h1.len
  have hL' : (n : Int) ≤ 1000000 := by omega
  clear h1 h2
  go_enter Try.func9, Try.ntmps9
  go_wp2_with fail
  go_loopw [5] (fun i wr => ∃ k : Nat, k ≤ n ∧ i = .int .i64 (k : Int) ∧ Hid (Below w.heap.size w wr)) (fun i _ => n - (intOf i).toNat)
  case atStart => exact ⟨0, by omega, rfl, Lib.hid (Below.refl _ _)⟩
  case round =>
    obtain ⟨k, hk, rfl, HB⟩ := hrel
    by_cases hl : k < n
    · have hkL : k < L.length := by rw [← HL.out]; exact hl
      obtain ⟨x, hx⟩ : ∃ x, L[k]? = some x := ⟨_, List.getElem?_eq_getElem hkL⟩
      obtain ⟨g1, o1, hA1, _, y0, y1⟩ := (H1.out.below HB.out).at_ k x hx
      obtain ⟨g2, o2, hA2, _, z0, z1⟩ := (H2.out.below HB.out).at_ k x hx
      subst hA1 hA2
      have ox := hok x (List.mem_of_getElem? hx)
      obtain ⟨xa, xb⟩ := x
      dsimp only at y0 y1 z0 z1
      have EQ := eqS2 xa xb ox.1 ox.2
      have hl1 : (k : Int) < (n : Int) := by omega
      have hl0 : (0 : Int) ≤ (k : Int) := by omega
      clear hx hkL
      go_wp2_with fail
      go_quiet (fail)
      go_wp2_with fail
      go_roundw
      case rel => exact ⟨k + 1, by omega, by go_num, Lib.hid (below_drewN HB.out _)⟩
      case measure => simp [intOf]; omega
    · obtain rfl : k = n := by omega
      go_wp2_with fail
      go_ret
      exact ⟨rfl, HB.out⟩
end Go.Proofs.Yteackdafggomhaa

namespace Go.Proofs.Yteackdafggomhaa
open Go.RowKit

theorem merge_groups {Ls : List (List KV)} {k : Nat} {R A B C : List KV} (hR : IsMerge Ls R) (hA : IsMerge (Ls.take k) A) (hB : IsMerge (Ls.drop k) B) (hC : IsMerge [A, B] C) : C = R := by
  refine rises_ext hC.ris hR.ris fun m => ?_
  rw [hC.mem, hR.mem]
  have keyA : ∀ x : KV, (∃ y ∈ A, y.1 = x.1) ↔ ∃ i L, i < k ∧ Ls[i]? = some L ∧ ∃ y ∈ L, y.1 = x.1 := fun x => by
    rw [hA.key]
    constructor
    · rintro ⟨i, L, h1, h2⟩
      have hi : i < k := by
        have := (List.getElem?_eq_some_iff.1 h1).1
        rw [List.length_take] at this
        omega
      rw [List.getElem?_take_of_lt hi] at h1
      exact ⟨i, L, hi, h1, h2⟩
    · rintro ⟨i, L, hi, h1, h2⟩
      exact ⟨i, L, by rw [List.getElem?_take_of_lt hi]; exact h1, h2⟩
  constructor
  · rintro ⟨i, L, hL, hm, hmin⟩
    match i, hL with
    | 0, hL =>
      cases hL
      obtain ⟨i, L, h1, h2, h3⟩ := (hA.mem m).1 hm
      have hi : i < k := by
        have := (List.getElem?_eq_some_iff.1 h1).1
        rw [List.length_take] at this
        omega
      rw [List.getElem?_take_of_lt hi] at h1
      exact ⟨i, L, h1, h2, fun j M hj hM => h3 j M hj (by rw [List.getElem?_take_of_lt (by omega)]; exact hM)⟩
    | 1, hL =>
      cases hL
      obtain ⟨i, L, h1, h2, h3⟩ := (hB.mem m).1 hm
      rw [List.getElem?_drop] at h1
      refine ⟨k + i, L, h1, h2, fun j M hj hM x hx e => ?_⟩
      by_cases hjk : j < k
      · obtain ⟨y, hy, ey⟩ := (keyA m).2 ⟨j, M, hjk, hM, x, hx, e⟩
        exact hmin 0 A (by omega) rfl y hy ey
      · exact h3 (j - k) M (by omega) (by rw [List.getElem?_drop, show k + (j - k) = j by omega]; exact hM) x hx e
    | i + 2, hL => simp at hL
  · rintro ⟨i, L, h1, h2, h3⟩
    by_cases hi : i < k
    · refine ⟨0, A, rfl, (hA.mem m).2 ⟨i, L, by rw [List.getElem?_take_of_lt hi]; exact h1, h2, fun j M hj hM => ?_⟩, fun j M hj => absurd hj (Nat.not_lt_zero _)⟩
      have hjk : j < k := by omega
      rw [List.getElem?_take_of_lt hjk] at hM
      exact h3 j M hj hM
    · refine ⟨1, B, rfl, (hB.mem m).2 ⟨i - k, L, by rw [List.getElem?_drop, show k + (i - k) = i by omega]; exact h1, h2, fun j M hj hM => ?_⟩, fun j M hj hM x hx e => ?_⟩
      · rw [List.getElem?_drop] at hM
        exact h3 (k + j) M (by omega) hM
      · obtain rfl : j = 0 := by omega
        cases hM
        obtain ⟨i', L', h4, h5, y, hy, ey⟩ := (keyA m).1 ⟨x, hx, e⟩
        exact h3 i' L' (by omega) h5 y hy ey
theorem merge_self {R D : List KV} (hR : risesK R = true) (hD : IsMerge [R, R, []] D) : D = R := by
  refine rises_ext hD.ris hR fun m => ?_
  rw [hD.mem]
  constructor
  · rintro ⟨i, L, hL, hm, _⟩
    match i, hL with
    | 0, hL => cases hL; exact hm
    | 1, hL => cases hL; exact hm
    | 2, hL => cases hL; cases hm
    | i + 3, hL => simp at hL
  · intro hm
    exact ⟨0, R, rfl, hm, fun j M hj => absurd hj (Nat.not_lt_zero _)⟩
/-- The first lists, and the others. -/
theorem ListsAt.take {w : World} {A : Option Addr} {n : Nat} {Ls : List (List KV)} (h : ListsAt w A n Ls) {k : Nat} (hk : k ≤ n) : ListsAt w A k (Ls.take k) :=
  ⟨by rw [List.length_take, ← h.len, Nat.min_eq_left hk], fun i L hL => by
    have hi : i < k := by
      have := (List.getElem?_eq_some_iff.1 hL).1
      rw [List.length_take] at this
      omega
    rw [List.getElem?_take_of_lt hi] at hL
    exact h.at_ i L hL⟩
theorem ListsAt.drop {w : World} {g off n : Nat} {Ls : List (List KV)} (h : ListsAt w (some ⟨g, off, none⟩) n Ls) {k : Nat} (_hk : k ≤ n) : ListsAt w (some ⟨g, off + k, none⟩) (n - k) (Ls.drop k) :=
  ⟨by rw [List.length_drop, ← h.len], fun i L hL => by
    rw [List.getElem?_drop] at hL
    obtain ⟨g', off', B, ni, ci, e, hg, h1, h2⟩ := h.at_ (k + i) L hL
    cases e
    exact ⟨g, off + k, B, ni, ci, rfl, hg, by rw [Nat.add_assoc]; exact h1, h2⟩⟩
theorem ListsAt.nil (w : World) (A : Option Addr) : ListsAt w A 0 [] := ⟨rfl, fun i L h => by simp at h⟩
theorem rises_parts {Ls : List (List KV)} (h : ∀ L ∈ Ls, risesK L = true) (k : Nat) : (∀ L ∈ Ls.take k, risesK L = true) ∧ ∀ L ∈ Ls.drop k, risesK L = true :=
  ⟨fun L hL => h L (List.mem_of_mem_take hL), fun L hL => h L (List.mem_of_mem_drop hL)⟩
theorem nodup_len {α : Type} [DecidableEq α] : ∀ (R M : List α), R.Nodup → (∀ x ∈ R, x ∈ M) → R.length ≤ M.length
  | [], _, _, _ => Nat.zero_le _
  | x :: r, M, hn, hs => by
    rw [List.nodup_cons] at hn
    have hx := hs x List.mem_cons_self
    have h1 := nodup_len r (M.erase x) hn.2 fun y hy => (List.mem_erase_of_ne (fun e => hn.1 (by rw [← e]; exact hy))).2 (hs y (List.mem_cons_of_mem _ hy))
    rw [List.length_erase_of_mem hx] at h1
    have := List.length_pos_of_mem hx
    rw [List.length_cons]
    omega
/-- How many pairs are told at most. -/
theorem merge_len {Ls : List (List KV)} {R : List KV} (h : IsMerge Ls R) (b : Nat) (hb : sumLen Ls ≤ b) : R.length ≤ b := by
  have hsub : ∀ m ∈ R, m ∈ Ls.flatten := fun m hm => by
    obtain ⟨i, L, h1, h2, _⟩ := (h.mem m).1 hm
    exact List.mem_flatten.2 ⟨L, List.mem_of_getElem? h1, h2⟩
  have hnd : R.Nodup := by
    refine List.pairwise_iff_getElem.2 fun i j hi hj hij e => ?_
    have := rises_get h.ris hij (List.getElem?_eq_getElem hi) (List.getElem?_eq_getElem hj)
    rw [e, (cmpT_eq _ _).2 rfl] at this
    omega
  have : Ls.flatten.length = sumLen Ls := by unfold sumLen; exact List.length_flatten
  have := @nodup_len KV (Classical.typeDecidableEq _) R _ hnd hsub
  omega
end Go.Proofs.Yteackdafggomhaa

namespace Go.Proofs.Yteackdafggomhaa
open Go.RowKit Go.WideShapes Go.ChangeShapes
section
variable {H : Type} {enc : TypeId × Value → H} {P : Program}
theorem post_of_below {f : Func} {s : ChangeSpec} {apart fresh handsOn again : Bool} {W W' : World} {args : Array Value} {v : Value} {ds gs : List (DataW H)} {before pa pv : List MemPlace}
    (hW : DataW.Whole enc P f.params.toList s.vars apart W args.toList ds gs before)
    (hres : ∀ (b : Nat) (sp : Nat → Bool) (hd : Bool), DataW.TrodAll enc P W' b sp hd f.resultTypes.toList (v.resultList f.resultTypes.size) (s.fn H (ds ++ gs)).results [])
    (hargs : ∀ sp : Nat → Bool, (∀ p ∈ before, sp p.block = true) → DataW.TrodAll enc P W' 0 sp true f.params.toList args.toList (s.fn H (ds ++ gs)).args pa)
    (hvars : ∀ sp : Nat → Bool, (∀ p ∈ before, sp p.block = true) → DataW.TrodVars enc P W' sp s.vars (s.fn H (ds ++ gs)).vars pv)
    (hps : before = pa ++ pv) (hb : Below W.heap.size W W')
    (hok : ∀ (j : Nat) (t : TypeId) (r : Value), f.resultTypes[j]? = some t → (v.resultList f.resultTypes.size)[j]? = some r → Value.okWide P W' .any 0 t r) :
    s.post enc P f apart fresh handsOn again W args v W' := by
  have hlt : ∀ p ∈ before, p.block < W.heap.size := fun p hp => hW.lt p hp
  have hold : ∀ p ∈ before, (fun b => decide (b < W.heap.size)) p.block = true := fun p hp => by simpa using hlt p hp
  refine ⟨ds, gs, before, [], pa, pv, hW, hres _ _ _, hargs _ hold, hvars _ hold, World.keptBut_mono (fun p hp => ⟨hp, ?_⟩) (hb.frame (· ∈ before)), fun _ => ?_⟩
  · rw [hps, List.mem_append] at hp
    exact Or.inr hp
  · obtain ⟨_, _, _, _, _, hz, hn⟩ := hW
    refine ⟨hok, _, _, ([] ++ pa) ++ pv, ⟨[] ++ pa, pv, trodAll_append (hargs _ (fun _ _ => rfl)) (hres _ _ _), hvars _ (fun _ _ => rfl), rfl, ?_, ?_⟩, ?_⟩
    · intro b off hp
      have hin : MemPlace.cell b off ∈ before := by rw [hps]; simpa using hp
      rw [hb.frozen (hlt _ hin)]
      exact hz b off hin
    · intro ha
      have := hn ha
      rw [hps] at this
      simpa using this
    · intro p hp _
      rw [hps]
      simpa using hp
end
end Go.Proofs.Yteackdafggomhaa

namespace Go.Proofs.Yteackdafggomhaa
section
variable {H : Type} {enc : TypeId × Value → H}
theorem witness_row_shaped {C : Checked} {os : Os} {f : FuncId} {fn : Func} {s : OpenSpec} {conds : List PathCond} {apart : Bool} {laid : List (String × DataW Unit)} (modest : Bool) (w0 : World) (args : Array Value) (hos : w0.os = os)
    (hsh : (w0.forCall (fun _ _ => 0) ⟨#[], args, []⟩).Shaped C.prog)
    (hok : Input.okWideB C.prog (w0.forCall (fun _ _ => 0) ⟨#[], args, []⟩) f ⟨#[], args, []⟩ = true)
    (hrow : s.preRow enc C.prog fn conds apart laid (w0.forCall (fun _ _ => 0) ⟨#[], args, []⟩).memory args) :
    ∃ (w : World) (tape : Tape) (i : Input), w.os = os ∧ (w.forCall tape i).Shaped C.prog ∧ i.vars = [] ∧ Input.okWide C.prog (w.forCall tape i) .any w.heap.size f i ∧
      s.preRow enc C.prog fn conds apart laid (w.forCall tape i).memory i.args ∧ ({ modest := modest } : Assume).holds C.prog (lone (Frame.enter C.prog f i.args .normal) [] (w.forCall tape i)) :=
  ⟨w0, fun _ _ => 0, ⟨#[], args, []⟩, hos, hsh, (Input.okWide_of_okWideB (base := 0) hok).1, (Input.okWide_of_okWideB hok).2, hrow, by
    simp only [Assume.holds]
    exact ⟨by simp, by simp, fun _ => Modest.zero, by simp, by simp⟩⟩
end
end Go.Proofs.Yteackdafggomhaa
