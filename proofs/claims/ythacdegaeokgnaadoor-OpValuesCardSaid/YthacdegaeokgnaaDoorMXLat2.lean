/-
  Rows of versions: one more out of whatever list that came in; what an append in a drawn order leaves alone.
-/
import Derived.Test.YthacdegaeokgnaaDoorMXShuf1
import Derived.Test.YthacdegaeokgnaaDoorMXOrd2
import Derived.Test.YthacdegaeokgnaaDoorMXLat1
import Derived.Test.YthacdegaeokgnaaDoorMXOpTexts
import Derived.Deep.Upon
namespace Go.Proofs.YthacdegaeokgnaaDoor
open Go.RowKit

/-- 'append(r, l...)' of versions that came in, be they none. -/
theorem run_append_versA (w : World) (ty : TypeId) {B : Nat} {v : Value} {vs us : List VerR} (R : VRow w B 44 v vs) {A : Option Addr} {n c : Nat} (I : VersIn w A n us) (hv : vs.length ≤ 100000) (hn : n ≤ 100000) (hB : B ≤ w.heap.size) :
    ∃ v' w', (Builtin.append_ #[40, 40] ty #[v, .slice A n c]).run Tryd.prog w = .ok v' w' ∧ VRow w' B 44 v' (vs ++ us) ∧ w.grownBy w' v.ownBlock := by
  obtain ⟨i0, hi0, hz0, hz1, hz2⟩ := info_parts verinfo
  by_cases h0 : n = 0
  · subst h0
    obtain rfl : us = [] := List.eq_nil_of_length_eq_zero I.len
    rw [List.append_nil]
    have hs : Go.Src Tryd.prog i0.size 40 (.slice A 0 c) 0 [] w := by
      cases A with
      | none => exact Go.Src.ofNil w Tryd.underlying40 c
      | some a => exact Go.Src.ofSlice w Tryd.underlying40 a 0 c [] (by simp) (fun j u h => by simp at h) (fun u h => by cases h)
    have gr : w.grownBy w v.ownBlock := ⟨rfl, rfl, rfl, Nat.le_refl _, fun _ _ _ => rfl⟩
    rcases R.2 with ⟨rfl, _⟩ | ⟨g, cap, cur, rfl, _, _, hle, _⟩
    · exact ⟨_, _, Go.run_append_nothing w _ _ ty _ i0 Tryd.underlying40 hi0 none 0 0 (Nat.le_refl _) _ hs, R, gr⟩
    · exact ⟨_, _, Go.run_append_nothing w _ _ ty _ i0 Tryd.underlying40 hi0 _ _ cap hle _ hs, R, gr⟩
  · obtain ⟨b, off, rfl, _, hc⟩ := I.some (by omega)
    have hl := I.len
    obtain ⟨v', w', hr, h2, h3, _⟩ := run_append_own (P := Tryd.prog) w B 40 ty 44 i0 _ 8 96 Tryd.underlying40 hi0 hz0 hz1 hz2 rfl (by decide) v vs.length (cellsV vs) R ⟨b, off, none⟩ n c (cellsV us) (by rw [cellsV_length, hl]) (vers_news hl hc) (cellsV_one_cell us) (by unfold maxLen; omega) (by omega) hB
    exact ⟨v', w', hr, by unfold VRow; rw [cellsV_append, List.length_append, hl]; exact h2, h3⟩
theorem wpList_append_versA (w : World) {ops : Array Oper} {rest : List Oper} {o : Oper} {a : Act} {Q : Exit → Act → World → Prop} (hgd : o.guard = none) (s x : Operand)
    (ho : o.op = .call { callee := .builtin .append, args := #[s, x], argTypes := #[40, 40] })
    {B : Nat} {v : Value} {vs us : List VerR} (hs : a.eval s = v) (R : VRow w B 44 v vs) {A : Option Addr} {n c : Nat} (hx : a.eval x = .slice A n c) (I : VersIn w A n us) (hv : vs.length ≤ 100000) (hn : n ≤ 100000) (hB : B ≤ w.heap.size)
    (h : ∀ v' w', VRow w' B 44 v' (vs ++ us) → w.grownBy w' v.ownBlock → wpList Tryd.prog ops Q rest (a.put o.dst v') w') : wpList Tryd.prog ops Q (o :: rest) a w := by
  obtain ⟨v', w', hr, h2, h3⟩ := run_append_versA w o.type R I (c := c) hv hn hB
  refine wpList_plain hgd fun _ hK => ?_
  unfold Oper.wp execOp
  simp only [ho, resolve, invoke, builtin, Sem.run_bind, Sem.run_pure, Result.andThen_ok, List.map_toArray, List.map_cons, List.map_nil, hs, hx, hr]
  exact hK _ _ (h v' w' h2 h3)
theorem frees_append_versA {C : World → Prop} {T : Nat → World → World → Prop} {i : Nat} {S : Sp.Slot T} (w : World) {o : Oper} {a : Act} (s x : Operand)
    (ho : o.op = .call { callee := .builtin .append, args := #[s, x], argTypes := #[40, 40] })
    {B : Nat} {v : Value} {vs us : List VerR} (hs : a.eval s = v) (R : VRow w B 44 v vs) {A : Option Addr} {n c : Nat} (hx : a.eval x = .slice A n c) (I : VersIn w A n us) (hv : vs.length ≤ 100000) (hn : n ≤ 100000) (hB : B ≤ w.heap.size)
    (h : ∀ v' w', VRow w' B 44 v' (vs ++ us) → w.grownBy w' v.ownBlock → C w' ∧ T i w w' ∧ S.p v' w' ∧ (S.new = true → ∃ p, v' = .pointer (some ⟨p, 0, none⟩) ∧ w.heap.size ≤ p ∧ p < w'.heap.size)) : Sp.frees Tryd.prog o a C i S w := by
  obtain ⟨v', w', hr, h2, h3⟩ := run_append_versA w o.type R I (c := c) hv hn hB
  have h4 := h v' w' h2 h3
  unfold Sp.frees execOp
  simp only [ho, resolve, invoke, builtin, Sem.run_bind, Sem.run_pure, Result.andThen_ok, List.map_toArray, List.map_cons, List.map_nil, hs, hx, hr]
  exact h4
/-- A row of one that lies in a block of its own. -/
theorem vrow_one {W : World} {B q : Nat} {r : VerR} (E : Blk W q 44 r.cells.toArray) (hB : B ≤ q) : VRow W B 44 (.slice (some ⟨q, 0, none⟩) 1 1) [r] :=
  ⟨rfl, Or.inr ⟨q, 1, r.cells.toArray, rfl, hB, E, Nat.le_refl _, by decide, rfl, by rw [cellsV_one]; rfl⟩⟩
/-- One that is all a list has, as a list that came in. -/
theorem vers_one {W : World} {q : Nat} {r : VerR} (E : Blk W q 44 r.cells.toArray) (hr : r.in_ W) : VersIn W (some ⟨q, 0, none⟩) 1 [r] :=
  ⟨rfl, by decide, fun _ => ⟨q, 0, rfl, E.lt, fun j hj k _ => by
    obtain rfl : j = 0 := by omega
    have := E.cell k
    rw [show 0 + 0 * 8 + k = k from by omega]
    simpa using this⟩, fun j hj => by
    obtain rfl : j = 0 := by omega
    exact hr⟩
/-- From one operation of the region to another: what was there before stays; blocks of values stay; all stays, but where the row grows. -/
def TL (B : Nat) (i : Nat) (W W' : World) : Prop := Below B W W' ∧ (∀ q cs, Blk W q 26 cs → Blk W' q 26 cs) ∧ (i ≠ 5 → Below W.heap.size W W')
theorem TL.of {B i : Nat} {W W' : World} (h : Below W.heap.size W W') (hB : B ≤ W.heap.size) : TL B i W W' := ⟨h.mono hB, fun _ _ E => E.below h E.lt, fun _ => h⟩
theorem TL.row {B : Nat} {w0 W W' : World} {v : Value} {vs : List VerR} (h0 : Below B w0 W) (hw : B ≤ w0.heap.size) (R : VRow W B 44 v vs) (g : W.grownBy W' v.ownBlock) : Below B w0 W' ∧ TL B 5 W W' := by
  have hB : B ≤ W.heap.size := Nat.le_trans hw h0.size
  refine ⟨VRow.grown R h0 hB g, VRow.grown R (Below.refl _ _) hB g, fun q cs E => ?_, fun h => absurd rfl h⟩
  refine E.grown g fun hq => ?_
  rcases R.2 with ⟨rfl, _⟩ | ⟨k, cap, cur, rfl, _, ho, _⟩
  · cases hq
  · cases hq
    exact absurd rfl (Blk.ne_ E (show Blk W _ 44 cur from ho) (by decide))
def SlotV2 {T : Nat → World → World → Prop} (x : V6) : Sp.Slot T := Sp.Slot.sort fun v => ∃ th nu it tx, v = valV th nu it tx ∧ ValIn nu it tx ∧ v6 th nu it tx = x
/-- A row that stays till operation j has come up. -/
def SlotRow2 (B : Nat) (own j : Nat) (h5 : j = 5 ∨ own = 5) (vs : List VerR) : Sp.Slot (TL B) := ⟨fun v W => VRow W B 44 v vs, some j, some own, fun i _ _ _ h1 h2 R T => VRow.below R (T.2.2 (fun e => by
  subst e
  rcases h5 with h | h
  · exact h1 (congrArg some h)
  · exact h2 (congrArg some h))) (Nat.le_refl _), false⟩
/-- The one that was built. -/
def SlotOne (B : Nat) (r : VerR) : Sp.Slot (TL B) := ⟨fun v W => ∃ q, v = .slice (some ⟨q, 0, none⟩) 1 1 ∧ Blk W q 44 r.cells.toArray, some 5, none, fun _i _ _ _ h1 _ ⟨q, hv, E⟩ T => ⟨q, hv, E.below (T.2.2 (fun e => h1 (congrArg some e.symm))) E.lt⟩, false⟩
/-- A block of a value that is new. -/
def SlotNew (B : Nat) : Sp.Slot (TL B) := ⟨fun v W => ∃ q, v = .pointer (some ⟨q, 0, none⟩) ∧ B ≤ q ∧ Blk W q 26 (valC false 0 0 ⟨#[]⟩), none, none, fun _ _ _ _ _ _ ⟨q, hv, hB, E⟩ T => ⟨q, hv, hB, T.2.1 _ _ E⟩, false⟩
/-- One version ahead of a list that came in. -/
theorem vrow_front {w w2 : World} {A : Option Addr} {n B : Nat} {e : TypeId} {v2 : Value} {vs : List VerR} {r : VerR} (I : VersIn w A n vs) (R : VRow w2 B e v2 ([r] ++ vs)) (hb : Below w.heap.size w w2) (hr : r.in_ w2) :
    ∃ A2 c2, v2 = .slice A2 (n + 1) c2 ∧ VersIn w2 A2 (n + 1) ([r] ++ vs) := by
  have hl := I.len
  subst hl
  have hlen : ([r] ++ vs).length = vs.length + 1 := by simp
  obtain ⟨A2, c2, hv, hI⟩ := VRow.in_ R (fun j hj => by
    cases j with
    | zero => exact hr
    | succ j =>
      rw [hlen] at hj
      have e1 : ([r] ++ vs).getD (j + 1) VerR.zero = vs.getD j VerR.zero := rfl
      rw [e1]
      exact (I.each j (by omega)).below hb)
  rw [hlen] at hv hI
  exact ⟨A2, c2, hv, hI⟩
/-- One version behind a list that came in. -/
theorem vrow_back {w w2 : World} {A : Option Addr} {n B : Nat} {e : TypeId} {v2 : Value} {vs : List VerR} {r : VerR} (I : VersIn w A n vs) (R : VRow w2 B e v2 (vs ++ [r])) (hb : Below w.heap.size w w2) (hr : r.in_ w2) :
    ∃ A2 c2, v2 = .slice A2 (n + 1) c2 ∧ VersIn w2 A2 (n + 1) (vs ++ [r]) := by
  have hl := I.len
  subst hl
  exact vrow_in R (fun j hj => (I.each j hj).below hb) hr
theorem fits_num (f : Nat) : fitsA [114] (a6 0 f 0 ⟨#[]⟩) = true := by
  unfold fitsA rightA takesA isKeyL a6
  simp
theorem fits_text : fitsA [116] (a6 0 0 0 ⟨#[108, 97, 116, 101, 115, 116]⟩) = true := by
  unfold fitsA rightA takesA isKeyL a6
  rw [rank_zero]
  simp
theorem fits_clear (c : UInt8) (h : c = 114 ∨ c = 116) : fitsA [c] (a6 4 0 0 ⟨#[]⟩) = true := by
  unfold fitsA rightA takesA isKeyL a6
  rw [rank_zero]
  rcases h with rfl | rfl <;> simp
theorem done_set (r : Nat) (it : Int) (tx : List UInt8) : doneA V6.zero ⟨0, r, it, tx⟩ = ⟨true, r, 0, tx⟩ := rfl
theorem done_clear (r : Nat) (it : Int) (tx : List UInt8) : doneA V6.zero ⟨4, r, it, tx⟩ = V6.zero := rfl
theorem text_is {t : ByteArray} {l : List UInt8} (h : t.data.toList = l) : t = ⟨l.toArray⟩ := by
  obtain ⟨a⟩ := t
  subst h
  simp

end Go.Proofs.YthacdegaeokgnaaDoor
