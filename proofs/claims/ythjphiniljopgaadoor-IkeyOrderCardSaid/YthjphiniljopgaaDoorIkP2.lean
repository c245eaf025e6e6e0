/-
  Plain lemmas on versions: which are valid, their time, their bytes; the bytes tell the version; their order. No program is named.
-/
import Derived.Test.YthjphiniljopgaaDoorIkP
import Derived.Test.YthjphiniljopgaaDoorVecP
namespace Go.Proofs.YthjphiniljopgaaDoor
open Go.RowKit

/-- Is it a key? -/
def isKeyL (k : List UInt8) : Bool := decide ((1 ≤ k.length ∧ k.length ≤ 64) ∧ (k.headD 0 = 114 ∨ k.headD 0 = 116 ∨ k.headD 0 = 99 ∨ k.headD 0 = 120 ∨ k.headD 0 = 110))
/-- The greatest time. -/
def mostL (xs : List Int) : Int := xs.foldl (fun a x => if a < x then x else a) 0
/-- A version's time. -/
def timeN (xs : List Int) (o : Int) : Int := if o = 254 then mostL xs else xs.getD o.toNat 0
/-- Can it be kept? -/
def okV (key : List UInt8) (xs : List Int) (o x : Int) : Bool := decide (isKeyL key = true ∧ validL xs = true ∧ (0 ≤ o ∧ (o < (xs.length : Int) ∨ o = 254)) ∧ 0 ≤ x ∧ x < 281474976710656)
/-- A version's bytes. -/
def putVL (key : List UInt8) (xs : List Int) (o x : Int) : List UInt8 := headL key ++ tailL (timeN xs o).toNat o.toNat x.toNat (vecB xs)

theorem mostL_from : ∀ (xs : List Int) (a : Int), a ≤ xs.foldl (fun a x => if a < x then x else a) a ∧ (∀ x ∈ xs, x ≤ xs.foldl (fun a x => if a < x then x else a) a) ∧ (∀ m, a ≤ m → (∀ x ∈ xs, x ≤ m) → xs.foldl (fun a x => if a < x then x else a) a ≤ m)
  | [], a => ⟨Int.le_refl _, fun x hx => absurd hx (by simp), fun m h _ => h⟩
  | y :: l, a => by
    obtain ⟨h1, h2, h3⟩ := mostL_from l (if a < y then y else a)
    simp only [List.foldl_cons]
    refine ⟨?_, fun x hx => ?_, fun m hm hall => ?_⟩
    · have : a ≤ (if a < y then y else a) := by split <;> omega
      omega
    · rcases List.mem_cons.1 hx with rfl | hx
      · have : x ≤ (if a < x then x else a) := by split <;> omega
        omega
      · exact h2 x hx
    · refine h3 m ?_ (fun x hx => hall x (List.mem_cons_of_mem _ hx))
      have := hall y List.mem_cons_self
      split <;> omega
theorem mostL_ge {xs : List Int} {x : Int} (h : x ∈ xs) : x ≤ mostL xs := (mostL_from xs 0).2.1 x h
theorem mostL_nonneg (xs : List Int) : 0 ≤ mostL xs := (mostL_from xs 0).1
theorem getD_mem {xs : List Int} {j : Nat} (h : j < xs.length) : xs.getD j 0 ∈ xs := by
  rw [List.getD_eq_getElem?_getD, List.getElem?_eq_getElem h]
  exact List.getElem_mem h
theorem valid_mem {xs : List Int} (h : validL xs = true) : ∀ x ∈ xs, 0 ≤ x ∧ x < 281474976710656 := by
  intro x hx
  obtain ⟨i, hi, rfl⟩ := List.getElem_of_mem hx
  have := (validL_of h).2 i hi
  rwa [List.getD_eq_getElem?_getD, List.getElem?_eq_getElem hi] at this
theorem mostL_lt {xs : List Int} (h : validL xs = true) : mostL xs < 281474976710656 := by
  have := (mostL_from xs 0).2.2 281474976710655 (by decide) (fun x hx => by have := valid_mem h x hx; omega)
  unfold mostL
  omega

structure OkV (key : List UInt8) (xs : List Int) (o x : Int) : Prop where
  key : isKeyL key = true
  at_ : validL xs = true
  o0 : 0 ≤ o
  o1 : o < (xs.length : Int) ∨ o = 254
  x0 : 0 ≤ x
  x1 : x < 281474976710656
theorem okV_of {key : List UInt8} {xs : List Int} {o x : Int} (h : okV key xs o x = true) : OkV key xs o x := by
  obtain ⟨h1, h2, ⟨h3, h4⟩, h5, h6⟩ := of_decide_eq_true h
  exact ⟨h1, h2, h3, h4, h5, h6⟩
theorem OkV.ok {key : List UInt8} {xs : List Int} {o x : Int} (h : OkV key xs o x) : okV key xs o x = true := decide_eq_true ⟨h.key, h.at_, ⟨h.o0, h.o1⟩, h.x0, h.x1⟩
theorem OkV.o255 {key : List UInt8} {xs : List Int} {o x : Int} (h : OkV key xs o x) : o ≤ 254 := by
  have := (validL_of h.at_).1
  rcases h.o1 with h | h <;> omega
theorem OkV.time {key : List UInt8} {xs : List Int} {o x : Int} (h : OkV key xs o x) : 0 ≤ timeN xs o ∧ timeN xs o < 281474976710656 := by
  unfold timeN
  split
  · exact ⟨mostL_nonneg xs, mostL_lt h.at_⟩
  · rename_i hne
    have ho : o < (xs.length : Int) := by rcases h.o1 with h | h; exact h; exact absurd h hne
    have h0 := h.o0
    exact valid_mem h.at_ _ (getD_mem (by omega))
theorem isKeyL_of {k : List UInt8} (h : isKeyL k = true) : 1 ≤ k.length ∧ k.length ≤ 64 := (of_decide_eq_true h).1

theorem tailL_length (tm o x : Nat) (r : List UInt8) : (tailL tm o x r).length = 13 + r.length := by
  unfold tailL
  simp [be_length]
  omega
theorem putVL_length {key : List UInt8} {xs : List Int} {o x : Int} (h : OkV key xs o x) : 2 ≤ (headL key).length ∧ (headL key).length < (putVL key xs o x).length ∧ (putVL key xs o x).length ≤ 300 := by
  have h1 := headL_two key
  have h2 := (isKeyL_of h.key).2
  have h3 := (validL_of h.at_).1
  unfold putVL
  rw [List.length_append, tailL_length, vecB_length]
  omega

/-- Bytes of a version tell the version. -/
theorem putVL_inj {key key' : List UInt8} {xs xs' : List Int} {o o' x x' : Int} (h : OkV key xs o x) (h' : OkV key' xs' o' x') (e : putVL key xs o x = putVL key' xs' o' x') : key = key' ∧ xs = xs' ∧ o = o' ∧ x = x' := by
  unfold putVL at e
  obtain ⟨hk, e0⟩ := headL_apart _ _ _ _ e
  clear e
  have e := e0
  clear e0
  subst hk
  unfold tailL at e
  have t := h.time
  have t' := h'.time
  have a1 := h.o0
  have a2 := h.o255
  have a3 := h'.o0
  have a4 := h'.o255
  have b1 := h.x0
  have b2 := h.x1
  have b3 := h'.x0
  have b4 := h'.x1
  obtain ⟨e1, e⟩ := List.append_inj e (by rw [be_length, be_length])
  obtain ⟨e2, e⟩ := List.append_inj e (by rw [be_length, be_length])
  obtain ⟨e3, e4⟩ := List.append_inj e (by rw [be_length, be_length])
  have c2 := be_inj 1 _ _ (by omega) (by omega) e2
  have c3 := be_inj 6 _ _ (by omega) (by omega) e3
  exact ⟨rfl, vecB_inj h.at_ h'.at_ e4, by omega, by omega⟩

/-- Bytes of a lesser key come first. -/
theorem putVL_key {key key' : List UInt8} (xs xs' : List Int) (o o' x x' : Int) (hn : key ≠ key') : Op.bytesLess (putVL key xs o x) (putVL key' xs' o' x') = Op.bytesLess key key' := headL_less key key' _ _ hn
/-- Of one key those of the later stamp. -/
theorem putVL_stamp {key : List UInt8} {xs xs' : List Int} {o o' x x' : Int} (h : OkV key xs o x) (h' : OkV key xs' o' x') (hn : ¬ (timeN xs o = timeN xs' o' ∧ o = o' ∧ x = x')) :
    Op.bytesLess (putVL key xs o x) (putVL key xs' o' x') = decide (timeN xs' o' < timeN xs o ∨ (timeN xs o = timeN xs' o' ∧ (o' < o ∨ (o = o' ∧ x' < x)))) := by
  have t := h.time
  have t' := h'.time
  have a1 := h.o0
  have a2 := h.o255
  have a3 := h'.o0
  have a4 := h'.o255
  have b1 := h.x0
  have b2 := h.x1
  have b3 := h'.x0
  have b4 := h'.x1
  unfold putVL
  rw [less_app, tailL_less _ _ _ _ _ _ _ _ (by omega) (by omega) (by omega) (by omega) (by omega) (by omega) (by omega)]
  congr 1
  apply propext
  omega
/-- What was folded together stands ahead of what was done at that time. -/
theorem putVL_folded {key : List UInt8} {xs : List Int} {o x : Int} (h : OkV key xs 254 x) (h0 : 0 ≤ o) (h1 : o < (xs.length : Int)) : OkV key xs o x ∧ Op.bytesLess (putVL key xs 254 x) (putVL key xs o x) = true ∧ xs.getD o.toNat 0 ≤ mostL xs := by
  have h' : OkV key xs o x := ⟨h.key, h.at_, h0, Or.inl h1, h.x0, h.x1⟩
  have hm := mostL_ge (getD_mem (xs := xs) (j := o.toNat) (by omega))
  have hl := (validL_of h.at_).1
  refine ⟨h', ?_, hm⟩
  have ht : timeN xs 254 = mostL xs := by unfold timeN; rw [if_pos rfl]
  have ht' : timeN xs o = xs.getD o.toNat 0 := by unfold timeN; rw [if_neg (by omega)]
  rw [putVL_stamp h h' (by omega), decide_eq_true_eq, ht, ht']
  omega
end Go.Proofs.YthjphiniljopgaaDoor
