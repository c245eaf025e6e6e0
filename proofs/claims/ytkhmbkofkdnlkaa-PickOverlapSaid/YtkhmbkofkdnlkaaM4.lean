/-
  Several texts in one: A region that draws its order (as XOrd), where a slot need only hold till the one operation that reads it has come up: so an append may grow a row in place. No program is named.
  Slices of files, and a file, that came in: what a walk asks of them, out of how they read. No program is named.
  The last step of a law's row: the call leaves all that was there as it was.
-/
import Derived.Test.YtkhmbkofkdnlkaaM3
import Derived.Test.YtkhmbkofkdnlkaaM1
import Derived.Lib.SmallJoins
import Derived.Deep.Slices
import Derived.Deep.Strs
import Derived.Below
import Derived.ChangeSame
import Derived.ProofKit
import Derived.Test.YtkhmbkofkdnlkaaM2
namespace Go.Proofs.Ytkhmbkofkdnlkaa.Sp
open Go.Proofs.Ytkhmbkofkdnlkaa

/-- What stands in an operation's slot, and goes on to stand there while no more than other operations come up than the one that spends it. -/
structure Slot (T : Nat → World → World → Prop) where
  p : Value → World → Prop
  by_ : Option Nat
  own : Option Nat
  st : ∀ i v w w', by_ ≠ some i → own ≠ some i → p v w → T i w w' → p v w'
  new : Bool
def Slot.is {T : Nat → World → World → Prop} (x : Value) : Slot T := ⟨fun v _ => v = x, none, none, fun _ _ _ _ _ _ h _ => h, false⟩
def Slot.any {T : Nat → World → World → Prop} : Slot T := ⟨fun _ _ => True, none, none, fun _ _ _ _ _ _ h _ => h, false⟩
def Slot.sort {T : Nat → World → World → Prop} (q : Value → Prop) : Slot T := ⟨fun v _ => q v, none, none, fun _ _ _ _ _ _ h _ => h, false⟩
def slotAt {T : Nat → World → World → Prop} (L : List (Slot T)) (i : Nat) : Slot T := L.getD i Slot.any
/-- Whoever waits for a slot that is spent spends it. -/
def spentB (md : Region.Mode) (ops : Array Oper) (n : Nat) (bs : List (Option Nat × Option Nat)) : Bool :=
  (List.range n).all fun i => ((bs.getD i (none, none)).2 == none || (bs.getD i (none, none)).2 == some i) && (List.range n).all fun d => !Region.waitsFor md ops i d || ((bs.getD d (none, none)).1 == none || (bs.getD d (none, none)).1 == some i)
theorem spent_at {T : Nat → World → World → Prop} {L : List (Slot T)} {bs : List (Option Nat × Option Nat)} (hbs : L.map (fun s => (s.by_, s.own)) = bs) {md : Region.Mode} {ops : Array Oper} {n : Nat} (h : spentB md ops n bs = true) {i d : Nat} (hi : i < n) (hd : d < n) (hw : Region.waitsFor md ops i d = true) {c : Nat} (hc : (slotAt L d).by_ = some c) : c = i := by
  have h1 := List.all_eq_true.1 (Bool.and_eq_true _ _ ▸ List.all_eq_true.1 h i (List.mem_range.2 hi)).2 d (List.mem_range.2 hd)
  have e : (bs.getD d (none, none)).1 = (slotAt L d).by_ := by
    subst hbs
    unfold slotAt
    rw [List.getD_eq_getElem?_getD, List.getD_eq_getElem?_getD, List.getElem?_map]
    cases L[d]? <;> rfl
  rw [e, hc, hw] at h1
  simpa using h1
theorem own_at {T : Nat → World → World → Prop} {L : List (Slot T)} {bs : List (Option Nat × Option Nat)} (hbs : L.map (fun s => (s.by_, s.own)) = bs) {md : Region.Mode} {ops : Array Oper} {n : Nat} (h : spentB md ops n bs = true) {i : Nat} (hi : i < n) {c : Nat} (hc : (slotAt L i).own = some c) : c = i := by
  have h1 := (Bool.and_eq_true _ _ ▸ List.all_eq_true.1 h i (List.mem_range.2 hi)).1
  have e : (bs.getD i (none, none)).2 = (slotAt L i).own := by
    subst hbs
    unfold slotAt
    rw [List.getD_eq_getElem?_getD, List.getD_eq_getElem?_getD, List.getElem?_map]
    cases L[i]? <;> rfl
  rw [e, hc] at h1
  simpa using h1

/-- In every world of the class the operation yields what is said of its slot. -/
def freesUpon (P : Program) (C : World → Prop) {T : Nat → World → World → Prop} (i : Nat) (S : Slot T) (w : World) : Result Next → Prop
  | .ok (.value v) w' => C w' ∧ T i w w' ∧ S.p v w' ∧ (S.new = true → ∃ p, v = .pointer (some ⟨p, 0, none⟩) ∧ w.heap.size ≤ p ∧ p < w'.heap.size)
  | .ok (.enter f args) w' => S.new = false ∧ Calls P f args w' fun e w'' => ∃ v, e = .returned v ∧ C w'' ∧ T i w w'' ∧ S.p v w''
  | _ => False
def frees (P : Program) (o : Oper) (a : Act) (C : World → Prop) {T : Nat → World → World → Prop} (i : Nat) (S : Slot T) (w : World) : Prop := freesUpon P C i S w ((execOp a.eval o).run P w)

section
variable {P : Program} {ops : Array Oper} {md : Region.Mode} {C : World → Prop} {T : Nat → World → World → Prop} {L : List (Slot T)} {n m : Nat} {base : Act}

/-- What is asked of one operation. -/
def ordOb (P : Program) (md : Region.Mode) (ops : Array Oper) (C : World → Prop) (T : Nat → World → World → Prop) (L : List (Slot T)) (n : Nat) (base : Act) (i : Nat) : Prop :=
  ∀ o, ops[i]? = some o → ∀ (a : Act) (w : World), C w → (∀ k, (∀ j, j < n → dstOf ops j ≠ some k) → a.tmps[k]? = base.tmps[k]?) →
    (∀ d, Region.waitsFor md ops i d = true → ∀ k, dstOf ops d = some k → ∃ v, a.tmps[k]? = some v ∧ (slotAt L d).p v w) →
    if Region.wanted o (yielded ops a.tmps) then frees P o a C i (slotAt L i) w else T i w w ∧ (slotAt L i).p undef w ∧ (slotAt L i).new = false

structure OrdInv (md : Region.Mode) (ops : Array Oper) (C : World → Prop) (T : Nat → World → World → Prop) (L : List (Slot T)) (n : Nat) (base : Act) (listed : Array Bool) (a : Act) (w : World) : Prop where
  cls : C w
  head : HeadInv md ops n listed
  defers : a.defers = base.defers
  size : a.tmps.size = base.tmps.size
  far : ∀ k, (∀ j, j < n → dstOf ops j ≠ some k) → a.tmps[k]? = base.tmps[k]?
  near : ∀ i, i < n → listed.getD i false = true → (∀ j, (slotAt L i).by_ = some j → listed.getD j false = false) → ∀ k, dstOf ops i = some k → ∃ v, a.tmps[k]? = some v ∧ (slotAt L i).p v w
  old : ∀ i, i < n → listed.getD i false = true → (slotAt L i).new = true → ∀ k, dstOf ops i = some k → ∃ p, a.tmps[k]? = some (.pointer (some ⟨p, 0, none⟩)) ∧ p < w.heap.size
  apart : ∀ i j, i < n → j < n → i ≠ j → listed.getD i false = true → listed.getD j false = true → (slotAt L i).new = true → (slotAt L j).new = true → ∀ k l p q, dstOf ops i = some k → dstOf ops j = some l →
    a.tmps[k]? = some (.pointer (some ⟨p, 0, none⟩)) → a.tmps[l]? = some (.pointer (some ⟨q, 0, none⟩)) → p ≠ q

/-- The step. -/
theorem OrdInv.step {Q : Exit → Act → World → Prop} {listed : Array Bool} {a : Act} {w : World} (hT : ∀ i w w', T i w w' → w.heap.size ≤ w'.heap.size) (hB : ordB md ops n base.tmps.size = true) {bs : List (Option Nat × Option Nat)} (hbs : L.map (fun s => (s.by_, s.own)) = bs) (hsp : spentB md ops n bs = true) (hob : ∀ i, i < n → ordOb P md ops C T L n base i)
    (J : OrdInv md ops C T L n base listed a w) {i : Nat} (hi : i < n) (hr : i ∈ Region.ready md ops listed) {K : Act → World → Prop} (hK : ∀ a' w', OrdInv md ops C T L n base (listed.setIfInBounds i true) a' w' → K a' w') :
    wpOp P ops Q i K a w := by
  obtain ⟨o, k, ho, hk, hks, hdis, _, hback⟩ := ordB_at hB hi
  obtain ⟨hun, o', ho', hall⟩ := mem_ready.1 hr
  have : o' = o := Option.some.inj (ho'.symm.trans ho)
  subst this
  have hil : i < listed.size := by
    rw [J.head.size]
    exact (Array.getElem?_eq_some_iff.1 ho).1
  have hdi : dstOf ops i = some k := by unfold dstOf; rw [ho]; exact hk
  have next : ∀ v w', C w' → T i w w' → (slotAt L i).p v w' → ((slotAt L i).new = true → ∃ p, v = .pointer (some ⟨p, 0, none⟩) ∧ w.heap.size ≤ p ∧ p < w'.heap.size) → OrdInv md ops C T L n base (listed.setIfInBounds i true) (a.put o'.dst v) w' := by
    intro v w' hC hTw hS hnew
    rw [hk]
    have self : (a.tmps.setIfInBounds k v)[k]? = some v := by rw [Array.getElem?_setIfInBounds_self_of_lt (by rw [J.size]; exact hks)]
    have other : ∀ x, k ≠ x → (a.tmps.setIfInBounds k v)[x]? = a.tmps[x]? := fun x hne => Array.getElem?_setIfInBounds_ne hne
    have kne : ∀ j, j < n → j ≠ i → ∀ x, dstOf ops j = some x → k ≠ x := fun j hj hji x hx e => hdis j hj hji (by rw [hx, e])
    have lst : ∀ j, j ≠ i → (listed.setIfInBounds i true).getD j false = true → listed.getD j false = true := fun j hji hl => by
      rwa [getD_set_ne false (Ne.symm hji)] at hl
    refine ⟨hC, J.head.set hr hi, J.defers, ?_, fun x hx => ?_, fun j hj hl hsv x hx => ?_, fun j hj hl hnw x hx => ?_, fun i1 j1 hi1 hj1 hne hl1 hl2 hn1 hn2 k1 l1 p q hk1 hl1' hp hq => ?_⟩
    · show (a.tmps.setIfInBounds k v).size = _
      rw [Array.size_setIfInBounds]
      exact J.size
    · show (a.tmps.setIfInBounds k v)[x]? = _
      rw [other x (fun e => hx i hi (by rw [hdi, e]))]
      exact J.far x hx
    · show ∃ v', (a.tmps.setIfInBounds k v)[x]? = some v' ∧ _
      by_cases hji : j = i
      · subst hji
        have : k = x := Option.some.inj (hdi.symm.trans hx)
        subst this
        exact ⟨v, self, hS⟩
      · rw [other x (kne j hj hji x hx)]
        have hci : ∀ c, (slotAt L j).by_ = some c → c ≠ i ∧ listed.getD c false = false := fun c hc => by
          have h := hsv c hc
          by_cases e : c = i
          · subst e; rw [getD_set_self hil] at h; cases h
          · exact ⟨e, by rwa [getD_set_ne false (Ne.symm e)] at h⟩
        obtain ⟨v', h1, h2⟩ := J.near j hj (lst j hji hl) (fun c hc => (hci c hc).2) x hx
        exact ⟨v', h1, (slotAt L j).st i _ _ _ (fun hc => (hci i hc).1 rfl) (fun hc => hji (own_at hbs hsp hj hc).symm) h2 hTw⟩
    · show ∃ p, (a.tmps.setIfInBounds k v)[x]? = _ ∧ _
      by_cases hji : j = i
      · subst hji
        have : k = x := Option.some.inj (hdi.symm.trans hx)
        subst this
        obtain ⟨p, rfl, _, h3⟩ := hnew hnw
        exact ⟨p, self, h3⟩
      · rw [other x (kne j hj hji x hx)]
        obtain ⟨p, h1, h2⟩ := J.old j hj (lst j hji hl) hnw x hx
        exact ⟨p, h1, Nat.lt_of_lt_of_le h2 (hT _ _ _ hTw)⟩
    · replace hp : (a.tmps.setIfInBounds k v)[k1]? = _ := hp
      replace hq : (a.tmps.setIfInBounds k v)[l1]? = _ := hq
      by_cases h1 : i1 = i
      · have h2 : j1 ≠ i := fun e => hne (h1.trans e.symm)
        subst h1
        have : k = k1 := Option.some.inj (hdi.symm.trans hk1)
        subst this
        rw [self] at hp
        rw [other l1 (kne j1 hj1 h2 l1 hl1')] at hq
        obtain ⟨p', e1, e2, _⟩ := hnew hn1
        obtain ⟨q', e3, e4⟩ := J.old j1 hj1 (lst j1 h2 hl2) hn2 l1 hl1'
        rw [e1] at hp
        rw [e3] at hq
        cases hp
        cases hq
        omega
      · by_cases h2 : j1 = i
        · subst h2
          have : k = l1 := Option.some.inj (hdi.symm.trans hl1')
          subst this
          rw [self] at hq
          rw [other k1 (kne i1 hi1 h1 k1 hk1)] at hp
          obtain ⟨q', e1, e2, _⟩ := hnew hn2
          obtain ⟨p', e3, e4⟩ := J.old i1 hi1 (lst i1 h1 hl1) hn1 k1 hk1
          rw [e1] at hq
          rw [e3] at hp
          cases hp
          cases hq
          omega
        · rw [other k1 (kne i1 hi1 h1 k1 hk1)] at hp
          rw [other l1 (kne j1 hj1 h2 l1 hl1')] at hq
          exact J.apart i1 j1 hi1 hj1 hne (lst i1 h1 hl1) (lst j1 h2 hl2) hn1 hn2 k1 l1 p q hk1 hl1' hp hq
  have h := hob i hi o' ho a w J.cls J.far (fun d hd x hx => by
    obtain ⟨o2, ho2, e, he, hb, hon⟩ := Region.waitsFor_spec hd
    have : o2 = o' := Option.some.inj (ho2.symm.trans ho)
    subst this
    have hl := hall e he hb
    rw [hon] at hl
    have hdn : d < n := by have := hback e he hb; omega
    exact J.near d hdn hl (fun c hc => by rw [spent_at hbs hsp hi hdn hd hc]; exact getD_both hun) x hx)
  unfold wpOp
  rw [ho]
  simp only
  split
  · next hw =>
    rw [if_pos hw] at h
    refine Or.inl ?_
    unfold frees at h
    unfold Oper.wp
    generalize (execOp a.eval o').run P w = r at *
    cases r with
    | halt x w' => exact absurd h (by simp [freesUpon])
    | ok nx w' =>
      cases nx <;> simp only [freesUpon] at h <;> simp only [Oper.upon]
      case value v => exact hK _ _ (next v w' h.1 h.2.1 h.2.2.1 h.2.2.2)
      case enter f args =>
        refine h.2.mono fun e w'' ⟨v, he, h1, h2, h3⟩ => ?_
        subst he
        exact hK _ _ (next v w'' h1 h2 h3 (fun hn => by rw [h.1] at hn; cases hn))
  · next hw =>
    rw [if_neg hw] at h
    exact hK _ _ (next undef w J.cls h.1 h.2.1 (fun hn => by rw [h.2.2] at hn; cases hn))

theorem ord_any {Q : Exit → Act → World → Prop} (hT : ∀ i w w', T i w w' → w.heap.size ≤ w'.heap.size) (hB : ordB md ops n base.tmps.size = true) (hs : Region.sinkB md ops n = true) (hc : Region.chainB md ops n = true) (hnm : ops.size = n + m) (hm : 0 < m)
    {bs : List (Option Nat × Option Nat)} (hbs : L.map (fun s => (s.by_, s.own)) = bs) (hsp : spentB md ops n bs = true) (hob : ∀ i, i < n → ordOb P md ops C T L n base i)
    (done : ∀ a w, OrdInv md ops C T L n base (Array.replicate n true ++ Array.replicate m false) a w → wpAny P md ops Q m (Array.replicate n true ++ Array.replicate m false) a w) :
    ∀ (f : Nat) (listed : Array Bool) (a : Act) (w : World), OrdInv md ops C T L n base listed a w → (List.range n).countP (fun i => !listed.getD i true) = f → wpAny P md ops Q (f + m) listed a w := by
  intro f
  induction f with
  | zero =>
    intro listed a w J hcnt
    have hall : ∀ i, i < n → listed.getD i true = true := fun i hi => by
      have := List.countP_eq_zero.1 hcnt i (List.mem_range.2 hi)
      simpa using this
    have he : listed = Array.replicate n true ++ Array.replicate m false := by
      apply Array.ext
      · rw [J.head.size, hnm]; simp
      · intro i h1 h2
        rw [Array.getElem_append]
        split
        · next h =>
          have hi : i < n := by simpa using h
          have := hall i hi
          simp [h1] at this
          simp [this]
        · next h =>
          have hi : n ≤ i := by simpa using h
          have := J.head.tail i hi (by rw [← J.head.size]; exact h1)
          simp [h1] at this
          simp [this]
    subst he
    rw [Nat.zero_add]
    exact done a w J
  | succ f ih =>
    intro listed a w J hcnt
    -- the least one that has not come up is ready
    have hex : ∃ i, i < n ∧ listed.getD i true = false := by
      by_cases h : ∃ i, i < n ∧ listed.getD i true = false
      · exact h
      · exfalso
        have : (List.range n).countP (fun i => !listed.getD i true) = 0 := List.countP_eq_zero.2 fun i hi => by
          have hi := List.mem_range.1 hi
          cases hl : listed.getD i true with
          | true => simp
          | false => exact absurd ⟨i, hi, hl⟩ h
        omega
    have hn : n < ops.size := by omega
    obtain ⟨i0, hi0, hu0⟩ := hex
    have hsmall : ∀ t ∈ Region.ready md ops listed, t < n := fun t ht => by
      rcases Nat.lt_or_ge t n with h | h
      · exact h
      · exact absurd ht (tail_waits hs hc hn J.head _ i0 rfl hi0 hu0 t h)
    have hready : Region.ready md ops listed ≠ [] := by
      have key : ∀ i, i < n → listed.getD i true = false → ∃ j, j ∈ Region.ready md ops listed := by
        intro i
        induction i using Nat.strongRecOn with
        | _ i ihi =>
          intro hi hu
          obtain ⟨o, k, ho, _, _, _, _, hback⟩ := ordB_at hB hi
          by_cases hd : ∀ e ∈ o.after, Region.binds md e = true → listed.getD e.on false = true
          · exact ⟨i, mem_ready.2 ⟨hu, o, ho, hd⟩⟩
          · obtain ⟨e, he⟩ : ∃ e, ¬ (e ∈ o.after → Region.binds md e = true → listed.getD e.on false = true) := by
              by_cases h : ∃ e, ¬ (e ∈ o.after → Region.binds md e = true → listed.getD e.on false = true)
              · exact h
              · exact absurd (fun e he hb => by
                  by_cases h2 : listed.getD e.on false = true
                  · exact h2
                  · exact absurd ⟨e, fun h3 => h2 (h3 he hb)⟩ h) hd
            have he1 : e ∈ o.after := by
              by_cases h : e ∈ o.after
              · exact h
              · exact absurd (fun h' => absurd h' h) he
            have he2 : Region.binds md e = true := by
              by_cases h : Region.binds md e = true
              · exact h
              · exact absurd (fun _ h' => absurd h' h) he
            have he3 : listed.getD e.on false = false := by
              cases h : listed.getD e.on false with
              | false => rfl
              | true => exact absurd (fun _ _ => h) he
            have hlt := hback e he1 he2
            exact ihi e.on hlt (by omega) (getD_in (by rw [J.head.size]; omega) he3)
      obtain ⟨j, hj⟩ := key i0 hi0 hu0
      intro h
      rw [h] at hj
      cases hj
    rw [show f + 1 + m = (f + m) + 1 from by omega]
    refine ⟨fun h => absurd h hready, fun i hi => ?_⟩
    refine J.step hT hB hbs hsp hob (hsmall i hi) hi fun a' w' J' => ih _ a' w' J' ?_
    have hun := (mem_ready.1 hi).1
    have hsz : i < listed.size := by rw [J.head.size]; have := hsmall i hi; omega
    have := countP_set (l := List.range n) (p := fun i => !listed.getD i true) (q := fun j => !(listed.setIfInBounds i true).getD j true) (i := i) List.nodup_range (List.mem_range.2 (hsmall i hi)) (by simp only [hun]; rfl) (by simp only [getD_set_self hsz]; rfl) (fun j hj => by simp only [getD_set_ne true (Ne.symm hj)])
    omega

/-- A region whose heads may come up in any order they are free to. -/
theorem wp_region_ord {id : Nat} {Q : Exit → Act → World → Prop} {w : World} {l : List Oper} (C : World → Prop) (T : Nat → World → World → Prop) (L : List (Slot T)) (n m : Nat) (hm : P.follows .mixedOrders = true) (hT : ∀ i w w', T i w w' → w.heap.size ≤ w'.heap.size) (hB : ordB .any l.toArray n base.tmps.size = true)
    (hs : Region.sinkB .any l.toArray n = true) (hc : Region.chainB .any l.toArray n = true) (hnm : l.toArray.size = n + m) (hm0 : 0 < m) (hC : C w.drew)
    (bs : List (Option Nat × Option Nat)) (hbs : L.map (fun s => (s.by_, s.own)) = bs) (hsp : spentB .any l.toArray n bs = true) (hob : ∀ i, i < n → ordOb P .any l.toArray C T L n base i)
    (done : ∀ a w, OrdInv .any l.toArray C T L n base (Array.replicate n true ++ Array.replicate m false) a w → wpAny P .any l.toArray Q m (Array.replicate n true ++ Array.replicate m false) a w) :
    (Code.region id l.toArray true).wp P Q base w := by
  refine wp_region_any hm ?_
  have h0 : (List.range n).countP (fun i => !(Array.replicate l.toArray.size false).getD i true) = n := by
    have : (List.range n).countP (fun i => !(Array.replicate l.toArray.size false).getD i true) = (List.range n).length := by
      rw [List.countP_eq_length]
      intro i hi
      have hi := List.mem_range.1 hi
      have hi2 : i < l.toArray.size := by omega
      have hi3 : i < l.length := by simpa using hi2
      simp [hi3]
    rw [this, List.length_range]
  have J : OrdInv .any l.toArray C T L n base (Array.replicate l.toArray.size false) base w.drew := by
    refine ⟨hC, ⟨by simp, fun j oj _ hl => ?_, fun t ht htl => ?_⟩, rfl, rfl, fun k _ => rfl, fun i hi hl _ => ?_, fun i hi hl => ?_, fun i j _ _ _ hl => ?_⟩
    · rw [getD_replicate_false] at hl; cases hl
    · have ht3 : t < l.length := by simpa using htl
      simp [ht3]
    · rw [getD_replicate_false] at hl; cases hl
    · rw [getD_replicate_false] at hl; cases hl
    · rw [getD_replicate_false] at hl; cases hl
  have h := ord_any (Q := Q) hT hB hs hc hnm hm0 hbs hsp hob done n _ base w.drew J h0
  rw [← hnm] at h
  exact h

/-! ### What a user asks -/
theorem ordOb_at {i : Nat} {o : Oper} (ho : ops[i]? = some o) (hg : o.guard = none)
    (h : ∀ (a : Act) (w : World), C w → (∀ k x, ((List.range n).all fun j => dstOf ops j != some k) = true → base.tmps[k]? = some x → a.tmps[k]? = some x) →
      (∀ d k, Region.waitsFor md ops i d = true → dstOf ops d = some k → ∃ v, a.tmps[k]? = some v ∧ (slotAt L d).p v w) → frees P o a C i (slotAt L i) w) : ordOb P md ops C T L n base i := by
  intro o' ho' a w hC hF hD
  have : o' = o := Option.some.inj (ho'.symm.trans ho)
  subst this
  have hw : Region.wanted o' (yielded ops a.tmps) = true := by unfold Region.wanted; rw [hg]
  rw [if_pos hw]
  refine h a w hC (fun k x hk hx => ?_) (fun d k hd hk => hD d hd k hk)
  rw [hF k fun j hj => ?_]
  · exact hx
  · have := List.all_eq_true.1 hk j (List.mem_range.2 hj)
    simpa using this

/-- When all heads have come up: their slots, one behind the other. -/
theorem OrdInv.all_ {a : Act} {w : World} (hB : ordB md ops n base.tmps.size = true) {ds : List (Option Tmp)} (hds : (List.range n).map (dstOf ops) = ds)
    (J : OrdInv md ops C T L n base (Array.replicate n true ++ Array.replicate m false) a w) :
    ∃ vs : List Value, vs.length = n ∧ a = { tmps := fillT ds vs base.tmps, defers := base.defers } ∧ C w ∧ (∀ i, i < n → (slotAt L i).by_ = none → (slotAt L i).p (vs.getD i undef) w) ∧
      (∀ i j, i < n → j < n → i ≠ j → (slotAt L i).new = true → (slotAt L j).new = true → ∀ p q, vs.getD i undef = .pointer (some ⟨p, 0, none⟩) → vs.getD j undef = .pointer (some ⟨q, 0, none⟩) → p ≠ q) := by
  have lst : ∀ i, i < n → (Array.replicate n true ++ Array.replicate m false).getD i false = true := fun i hi => by
    have h1 : i < (Array.replicate n true ++ Array.replicate m false).size := by simp; omega
    have h2 : (Array.replicate n true ++ Array.replicate m false)[i] = true := by rw [Array.getElem_append_left (by simpa using hi)]; simp
    simp only [Array.getD, h1, dite_true]
    exact h2
  have hx : ∀ i, i < n → ∃ v, ∀ k, dstOf ops i = some k → a.tmps[k]? = some v ∧ ((slotAt L i).by_ = none → (slotAt L i).p v w) := fun i hi => by
    obtain ⟨o, k, ho, hk, hks, _⟩ := ordB_at hB hi
    have hd : dstOf ops i = some k := by unfold dstOf; rw [ho]; exact hk
    refine ⟨a.tmps[k]'(by rw [J.size]; exact hks), fun k' hk' => ?_⟩
    have : k = k' := Option.some.inj (hd.symm.trans hk')
    subst this
    refine ⟨Array.getElem?_eq_getElem _, fun hb => ?_⟩
    obtain ⟨v, h1, h2⟩ := J.near i hi (lst i hi) (fun j hj => by rw [hb] at hj; cases hj) k hd
    rw [Array.getElem?_eq_getElem (by rw [J.size]; exact hks)] at h1
    cases h1
    exact h2
  obtain ⟨q, hq⟩ := Go.Deep.choose_lt hx
  have hdst : ∀ i, i < n → ∃ k, dstOf ops i = some k ∧ k < base.tmps.size := fun i hi => by
    obtain ⟨o, k, ho, hk, hks, _⟩ := ordB_at hB hi
    exact ⟨k, by unfold dstOf; rw [ho]; exact hk, hks⟩
  have hget : ∀ i, i < n → ((List.range n).map q).getD i undef = q i := fun i hi => by
    rw [List.getD_eq_getElem?_getD, List.getElem?_map, List.getElem?_range hi]
    rfl
  refine ⟨(List.range n).map q, by simp, ?_, J.cls, fun i hi hb => ?_, fun i j hi hj hne hni hnj p r hp hr => ?_⟩
  · obtain ⟨t, D⟩ := a
    have hD : D = base.defers := J.defers
    subst hD
    congr 1
    have hnd : ((List.range n).map (dstOf ops)).Nodup := by
      rw [List.nodup_iff_pairwise_ne, List.pairwise_map]
      refine List.Pairwise.imp_of_mem ?_ (List.nodup_iff_pairwise_ne.1 List.nodup_range)
      intro i j hi hj hne he
      have hi := List.mem_range.1 hi
      have hj := List.mem_range.1 hj
      obtain ⟨o, k, ho, hk, _, hdis, _⟩ := ordB_at hB hi
      exact hdis j hj (Ne.symm hne) (by rw [← he]; unfold dstOf; rw [ho]; exact hk)
    have hall : ∀ d ∈ (List.range n).map (dstOf ops), ∃ k, d = some k := by
      intro d hd
      obtain ⟨i, hi, rfl⟩ := List.mem_map.1 hd
      obtain ⟨k, hk, _⟩ := hdst i (List.mem_range.1 hi)
      exact ⟨k, hk⟩
    rw [← hds]
    apply Array.ext_getElem?
    intro x
    by_cases hxx : ∃ i, i < n ∧ dstOf ops i = some x
    · obtain ⟨i, hi, hd⟩ := hxx
      obtain ⟨k, hk, hks⟩ := hdst i hi
      have : k = x := Option.some.inj (hk.symm.trans hd)
      subst this
      rw [fillT_near _ _ _ i k (q i) hnd hall (by rw [List.getElem?_map, List.getElem?_range hi]; simp [hd]) (by rw [List.getElem?_map, List.getElem?_range hi]; rfl) hks]
      exact (hq i hi k hd).1
    · rw [fillT_far _ _ _ x (fun h => by
        obtain ⟨i, hi, hd⟩ := List.mem_map.1 h
        exact hxx ⟨i, List.mem_range.1 hi, hd⟩)]
      exact J.far x fun i hi hd => hxx ⟨i, hi, hd⟩
  · obtain ⟨k, hk, _⟩ := hdst i hi
    rw [hget i hi]
    exact (hq i hi k hk).2 hb
  · obtain ⟨k, hk, _⟩ := hdst i hi
    obtain ⟨l, hl, _⟩ := hdst j hj
    rw [hget i hi] at hp
    rw [hget j hj] at hr
    exact J.apart i j hi hj hne (lst i hi) (lst j hj) hni hnj k l p r hk hl (by rw [(hq i hi k hk).1, hp]) (by rw [(hq j hj l hl).1, hr])

end
end Go.Proofs.Ytkhmbkofkdnlkaa.Sp

namespace Go.Proofs.Ytkhmbkofkdnlkaa
open Go.RowKit Go.WideShapes Go.ChangeShapes Go.Deep

theorem list6 {α : Type} {l : List α} (h : l.length = 6) : ∃ c0 c1 c2 c3 c4 c5, l = [c0, c1, c2, c3, c4, c5] := by
  match l, h with
  | [c0, c1, c2, c3, c4, c5], _ => exact ⟨c0, c1, c2, c3, c4, c5, rfl⟩
theorem array6 {α : Type} {a : Array α} (h : a.size = 6) : ∃ x0 x1 x2 x3 x4 x5, a = #[x0, x1, x2, x3, x4, x5] := by
  obtain ⟨l⟩ := a
  match l, h with
  | [x0, x1, x2, x3, x4, x5], _ => exact ⟨x0, x1, x2, x3, x4, x5, rfl⟩
section
variable {H : Type} {enc : TypeId × Value → H} {P : Program} {w : World} {t s : TypeId} {f0 f1 f2 f3 f4 f5 : Field}
/-- What a file asks: its numbers are whole numbers of the machine, its texts as long as they can be read. -/
structure FileOk (f : FileM) : Prop where
  lv : (Lit.int .i64 f.lv).wf = true
  nu : (Lit.int .i64 f.nu).wf = true
  co : (Lit.int .i64 f.co).wf = true
  sz : (Lit.int .i64 f.sz).wf = true
  fi : f.fi.size ≤ 9223372036854775807
  la : f.la.size ≤ 9223372036854775807
def cellsV (f : FileM) : List Value := [.int .i64 f.lv, .int .i64 f.nu, .int .i64 f.co, .int .i64 f.sz, .string f.fi, .string f.la]
/-- One file, out of its cells. -/
theorem file_trod {fuel : Nat} {cs : List Value} {z : DataW H × List MemPlace} (ht : P.underlying t = some (.struct #[f0, f1, f2, f3, f4, f5]))
    (offs : [f0.offset, f1.offset, f2.offset, f3.offset, f4.offset, f5.offset] = [0, 1, 2, 3, 4, 5])
    (cells : [f0.type, f1.type, f2.type, f3.type, f4.type, f5.type].map P.cellsOf = [1, 1, 1, 1, 1, 1])
    (u0 : P.underlying f0.type = some (.int .i64)) (u1 : P.underlying f1.type = some (.int .i64)) (u2 : P.underlying f2.type = some (.int .i64)) (u3 : P.underlying f3.type = some (.int .i64)) (u4 : P.underlying f4.type = some .string) (u5 : P.underlying f5.type = some .string)
    (hl : cs.length = 6) (h : DataW.trod enc P w 0 (fun _ => true) true fuel t cs = some z) :
    ∃ f : FileM, cs = cellsV f ∧ FileOk f ∧ z = (.agg [.lit (.int .i64 f.lv), .lit (.int .i64 f.nu), .lit (.int .i64 f.co), .lit (.int .i64 f.sz), .lit (.string f.fi.data.toList), .lit (.string f.la.data.toList)], []) := by
  simp only [List.cons.injEq, and_true, List.map_cons, List.map_nil] at offs cells
  obtain ⟨o0, o1, o2, o3, o4, o5⟩ := offs
  obtain ⟨c0, c1, c2, c3, c4, c5⟩ := cells
  obtain ⟨a0, a1, a2, a3, a4, a5, rfl⟩ := list6 hl
  obtain ⟨ys, m, _, hx, _, hlen, hg⟩ := DataW.trod_struct ht h
  match ys, hlen, hg, hx with
  | [y0, y1, y2, y3, y4, y5], _, hg, hx =>
    have h0 := hg 0 f0 rfl
    have h1 := hg 1 f1 rfl
    have h2 := hg 2 f2 rfl
    have h3 := hg 3 f3 rfl
    have h4 := hg 4 f4 rfl
    have h5 := hg 5 f5 rfl
    simp [o0, o1, o2, o3, o4, o5, c0, c1, c2, c3, c4, c5] at h0 h1 h2 h3 h4 h5
    obtain ⟨lv, e0, d0, w0⟩ := DataW.trod_int u0 h0
    obtain ⟨nu, e1, d1, w1⟩ := DataW.trod_int u1 h1
    obtain ⟨co, e2, d2, w2⟩ := DataW.trod_int u2 h2
    obtain ⟨sz, e3, d3, w3⟩ := DataW.trod_int u3 h3
    obtain ⟨fi, e4, d4, w4⟩ := DataW.trod_string u4 h4
    obtain ⟨la, e5, d5, w5⟩ := DataW.trod_string u5 h5
    simp at e0 e1 e2 e3 e4 e5
    subst e0 e1 e2 e3 e4 e5 d0 d1 d2 d3 d4 d5
    unfold maxLen at w4 w5
    exact ⟨⟨lv, nu, co, sz, fi, la⟩, rfl, ⟨w0, w1, w2, w3, by simp only []; omega, by simp only []; omega⟩, hx⟩
/-- A slice of files, out of how it reads. -/
theorem files_view {A : Option Addr} {n cp : Nat} {d : DataW H} {p : List MemPlace} (hs : P.underlying s = some (.slice t)) (ht : P.underlying t = some (.struct #[f0, f1, f2, f3, f4, f5])) (hct : P.cellsOf t = 6)
    (offs : [f0.offset, f1.offset, f2.offset, f3.offset, f4.offset, f5.offset] = [0, 1, 2, 3, 4, 5])
    (cells : [f0.type, f1.type, f2.type, f3.type, f4.type, f5.type].map P.cellsOf = [1, 1, 1, 1, 1, 1])
    (u0 : P.underlying f0.type = some (.int .i64)) (u1 : P.underlying f1.type = some (.int .i64)) (u2 : P.underlying f2.type = some (.int .i64)) (u3 : P.underlying f3.type = some (.int .i64)) (u4 : P.underlying f4.type = some .string) (u5 : P.underlying f5.type = some .string)
    (h : DataW.Trod enc P w 0 (fun _ => true) true s (.slice A n cp) d p) : ∃ L, FilesAt w A n L ∧ n ≤ 9223372036854775807 ∧ ∀ f ∈ L, FileOk f := by
  obtain ⟨fuel, hf⟩ := h
  rcases open_slice hs hf with ⟨hcs, _⟩ | ⟨a, len', cap', m, k, D, Pl, hcs, _, hl, hm, hmm, _, hx⟩
  · simp [Value.cells] at hcs
    obtain ⟨rfl, rfl, rfl⟩ := hcs
    exact ⟨[], ⟨rfl, fun i m hm => by simp at hm⟩, by decide, fun f hf => by cases hf⟩
  · simp [Value.cells] at hcs
    obtain ⟨rfl, rfl, rfl⟩ := hcs
    rw [if_pos rfl] at hmm
    unfold maxLen at hm
    have each : ∀ j, j < n → ∃ q : FileM, (∀ k, k < 6 → w.cell? (a.add (j * 6 + k)) = (cellsV q)[k]?) ∧ FileOk q := by
      intro j hj
      obtain ⟨cs', h1, h2⟩ := hx j (by omega)
      rw [hct] at h1
      obtain ⟨_, hlen, hcell⟩ := World.cells?_some h1
      obtain ⟨q, rfl, hq, _⟩ := file_trod ht offs cells u0 u1 u2 u3 u4 u5 hlen h2
      refine ⟨q, fun k hk => ?_, hq⟩
      have hk' : k < (cellsV q).length := by rw [hlen]; exact hk
      have h3 := hcell k (by first | exact hk' | exact hk | (rw [hlen]; exact hk))
      simpa [Go.Deep.add_add] using h3
    haveI : Inhabited FileM := ⟨⟨0, 0, 0, 0, ⟨#[]⟩, ⟨#[]⟩⟩⟩
    obtain ⟨q, hq⟩ := choose_lt each
    have hget : ∀ (i : Nat) (m : FileM), ((List.range n).map q)[i]? = some m → i < n ∧ m = q i := by
      intro i m hm
      have hi : i < n := by
        have := (List.getElem?_eq_some_iff.1 hm).1
        simpa using this
      rw [List.getElem?_map, List.getElem?_range hi] at hm
      cases hm
      exact ⟨hi, rfl⟩
    refine ⟨(List.range n).map q, ⟨by simp, fun i m hm => ?_⟩, by omega, fun m hm => ?_⟩
    · obtain ⟨hi, rfl⟩ := hget i m hm
      obtain ⟨b, off, spot⟩ := a
      have z0 := (hq i hi).1 0 (by decide)
      have hspot : spot = none := by
        have h0 := (hq 0 (by omega)).1 0 (by decide)
        simpa [Addr.add] using World.cell?_spot (show w.cell? (({ block := b, off := off, spot := spot } : Addr).add (0 * 6 + 0)) = some (.int .i64 (q 0).lv) from h0)
      subst hspot
      have z1 := (hq i hi).1 1 (by decide)
      have z2 := (hq i hi).1 2 (by decide)
      have z3 := (hq i hi).1 3 (by decide)
      have z4 := (hq i hi).1 4 (by decide)
      have z5 := (hq i hi).1 5 (by decide)
      rw [Go.WideShapes.add_plain, ← Nat.add_assoc] at z0 z1 z2 z3 z4 z5
      rw [Nat.add_zero] at z0
      exact ⟨b, off, rfl, block_lt (show w.cell? _ = some (.int .i64 (q i).lv) from z0), z0, z1, z2, z3, z4, z5⟩
    · obtain ⟨i, hi⟩ := List.mem_iff_getElem?.1 hm
      obtain ⟨hj, rfl⟩ := hget i m hi
      exact (hq i hj).2
/-- A file that came in. -/
theorem file_view {r : Reach} {b0 : Nat} {v : Value} {d : DataW H} {p : List MemPlace} (ht : P.underlying t = some (.struct #[f0, f1, f2, f3, f4, f5])) (hct : P.cellsOf t = 6)
    (offs : [f0.offset, f1.offset, f2.offset, f3.offset, f4.offset, f5.offset] = [0, 1, 2, 3, 4, 5])
    (cells : [f0.type, f1.type, f2.type, f3.type, f4.type, f5.type].map P.cellsOf = [1, 1, 1, 1, 1, 1])
    (u0 : P.underlying f0.type = some (.int .i64)) (u1 : P.underlying f1.type = some (.int .i64)) (u2 : P.underlying f2.type = some (.int .i64)) (u3 : P.underlying f3.type = some (.int .i64)) (u4 : P.underlying f4.type = some .string) (u5 : P.underlying f5.type = some .string)
    (hval : Value.okWide P w r b0 t v) (h : DataW.Trod enc P w 0 (fun _ => true) true t v d p) :
    ∃ f : FileM, v = .agg (cellsV f).toArray ∧ d = .agg [.lit (.int .i64 f.lv), .lit (.int .i64 f.nu), .lit (.int .i64 f.co), .lit (.int .i64 f.sz), .lit (.string f.fi.data.toList), .lit (.string f.la.data.toList)] ∧ p = [] ∧ FileOk f := by
  obtain ⟨cs, rfl, hsz⟩ := okWide_struct ht hval
  obtain ⟨fuel, hf⟩ := h
  obtain ⟨f, e1, e2, e3⟩ := file_trod ht offs cells u0 u1 u2 u3 u4 u5 (by simpa [Value.cells] using hsz.trans hct) hf
  obtain ⟨rfl, rfl⟩ := Prod.mk.inj e3
  refine ⟨f, ?_, rfl, rfl, e2⟩
  rw [← e1]
  simp [Value.cells]
end
end Go.Proofs.Ytkhmbkofkdnlkaa

namespace Go.Proofs.Ytkhmbkofkdnlkaa
open Go.RowKit Go.WideShapes Go.ChangeShapes
section
variable {H : Type} {enc : TypeId × Value → H} {P : Program}
theorem post_of_below {f : Func} {s : ChangeSpec} {apart fresh handsOn again : Bool} {W W' : World} {args : Array Value} {v : Value} {ds gs : List (DataW H)} {before pa pv : List MemPlace}
    (hW : DataW.Whole enc P f.params.toList s.vars apart W args.toList ds gs before)
    (hres : ∀ (b : Nat) (sp : Nat → Bool) (hd : Bool), DataW.TrodAll enc P W' b sp hd f.resultTypes.toList (v.resultList f.resultTypes.size) (s.fn H (ds ++ gs)).results [])
    (hargs : ∀ sp : Nat → Bool, (∀ p ∈ before, sp p.block = true) → DataW.TrodAll enc P W' 0 sp true f.params.toList args.toList (s.fn H (ds ++ gs)).args pa)
    (hvars : ∀ sp : Nat → Bool, (∀ p ∈ before, sp p.block = true) → DataW.TrodVars enc P W' sp s.vars (s.fn H (ds ++ gs)).vars pv)
    (hps : before = pa ++ pv) (hb : Below W.heap.size W W')
    (hok : ∀ (j : Nat) (t : TypeId) (r : Value), f.resultTypes[j]? = some t → (v.resultList f.resultTypes.size)[j]? = some r → Value.okWide P W' .any 0 t r) :
    s.post enc P f apart fresh handsOn again W args v W' := by
  have hlt : ∀ p ∈ before, p.block < W.heap.size := fun p hp => hW.lt p hp
  have hold : ∀ p ∈ before, (fun b => decide (b < W.heap.size)) p.block = true := fun p hp => by simpa using hlt p hp
  refine ⟨ds, gs, before, [], pa, pv, hW, hres _ _ _, hargs _ hold, hvars _ hold, World.keptBut_mono (fun p hp => ⟨hp, ?_⟩) (hb.frame (· ∈ before)), fun _ => ?_⟩
  · rw [hps, List.mem_append] at hp
    exact Or.inr hp
  · obtain ⟨_, _, _, _, _, hz, hn⟩ := hW
    refine ⟨hok, _, _, ([] ++ pa) ++ pv, ⟨[] ++ pa, pv, trodAll_append (hargs _ (fun _ _ => rfl)) (hres _ _ _), hvars _ (fun _ _ => rfl), rfl, ?_, ?_⟩, ?_⟩
    · intro b off hp
      have hin : MemPlace.cell b off ∈ before := by rw [hps]; simpa using hp
      rw [hb.frozen (hlt _ hin)]
      exact hz b off hin
    · intro ha
      have := hn ha
      rw [hps] at this
      simpa using this
    · intro p hp _
      rw [hps]
      simpa using hp
end
end Go.Proofs.Ytkhmbkofkdnlkaa
