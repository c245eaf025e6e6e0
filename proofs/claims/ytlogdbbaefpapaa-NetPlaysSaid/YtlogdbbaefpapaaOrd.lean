/-
  A region that draws its order, with calls and blocks that are made: for each operation it is said, once, what stands in its slot when it has come up, whatever came up ahead of it. No program is named.
-/
import Derived.Test.YtlogdbbaefpapaaQuiet
import Derived.StillTail
import Derived.Deep.Slices
namespace Go.Proofs.Ytlogdbbaefpapaa

/-- What stands in an operation's slot, and goes on to stand there. -/
structure Slot (T : World → World → Prop) where
  p : Value → World → Prop
  st : ∀ v w w', p v w → T w w' → p v w'
  new : Bool
def Slot.is {T : World → World → Prop} (x : Value) : Slot T := ⟨fun v _ => v = x, fun _ _ _ h _ => h, false⟩
def Slot.any {T : World → World → Prop} : Slot T := ⟨fun _ _ => True, fun _ _ _ h _ => h, false⟩
/-- Whatever the world, a value of this kind. -/
def Slot.sort {T : World → World → Prop} (q : Value → Prop) : Slot T := ⟨fun v _ => q v, fun _ _ _ h _ => h, false⟩
def slotAt {T : World → World → Prop} (L : List (Slot T)) (i : Nat) : Slot T := L.getD i Slot.any

def dstOf (ops : Array Oper) (i : Nat) : Option Tmp := (ops[i]?).bind (·.dst)
/-- The slots filled, one behind the other. -/
def fillT : List (Option Tmp) → List Value → Array Value → Array Value
  | some k :: ds, v :: vs, t => fillT ds vs (t.setIfInBounds k v)
  | _, _, t => t

def notSelect (o : Oper) : Bool := match o.op with
  | .select _ _ => false
  | _ => true
/-- The heads of a region: each has a slot of its own, looks only at slots of operations that it waits for, and waits only for earlier ones. -/
def ordB (md : Region.Mode) (ops : Array Oper) (n size : Nat) : Bool :=
  (List.range n).all fun i => match ops[i]? with
    | none => false
    | some o => (match o.dst with
        | some k => decide (k < size) && (List.range n).all fun j => j == i || dstOf ops j != some k
        | none => false) && (notSelect o && ((o.after.toList.all fun e => !Region.binds md e || decide (e.on < i))))

/-- In every world of the class the operation yields what is said of its slot. -/
def freesUpon (P : Program) (C : World → Prop) {T : World → World → Prop} (S : Slot T) (w : World) : Result Next → Prop
  | .ok (.value v) w' => C w' ∧ T w w' ∧ S.p v w' ∧ (S.new = true → ∃ p, v = .pointer (some ⟨p, 0, none⟩) ∧ w.heap.size ≤ p ∧ p < w'.heap.size)
  | .ok (.enter f args) w' => S.new = false ∧ Calls P f args w' fun e w'' => ∃ v, e = .returned v ∧ C w'' ∧ T w w'' ∧ S.p v w''
  | _ => False
def frees (P : Program) (o : Oper) (a : Act) (C : World → Prop) {T : World → World → Prop} (S : Slot T) (w : World) : Prop := freesUpon P C S w ((execOp a.eval o).run P w)

section
variable {P : Program} {ops : Array Oper} {md : Region.Mode} {C : World → Prop} {T : World → World → Prop} {L : List (Slot T)} {n m : Nat} {base : Act}

/-- What is asked of one operation. -/
def ordOb (P : Program) (md : Region.Mode) (ops : Array Oper) (C : World → Prop) (T : World → World → Prop) (L : List (Slot T)) (n : Nat) (base : Act) (i : Nat) : Prop :=
  ∀ o, ops[i]? = some o → ∀ (a : Act) (w : World), C w → (∀ k, (∀ j, j < n → dstOf ops j ≠ some k) → a.tmps[k]? = base.tmps[k]?) →
    (∀ d, Region.waitsFor md ops i d = true → ∀ k, dstOf ops d = some k → ∃ v, a.tmps[k]? = some v ∧ (slotAt L d).p v w) →
    if Region.wanted o (yielded ops a.tmps) then frees P o a C (slotAt L i) w else T w w ∧ (slotAt L i).p undef w ∧ (slotAt L i).new = false

structure OrdInv (md : Region.Mode) (ops : Array Oper) (C : World → Prop) (T : World → World → Prop) (L : List (Slot T)) (n : Nat) (base : Act) (listed : Array Bool) (a : Act) (w : World) : Prop where
  cls : C w
  head : HeadInv md ops n listed
  defers : a.defers = base.defers
  size : a.tmps.size = base.tmps.size
  far : ∀ k, (∀ j, j < n → dstOf ops j ≠ some k) → a.tmps[k]? = base.tmps[k]?
  near : ∀ i, i < n → listed.getD i false = true → ∀ k, dstOf ops i = some k → ∃ v, a.tmps[k]? = some v ∧ (slotAt L i).p v w
  old : ∀ i, i < n → listed.getD i false = true → (slotAt L i).new = true → ∀ k, dstOf ops i = some k → ∃ p, a.tmps[k]? = some (.pointer (some ⟨p, 0, none⟩)) ∧ p < w.heap.size
  apart : ∀ i j, i < n → j < n → i ≠ j → listed.getD i false = true → listed.getD j false = true → (slotAt L i).new = true → (slotAt L j).new = true → ∀ k l p q, dstOf ops i = some k → dstOf ops j = some l →
    a.tmps[k]? = some (.pointer (some ⟨p, 0, none⟩)) → a.tmps[l]? = some (.pointer (some ⟨q, 0, none⟩)) → p ≠ q

theorem ordB_at (h : ordB md ops n base.tmps.size = true) {i : Nat} (hi : i < n) : ∃ o k, ops[i]? = some o ∧ o.dst = some k ∧ k < base.tmps.size ∧ (∀ j, j < n → j ≠ i → dstOf ops j ≠ some k) ∧ notSelect o = true ∧ (∀ e ∈ o.after, Region.binds md e = true → e.on < i) := by
  have h1 := List.all_eq_true.1 h i (List.mem_range.2 hi)
  cases ho : ops[i]? with
  | none => rw [ho] at h1; cases h1
  | some o =>
    rw [ho] at h1
    simp only [Bool.and_eq_true] at h1
    obtain ⟨h2, h3, h4⟩ := h1
    cases hk : o.dst with
    | none => rw [hk] at h2; cases h2
    | some k =>
      rw [hk] at h2
      simp only [Bool.and_eq_true, decide_eq_true_eq] at h2
      refine ⟨o, k, rfl, hk, h2.1, fun j hj hne => ?_, h3, fun e he hb => ?_⟩
      · have := List.all_eq_true.1 h2.2 j (List.mem_range.2 hj)
        simp only [Bool.or_eq_true, beq_iff_eq, bne_iff_ne] at this
        rcases this with h | h
        · exact absurd h hne
        · exact h
      · have := List.all_eq_true.1 h4 e (by simpa using he)
        simpa [hb] using this

theorem getD_set_self {listed : Array Bool} {i : Nat} (hi : i < listed.size) (d : Bool) : (listed.setIfInBounds i true).getD i d = true := by
  simp [hi]
theorem countP_set {l : List Nat} {p q : Nat → Bool} {i : Nat} (hl : l.Nodup) (hi : i ∈ l) (hp : p i = true) (hq : q i = false) (h : ∀ j, j ≠ i → p j = q j) : l.countP p = l.countP q + 1 := by
  induction l with
  | nil => cases hi
  | cons x l ih =>
    have hx := (List.nodup_cons.1 hl)
    by_cases hxi : x = i
    · subst hxi
      rw [List.countP_cons_of_pos hp, List.countP_cons_of_neg (by rw [hq]; decide)]
      congr 1
      apply List.countP_congr
      intro y hy
      rw [h y (fun e => hx.1 (e ▸ hy))]
    · have hi' : i ∈ l := by
        rcases List.mem_cons.1 hi with h | h
        · exact absurd h.symm hxi
        · exact h
      have := ih hx.2 hi'
      rw [List.countP_cons, List.countP_cons, this, h x hxi]
      omega

/-- The step. -/
theorem OrdInv.step {Q : Exit → Act → World → Prop} {listed : Array Bool} {a : Act} {w : World} (hT : ∀ w w', T w w' → w.heap.size ≤ w'.heap.size) (hB : ordB md ops n base.tmps.size = true) (hob : ∀ i, i < n → ordOb P md ops C T L n base i)
    (J : OrdInv md ops C T L n base listed a w) {i : Nat} (hi : i < n) (hr : i ∈ Region.ready md ops listed) {K : Act → World → Prop} (hK : ∀ a' w', OrdInv md ops C T L n base (listed.setIfInBounds i true) a' w' → K a' w') :
    wpOp P ops Q i K a w := by
  obtain ⟨o, k, ho, hk, hks, hdis, _, hback⟩ := ordB_at hB hi
  obtain ⟨hun, o', ho', hall⟩ := mem_ready.1 hr
  have : o' = o := Option.some.inj (ho'.symm.trans ho)
  subst this
  have hil : i < listed.size := by
    rw [J.head.size]
    exact (Array.getElem?_eq_some_iff.1 ho).1
  have hdi : dstOf ops i = some k := by unfold dstOf; rw [ho]; exact hk
  have next : ∀ v w', C w' → T w w' → (slotAt L i).p v w' → ((slotAt L i).new = true → ∃ p, v = .pointer (some ⟨p, 0, none⟩) ∧ w.heap.size ≤ p ∧ p < w'.heap.size) → OrdInv md ops C T L n base (listed.setIfInBounds i true) (a.put o'.dst v) w' := by
    intro v w' hC hTw hS hnew
    rw [hk]
    have self : (a.tmps.setIfInBounds k v)[k]? = some v := by rw [Array.getElem?_setIfInBounds_self_of_lt (by rw [J.size]; exact hks)]
    have other : ∀ x, k ≠ x → (a.tmps.setIfInBounds k v)[x]? = a.tmps[x]? := fun x hne => Array.getElem?_setIfInBounds_ne hne
    have kne : ∀ j, j < n → j ≠ i → ∀ x, dstOf ops j = some x → k ≠ x := fun j hj hji x hx e => hdis j hj hji (by rw [hx, e])
    have lst : ∀ j, j ≠ i → (listed.setIfInBounds i true).getD j false = true → listed.getD j false = true := fun j hji hl => by
      rwa [getD_set_ne false (Ne.symm hji)] at hl
    refine ⟨hC, J.head.set hr hi, J.defers, ?_, fun x hx => ?_, fun j hj hl x hx => ?_, fun j hj hl hnw x hx => ?_, fun i1 j1 hi1 hj1 hne hl1 hl2 hn1 hn2 k1 l1 p q hk1 hl1' hp hq => ?_⟩
    · show (a.tmps.setIfInBounds k v).size = _
      rw [Array.size_setIfInBounds]
      exact J.size
    · show (a.tmps.setIfInBounds k v)[x]? = _
      rw [other x (fun e => hx i hi (by rw [hdi, e]))]
      exact J.far x hx
    · show ∃ v', (a.tmps.setIfInBounds k v)[x]? = some v' ∧ _
      by_cases hji : j = i
      · subst hji
        have : k = x := Option.some.inj (hdi.symm.trans hx)
        subst this
        exact ⟨v, self, hS⟩
      · rw [other x (kne j hj hji x hx)]
        obtain ⟨v', h1, h2⟩ := J.near j hj (lst j hji hl) x hx
        exact ⟨v', h1, (slotAt L j).st _ _ _ h2 hTw⟩
    · show ∃ p, (a.tmps.setIfInBounds k v)[x]? = _ ∧ _
      by_cases hji : j = i
      · subst hji
        have : k = x := Option.some.inj (hdi.symm.trans hx)
        subst this
        obtain ⟨p, rfl, _, h3⟩ := hnew hnw
        exact ⟨p, self, h3⟩
      · rw [other x (kne j hj hji x hx)]
        obtain ⟨p, h1, h2⟩ := J.old j hj (lst j hji hl) hnw x hx
        exact ⟨p, h1, Nat.lt_of_lt_of_le h2 (hT _ _ hTw)⟩
    · replace hp : (a.tmps.setIfInBounds k v)[k1]? = _ := hp
      replace hq : (a.tmps.setIfInBounds k v)[l1]? = _ := hq
      by_cases h1 : i1 = i
      · have h2 : j1 ≠ i := fun e => hne (h1.trans e.symm)
        subst h1
        have : k = k1 := Option.some.inj (hdi.symm.trans hk1)
        subst this
        rw [self] at hp
        rw [other l1 (kne j1 hj1 h2 l1 hl1')] at hq
        obtain ⟨p', e1, e2, _⟩ := hnew hn1
        obtain ⟨q', e3, e4⟩ := J.old j1 hj1 (lst j1 h2 hl2) hn2 l1 hl1'
        rw [e1] at hp
        rw [e3] at hq
        cases hp
        cases hq
        omega
      · by_cases h2 : j1 = i
        · subst h2
          have : k = l1 := Option.some.inj (hdi.symm.trans hl1')
          subst this
          rw [self] at hq
          rw [other k1 (kne i1 hi1 h1 k1 hk1)] at hp
          obtain ⟨q', e1, e2, _⟩ := hnew hn2
          obtain ⟨p', e3, e4⟩ := J.old i1 hi1 (lst i1 h1 hl1) hn1 k1 hk1
          rw [e1] at hq
          rw [e3] at hp
          cases hp
          cases hq
          omega
        · rw [other k1 (kne i1 hi1 h1 k1 hk1)] at hp
          rw [other l1 (kne j1 hj1 h2 l1 hl1')] at hq
          exact J.apart i1 j1 hi1 hj1 hne (lst i1 h1 hl1) (lst j1 h2 hl2) hn1 hn2 k1 l1 p q hk1 hl1' hp hq
  have h := hob i hi o' ho a w J.cls J.far (fun d hd x hx => by
    obtain ⟨o2, ho2, e, he, hb, hon⟩ := Region.waitsFor_spec hd
    have : o2 = o' := Option.some.inj (ho2.symm.trans ho)
    subst this
    have hl := hall e he hb
    rw [hon] at hl
    have hdn : d < n := by have := hback e he hb; omega
    exact J.near d hdn hl x hx)
  unfold wpOp
  rw [ho]
  simp only
  split
  · next hw =>
    rw [if_pos hw] at h
    refine Or.inl ?_
    unfold frees at h
    unfold Oper.wp
    generalize (execOp a.eval o').run P w = r at *
    cases r with
    | halt x w' => exact absurd h (by simp [freesUpon])
    | ok nx w' =>
      cases nx <;> simp only [freesUpon] at h <;> simp only [Oper.upon]
      case value v => exact hK _ _ (next v w' h.1 h.2.1 h.2.2.1 h.2.2.2)
      case enter f args =>
        refine h.2.mono fun e w'' ⟨v, he, h1, h2, h3⟩ => ?_
        subst he
        exact hK _ _ (next v w'' h1 h2 h3 (fun hn => by rw [h.1] at hn; cases hn))
  · next hw =>
    rw [if_neg hw] at h
    exact hK _ _ (next undef w J.cls h.1 h.2.1 (fun hn => by rw [h.2.2] at hn; cases hn))

theorem ord_any {Q : Exit → Act → World → Prop} (hT : ∀ w w', T w w' → w.heap.size ≤ w'.heap.size) (hB : ordB md ops n base.tmps.size = true) (hs : Region.sinkB md ops n = true) (hc : Region.chainB md ops n = true) (hnm : ops.size = n + m) (hm : 0 < m)
    (hob : ∀ i, i < n → ordOb P md ops C T L n base i)
    (done : ∀ a w, OrdInv md ops C T L n base (Array.replicate n true ++ Array.replicate m false) a w → wpAny P md ops Q m (Array.replicate n true ++ Array.replicate m false) a w) :
    ∀ (f : Nat) (listed : Array Bool) (a : Act) (w : World), OrdInv md ops C T L n base listed a w → (List.range n).countP (fun i => !listed.getD i true) = f → wpAny P md ops Q (f + m) listed a w := by
  intro f
  induction f with
  | zero =>
    intro listed a w J hcnt
    have hall : ∀ i, i < n → listed.getD i true = true := fun i hi => by
      have := List.countP_eq_zero.1 hcnt i (List.mem_range.2 hi)
      simpa using this
    have he : listed = Array.replicate n true ++ Array.replicate m false := by
      apply Array.ext
      · rw [J.head.size, hnm]; simp
      · intro i h1 h2
        rw [Array.getElem_append]
        split
        · next h =>
          have hi : i < n := by simpa using h
          have := hall i hi
          simp [h1] at this
          simp [this]
        · next h =>
          have hi : n ≤ i := by simpa using h
          have := J.head.tail i hi (by rw [← J.head.size]; exact h1)
          simp [h1] at this
          simp [this]
    subst he
    rw [Nat.zero_add]
    exact done a w J
  | succ f ih =>
    intro listed a w J hcnt
    -- the least one that has not come up is ready
    have hex : ∃ i, i < n ∧ listed.getD i true = false := by
      by_cases h : ∃ i, i < n ∧ listed.getD i true = false
      · exact h
      · exfalso
        have : (List.range n).countP (fun i => !listed.getD i true) = 0 := List.countP_eq_zero.2 fun i hi => by
          have hi := List.mem_range.1 hi
          cases hl : listed.getD i true with
          | true => simp
          | false => exact absurd ⟨i, hi, hl⟩ h
        omega
    have hn : n < ops.size := by omega
    obtain ⟨i0, hi0, hu0⟩ := hex
    have hsmall : ∀ t ∈ Region.ready md ops listed, t < n := fun t ht => by
      rcases Nat.lt_or_ge t n with h | h
      · exact h
      · exact absurd ht (tail_waits hs hc hn J.head _ i0 rfl hi0 hu0 t h)
    have hready : Region.ready md ops listed ≠ [] := by
      have key : ∀ i, i < n → listed.getD i true = false → ∃ j, j ∈ Region.ready md ops listed := by
        intro i
        induction i using Nat.strongRecOn with
        | _ i ihi =>
          intro hi hu
          obtain ⟨o, k, ho, _, _, _, _, hback⟩ := ordB_at hB hi
          by_cases hd : ∀ e ∈ o.after, Region.binds md e = true → listed.getD e.on false = true
          · exact ⟨i, mem_ready.2 ⟨hu, o, ho, hd⟩⟩
          · obtain ⟨e, he⟩ : ∃ e, ¬ (e ∈ o.after → Region.binds md e = true → listed.getD e.on false = true) := by
              by_cases h : ∃ e, ¬ (e ∈ o.after → Region.binds md e = true → listed.getD e.on false = true)
              · exact h
              · exact absurd (fun e he hb => by
                  by_cases h2 : listed.getD e.on false = true
                  · exact h2
                  · exact absurd ⟨e, fun h3 => h2 (h3 he hb)⟩ h) hd
            have he1 : e ∈ o.after := by
              by_cases h : e ∈ o.after
              · exact h
              · exact absurd (fun h' => absurd h' h) he
            have he2 : Region.binds md e = true := by
              by_cases h : Region.binds md e = true
              · exact h
              · exact absurd (fun _ h' => absurd h' h) he
            have he3 : listed.getD e.on false = false := by
              cases h : listed.getD e.on false with
              | false => rfl
              | true => exact absurd (fun _ _ => h) he
            have hlt := hback e he1 he2
            exact ihi e.on hlt (by omega) (getD_in (by rw [J.head.size]; omega) he3)
      obtain ⟨j, hj⟩ := key i0 hi0 hu0
      intro h
      rw [h] at hj
      cases hj
    rw [show f + 1 + m = (f + m) + 1 from by omega]
    refine ⟨fun h => absurd h hready, fun i hi => ?_⟩
    refine J.step hT hB hob (hsmall i hi) hi fun a' w' J' => ih _ a' w' J' ?_
    have hun := (mem_ready.1 hi).1
    have hsz : i < listed.size := by rw [J.head.size]; have := hsmall i hi; omega
    have := countP_set (l := List.range n) (p := fun i => !listed.getD i true) (q := fun j => !(listed.setIfInBounds i true).getD j true) (i := i) List.nodup_range (List.mem_range.2 (hsmall i hi)) (by simp only [hun]; rfl) (by simp only [getD_set_self hsz]; rfl) (fun j hj => by simp only [getD_set_ne true (Ne.symm hj)])
    omega

/-- A region whose heads may come up in any order they are free to. -/
theorem wp_region_ord {id : Nat} {Q : Exit → Act → World → Prop} {w : World} {l : List Oper} (C : World → Prop) (T : World → World → Prop) (L : List (Slot T)) (n m : Nat) (hm : P.follows .mixedOrders = true) (hT : ∀ w w', T w w' → w.heap.size ≤ w'.heap.size) (hB : ordB .any l.toArray n base.tmps.size = true)
    (hs : Region.sinkB .any l.toArray n = true) (hc : Region.chainB .any l.toArray n = true) (hnm : l.toArray.size = n + m) (hm0 : 0 < m) (hC : C w.drew)
    (hob : ∀ i, i < n → ordOb P .any l.toArray C T L n base i)
    (done : ∀ a w, OrdInv .any l.toArray C T L n base (Array.replicate n true ++ Array.replicate m false) a w → wpAny P .any l.toArray Q m (Array.replicate n true ++ Array.replicate m false) a w) :
    (Code.region id l.toArray true).wp P Q base w := by
  refine wp_region_any hm ?_
  have h0 : (List.range n).countP (fun i => !(Array.replicate l.toArray.size false).getD i true) = n := by
    have : (List.range n).countP (fun i => !(Array.replicate l.toArray.size false).getD i true) = (List.range n).length := by
      rw [List.countP_eq_length]
      intro i hi
      have hi := List.mem_range.1 hi
      have hi2 : i < l.toArray.size := by omega
      have hi3 : i < l.length := by simpa using hi2
      simp [hi3]
    rw [this, List.length_range]
  have J : OrdInv .any l.toArray C T L n base (Array.replicate l.toArray.size false) base w.drew := by
    refine ⟨hC, ⟨by simp, fun j oj _ hl => ?_, fun t ht htl => ?_⟩, rfl, rfl, fun k _ => rfl, fun i hi hl => ?_, fun i hi hl => ?_, fun i j _ _ _ hl => ?_⟩
    · rw [getD_replicate_false] at hl; cases hl
    · have ht3 : t < l.length := by simpa using htl
      simp [ht3]
    · rw [getD_replicate_false] at hl; cases hl
    · rw [getD_replicate_false] at hl; cases hl
    · rw [getD_replicate_false] at hl; cases hl
  have h := ord_any (Q := Q) hT hB hs hc hnm hm0 hob done n _ base w.drew J h0
  rw [← hnm] at h
  exact h

/-! ### What a user asks -/
theorem ordOb_at {i : Nat} {o : Oper} (ho : ops[i]? = some o) (hg : o.guard = none)
    (h : ∀ (a : Act) (w : World), C w → (∀ k x, ((List.range n).all fun j => dstOf ops j != some k) = true → base.tmps[k]? = some x → a.tmps[k]? = some x) →
      (∀ d k, Region.waitsFor md ops i d = true → dstOf ops d = some k → ∃ v, a.tmps[k]? = some v ∧ (slotAt L d).p v w) → frees P o a C (slotAt L i) w) : ordOb P md ops C T L n base i := by
  intro o' ho' a w hC hF hD
  have : o' = o := Option.some.inj (ho'.symm.trans ho)
  subst this
  have hw : Region.wanted o' (yielded ops a.tmps) = true := by unfold Region.wanted; rw [hg]
  rw [if_pos hw]
  refine h a w hC (fun k x hk hx => ?_) (fun d k hd hk => hD d hd k hk)
  rw [hF k fun j hj => ?_]
  · exact hx
  · have := List.all_eq_true.1 hk j (List.mem_range.2 hj)
    simpa using this

theorem yielded_at {a : Act} {g : Nat} {k : Tmp} {c : Bool} (hk : dstOf ops g = some k) (h : a.tmps[k]? = some (.bool c)) : yielded ops a.tmps g = some c := by
  unfold yielded
  unfold dstOf at hk
  rw [hk]
  simp [h]
/-- The same of an operation whose guard lets it come up. -/
theorem ordOb_on {i : Nat} {o : Oper} {g : Nat} {b : Bool} {k : Tmp} (ho : ops[i]? = some o) (hg : o.guard = some (g, b)) (hwf : Region.waitsFor md ops i g = true) (hk : dstOf ops g = some k) (hs : ∀ v w, (slotAt L g).p v w → v = .bool b)
    (h : ∀ (a : Act) (w : World), C w → (∀ k x, ((List.range n).all fun j => dstOf ops j != some k) = true → base.tmps[k]? = some x → a.tmps[k]? = some x) →
      (∀ d k, Region.waitsFor md ops i d = true → dstOf ops d = some k → ∃ v, a.tmps[k]? = some v ∧ (slotAt L d).p v w) → frees P o a C (slotAt L i) w) : ordOb P md ops C T L n base i := by
  intro o' ho' a w hC hF hD
  have : o' = o := Option.some.inj (ho'.symm.trans ho)
  subst this
  obtain ⟨v, h1, h2⟩ := hD g hwf k hk
  rw [hs v w h2] at h1
  have hw : Region.wanted o' (yielded ops a.tmps) = true := by
    unfold Region.wanted
    rw [hg]
    simp [yielded_at hk h1]
  rw [if_pos hw]
  refine h a w hC (fun k x hk hx => ?_) (fun d k hd hk => hD d hd k hk)
  rw [hF k fun j hj => ?_]
  · exact hx
  · have := List.all_eq_true.1 hk j (List.mem_range.2 hj)
    simpa using this
/-- An operation whose guard passes it over. -/
theorem ordOb_off {i : Nat} {o : Oper} {g : Nat} {b : Bool} {k : Tmp} (ho : ops[i]? = some o) (hg : o.guard = some (g, !b)) (hwf : Region.waitsFor md ops i g = true) (hk : dstOf ops g = some k) (hs : ∀ v w, (slotAt L g).p v w → v = .bool b)
    (hT : ∀ w, T w w) (hu : ∀ w, (slotAt L i).p undef w) (hn : (slotAt L i).new = false) : ordOb P md ops C T L n base i := by
  intro o' ho' a w hC hF hD
  have : o' = o := Option.some.inj (ho'.symm.trans ho)
  subst this
  obtain ⟨v, h1, h2⟩ := hD g hwf k hk
  rw [hs v w h2] at h1
  have hw : Region.wanted o' (yielded ops a.tmps) = false := by
    unfold Region.wanted
    rw [hg]
    cases b <;> simp [yielded_at hk h1]
  rw [hw, if_neg (by decide)]
  exact ⟨hT w, hu w, hn⟩

theorem fillT_size : ∀ (ds : List (Option Tmp)) (vs : List Value) (t : Array Value), (fillT ds vs t).size = t.size
  | [], vs, t => by cases vs <;> rfl
  | none :: ds, vs, t => by cases vs <;> rfl
  | some k :: ds, [], t => rfl
  | some k :: ds, v :: vs, t => by
    show (fillT ds vs (t.setIfInBounds k v)).size = _
    rw [fillT_size ds vs, Array.size_setIfInBounds]
theorem fillT_far : ∀ (ds : List (Option Tmp)) (vs : List Value) (t : Array Value) (x : Nat), some x ∉ ds → (fillT ds vs t)[x]? = t[x]?
  | [], vs, t, x, _ => by cases vs <;> rfl
  | none :: ds, vs, t, x, _ => by cases vs <;> rfl
  | some k :: ds, [], t, x, _ => rfl
  | some k :: ds, v :: vs, t, x, h => by
    show (fillT ds vs (t.setIfInBounds k v))[x]? = _
    have hne : k ≠ x := fun e => h (by rw [e]; exact List.mem_cons_self)
    rw [fillT_far ds vs _ x (fun h' => h (List.mem_cons_of_mem _ h')), Array.getElem?_setIfInBounds_ne hne]
theorem fillT_near : ∀ (ds : List (Option Tmp)) (vs : List Value) (t : Array Value) (j x : Nat) (v : Value), ds.Nodup → (∀ d ∈ ds, ∃ k, d = some k) → ds[j]? = some (some x) → vs[j]? = some v → x < t.size → (fillT ds vs t)[x]? = some v
  | [], _, _, _, _, _, _, _, h, _, _ => by simp at h
  | none :: ds, _, _, _, _, _, _, h, _, _, _ => by
    obtain ⟨k, hk⟩ := h none List.mem_cons_self
    cases hk
  | some k :: ds, [], _, _, _, _, _, _, _, h, _ => by simp at h
  | some k :: ds, u :: vs, t, 0, x, v, hn, _, hd, hv, hx => by
    show (fillT ds vs (t.setIfInBounds k u))[x]? = _
    simp at hd hv
    subst hd hv
    rw [fillT_far ds vs _ k (List.nodup_cons.1 hn).1, Array.getElem?_setIfInBounds_self_of_lt hx]
  | some k :: ds, u :: vs, t, j + 1, x, v, hn, ha, hd, hv, hx => by
    show (fillT ds vs (t.setIfInBounds k u))[x]? = _
    exact fillT_near ds vs _ j x v (List.nodup_cons.1 hn).2 (fun d h => ha d (List.mem_cons_of_mem _ h)) (by simpa using hd) (by simpa using hv) (by rw [Array.size_setIfInBounds]; exact hx)

/-- When all heads have come up: their slots, one behind the other. -/
theorem OrdInv.all_ {a : Act} {w : World} (hB : ordB md ops n base.tmps.size = true) {ds : List (Option Tmp)} (hds : (List.range n).map (dstOf ops) = ds)
    (J : OrdInv md ops C T L n base (Array.replicate n true ++ Array.replicate m false) a w) :
    ∃ vs : List Value, vs.length = n ∧ a = { tmps := fillT ds vs base.tmps, defers := base.defers } ∧ C w ∧ (∀ i, i < n → (slotAt L i).p (vs.getD i undef) w) ∧
      (∀ i j, i < n → j < n → i ≠ j → (slotAt L i).new = true → (slotAt L j).new = true → ∀ p q, vs.getD i undef = .pointer (some ⟨p, 0, none⟩) → vs.getD j undef = .pointer (some ⟨q, 0, none⟩) → p ≠ q) := by
  have lst : ∀ i, i < n → (Array.replicate n true ++ Array.replicate m false).getD i false = true := fun i hi => by
    have h1 : i < (Array.replicate n true ++ Array.replicate m false).size := by simp; omega
    have h2 : (Array.replicate n true ++ Array.replicate m false)[i] = true := by rw [Array.getElem_append_left (by simpa using hi)]; simp
    simp only [Array.getD, h1, dite_true]
    exact h2
  have hx : ∀ i, i < n → ∃ v, ∀ k, dstOf ops i = some k → a.tmps[k]? = some v ∧ (slotAt L i).p v w := fun i hi => by
    obtain ⟨o, k, ho, hk, _⟩ := ordB_at hB hi
    have hd : dstOf ops i = some k := by unfold dstOf; rw [ho]; exact hk
    obtain ⟨v, h1, h2⟩ := J.near i hi (lst i hi) k hd
    exact ⟨v, fun k' hk' => by
      have : k = k' := Option.some.inj (hd.symm.trans hk')
      subst this
      exact ⟨h1, h2⟩⟩
  obtain ⟨q, hq⟩ := Go.Deep.choose_lt hx
  have hdst : ∀ i, i < n → ∃ k, dstOf ops i = some k ∧ k < base.tmps.size := fun i hi => by
    obtain ⟨o, k, ho, hk, hks, _⟩ := ordB_at hB hi
    exact ⟨k, by unfold dstOf; rw [ho]; exact hk, hks⟩
  have hget : ∀ i, i < n → ((List.range n).map q).getD i undef = q i := fun i hi => by
    rw [List.getD_eq_getElem?_getD, List.getElem?_map, List.getElem?_range hi]
    rfl
  refine ⟨(List.range n).map q, by simp, ?_, J.cls, fun i hi => ?_, fun i j hi hj hne hni hnj p r hp hr => ?_⟩
  · obtain ⟨t, D⟩ := a
    have hD : D = base.defers := J.defers
    subst hD
    congr 1
    have hnd : ((List.range n).map (dstOf ops)).Nodup := by
      rw [List.nodup_iff_pairwise_ne, List.pairwise_map]
      refine List.Pairwise.imp_of_mem ?_ (List.nodup_iff_pairwise_ne.1 List.nodup_range)
      intro i j hi hj hne he
      have hi := List.mem_range.1 hi
      have hj := List.mem_range.1 hj
      obtain ⟨o, k, ho, hk, _, hdis, _⟩ := ordB_at hB hi
      exact hdis j hj (Ne.symm hne) (by rw [← he]; unfold dstOf; rw [ho]; exact hk)
    have hall : ∀ d ∈ (List.range n).map (dstOf ops), ∃ k, d = some k := by
      intro d hd
      obtain ⟨i, hi, rfl⟩ := List.mem_map.1 hd
      obtain ⟨k, hk, _⟩ := hdst i (List.mem_range.1 hi)
      exact ⟨k, hk⟩
    rw [← hds]
    apply Array.ext_getElem?
    intro x
    by_cases hxx : ∃ i, i < n ∧ dstOf ops i = some x
    · obtain ⟨i, hi, hd⟩ := hxx
      obtain ⟨k, hk, hks⟩ := hdst i hi
      have : k = x := Option.some.inj (hk.symm.trans hd)
      subst this
      rw [fillT_near _ _ _ i k (q i) hnd hall (by rw [List.getElem?_map, List.getElem?_range hi]; simp [hd]) (by rw [List.getElem?_map, List.getElem?_range hi]; rfl) hks]
      exact (hq i hi k hd).1
    · rw [fillT_far _ _ _ x (fun h => by
        obtain ⟨i, hi, hd⟩ := List.mem_map.1 h
        exact hxx ⟨i, List.mem_range.1 hi, hd⟩)]
      exact J.far x fun i hi hd => hxx ⟨i, hi, hd⟩
  · obtain ⟨k, hk, _⟩ := hdst i hi
    rw [hget i hi]
    exact (hq i hi k hk).2
  · obtain ⟨k, hk, _⟩ := hdst i hi
    obtain ⟨l, hl, _⟩ := hdst j hj
    rw [hget i hi] at hp
    rw [hget j hj] at hr
    exact J.apart i j hi hj hne (lst i hi) (lst j hj) hni hnj k l p r hk hl (by rw [(hq i hi k hk).1, hp]) (by rw [(hq j hj l hl).1, hr])

/-! ### One operation that the tail does not wait for -/
/-- As 'sinkB', but of operation d: nothing of the tail's first waits for it. -/
def sinkL (md : Region.Mode) (ops : Array Oper) (n d : Nat) : Bool :=
  (List.range n).all fun i => i == d || (List.range (n + 1)).any fun j => decide (i < j) && (j != d && Region.waitsFor md ops j i)
theorem tail_waits_late {d : Nat} {listed : Array Bool} (hs : sinkL md ops n d = true) (hc : Region.chainB md ops n = true) (hn : n < ops.size) (inv : HeadInv md ops n listed) :
    ∀ (x i : Nat), n - i = x → i < n → i ≠ d → listed.getD i true = false → ∀ t, n ≤ t → t ∉ Region.ready md ops listed := by
  intro x
  induction x using Nat.strongRecOn with
  | _ x ih =>
    intro i hd hi hid hun t ht hr
    obtain ⟨_, ot, hot, hall⟩ := mem_ready.1 hr
    have htlt : t < ops.size := (Array.getElem?_eq_some_iff.1 hot).1
    by_cases htn : t = n
    · subst htn
      have h1 := List.all_eq_true.1 hs i (List.mem_range.2 hi)
      simp only [Bool.or_eq_true, beq_iff_eq] at h1
      rcases h1 with h1 | h1
      · exact absurd h1 hid
      obtain ⟨j, hj, hj2⟩ := List.any_eq_true.1 h1
      simp only [Bool.and_eq_true, decide_eq_true_eq, bne_iff_ne] at hj2
      obtain ⟨oj, hoj, e, he, hb, hon⟩ := Region.waitsFor_spec hj2.2.2
      have hjle : j ≤ t := by have := List.mem_range.1 hj; omega
      by_cases hjt : j = t
      · subst hjt
        have : oj = ot := Option.some.inj (hoj.symm.trans hot)
        subst this
        have h2 := hall e he hb
        rw [hon, getD_both hun] at h2
        cases h2
      · cases hl : listed.getD j false with
        | true =>
          have h2 := inv.closed j oj hoj hl e he hb
          rw [hon, getD_both hun] at h2
          cases h2
        | false =>
          have hjs : j < listed.size := by rw [inv.size]; omega
          exact ih (t - j) (by omega) j rfl (by omega) hj2.2.1 (getD_in hjs hl) t (Nat.le_refl _) hr
    · have h1 := List.all_eq_true.1 hc t (List.mem_range.2 htlt)
      simp only [Bool.or_eq_true, decide_eq_true_eq] at h1
      rcases h1 with h1 | h1
      · omega
      · obtain ⟨o', ho', e, he, hb, hon⟩ := Region.waitsFor_spec h1
        have : o' = ot := Option.some.inj (ho'.symm.trans hot)
        subst this
        have h2 := hall e he hb
        rw [hon, getD_both (inv.tail (t - 1) (by omega) (by omega))] at h2
        cases h2

theorem some_ready (hB : ordB md ops n base.tmps.size = true) {listed : Array Bool} (hsz : listed.size = ops.size) (hn : n < ops.size) : ∀ i, i < n → listed.getD i true = false → ∃ j, j ∈ Region.ready md ops listed := by
  intro i
  induction i using Nat.strongRecOn with
  | _ i ihi =>
    intro hi hu
    obtain ⟨o, k, ho, _, _, _, _, hback⟩ := ordB_at hB hi
    by_cases hd : ∀ e ∈ o.after, Region.binds md e = true → listed.getD e.on false = true
    · exact ⟨i, mem_ready.2 ⟨hu, o, ho, hd⟩⟩
    · obtain ⟨e, he⟩ : ∃ e, ¬ (e ∈ o.after → Region.binds md e = true → listed.getD e.on false = true) := by
        by_cases h : ∃ e, ¬ (e ∈ o.after → Region.binds md e = true → listed.getD e.on false = true)
        · exact h
        · exact absurd (fun e he hb => by
            by_cases h2 : listed.getD e.on false = true
            · exact h2
            · exact absurd ⟨e, fun h3 => h2 (h3 he hb)⟩ h) hd
      have he1 : e ∈ o.after := by
        by_cases h : e ∈ o.after
        · exact h
        · exact absurd (fun h' => absurd h' h) he
      have he2 : Region.binds md e = true := by
        by_cases h : Region.binds md e = true
        · exact h
        · exact absurd (fun _ h' => absurd h' h) he
      have he3 : listed.getD e.on false = false := by
        cases h : listed.getD e.on false with
        | false => rfl
        | true => exact absurd (fun _ _ => h) he
      have hlt := hback e he1 he2
      exact ihi e.on hlt (by omega) (getD_in (by rw [hsz]; omega) he3)

theorem ord_late {Q : Exit → Act → World → Prop} {d : Nat} (hT : ∀ w w', T w w' → w.heap.size ≤ w'.heap.size) (hB : ordB md ops n base.tmps.size = true) (hs : sinkL md ops n d = true) (hc : Region.chainB md ops n = true) (hnm : ops.size = n + m) (hm : 0 < m)
    (hob : ∀ i, i < n → ordOb P md ops C T L n base i)
    (done : ∀ f listed a w, OrdInv md ops C T L n base listed a w → (∀ i, i < n → i ≠ d → listed.getD i true = true) → (List.range n).countP (fun i => !listed.getD i true) = f → wpAny P md ops Q (f + m) listed a w) :
    ∀ (f : Nat) (listed : Array Bool) (a : Act) (w : World), OrdInv md ops C T L n base listed a w → (List.range n).countP (fun i => !listed.getD i true) = f → wpAny P md ops Q (f + m) listed a w := by
  intro f
  induction f with
  | zero =>
    intro listed a w J hcnt
    exact done 0 listed a w J (fun i hi _ => by
      have := List.countP_eq_zero.1 hcnt i (List.mem_range.2 hi)
      simpa using this) hcnt
  | succ f ih =>
    intro listed a w J hcnt
    by_cases hex : ∃ i, i < n ∧ i ≠ d ∧ listed.getD i true = false
    · obtain ⟨i0, hi0, hd0, hu0⟩ := hex
      have hn : n < ops.size := by omega
      have hsmall : ∀ t ∈ Region.ready md ops listed, t < n := fun t ht => by
        rcases Nat.lt_or_ge t n with h | h
        · exact h
        · exact absurd ht (tail_waits_late hs hc hn J.head _ i0 rfl hi0 hd0 hu0 t h)
      have hready : Region.ready md ops listed ≠ [] := by
        obtain ⟨j, hj⟩ := some_ready hB J.head.size hn i0 hi0 hu0
        intro h
        rw [h] at hj
        cases hj
      rw [show f + 1 + m = (f + m) + 1 from by omega]
      refine ⟨fun h => absurd h hready, fun i hi => ?_⟩
      refine J.step hT hB hob (hsmall i hi) hi fun a' w' J' => ih _ a' w' J' ?_
      have hun := (mem_ready.1 hi).1
      have hsz : i < listed.size := by rw [J.head.size]; have := hsmall i hi; omega
      have := countP_set (l := List.range n) (p := fun i => !listed.getD i true) (q := fun j => !(listed.setIfInBounds i true).getD j true) (i := i) List.nodup_range (List.mem_range.2 (hsmall i hi)) (by simp only [hun]; rfl) (by simp only [getD_set_self hsz]; rfl) (fun j hj => by simp only [getD_set_ne true (Ne.symm hj)])
      omega
    · exact done (f + 1) listed a w J (fun i hi hd => by
        cases hl : listed.getD i true with
        | true => rfl
        | false => exact absurd ⟨i, hi, hd, hl⟩ hex) hcnt

/-- All heads but one have come up. -/
def lackArr (n m d : Nat) : Array Bool := (Array.replicate n true).setIfInBounds d false ++ Array.replicate m false
theorem wp_region_ord1 {id : Nat} {Q : Exit → Act → World → Prop} {w : World} {l : List Oper} (C : World → Prop) (T : World → World → Prop) (L : List (Slot T)) (n m d : Nat) (hd : d < n) (hm : P.follows .mixedOrders = true) (hT : ∀ w w', T w w' → w.heap.size ≤ w'.heap.size) (hB : ordB .any l.toArray n base.tmps.size = true)
    (hs : sinkL .any l.toArray n d = true) (hc : Region.chainB .any l.toArray n = true) (hnm : l.toArray.size = n + m) (hm0 : 0 < m) (hC : C w.drew)
    (hob : ∀ i, i < n → ordOb P .any l.toArray C T L n base i)
    (done : ∀ a w, OrdInv .any l.toArray C T L n base (Array.replicate n true ++ Array.replicate m false) a w → wpAny P .any l.toArray Q m (Array.replicate n true ++ Array.replicate m false) a w)
    (done1 : ∀ a w, OrdInv .any l.toArray C T L n base (lackArr n m d) a w → wpAny P .any l.toArray Q (1 + m) (lackArr n m d) a w) :
    (Code.region id l.toArray true).wp P Q base w := by
  refine wp_region_any hm ?_
  have h0 : (List.range n).countP (fun i => !(Array.replicate l.toArray.size false).getD i true) = n := by
    have : (List.range n).countP (fun i => !(Array.replicate l.toArray.size false).getD i true) = (List.range n).length := by
      rw [List.countP_eq_length]
      intro i hi
      have hi := List.mem_range.1 hi
      have hi2 : i < l.toArray.size := by omega
      have hi3 : i < l.length := by simpa using hi2
      simp [hi3]
    rw [this, List.length_range]
  have J : OrdInv .any l.toArray C T L n base (Array.replicate l.toArray.size false) base w.drew := by
    refine ⟨hC, ⟨by simp, fun j oj _ hl => ?_, fun t ht htl => ?_⟩, rfl, rfl, fun k _ => rfl, fun i hi hl => ?_, fun i hi hl => ?_, fun i j _ _ _ hl => ?_⟩
    · rw [getD_replicate_false] at hl; cases hl
    · have ht3 : t < l.length := by simpa using htl
      simp [ht3]
    · rw [getD_replicate_false] at hl; cases hl
    · rw [getD_replicate_false] at hl; cases hl
    · rw [getD_replicate_false] at hl; cases hl
  have h := ord_late (Q := Q) (d := d) hT hB hs hc hnm hm0 hob (fun f listed a w J hall hcnt => by
    have tl : ∀ i (h1 : i < listed.size), n ≤ i → listed[i] = false := fun i h1 hi => by
      have := J.head.tail i hi (by rw [← J.head.size]; exact h1)
      simpa [h1] using this
    have hdl : d < listed.size := by rw [J.head.size]; omega
    cases hl : listed.getD d true with
    | true =>
      have hall' : ∀ i, i < n → listed.getD i true = true := fun i hi => by
        by_cases e : i = d
        · rw [e]; exact hl
        · exact hall i hi e
      have he : listed = Array.replicate n true ++ Array.replicate m false := by
        apply Array.ext
        · rw [J.head.size, hnm]; simp
        · intro i h1 h2
          rw [Array.getElem_append]
          split
          · next h =>
            have hi : i < n := by simpa using h
            have := hall' i hi
            simp [h1] at this
            simp [this]
          · next h =>
            have hi : n ≤ i := by simpa using h
            rw [tl i h1 hi]
            simp
      have hf : f = 0 := by
        rw [← hcnt, List.countP_eq_zero]
        intro i hi
        rw [hall' i (List.mem_range.1 hi)]
        simp
      subst he hf
      rw [Nat.zero_add]
      exact done a w J
    | false =>
      have he : listed = lackArr n m d := by
        unfold lackArr
        apply Array.ext
        · rw [J.head.size, hnm]; simp
        · intro i h1 h2
          rw [Array.getElem_append]
          split
          · next h =>
            have hi : i < n := by simpa using h
            by_cases e : i = d
            · subst e
              simp [h1] at hl
              simp [hl]
            · have := hall i hi e
              simp [h1] at this
              rw [this, Array.getElem_setIfInBounds_ne (by simpa using hi) (Ne.symm e)]
              simp
          · next h =>
            have hi : n ≤ i := by simpa using h
            rw [tl i h1 hi]
            simp
      have hf : f = 1 := by
        have := countP_set (l := List.range n) (p := fun i => !listed.getD i true) (q := fun j => if j < n then false else !listed.getD j true) (i := d) List.nodup_range (List.mem_range.2 hd) (by simp only [hl]; rfl) (by simp only [hd, if_true]) (fun j hj => by
          by_cases hjn : j < n
          · simp only [hjn, if_true]
            rw [hall j hjn hj]
            rfl
          · simp only [hjn, if_false])
        rw [← hcnt, this]
        have hz : (List.range n).countP (fun j => if j < n then false else !listed.getD j true) = 0 := by
          rw [List.countP_eq_zero]
          intro i hi
          simp [List.mem_range.1 hi]
        rw [hz]
      subst he hf
      exact done1 a w J) n _ base w.drew J h0
  rw [← hnm] at h
  exact h
/-- When some heads have come up: their slots, one behind the other. -/
theorem OrdInv.some_ {listed : Array Bool} {a : Act} {w : World} (hB : ordB md ops n base.tmps.size = true) {ds : List (Option Tmp)} (hds : (List.range n).map (dstOf ops) = ds)
    (J : OrdInv md ops C T L n base listed a w) :
    ∃ vs : List Value, vs.length = n ∧ a = { tmps := fillT ds vs base.tmps, defers := base.defers } ∧ C w ∧ (∀ i, i < n → listed.getD i false = true → (slotAt L i).p (vs.getD i undef) w) ∧
      (∀ i j, i < n → j < n → i ≠ j → listed.getD i false = true → listed.getD j false = true → (slotAt L i).new = true → (slotAt L j).new = true → ∀ p q, vs.getD i undef = .pointer (some ⟨p, 0, none⟩) → vs.getD j undef = .pointer (some ⟨q, 0, none⟩) → p ≠ q) := by
  have hx : ∀ i, i < n → ∃ v, ∀ k, dstOf ops i = some k → a.tmps[k]? = some v ∧ (listed.getD i false = true → (slotAt L i).p v w) := fun i hi => by
    obtain ⟨o, k, ho, hk, hks, _⟩ := ordB_at hB hi
    have hd : dstOf ops i = some k := by unfold dstOf; rw [ho]; exact hk
    by_cases hl : listed.getD i false = true
    · obtain ⟨v, h1, h2⟩ := J.near i hi hl k hd
      exact ⟨v, fun k' hk' => by
        have : k = k' := Option.some.inj (hd.symm.trans hk')
        subst this
        exact ⟨h1, fun _ => h2⟩⟩
    · exact ⟨a.tmps[k]'(by rw [J.size]; exact hks), fun k' hk' => by
        have : k = k' := Option.some.inj (hd.symm.trans hk')
        subst this
        exact ⟨Array.getElem?_eq_getElem _, fun h => absurd h hl⟩⟩
  obtain ⟨q, hq⟩ := Go.Deep.choose_lt hx
  have hdst : ∀ i, i < n → ∃ k, dstOf ops i = some k ∧ k < base.tmps.size := fun i hi => by
    obtain ⟨o, k, ho, hk, hks, _⟩ := ordB_at hB hi
    exact ⟨k, by unfold dstOf; rw [ho]; exact hk, hks⟩
  have hget : ∀ i, i < n → ((List.range n).map q).getD i undef = q i := fun i hi => by
    rw [List.getD_eq_getElem?_getD, List.getElem?_map, List.getElem?_range hi]
    rfl
  refine ⟨(List.range n).map q, by simp, ?_, J.cls, fun i hi hl => ?_, fun i j hi hj hne hl1 hl2 hni hnj p r hp hr => ?_⟩
  · obtain ⟨t, D⟩ := a
    have hD : D = base.defers := J.defers
    subst hD
    congr 1
    have hnd : ((List.range n).map (dstOf ops)).Nodup := by
      rw [List.nodup_iff_pairwise_ne, List.pairwise_map]
      refine List.Pairwise.imp_of_mem ?_ (List.nodup_iff_pairwise_ne.1 List.nodup_range)
      intro i j hi hj hne he
      have hi := List.mem_range.1 hi
      have hj := List.mem_range.1 hj
      obtain ⟨o, k, ho, hk, _, hdis, _⟩ := ordB_at hB hi
      exact hdis j hj (Ne.symm hne) (by rw [← he]; unfold dstOf; rw [ho]; exact hk)
    have hall : ∀ d ∈ (List.range n).map (dstOf ops), ∃ k, d = some k := by
      intro d hd
      obtain ⟨i, hi, rfl⟩ := List.mem_map.1 hd
      obtain ⟨k, hk, _⟩ := hdst i (List.mem_range.1 hi)
      exact ⟨k, hk⟩
    rw [← hds]
    apply Array.ext_getElem?
    intro x
    by_cases hxx : ∃ i, i < n ∧ dstOf ops i = some x
    · obtain ⟨i, hi, hd⟩ := hxx
      obtain ⟨k, hk, hks⟩ := hdst i hi
      have : k = x := Option.some.inj (hk.symm.trans hd)
      subst this
      rw [fillT_near _ _ _ i k (q i) hnd hall (by rw [List.getElem?_map, List.getElem?_range hi]; simp [hd]) (by rw [List.getElem?_map, List.getElem?_range hi]; rfl) hks]
      exact (hq i hi k hd).1
    · rw [fillT_far _ _ _ x (fun h => by
        obtain ⟨i, hi, hd⟩ := List.mem_map.1 h
        exact hxx ⟨i, List.mem_range.1 hi, hd⟩)]
      exact J.far x fun i hi hd => hxx ⟨i, hi, hd⟩
  · obtain ⟨k, hk, _⟩ := hdst i hi
    rw [hget i hi]
    exact (hq i hi k hk).2 hl
  · obtain ⟨k, hk, _⟩ := hdst i hi
    obtain ⟨l, hl, _⟩ := hdst j hj
    rw [hget i hi] at hp
    rw [hget j hj] at hr
    exact J.apart i j hi hj hne hl1 hl2 hni hnj k l p r hk hl (by rw [(hq i hi k hk).1, hp]) (by rw [(hq j hj l hl).1, hr])
end
end Go.Proofs.Ytlogdbbaefpapaa
