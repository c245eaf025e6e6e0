/-
  A region that draws its order, in which a call may give up (as XOrd; namespace Gv). No program is named.
-/
import Derived.Test.YtlogdbbaefpapaaOrd
namespace Go.Proofs.Ytlogdbbaefpapaa.Gv

/-- In every world of the class the operation yields what is said of its slot. -/
def freesUpon (P : Program) (G : List PanicEntry → Prop) (C : World → Prop) {T : World → World → Prop} (S : Slot T) (w : World) : Result Next → Prop
  | .ok (.value v) w' => C w' ∧ T w w' ∧ S.p v w' ∧ (S.new = true → ∃ p, v = .pointer (some ⟨p, 0, none⟩) ∧ w.heap.size ≤ p ∧ p < w'.heap.size)
  | .ok (.enter f args) w' => S.new = false ∧ Calls P f args w' fun e w'' => (∃ v, e = .returned v ∧ C w'' ∧ T w w'' ∧ S.p v w'') ∨ ∃ c, e = .panicked c ∧ C w'' ∧ G c
  | _ => False
def frees (P : Program) (G : List PanicEntry → Prop) (o : Oper) (a : Act) (C : World → Prop) {T : World → World → Prop} (S : Slot T) (w : World) : Prop := freesUpon P G C S w ((execOp a.eval o).run P w)

section
variable {P : Program} {G : List PanicEntry → Prop} {ops : Array Oper} {md : Region.Mode} {C : World → Prop} {T : World → World → Prop} {L : List (Slot T)} {n m : Nat} {base : Act}

/-- What is asked of one operation. -/
def ordOb (P : Program) (G : List PanicEntry → Prop) (md : Region.Mode) (ops : Array Oper) (C : World → Prop) (T : World → World → Prop) (L : List (Slot T)) (n : Nat) (base : Act) (i : Nat) : Prop :=
  ∀ o, ops[i]? = some o → ∀ (a : Act) (w : World), C w → (∀ k, (∀ j, j < n → dstOf ops j ≠ some k) → a.tmps[k]? = base.tmps[k]?) →
    (∀ d, Region.waitsFor md ops i d = true → ∀ k, dstOf ops d = some k → ∃ v, a.tmps[k]? = some v ∧ (slotAt L d).p v w) →
    if Region.wanted o (yielded ops a.tmps) then frees P G o a C (slotAt L i) w else T w w ∧ (slotAt L i).p undef w ∧ (slotAt L i).new = false

/-- The step. -/
theorem step {Q : Exit → Act → World → Prop} {listed : Array Bool} {a : Act} {w : World} (hT : ∀ w w', T w w' → w.heap.size ≤ w'.heap.size) (hG : ∀ c a w', a.defers = base.defers → C w' → G c → Q (.panic c) a w') (hB : ordB md ops n base.tmps.size = true) (hob : ∀ i, i < n → ordOb P G md ops C T L n base i)
    (J : OrdInv md ops C T L n base listed a w) {i : Nat} (hi : i < n) (hr : i ∈ Region.ready md ops listed) {K : Act → World → Prop} (hK : ∀ a' w', OrdInv md ops C T L n base (listed.setIfInBounds i true) a' w' → K a' w') :
    wpOp P ops Q i K a w := by
  obtain ⟨o, k, ho, hk, hks, hdis, _, hback⟩ := ordB_at hB hi
  obtain ⟨hun, o', ho', hall⟩ := mem_ready.1 hr
  have : o' = o := Option.some.inj (ho'.symm.trans ho)
  subst this
  have hil : i < listed.size := by
    rw [J.head.size]
    exact (Array.getElem?_eq_some_iff.1 ho).1
  have hdi : dstOf ops i = some k := by unfold dstOf; rw [ho]; exact hk
  have next : ∀ v w', C w' → T w w' → (slotAt L i).p v w' → ((slotAt L i).new = true → ∃ p, v = .pointer (some ⟨p, 0, none⟩) ∧ w.heap.size ≤ p ∧ p < w'.heap.size) → OrdInv md ops C T L n base (listed.setIfInBounds i true) (a.put o'.dst v) w' := by
    intro v w' hC hTw hS hnew
    rw [hk]
    have self : (a.tmps.setIfInBounds k v)[k]? = some v := by rw [Array.getElem?_setIfInBounds_self_of_lt (by rw [J.size]; exact hks)]
    have other : ∀ x, k ≠ x → (a.tmps.setIfInBounds k v)[x]? = a.tmps[x]? := fun x hne => Array.getElem?_setIfInBounds_ne hne
    have kne : ∀ j, j < n → j ≠ i → ∀ x, dstOf ops j = some x → k ≠ x := fun j hj hji x hx e => hdis j hj hji (by rw [hx, e])
    have lst : ∀ j, j ≠ i → (listed.setIfInBounds i true).getD j false = true → listed.getD j false = true := fun j hji hl => by
      rwa [getD_set_ne false (Ne.symm hji)] at hl
    refine ⟨hC, J.head.set hr hi, J.defers, ?_, fun x hx => ?_, fun j hj hl x hx => ?_, fun j hj hl hnw x hx => ?_, fun i1 j1 hi1 hj1 hne hl1 hl2 hn1 hn2 k1 l1 p q hk1 hl1' hp hq => ?_⟩
    · show (a.tmps.setIfInBounds k v).size = _
      rw [Array.size_setIfInBounds]
      exact J.size
    · show (a.tmps.setIfInBounds k v)[x]? = _
      rw [other x (fun e => hx i hi (by rw [hdi, e]))]
      exact J.far x hx
    · show ∃ v', (a.tmps.setIfInBounds k v)[x]? = some v' ∧ _
      by_cases hji : j = i
      · subst hji
        have : k = x := Option.some.inj (hdi.symm.trans hx)
        subst this
        exact ⟨v, self, hS⟩
      · rw [other x (kne j hj hji x hx)]
        obtain ⟨v', h1, h2⟩ := J.near j hj (lst j hji hl) x hx
        exact ⟨v', h1, (slotAt L j).st _ _ _ h2 hTw⟩
    · show ∃ p, (a.tmps.setIfInBounds k v)[x]? = _ ∧ _
      by_cases hji : j = i
      · subst hji
        have : k = x := Option.some.inj (hdi.symm.trans hx)
        subst this
        obtain ⟨p, rfl, _, h3⟩ := hnew hnw
        exact ⟨p, self, h3⟩
      · rw [other x (kne j hj hji x hx)]
        obtain ⟨p, h1, h2⟩ := J.old j hj (lst j hji hl) hnw x hx
        exact ⟨p, h1, Nat.lt_of_lt_of_le h2 (hT _ _ hTw)⟩
    · replace hp : (a.tmps.setIfInBounds k v)[k1]? = _ := hp
      replace hq : (a.tmps.setIfInBounds k v)[l1]? = _ := hq
      by_cases h1 : i1 = i
      · have h2 : j1 ≠ i := fun e => hne (h1.trans e.symm)
        subst h1
        have : k = k1 := Option.some.inj (hdi.symm.trans hk1)
        subst this
        rw [self] at hp
        rw [other l1 (kne j1 hj1 h2 l1 hl1')] at hq
        obtain ⟨p', e1, e2, _⟩ := hnew hn1
        obtain ⟨q', e3, e4⟩ := J.old j1 hj1 (lst j1 h2 hl2) hn2 l1 hl1'
        rw [e1] at hp
        rw [e3] at hq
        cases hp
        cases hq
        omega
      · by_cases h2 : j1 = i
        · subst h2
          have : k = l1 := Option.some.inj (hdi.symm.trans hl1')
          subst this
          rw [self] at hq
          rw [other k1 (kne i1 hi1 h1 k1 hk1)] at hp
          obtain ⟨q', e1, e2, _⟩ := hnew hn2
          obtain ⟨p', e3, e4⟩ := J.old i1 hi1 (lst i1 h1 hl1) hn1 k1 hk1
          rw [e1] at hq
          rw [e3] at hp
          cases hp
          cases hq
          omega
        · rw [other k1 (kne i1 hi1 h1 k1 hk1)] at hp
          rw [other l1 (kne j1 hj1 h2 l1 hl1')] at hq
          exact J.apart i1 j1 hi1 hj1 hne (lst i1 h1 hl1) (lst j1 h2 hl2) hn1 hn2 k1 l1 p q hk1 hl1' hp hq
  have h := hob i hi o' ho a w J.cls J.far (fun d hd x hx => by
    obtain ⟨o2, ho2, e, he, hb, hon⟩ := Region.waitsFor_spec hd
    have : o2 = o' := Option.some.inj (ho2.symm.trans ho)
    subst this
    have hl := hall e he hb
    rw [hon] at hl
    have hdn : d < n := by have := hback e he hb; omega
    exact J.near d hdn hl x hx)
  unfold wpOp
  rw [ho]
  simp only
  split
  · next hw =>
    rw [if_pos hw] at h
    refine Or.inl ?_
    unfold frees at h
    unfold Oper.wp
    generalize (execOp a.eval o').run P w = r at *
    cases r with
    | halt x w' => exact absurd h (by simp [freesUpon])
    | ok nx w' =>
      cases nx <;> simp only [freesUpon] at h <;> simp only [Oper.upon]
      case value v => exact hK _ _ (next v w' h.1 h.2.1 h.2.2.1 h.2.2.2)
      case enter f args =>
        refine h.2.mono fun e w'' hh => ?_
        rcases hh with ⟨v, he, h1, h2, h3⟩ | ⟨c, he, h1, h2⟩
        · subst he
          exact hK _ _ (next v w'' h1 h2 h3 (fun hn => by rw [h.1] at hn; cases hn))
        · subst he
          exact hG _ _ _ J.defers h1 h2
  · next hw =>
    rw [if_neg hw] at h
    exact hK _ _ (next undef w J.cls h.1 h.2.1 (fun hn => by rw [h.2.2] at hn; cases hn))

theorem ord_any {Q : Exit → Act → World → Prop} (hT : ∀ w w', T w w' → w.heap.size ≤ w'.heap.size) (hG : ∀ c a w', a.defers = base.defers → C w' → G c → Q (.panic c) a w') (hB : ordB md ops n base.tmps.size = true) (hs : Region.sinkB md ops n = true) (hc : Region.chainB md ops n = true) (hnm : ops.size = n + m) (hm : 0 < m)
    (hob : ∀ i, i < n → ordOb P G md ops C T L n base i)
    (done : ∀ a w, OrdInv md ops C T L n base (Array.replicate n true ++ Array.replicate m false) a w → wpAny P md ops Q m (Array.replicate n true ++ Array.replicate m false) a w) :
    ∀ (f : Nat) (listed : Array Bool) (a : Act) (w : World), OrdInv md ops C T L n base listed a w → (List.range n).countP (fun i => !listed.getD i true) = f → wpAny P md ops Q (f + m) listed a w := by
  intro f
  induction f with
  | zero =>
    intro listed a w J hcnt
    have hall : ∀ i, i < n → listed.getD i true = true := fun i hi => by
      have := List.countP_eq_zero.1 hcnt i (List.mem_range.2 hi)
      simpa using this
    have he : listed = Array.replicate n true ++ Array.replicate m false := by
      apply Array.ext
      · rw [J.head.size, hnm]; simp
      · intro i h1 h2
        rw [Array.getElem_append]
        split
        · next h =>
          have hi : i < n := by simpa using h
          have := hall i hi
          simp [h1] at this
          simp [this]
        · next h =>
          have hi : n ≤ i := by simpa using h
          have := J.head.tail i hi (by rw [← J.head.size]; exact h1)
          simp [h1] at this
          simp [this]
    subst he
    rw [Nat.zero_add]
    exact done a w J
  | succ f ih =>
    intro listed a w J hcnt
    -- the least one that has not come up is ready
    have hex : ∃ i, i < n ∧ listed.getD i true = false := by
      by_cases h : ∃ i, i < n ∧ listed.getD i true = false
      · exact h
      · exfalso
        have : (List.range n).countP (fun i => !listed.getD i true) = 0 := List.countP_eq_zero.2 fun i hi => by
          have hi := List.mem_range.1 hi
          cases hl : listed.getD i true with
          | true => simp
          | false => exact absurd ⟨i, hi, hl⟩ h
        omega
    have hn : n < ops.size := by omega
    obtain ⟨i0, hi0, hu0⟩ := hex
    have hsmall : ∀ t ∈ Region.ready md ops listed, t < n := fun t ht => by
      rcases Nat.lt_or_ge t n with h | h
      · exact h
      · exact absurd ht (tail_waits hs hc hn J.head _ i0 rfl hi0 hu0 t h)
    have hready : Region.ready md ops listed ≠ [] := by
      have key : ∀ i, i < n → listed.getD i true = false → ∃ j, j ∈ Region.ready md ops listed := by
        intro i
        induction i using Nat.strongRecOn with
        | _ i ihi =>
          intro hi hu
          obtain ⟨o, k, ho, _, _, _, _, hback⟩ := ordB_at hB hi
          by_cases hd : ∀ e ∈ o.after, Region.binds md e = true → listed.getD e.on false = true
          · exact ⟨i, mem_ready.2 ⟨hu, o, ho, hd⟩⟩
          · obtain ⟨e, he⟩ : ∃ e, ¬ (e ∈ o.after → Region.binds md e = true → listed.getD e.on false = true) := by
              by_cases h : ∃ e, ¬ (e ∈ o.after → Region.binds md e = true → listed.getD e.on false = true)
              · exact h
              · exact absurd (fun e he hb => by
                  by_cases h2 : listed.getD e.on false = true
                  · exact h2
                  · exact absurd ⟨e, fun h3 => h2 (h3 he hb)⟩ h) hd
            have he1 : e ∈ o.after := by
              by_cases h : e ∈ o.after
              · exact h
              · exact absurd (fun h' => absurd h' h) he
            have he2 : Region.binds md e = true := by
              by_cases h : Region.binds md e = true
              · exact h
              · exact absurd (fun _ h' => absurd h' h) he
            have he3 : listed.getD e.on false = false := by
              cases h : listed.getD e.on false with
              | false => rfl
              | true => exact absurd (fun _ _ => h) he
            have hlt := hback e he1 he2
            exact ihi e.on hlt (by omega) (getD_in (by rw [J.head.size]; omega) he3)
      obtain ⟨j, hj⟩ := key i0 hi0 hu0
      intro h
      rw [h] at hj
      cases hj
    rw [show f + 1 + m = (f + m) + 1 from by omega]
    refine ⟨fun h => absurd h hready, fun i hi => ?_⟩
    refine step hT hG hB hob J (hsmall i hi) hi fun a' w' J' => ih _ a' w' J' ?_
    have hun := (mem_ready.1 hi).1
    have hsz : i < listed.size := by rw [J.head.size]; have := hsmall i hi; omega
    have := countP_set (l := List.range n) (p := fun i => !listed.getD i true) (q := fun j => !(listed.setIfInBounds i true).getD j true) (i := i) List.nodup_range (List.mem_range.2 (hsmall i hi)) (by simp only [hun]; rfl) (by simp only [getD_set_self hsz]; rfl) (fun j hj => by simp only [getD_set_ne true (Ne.symm hj)])
    omega

/-- A region whose heads may come up in any order they are free to. -/
theorem wp_region_ord {id : Nat} {Q : Exit → Act → World → Prop} {w : World} {l : List Oper} (C : World → Prop) (T : World → World → Prop) (L : List (Slot T)) (n m : Nat) (hm : P.follows .mixedOrders = true) (hT : ∀ w w', T w w' → w.heap.size ≤ w'.heap.size) (hG : ∀ c a w', a.defers = base.defers → C w' → G c → Q (.panic c) a w') (hB : ordB .any l.toArray n base.tmps.size = true)
    (hs : Region.sinkB .any l.toArray n = true) (hc : Region.chainB .any l.toArray n = true) (hnm : l.toArray.size = n + m) (hm0 : 0 < m) (hC : C w.drew)
    (hob : ∀ i, i < n → ordOb P G .any l.toArray C T L n base i)
    (done : ∀ a w, OrdInv .any l.toArray C T L n base (Array.replicate n true ++ Array.replicate m false) a w → wpAny P .any l.toArray Q m (Array.replicate n true ++ Array.replicate m false) a w) :
    (Code.region id l.toArray true).wp P Q base w := by
  refine wp_region_any hm ?_
  have h0 : (List.range n).countP (fun i => !(Array.replicate l.toArray.size false).getD i true) = n := by
    have : (List.range n).countP (fun i => !(Array.replicate l.toArray.size false).getD i true) = (List.range n).length := by
      rw [List.countP_eq_length]
      intro i hi
      have hi := List.mem_range.1 hi
      have hi2 : i < l.toArray.size := by omega
      have hi3 : i < l.length := by simpa using hi2
      simp [hi3]
    rw [this, List.length_range]
  have J : OrdInv .any l.toArray C T L n base (Array.replicate l.toArray.size false) base w.drew := by
    refine ⟨hC, ⟨by simp, fun j oj _ hl => ?_, fun t ht htl => ?_⟩, rfl, rfl, fun k _ => rfl, fun i hi hl => ?_, fun i hi hl => ?_, fun i j _ _ _ hl => ?_⟩
    · rw [getD_replicate_false] at hl; cases hl
    · have ht3 : t < l.length := by simpa using htl
      simp [ht3]
    · rw [getD_replicate_false] at hl; cases hl
    · rw [getD_replicate_false] at hl; cases hl
    · rw [getD_replicate_false] at hl; cases hl
  have h := ord_any (Q := Q) hT hG hB hs hc hnm hm0 hob done n _ base w.drew J h0
  rw [← hnm] at h
  exact h

theorem ordOb_at {i : Nat} {o : Oper} (ho : ops[i]? = some o) (hg : o.guard = none)
    (h : ∀ (a : Act) (w : World), C w → (∀ k x, ((List.range n).all fun j => dstOf ops j != some k) = true → base.tmps[k]? = some x → a.tmps[k]? = some x) →
      (∀ d k, Region.waitsFor md ops i d = true → dstOf ops d = some k → ∃ v, a.tmps[k]? = some v ∧ (slotAt L d).p v w) → frees P G o a C (slotAt L i) w) : ordOb P G md ops C T L n base i := by
  intro o' ho' a w hC hF hD
  have : o' = o := Option.some.inj (ho'.symm.trans ho)
  subst this
  have hw : Region.wanted o' (yielded ops a.tmps) = true := by unfold Region.wanted; rw [hg]
  rw [if_pos hw]
  refine h a w hC (fun k x hk hx => ?_) (fun d k hd hk => hD d hd k hk)
  rw [hF k fun j hj => ?_]
  · exact hx
  · have := List.all_eq_true.1 hk j (List.mem_range.2 hj)
    simpa using this


end
end Go.Proofs.Ytlogdbbaefpapaa.Gv
