/-
  OpLatest, first part: the version whose time is the greatest is the one that counts. No program is named.
-/
import Derived.Test.YthacdegaeokgnaaDoorM7
namespace Go.Proofs.YthacdegaeokgnaaDoor
open Go.RowKit

theorem later_lt {s t : S6} (h : t.tm < s.tm) : laterS s t = true := by
  have ha : apartS s t := fun e => by have := e.1; omega
  rw [laterS_apart ha, greatZ_iff]
  exact Or.inl h
theorem later_ge {s t : S6} (h : s.tm < t.tm) : laterS s t = false := by
  have ha : apartS s t := fun e => by have := e.1; omega
  rw [laterS_apart ha, ← Bool.not_eq_true, greatZ_iff]
  omega
theorem best_keep {s : S6} : ∀ (l : List S6), (∀ u ∈ l, u.tm < s.tm) → bestS (some s) l = some s
  | [], _ => rfl
  | u :: l, h => by
    unfold bestS
    rw [later_ge (h u List.mem_cons_self), if_neg (by decide)]
    exact best_keep l fun v hv => h v (List.mem_cons_of_mem _ hv)
theorem best_from {s : S6} : ∀ (l : List S6) (t : S6), t.tm < s.tm → (∀ u ∈ l, u.tm < s.tm) → bestS (some t) (l ++ [s]) = some s
  | [], t, ht, _ => by
    rw [List.nil_append]
    unfold bestS
    rw [later_lt ht, if_pos rfl]
    rfl
  | u :: l, t, ht, h => by
    rw [List.cons_append]
    unfold bestS
    by_cases e : laterS u t = true
    · rw [if_pos e]
      exact best_from l u (h u List.mem_cons_self) fun v hv => h v (List.mem_cons_of_mem _ hv)
    · rw [if_neg e]
      exact best_from l t ht fun v hv => h v (List.mem_cons_of_mem _ hv)
theorem best_last {s : S6} (l : List S6) (h : ∀ u ∈ l, u.tm < s.tm) : bestS none (l ++ [s]) = some s := by
  cases l with
  | nil => rfl
  | cons u l =>
    rw [List.cons_append]
    unfold bestS
    exact best_from l u (h u List.mem_cons_self) fun v hv => h v (List.mem_cons_of_mem _ hv)
theorem value_last {key : List UInt8} {l : List S6} {s : S6} (hk : key.headD 0 = 114 ∨ key.headD 0 = 116) (hf : fitsA key s.a = true) (h : ∀ u ∈ l, u.tm < s.tm) : valueA key (l ++ [s]) = doneA V6.zero s.a := by
  unfold valueA
  rw [if_pos hk, List.filter_append, List.filter_cons_of_pos (by simpa using hf), List.filter_nil, best_last _ fun u hu => h u (List.mem_filter.1 hu).1]
theorem value_first {key : List UInt8} {l : List S6} {s : S6} (hk : key.headD 0 = 114 ∨ key.headD 0 = 116) (hf : fitsA key s.a = true) (h : ∀ u ∈ l, u.tm < s.tm) : valueA key (s :: l) = doneA V6.zero s.a := by
  unfold valueA
  rw [if_pos hk, List.filter_cons_of_pos (by simpa using hf)]
  show (match bestS (some s) (l.filter _) with | none => V6.zero | some s => doneA V6.zero s.a) = _
  rw [best_keep _ fun u hu => h u (List.mem_filter.1 hu).1]

/-- All times of a vector lie between 0 and m. -/
def AllIn (xs : List Int) (m : Int) : Prop := ∀ x ∈ xs, 0 ≤ x ∧ x ≤ m
theorem AllIn.mono {xs : List Int} {m p : Int} (h : AllIn xs m) (hm : m ≤ p) : AllIn xs p := fun x hx => ⟨(h x hx).1, Int.le_trans (h x hx).2 hm⟩
theorem AllIn.take_next {xs : List Int} {q : Nat} {m p : Int} (h : AllIn (xs.take q) m) (hq : q < xs.length) (hp : m ≤ p) (h0 : 0 ≤ xs.getD q 0) (h1 : xs.getD q 0 ≤ p) : AllIn (xs.take (q + 1)) p := by
  intro x hx
  rw [List.take_add_one, List.mem_append] at hx
  rcases hx with hx | hx
  · exact h.mono hp x hx
  · rw [List.getElem?_eq_getElem hq] at hx
    simp only [Option.toList_some, List.mem_singleton] at hx
    subst hx
    rw [List.getD_eq_getElem?_getD, List.getElem?_eq_getElem hq] at h0 h1
    exact ⟨h0, h1⟩
theorem most_le {m : Int} (h0 : 0 ≤ m) : ∀ (xs : List Int), AllIn xs m → mostZ xs ≤ m
  | [], _ => h0
  | y :: l, h => by
    have key : ∀ (l : List Int) (a : Int), a ≤ m → (∀ x ∈ l, x ≤ m) → l.foldl (fun a x => if a < x then x else a) a ≤ m := by
      intro l
      induction l with
      | nil => intro a ha _; exact ha
      | cons z l ih =>
        intro a ha hl
        rw [List.foldl_cons]
        refine ih _ ?_ fun x hx => hl x (List.mem_cons_of_mem _ hx)
        split
        · exact hl z List.mem_cons_self
        · exact ha
    exact key l y (h y List.mem_cons_self).2 fun x hx => (h x (List.mem_cons_of_mem _ hx)).2
theorem time_le {m : Int} (h0 : 0 ≤ m) {xs : List Int} (h : AllIn xs m) (o : Int) : timeZ xs o ≤ m := by
  unfold timeZ
  split
  · exact most_le h0 xs h
  · split
    · next hh =>
      have hl : o.toNat < xs.length := by omega
      rw [List.getD_eq_getElem?_getD, List.getElem?_eq_getElem hl]
      exact (h _ (List.getElem_mem hl)).2
    · exact h0
/-- So of the first k versions. -/
def SoFar (vs : List VerR) (k : Nat) (m : Int) : Prop := ∀ j, j < k → AllIn (vs.getD j VerR.zero).xs m
theorem SoFar.mono {vs : List VerR} {k : Nat} {m p : Int} (h : SoFar vs k m) (hm : m ≤ p) : SoFar vs k p := fun j hj => (h j hj).mono hm
theorem SoFar.next {vs : List VerR} {k : Nat} {m : Int} (h : SoFar vs k m) (hk : AllIn (vs.getD k VerR.zero).xs m) : SoFar vs (k + 1) m := fun j hj => by
  by_cases e : j = k
  · subst e; exact hk
  · exact h j (by omega)
theorem SoFar.all {vs : List VerR} {m : Int} (h0 : 0 ≤ m) (h : SoFar vs vs.length m) {t : Int} (ht : m < t) : ∀ u ∈ vs.map s6, u.tm < t := by
  intro u hu
  obtain ⟨r, hr, rfl⟩ := List.mem_map.1 hu
  obtain ⟨j, hj, rfl⟩ := List.getElem_of_mem hr
  have := h j hj
  rw [List.getD_eq_getElem?_getD, List.getElem?_eq_getElem hj] at this
  have h2 : timeZ vs[j].xs vs[j].o ≤ m := time_le h0 this _
  show timeZ vs[j].xs vs[j].o < t
  omega

/-- The version that is the latest: it lies in a block of one time. -/
def verL (key : ByteArray) (p : Nat) (t kd : Int) (nu : Nat) (tx : ByteArray) : VerR := ⟨key, some ⟨p, 0, none⟩, 1, 1, 0, 0, kd, nu, 0, tx, [t]⟩
theorem one_in {p : Nat} {t : Int} {e : TypeId} {W : World} (B : Blk W p e #[.int .i64 t]) (ht : (Lit.int .i64 t).wf = true) : IntsIn W (some ⟨p, 0, none⟩) 1 [t] :=
  ⟨rfl, by decide, fun _ => ⟨p, 0, rfl, B.lt, fun j hj => by
    obtain rfl : j = 0 := by omega
    exact (B.cell 0).trans rfl⟩, fun z hz => by
    rw [List.mem_singleton] at hz
    subst hz
    exact ht⟩
theorem verL_in {key : ByteArray} {p : Nat} {t kd : Int} {nu : Nat} {tx : ByteArray} {e : TypeId} {W : World} (B : Blk W p e #[.int .i64 t]) (hks : key.size ≤ 9223372036854775807) (ht : (Lit.int .i64 t).wf = true) (hk : (Lit.int .i64 kd).wf = true) (hn : (Lit.float .f64 nu).wf = true) (hx : tx.size ≤ 9223372036854775807) : (verL key p t kd nu tx).in_ W :=
  ⟨one_in B ht, hks, (by decide : (Lit.int .i64 0).wf = true), (by decide : (Lit.int .i64 0).wf = true), hk, hn, (by decide : (Lit.int .i64 0).wf = true), hx⟩
theorem s6_verL (key : ByteArray) (p : Nat) (t kd : Int) (nu : Nat) (tx : ByteArray) : s6 (verL key p t kd nu tx) = ⟨a6 kd nu 0 tx, t, 0, 0, [t]⟩ := rfl
end Go.Proofs.YthacdegaeokgnaaDoor
