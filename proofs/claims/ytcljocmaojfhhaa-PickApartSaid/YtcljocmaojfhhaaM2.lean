/-
  Several texts in one: The book of lists, of any kind: rows of lists; an element stored. No program is named.
  The landed package pick, part 2: which files have keys of a range: slices.IndexFunc, slices.DeleteFunc, Overlap.
  The landed package pick, part 3: slices.DeleteFunc of what has no key of a range.
  The landed package pick, part 4: Overlap.
  The order of float64 numbers as words, by sign and rung (no program is named).
  The order of float64 numbers as ranks, and the bits that tell it (no program is named).
  Walks over package real, part 1: nan, sign, rank, the order.
  A walk over the document's own answer to chapter 2: isNan.
  Walks over package raw: Quote.
  Walks over package raw: what stands in quotes is read.
  Walks over package raw: Get, Number.
  Walks over package real, part 2: Put, Get.
  Walks over package real, part 4: the parts of a number, its text.
  Rounding to float64: it never turns the order round, and leaves what fits as it is (no program is named).
  Products and whole parts of float64 numbers (no program is named).
  float64(n) of an int; how far a clock goes (no program is named).
  Walks over package raw: Number, with its deferred closure.
  A number's digits are read as the number, if it is small enough (plain lists).
  Walks over package real, part 5: split, the text of a number.
  Quotients of ints as float64 numbers (no program is named).
  Walks over package real, part 9: Ratio.
  Walks over the document's own answer to chapter 1: Get, PutVar, Put.
  Walks over the document's own answer to chapter 2: key, Compare, Same, Max, Min, Put, Ratio.
  Quotients and products of any float64 numbers, up to which NaN it is: what a walk asks of them.
  The book of lists, Reals: marks, copies, are two alike? (Written by wip/gen/gen_bk.py.)
  The landed package pick, part 5: Scores, the fullest level.
-/
import Derived.Test.YtcljocmaojfhhaaM1
import Derived.Lib.SliceRun
import Ieee.Arith
import Derived.Laws.FloatArith
import Derived.Test.YtcljocmaojfhhaaRows
import Derived.WalkKit
import Derived.WalkSpells
import Derived.WalkLawsBesides
import Derived.Laws.Externs
import Derived.Lib.Hide
import Derived.Deep.RegionLaw
import Derived.Lib.Strings
import Derived.Lib.LaidTab
import Derived.Lib.ItoaNum
import Derived.Lib.TrailingZeros
import Derived.Lib.BitFns
import Derived.Laws.Bits64b
import Derived.Defers
import Derived.Recover
import Derived.Laws.Concat
import Derived.Deep.QuietTactic
import Derived.LoopTactic
import Derived.DeepKeys
namespace Go.Proofs.Ytcljocmaojfhhaa
open Go.RowKit

/-- One of a row of lists. -/
theorem srow_at {w : World} {B m : Nat} {te : TypeId} {v : Value} {a : Nat → Value} (h : w.ownsRow B te 1 v m ((List.range m).map a)) {k : Nat} (hk : k < m) : ∃ g c, v = .slice (some ⟨g, 0, none⟩) m c ∧ B ≤ g ∧ g < w.heap.size ∧ w.cell? ⟨g, k, none⟩ = some (a k) := by
  rcases h.2 with ⟨_, h0⟩ | ⟨g, cap, cur, hv, hb, hh, _⟩
  · omega
  · subst hv
    refine ⟨g, cap, rfl, hb, (Array.getElem?_eq_some_iff.1 hh).1, ?_⟩
    have := World.ownsRow.cells h (g := g) rfl k (a k) (by rw [List.getElem?_map, List.getElem?_range hk]; rfl)
    rwa [Addr.add_lit, Nat.zero_add] at this
theorem srow_slice {w : World} {B m : Nat} {te : TypeId} {v : Value} {xs : List Value} (h : w.ownsRow B te 1 v m xs) : ∃ A c, v = .slice A m c := by
  rcases h.2 with ⟨rfl, h0⟩ | ⟨g, cap, cur, rfl, _⟩
  · exact ⟨none, 0, by rw [h0]⟩
  · exact ⟨_, _, rfl⟩

/-! ### Cells set one behind the other -/
def setAll : List Value → Nat → List Value → List Value
  | xs, _, [] => xs
  | xs, i, u :: us => setAll (xs.set i u) (i + 1) us
theorem setAll_split (us : List Value) : ∀ (pre mid post : List Value), mid.length = us.length → setAll (pre ++ mid ++ post) pre.length us = pre ++ us ++ post := by
  induction us with
  | nil => intro pre mid post h; have : mid = [] := List.eq_nil_of_length_eq_zero h; subst this; rfl
  | cons u us ih =>
    intro pre mid post h
    cases mid with
    | nil => simp at h
    | cons x mid =>
      have h1 := ih (pre ++ [u]) mid post (by simpa using h)
      have e : (pre ++ (x :: mid) ++ post).set pre.length u = pre ++ [u] ++ mid ++ post := by
        simp
      show setAll ((pre ++ (x :: mid) ++ post).set pre.length u) (pre.length + 1) us = _
      rw [e, show pre.length + 1 = (pre ++ [u]).length by simp, h1]
      simp
theorem El.row_set {α : Type} (E : El α) (L : List α) (j : Nat) (x : α) (hj : j < L.length) : E.row (L.set j x) = setAll (E.row L) (j * E.sz) (E.cl x) := by
  have h1 : L = L.take j ++ [L[j]] ++ L.drop (j + 1) := by
    have := List.take_append_drop j L
    rw [List.drop_eq_getElem_cons hj] at this
    rw [List.append_assoc]
    exact this.symm
  have h2 : L.set j x = L.take j ++ [x] ++ L.drop (j + 1) := by
    rw [List.set_eq_take_append_cons_drop, if_pos hj]
    simp
  have hl : (E.row (L.take j)).length = j * E.sz := by rw [E.row_length, List.length_take, Nat.min_eq_left (by omega)]
  have h3 := setAll_split (E.cl x) (E.row (L.take j)) (E.cl L[j]) (E.row (L.drop (j + 1))) (by rw [E.len, E.len])
  rw [hl] at h3
  rw [h2, E.row_append, E.row_append, E.row_one, ← h3]
  congr 1
  conv => rhs; rw [h1]
  rw [E.row_append, E.row_append, E.row_one]
def setCells : World → Nat → Nat → List Value → World
  | w, _, _, [] => w
  | w, g, i, u :: us => setCells (w.setCell ⟨g, i, none⟩ u) g (i + 1) us
theorem setCells_own {B : Nat} {e : TypeId} {sz g n c : Nat} (us : List Value) : ∀ (w : World) (i : Nat) (xs : List Value), w.ownsRow B e sz (.slice (some ⟨g, 0, none⟩) n c) n xs →
    (setCells w g i us).ownsRow B e sz (.slice (some ⟨g, 0, none⟩) n c) n (setAll xs i us) := by
  induction us with
  | nil => intro w i xs h; exact h
  | cons u us ih => intro w i xs h; exact ih _ _ _ (World.ownsRow.stored h i u).1
theorem setCells_grown {g : Nat} (us : List Value) : ∀ (w : World) (i : Nat), w.grownBy (setCells w g i us) (some g) := by
  induction us with
  | nil => intro w i; exact grefl w _
  | cons u us ih =>
    intro w i
    have h1 : w.grownBy (w.setCell ⟨g, i, none⟩ u) (some g) := only_setCell (grefl w _) (Or.inl rfl) u
    have h2 := ih (w.setCell ⟨g, i, none⟩ u) (i + 1)
    exact ⟨h2.os.trans h1.os, h2.tape.trans h1.tape, h2.output.trans h1.output, Nat.le_trans h1.size h2.size, fun k hk hne => (h2.block k (Nat.lt_of_lt_of_le hk h1.size) hne).trans (h1.block k hk hne)⟩

/-- One element stored into one of the rows. -/
theorem put_k {α : Type} {E : El α} {w : World} {B m k g n c j : Nat} {e : TypeId} {a : Nat → Value} {G : Nat → List α} {x : α} (hR : Rwk E w B e m a G) (hk : k < m) (hg : a k = .slice (some ⟨g, 0, none⟩) n c) (hj : j < (G k).length) :
    Rwk E (setCells w g (j * E.sz) (E.cl x)) B e m a (upk G k ((G k).set j x)) ∧ Tn B (cellsT e) w (setCells w g (j * E.sz) (E.cl x)) ∧
      (∀ v S M, Own E w S e v M → v.ownBlock ≠ some g → Own E (setCells w g (j * E.sz) (E.cl x)) S e v M) := by
  have hr := hR.each k hk
  have gr := setCells_grown (g := g) (E.cl x) w (j * E.sz)
  rw [hg] at hr
  obtain ⟨hnl, _, _⟩ := own_reads hr
  subst hnl
  have hst := setCells_own (g := g) (E.cl x) w (j * E.sz) _ hr
  rw [← E.row_set _ _ _ hj] at hst
  have other : ∀ v S M, Own E w S e v M → v.ownBlock ≠ some g → Own E (setCells w g (j * E.sz) (E.cl x)) S e v M := fun v S M h hne => World.ownsRow.kept h gr (Or.inr hne)
  refine ⟨⟨fun i hi => ?_, hR.apart⟩, (Tn.refl B _ w).grow hr gr, other⟩
  by_cases hik : i = k
  · subst hik
    rw [upk_at, hg]
    unfold Own
    rw [List.length_set]
    exact hst
  · rw [upk_ne _ _ hik]
    exact other _ _ _ (hR.each i hi) (fun h => hR.apart i k hi hk hik g h (by rw [hg]; rfl))
theorem Own.frozen_ {α : Type} {E : El α} {w : World} {B g n c : Nat} {e : TypeId} {L : List α} (h : Own E w B e (.slice (some ⟨g, 0, none⟩) n c) L) (j : Nat) : w.frozen? ⟨g, j, none⟩ = false := by
  obtain ⟨hn, _, _⟩ := own_reads h
  subst hn
  exact World.ownsRow.frozenAt h j
theorem Tn.fromDrew {B : Nat} {T : Obj → Bool} {w w' : World} (h : Tn B T w w') : Tn B T w.drew w'.drew := ⟨h.os, h.tape, h.output, h.size, h.block⟩
/-- A row that is new grew. -/
theorem Tn.growNew {B S : Nat} {T : Obj → Bool} {w w' w'' : World} {e : TypeId} {sz n : Nat} {v : Value} {xs : List Value} (h : Tn B T w w') (hown : w'.ownsRow S e sz v n xs) (hS : w.heap.size ≤ S) (g : w'.grownBy w'' v.ownBlock) : Tn B T w w'' :=
  h.row g (fun k hk => Or.inl (Nat.le_trans hS (World.ownsRow.lt hown k hk).1))
theorem Famk.marked2 {α : Type} {E : El α} {w w' : World} {B m k N p : Nat} {e : TypeId} {a b : Nat → Value} {F H : Nat → List α} {l l' : Value} (h : Famk E w B e m a (upk b k l) F (upk H k (E.marks k 0 N))) (hk : k < m)
    (hown : Own E w' B e l' (E.marks k 0 N ++ E.marks k N p)) (hgr : w.grownBy w' l.ownBlock) (hold : Own E w' B e l (E.marks k 0 N)) (hblk : l'.ownBlock = l.ownBlock ∨ ∀ g, l'.ownBlock = some g → w.heap.size ≤ g) :
    Famk E w' B e m a (upk b k l') F (upk H k (E.marks k 0 (N + p))) := by
  refine Famk.marked h hk ?_ hgr ?_ hblk
  · unfold Own at hown
    rw [List.length_append, E.marks_length, E.marks_length, E.row_append] at hown
    exact hown
  · unfold Own at hold
    rw [E.marks_length] at hold
    exact hold
theorem app_srow {P : Program} (tte te : TypeId) (ht : P.underlying tte = some (.slice te)) (hinfo : (P.info? te).map (fun i => (i.zero, i.size, i.bytes)) = some (some (.slice none 0 0), 1, 24))
    (w : World) (base : Nat) (v : Value) (n : Nat) (xs : List Value) (hown : w.ownsRow base te 1 v n xs) (u : Value) (hu : u.oneCell' = true) (g c : Nat) (hc : w.cell? ⟨g, 0, none⟩ = some u) (hn : n ≤ 100000) (hbase : base ≤ w.heap.size) :
    ∃ v' w', (∀ ty, (Builtin.append_ #[tte, tte] ty #[v, .slice (some ⟨g, 0, none⟩) 1 c]).run P w = .ok v' w') ∧ w'.ownsRow base te 1 v' (n + 1) (xs ++ [u]) ∧ w.grownBy w' v.ownBlock ∧ w'.ownsRow base te 1 v n xs ∧ (v'.ownBlock = v.ownBlock ∨ ∀ g, v'.ownBlock = some g → w.heap.size ≤ g) := by
  obtain ⟨i0, hi, hz, hsize, hby⟩ := info_parts hinfo
  have hnews : ∀ j x, [u][j]? = some x → w.cell? ((⟨g, 0, none⟩ : Addr).add j) = some x := fun j x hx => by
    match j, hx with
    | 0, hx => simp at hx; subst hx; simpa [Addr.add] using hc
  have h1 : ∀ x ∈ [u], x.oneCell' = true := fun x hx => by simp at hx; subst hx; exact hu
  obtain ⟨v', w', hr, h2, h3, _⟩ := run_append_own (P := P) w base tte 0 te i0 (.slice none 0 0) 1 24 ht hi hz hsize hby rfl (by decide) v n xs hown ⟨g, 0, none⟩ 1 c [u] rfl hnews h1 (by unfold maxLen; omega) (by omega) hbase
  obtain ⟨h4, h5⟩ := append_keep w base tte 0 te i0 (.slice none 0 0) 1 24 ht hi hz hsize hby v n xs hown ⟨g, 0, none⟩ 1 c [u] rfl hnews h1 (by unfold maxLen; omega) (by omega) v' w' hr
  exact ⟨v', w', fun ty => by rw [← hr]; rfl, h2, h3, h4, h5⟩
end Go.Proofs.Ytcljocmaojfhhaa

namespace Go.Proofs.Ytcljocmaojfhhaa
open Go.RowKit

/-- Has a file no key of a range? -/
def apartP (fi la : ByteArray) (f : FileM) : Bool := decide (0 < cmpT f.fi la) || decide (cmpT f.la fi < 0)
/-- The place of the first file of which that is so; -1: none. -/
def idxP (p : FileM → Bool) : List FileM → Int
  | [] => -1
  | f :: r => if p f = true then 0 else if idxP p r < 0 then -1 else idxP p r + 1
theorem idxP_first {p : FileM → Bool} : ∀ {L : List FileM} {k : Nat} {m : FileM}, L[k]? = some m → p m = true → (∀ (i : Nat) x, i < k → L[i]? = some x → p x = false) → idxP p L = k
  | [], k, m, h, _, _ => by simp at h
  | f :: r, 0, m, h, e, _ => by
    simp at h
    subst h
    unfold idxP
    rw [if_pos e]
    rfl
  | f :: r, k + 1, m, h, e, hn => by
    have ih := idxP_first (L := r) (k := k) (by simpa using h) e (fun i x hi hx => hn (i + 1) x (by omega) (by simpa using hx))
    unfold idxP
    rw [if_neg (by rw [hn 0 f (by omega) rfl]; decide), ih, if_neg (by omega)]
    omega
theorem idxP_none {p : FileM → Bool} : ∀ {L : List FileM}, (∀ (i : Nat) x, L[i]? = some x → p x = false) → idxP p L = -1
  | [], _ => rfl
  | f :: r, hn => by
    have ih := idxP_none (L := r) (fun i x hx => hn (i + 1) x (by simpa using hx))
    unfold idxP
    rw [if_neg (by rw [hn 0 f rfl]; decide), ih, if_pos (by omega)]
theorem idxP_cases (p : FileM → Bool) : ∀ (L : List FileM), (idxP p L = -1 ∧ ∀ x ∈ L, p x = false) ∨ ∃ (k : Nat) (m : FileM), idxP p L = k ∧ L[k]? = some m ∧ p m = true ∧ ∀ x ∈ L.take k, p x = false
  | [] => Or.inl ⟨rfl, fun x h => by cases h⟩
  | f :: r => by
    unfold idxP
    cases hf : p f with
    | true => exact Or.inr ⟨0, f, if_pos rfl, rfl, hf, fun x h => by cases h⟩
    | false =>
      rw [if_neg (by decide)]
      rcases idxP_cases p r with ⟨h1, h2⟩ | ⟨k, m, h1, h2, h3, h4⟩
      · left
        rw [h1, if_pos (by omega)]
        refine ⟨rfl, fun x hx => ?_⟩
        rcases List.mem_cons.1 hx with rfl | hx
        · exact hf
        · exact h2 x hx
      · right
        refine ⟨k + 1, m, ?_, by simpa using h2, h3, fun x hx => ?_⟩
        · rw [h1, if_neg (by omega)]; omega
        · rw [List.take_succ_cons] at hx
          rcases List.mem_cons.1 hx with rfl | hx
          · exact hf
          · exact h4 x hx
set_option maxRecDepth 100000 in
set_option maxHeartbeats 2000000 in
theorem papart_any (f : FileM) (fi la : ByteArray) (b1 b2 : Nat) (w : World) (h1 : w.cell? ⟨b1, 0, none⟩ = some (.string la)) (h2 : w.cell? ⟨b2, 0, none⟩ = some (.string fi)) :
    Calls Try.prog 24 #[.agg #[.int .i64 f.lv, .int .i64 f.nu, .int .i64 f.co, .int .i64 f.sz, .string f.fi, .string f.la], .pointer (some ⟨b1, 0, none⟩), .pointer (some ⟨b2, 0, none⟩)] w fun e w' => e = .returned (.bool (apartP fi la f)) ∧ w.grownBy w' none := by
  have C1 := fun W => Lib.hid (compare_any f.fi la W)
  have C2 := fun W => Lib.hid (compare_any f.la fi W)
  have hc1 : Lib.compareBytes f.fi.data.toList la.data.toList = cmpT f.fi la := rfl
  have hc2 : Lib.compareBytes f.la.data.toList fi.data.toList = cmpT f.la fi := rfl
  rw [hc1] at C1
  rw [hc2] at C2
  unfold apartP
  generalize cmpT f.fi la = c1 at *
  generalize cmpT f.la fi = c2 at *
  obtain ⟨C, hC⟩ : ∃ C, C = Obj.cells #[.int .i64 f.lv, .int .i64 f.nu, .int .i64 f.co, .int .i64 f.sz, .string f.fi, .string f.la] 26 := ⟨_, rfl⟩
  have G := World.grownBy_alloc w C none
  have k1 := G.cell h1 (by simp)
  have k2 := G.cell h2 (by simp)
  rw [hC] at k1 k2 G
  have HG := Lib.hid G
  clear hc1 hc2 h1 h2 hC G
  by_cases e1 : 0 < c1
  · have d1 : decide (0 < c1) = true := decide_eq_true e1
    rw [d1, Bool.true_or]
    go_enter Try.func24, Try.ntmps24
    go_wp2_with fail
    refine (C1 _).out.mono ?_
    rintro e w' ⟨rfl, rfl⟩
    go_wp2_with fail
    go_ret
    exact ⟨rfl, HG.out⟩
  · have d1 : decide (0 < c1) = false := decide_eq_false e1
    rw [d1, Bool.false_or]
    go_enter Try.func24, Try.ntmps24
    go_wp2_with fail
    refine (C1 _).out.mono ?_
    rintro e w' ⟨rfl, rfl⟩
    go_wp2_with fail
    refine (C2 _).out.mono ?_
    rintro e w' ⟨rfl, rfl⟩
    go_wp2_with fail
    go_ret
    exact ⟨rfl, HG.out⟩
set_option maxRecDepth 100000 in
set_option maxHeartbeats 2000000 in
theorem pindex_any (A : Option Addr) (n c : Nat) (M : List FileM) (fi la : ByteArray) (b1 b2 : Nat) (w : World) (hI : FilesAt w A n M) (hn : n ≤ 1000000) (h1 : w.cell? ⟨b1, 0, none⟩ = some (.string la)) (h2 : w.cell? ⟨b2, 0, none⟩ = some (.string fi)) :
    Calls Try.prog 30 #[.slice A n c, .func (.func 24) #[] #[.pointer (some ⟨b1, 0, none⟩), .pointer (some ⟨b2, 0, none⟩)]] w fun e w' => e = .returned (.int .i64 (idxP (apartP fi la) M)) ∧ w.grownBy w' none := by
  have HI := Lib.hid hI
  have HLn := Lib.hid hI.len
  obtain ⟨r, hr⟩ : ∃ r, idxP (apartP fi la) M = r := ⟨_, rfl⟩
  have K1 : Hid (∀ (k : Nat) (m : FileM), M[k]? = some m → apartP fi la m = true → (∀ (i : Nat) x, i < k → M[i]? = some x → apartP fi la x = false) → r = k) := Lib.hid fun k m a b d => by rw [← hr]; exact idxP_first a b d
  have K2 : Hid ((∀ (i : Nat) x, M[i]? = some x → apartP fi la x = false) → r = -1) := Lib.hid fun h => by rw [← hr]; exact idxP_none h
  have CP : ∀ W, w.grownBy W none → ∀ f : FileM, Hid (Calls Try.prog 24 #[.agg #[.int .i64 f.lv, .int .i64 f.nu, .int .i64 f.co, .int .i64 f.sz, .string f.fi, .string f.la], .pointer (some ⟨b1, 0, none⟩), .pointer (some ⟨b2, 0, none⟩)] W fun e w' => e = .returned (.bool (apartP fi la f)) ∧ W.grownBy w' none) := fun W hW f => Lib.hid (papart_any f fi la b1 b2 W (hW.cell h1 (by simp)) (hW.cell h2 (by simp)))
  rw [hr]
  clear hr hI h1 h2
  generalize apartP fi la = ap at *
  go_enter Try.func30, Try.ntmps30
  go_wp2_with fail
  go_loopw [5, 8] (fun _ i wr => ∃ k : Nat, k ≤ n ∧ i = .int .i64 (k : Int) ∧ Hid (∀ (i : Nat) x, i < k → M[i]? = some x → ap x = false) ∧ Hid (w.grownBy wr none)) (fun _ i _ => n - (intOf i).toNat)
  case atStart => exact ⟨0, by omega, rfl, Lib.hid (fun i x hi => by omega), grefl _ _⟩
  case round =>
    obtain ⟨k, hk, rfl, Hn, HG⟩ := hrel
    by_cases hl : k < n
    · have hkl : k < M.length := by have := HLn.out; omega
      have hm := List.getElem?_eq_getElem hkl
      generalize M[k] = m at *
      obtain ⟨g, off, rfl, hg, z0, z1, z2, z3, z4, z5⟩ := (HI.out.below (below_g HG.out)).at_ k m hm
      have Hm := Lib.hid hm
      have C := CP wr HG.out m
      have w1 : wrap64 ((k : Int) + 1) = (k : Int) + 1 := by unfold wrap64; omega
      have g1 : (k : Int) < (n : Int) := by omega
      have g3 : (0 : Int) ≤ (k : Int) := by omega
      cases he : ap m with
      | true =>
        rw [he] at C
        have hX := Lib.hid (K1.out k m Hm.out he Hn.out)
        clear K1 K2 he hm hg hkl
        go_wp2_with fail
        refine C.out.mono ?_
        rintro e w' ⟨rfl, hb⟩
        have HG2 := Lib.hid (gnone HG.out hb)
        clear hb
        go_wp2_with fail
        go_ret
        exact ⟨by rw [hX.out]; rfl, HG2.out⟩
      | false =>
        rw [he] at C
        have Hn2 : Hid (∀ (i : Nat) x, i < k + 1 → M[i]? = some x → ap x = false) := Lib.hid fun i x hi hx => by
          by_cases e : i = k
          · subst e
            rw [Hm.out] at hx
            cases hx
            exact he
          · exact Hn.out i x (by omega) hx
        clear K1 K2 he hm hg hkl Hn
        go_wp2_with fail
        refine C.out.mono ?_
        rintro e w' ⟨rfl, hb⟩
        have HG2 := Lib.hid (gnone HG.out hb)
        clear hb
        go_wp2_with fail
        go_roundw
        case rel => exact ⟨k + 1, by omega, by go_num, Hn2, HG2⟩
        case measure => exact meas_ltP hl
    · have hX := Lib.hid (K2.out fun i x hx => Hn.out i x (by have := (List.getElem?_eq_some_iff.1 hx).1; have := HLn.out; omega) hx)
      have g3 : ¬ (k : Int) < (n : Int) := by omega
      clear K1 K2 Hn
      go_wp2_with fail
      go_ret
      exact ⟨by rw [hX.out]; rfl, HG.out⟩

/-! ### slices.DeleteFunc -/
theorem setCells_eq (g : Nat) : ∀ (us : List Value) (w : World) (i : Nat), w.setCells g i us = setCells w g i us
  | [], _, _ => rfl
  | _u :: us, _w, i => setCells_eq g us _ (i + 1)
theorem zeroFl (w : World) : (zeroValue 26).run Try.prog w = .ok (.agg #[.int .i64 0, .int .i64 0, .int .i64 0, .int .i64 0, .string ⟨#[]⟩, .string ⟨#[]⟩]) w := by kernel_rfl
/-- clear of a row of files. -/
theorem run_clear_files (w : World) (ty : TypeId) (b o n c : Nat) (hn : 0 < n) (hc : ∀ j, j < n * 6 → (w.cell? ⟨b, o + j, none⟩).isSome = true) (hf : ∀ j, j < n * 6 → w.frozen? ⟨b, o + j, none⟩ = false) :
    ∃ us : List Value, us.length = n * 6 ∧ (∀ u ∈ us, u.oneCell' = true) ∧ (Builtin.clear_ #[22] ty #[.slice (some ⟨b, o, none⟩) n c]).run Try.prog w = .ok (.tuple #[]) (setCells w b o us) := by
  obtain ⟨us, hus⟩ : ∃ us, us = (Builtin.zeroCells #[.int .i64 0, .int .i64 0, .int .i64 0, .int .i64 0, .string ⟨#[]⟩, .string ⟨#[]⟩] n).toList := ⟨_, rfl⟩
  have hl : us.length = n * 6 := by rw [hus]; simp [Builtin.zeroCells]
  have h1 : ∀ u ∈ us, u.oneCell' = true := by
    intro u hu
    rw [hus] at hu
    simp only [Builtin.zeroCells, Array.toList_map, List.mem_map] at hu
    obtain ⟨i, _, rfl⟩ := hu
    have : i % 6 < 6 := Nat.mod_lt _ (by decide)
    show ((#[.int .i64 0, .int .i64 0, .int .i64 0, .int .i64 0, .string ⟨#[]⟩, .string ⟨#[]⟩] : Array Value)[i % 6]!).oneCell' = true
    rcases (by omega : i % 6 = 0 ∨ i % 6 = 1 ∨ i % 6 = 2 ∨ i % 6 = 3 ∨ i % 6 = 4 ∨ i % 6 = 5) with e | e | e | e | e | e <;> rw [e] <;> rfl
  have hst := run_storeCells_cells (P := Try.prog) b o us 0 w (by rw [hl]; simpa using hc) (by rw [hl]; simpa using hf) h1
  simp only [Nat.add_zero] at hst
  refine ⟨us, hl, h1, ?_⟩
  rw [← setCells_eq]
  obtain ⟨m, rfl⟩ : ∃ m, n = m + 1 := ⟨n - 1, by omega⟩
  have hz := zeroFl
  simp [Builtin.clear_, run_underlying underFl, hz, Value.cells, ← hus, hst]
/-- A row of which the rest was set, cut. -/
theorem own_cutF {w : World} {B g n c i : Nat} {e : TypeId} {R : List FileM} {us : List Value} (h : Own elFl w B e (.slice (some ⟨g, 0, none⟩) n c) R) (hi : i ≤ n) (hl : us.length = (n - i) * 6) :
    Own elFl (setCells w g (i * 6) us) B e (.slice (some ⟨g, 0, none⟩) i c) (R.take i) := by
  obtain ⟨hn, _, _⟩ := own_reads h
  subst hn
  have h1 := setCells_own us w (i * 6) _ h
  have hR : elFl.row R = elFl.row (R.take i) ++ elFl.row (R.drop i) ++ [] := by rw [List.append_nil, ← El.row_append, List.take_append_drop]
  have hti : (R.take i).length = i := by rw [List.length_take]; omega
  have e6 : elFl.sz = 6 := rfl
  have hlen : (elFl.row (R.take i)).length = i * 6 := by rw [El.row_length, hti, e6]
  rw [hR, ← hlen, setAll_split us _ _ _ (by rw [El.row_length, List.length_drop, hl, e6]), List.append_nil, hlen] at h1
  have h2 := own_shrk (n := i) (n' := R.length - i) (xs := elFl.row (R.take i)) (ys := us) (sz := 6) (by rw [show i + (R.length - i) = R.length by omega]; exact h1) hlen
  unfold Own
  rw [hti]
  exact h2
/-- A file set in a row. -/
theorem own_setF {w : World} {B g n c i : Nat} {e : TypeId} {R : List FileM} (h : Own elFl w B e (.slice (some ⟨g, 0, none⟩) n c) R) (f : FileM) (hi : i < n) :
    Own elFl (setCells w g (i * 6) (fileL f)) B e (.slice (some ⟨g, 0, none⟩) n c) (R.set i f) ∧ w.grownBy (setCells w g (i * 6) (fileL f)) (some g) := by
  obtain ⟨hn, _, _⟩ := own_reads h
  subst hn
  have h1 := setCells_own (fileL f) w (i * 6) _ h
  refine ⟨?_, setCells_grown _ _ _⟩
  have h2 := El.row_set elFl R i f hi
  unfold Own
  rw [List.length_set, h2]
  exact h1
theorem wrap_sucP {i n : Nat} (h : i < n) (hn : n ≤ 1000000) : wrap64 ((i : Int) + 1) = (i : Int) + 1 := by unfold wrap64; omega
theorem own_capF {α : Type} {E : El α} {w : World} {B n c : Nat} {e : TypeId} {A : Option Addr} {L : List α} (h : Own E w B e (.slice A n c) L) : n ≤ c := by
  obtain ⟨hn, _, _⟩ := own_reads h
  rcases h.2 with ⟨h1, h0⟩ | ⟨g, cap, cur, hv, _, _, hle, _⟩
  · injection h1 with e1 e2 e3
    omega
  · injection hv with e1 e2 e3
    omega
theorem keep_set {R M : List FileM} {i j : Nat} {f : FileM} (p : FileM → Bool) (hij : i < j) (hR : R.length = M.length) (hf : M[j]? = some f) (h1 : R.take i = (M.take j).filter p) (h2 : R.drop j = M.drop j) (hp : p f = true) :
    (R.set i f).take (i + 1) = (M.take (j + 1)).filter p ∧ (R.set i f).drop (j + 1) = M.drop (j + 1) := by
  have hj := (List.getElem?_eq_some_iff.1 hf).1
  constructor
  · rw [ftake_snoc hf, List.filter_append, ← h1, ftake_snoc (f := f) (by rw [List.getElem?_set_self (by omega)]), List.take_set_of_le (by omega)]
    simp [hp]
  · rw [List.drop_set_of_lt (by omega), ← List.drop_drop, ← List.drop_drop, h2]
theorem keep_skip {R M : List FileM} {i j : Nat} {f : FileM} (p : FileM → Bool) (hf : M[j]? = some f) (h1 : R.take i = (M.take j).filter p) (h2 : R.drop j = M.drop j) (hp : p f = false) :
    R.take i = (M.take (j + 1)).filter p ∧ R.drop (j + 1) = M.drop (j + 1) := by
  constructor
  · rw [ftake_snoc hf, List.filter_append, ← h1]
    simp [hp]
  · rw [← List.drop_drop, ← List.drop_drop, h2]
end Go.Proofs.Ytcljocmaojfhhaa

namespace Go.Proofs.Ytcljocmaojfhhaa
open Go.RowKit

set_option maxRecDepth 100000 in
set_option maxHeartbeats 4000000 in
theorem pdelete_any (A : Option Addr) (n c B : Nat) (M : List FileM) (fi la : ByteArray) (b1 b2 : Nat) (w : World) (hO : Own elFl w B 26 (.slice A n c) M) (hn : n ≤ 1000000) (h1 : w.cell? ⟨b1, 0, none⟩ = some (.string la)) (h2 : w.cell? ⟨b2, 0, none⟩ = some (.string fi)) (k1 : b1 < B) (k2 : b2 < B) (hB : B ≤ w.heap.size) :
    Calls Try.prog 25 #[.slice A n c, .func (.func 24) #[] #[.pointer (some ⟨b1, 0, none⟩), .pointer (some ⟨b2, 0, none⟩)]] w fun e w' => ∃ v, e = .returned v ∧ Own elFl w' B 26 v (M.filter fun f => !apartP fi la f) ∧ Below B w w' := by
  obtain ⟨hI, hA⟩ := own_files hO
  have hlen := hI.len
  have CI := Lib.hid (pindex_any A n c M fi la b1 b2 w hI hn h1 h2)
  have CP : ∀ W, Below B w W → ∀ f : FileM, Hid (Calls Try.prog 24 #[.agg #[.int .i64 f.lv, .int .i64 f.nu, .int .i64 f.co, .int .i64 f.sz, .string f.fi, .string f.la], .pointer (some ⟨b1, 0, none⟩), .pointer (some ⟨b2, 0, none⟩)] W fun e w' => e = .returned (.bool (apartP fi la f)) ∧ W.grownBy w' none) := fun W hW f => Lib.hid (papart_any f fi la b1 b2 W ((hW.cell (p := ⟨b1, 0, none⟩) k1).trans h1) ((hW.cell (p := ⟨b2, 0, none⟩) k2).trans h2))
  clear h1 h2 k1 k2
  generalize hap : apartP fi la = ap at *
  rcases idxP_cases ap M with ⟨e1, hall⟩ | ⟨k0, m0, e1, hm0, hp0, hall⟩
  · have hfil : (M.filter fun f => !ap f) = M := List.filter_eq_self.2 fun x hx => by rw [hall x hx]; rfl
    rw [hfil]
    rw [e1] at CI
    have HO := Lib.hid hO
    clear hO hI hA CP hall hfil e1 hlen hap
    go_enter Try.func25, Try.ntmps25
    go_wp2_with fail
    refine CI.out.mono ?_
    rintro e w1 ⟨rfl, hg⟩
    have HO2 := Lib.hid (HO.out.below (below_g hg))
    have HB2 := Lib.hid ((below_g hg).mono hB)
    clear hg
    go_wp2_with fail
    go_ret
    exact ⟨_, rfl, HO2.out, HB2.out⟩
  · have hk0 := (List.getElem?_eq_some_iff.1 hm0).1
    rw [e1] at CI
    obtain ⟨g, rfl, hg0, hg1⟩ := hA (by omega)
    have hst1 : M.take k0 = (M.take (k0 + 1)).filter fun f => !ap f := by
      rw [ftake_snoc hm0, List.filter_append, List.filter_eq_self.2 fun x hx => by rw [hall x hx]; rfl]
      simp [hp0]
    have hne1 : ((k0 : Int) == -1) = false := beq_eq_false_iff_ne.2 (by omega)
    have w0 : wrap64 ((k0 : Int) + 1) = (k0 : Int) + 1 := by unfold wrap64; omega
    have HST := Lib.hid hst1
    have HO := Lib.hid hO
    have HLn := Lib.hid hlen
    have HBs := Lib.hid hB
    have hk0n : k0 < n := by omega
    clear hO hI hall e1 hst1 hm0 hp0 hk0 hlen hB hap
    go_enter Try.func25, Try.ntmps25
    go_wp2_with fail
    refine CI.out.mono ?_
    rintro e w1 ⟨rfl, hg⟩
    have HO2 := Lib.hid (HO.out.below (below_g hg))
    have HB2 := Lib.hid ((below_g hg).mono HBs.out)
    clear hg CI HO
    go_wp2_with fail
    go_loopw [5, 6, 7] (fun x y _ wr => ∃ (i j : Nat) (R : List FileM), x = .int .i64 (i : Int) ∧ y = .int .i64 (j : Int) ∧ i < j ∧ j ≤ n ∧ Hid (R.length = n) ∧ Hid (Own elFl wr B 26 (.slice (some ⟨g, 0, none⟩) n c) R) ∧ Hid (R.take i = (M.take j).filter fun f => !ap f) ∧ Hid (R.drop j = M.drop j) ∧ Hid (Below B w wr)) (fun _ y _ _ => n - (intOf y).toNat)
    case atStart => exact ⟨k0, k0 + 1, M, rfl, by go_num, by omega, by omega, Lib.hid HLn.out.symm, HO2, HST, rfl, HB2⟩
    case round =>
      obtain ⟨i, j, R, rfl, rfl, hij, hjn, HRl, HOw, HT, HD, HB⟩ := hrel
      clear HST HO2 HB2 hne1 w0 hk0n
      by_cases hl : j < n
      · have hjM : j < M.length := by have := HLn.out; omega
        have hf := List.getElem?_eq_getElem hjM
        generalize M[j] = f at hf
        have hfR : R[j]? = some f := by
          have h1 := congrArg (fun l : List FileM => l[0]?) HD.out
          simp only [List.getElem?_drop, Nat.add_zero] at h1
          rw [h1]; exact hf
        obtain ⟨g', off', eA, hgl, z0, z1, z2, z3, z4, z5⟩ := (own_files HOw.out).1.at_ j f hfR
        injection eA with eA
        injection eA with eg eo
        subst eg
        obtain rfl : off' = 0 := eo.symm
        rw [Nat.zero_add] at z0 z1 z2 z3 z4 z5
        obtain ⟨C, hC⟩ : ∃ C, C = Obj.cells #[.int .i64 f.lv, .int .i64 f.nu, .int .i64 f.co, .int .i64 f.sz, .string f.fi, .string f.la] 26 := ⟨_, rfl⟩
        have hBa := HB.out.alloc (Nat.le_trans HBs.out HB.out.size) C
        have CC := CP _ hBa f
        have hOa : Own elFl (wr.alloc C) B 26 (.slice (some ⟨g, 0, none⟩) n c) R := World.ownsRow.alloc HOw.out _
        have t1 : (j : Int) < (n : Int) := by omega
        have t2 : (0 : Int) ≤ (j : Int) := by omega
        have t3 : wrap64 ((j : Int) + 1) = (j : Int) + 1 := by unfold wrap64; omega
        have Hlow := Lib.hid (show w.heap.size ≤ wr.heap.size from HB.out.size)
        cases he : ap f with
        | true =>
          rw [he] at CC
          obtain ⟨s1, s2⟩ := keep_skip (fun f => !ap f) hf HT.out HD.out (by rw [he]; rfl)
          have S1 := Lib.hid s1
          have S2 := Lib.hid s2
          have HOa := Lib.hid hOa
          have HBa := Lib.hid hBa
          rw [hC] at CC HOa HBa
          clear hf hfR hgl hBa hOa he s1 s2 hC HOw HT HD HB hjM
          go_wp2_with fail
          refine CC.out.mono ?_
          rintro e w3 ⟨rfl, hg3⟩
          have HO3 := Lib.hid (HOa.out.below (below_g hg3))
          have HB3 := Lib.hid (HBa.out.trans ((below_g hg3).mono (Nat.le_trans HBs.out HBa.out.size)))
          clear hg3
          go_wp2_with fail
          go_roundw
          case rel => exact ⟨i, j + 1, R, rfl, by go_num, by omega, by omega, HRl, HO3, S1, S2, HB3⟩
          case measure => exact meas_ltP hl
        | false =>
          rw [he] at CC
          have hRM : R.length = M.length := by rw [HRl.out, HLn.out]
          obtain ⟨s1, s2⟩ := keep_set (fun f => !ap f) hij hRM hf HT.out HD.out (by rw [he]; rfl)
          have S1 := Lib.hid s1
          have S2 := Lib.hid s2
          have HOa := Lib.hid hOa
          have HBa := Lib.hid hBa
          have HC := Lib.hid (Blk.new wr 26 #[.int .i64 f.lv, .int .i64 f.nu, .int .i64 f.co, .int .i64 f.sz, .string f.fi, .string f.la])
          have HRs : Hid ((R.set i f).length = n) := Lib.hid (by rw [List.length_set]; exact HRl.out)
          have hi8 : i < n := Nat.lt_trans hij hl
          have u3 : wrap64 ((i : Int) + 1) = (i : Int) + 1 := wrap_sucP hi8 hn
          have t5 : (i : Int) < (n : Int) := Int.ofNat_lt.2 hi8
          have t6 : (0 : Int) ≤ (i : Int) := Int.natCast_nonneg i
          rw [hC] at CC HOa HBa
          clear hf hfR hgl hBa hOa he s1 s2 hC HOw HT HD HB hjM hRM
          go_wp2_with fail
          refine CC.out.mono ?_
          rintro e w3 ⟨rfl, hg3⟩
          have hO3 := HOa.out.below (below_g hg3)
          have hB3 := HBa.out.trans ((below_g hg3).mono (Nat.le_trans HBs.out HBa.out.size))
          have hb3 := HC.out.grown hg3 (by simp)
          have y0 := hb3.cell 0
          have y1 := hb3.cell 1
          have y2 := hb3.cell 2
          have y3 := hb3.cell 3
          have y4 := hb3.cell 4
          have y5 := hb3.cell 5
          have hi9 : i < R.length := by rw [HRl.out]; exact hi8
          obtain ⟨old, hold⟩ : ∃ old, R[i]? = some old := ⟨_, List.getElem?_eq_getElem hi9⟩
          obtain ⟨g', off', eA, hgl, x0, x1, x2, x3, x4, x5⟩ := (own_files hO3).1.at_ i old hold
          injection eA with eA
          injection eA with eg eo
          subst eg
          obtain rfl : off' = 0 := eo.symm
          rw [Nat.zero_add] at x0 x1 x2 x3 x4 x5
          have hfz := fun t => hO3.frozen_ t
          have fz0 := hfz (i * 6)
          have fz1 := hfz (i * 6 + 1)
          have fz2 := hfz (i * 6 + 2)
          have fz3 := hfz (i * 6 + 3)
          have fz4 := hfz (i * 6 + 4)
          have fz5 := hfz (i * 6 + 5)
          obtain ⟨s3, s4⟩ := own_setF hO3 f hi8
          have HS3 := Lib.hid s3
          have HB4 := Lib.hid (hB3.grown s4 (Nat.le_trans HBs.out hB3.size) (fun j e => by cases e; exact hg0))
          clear hg3 hO3 hB3 hb3 s3 s4 hfz hold hgl hi9
          have hjn1 : j + 1 ≤ n := hl
          have hij1 : i + 1 < j + 1 := Nat.succ_lt_succ hij
          clear hi8
          go_wp2_with fail
          go_roundw
          case rel => exact ⟨i + 1, j + 1, R.set i f, by go_num, by go_num, hij1, hjn1, HRs, HS3, S1, S2, HB4⟩
          case measure => exact meas_ltP hl
      · obtain rfl : j = n := by omega
        have hX : Hid (R.take i = M.filter fun f => !ap f) := Lib.hid (by
          have h := HT.out
          rw [show M.take j = M from List.take_of_length_le (by rw [← HLn.out]; omega)] at h
          exact h)
        have hgl := (HOw.out.lt (g := g) rfl).2
        obtain ⟨us, hul, hu1, hrun⟩ := run_clear_files wr 0 g (i * 6) (j - i) (c - i) (by omega) (fun t ht => by
          have hr := own_reads HOw.out
          have hlt : i * 6 + t < (elFl.row R).length := by rw [El.row_length, HRl.out]; show _ < j * 6; omega
          have h1 := hr.2.2 _ rfl (i * 6 + t) _ (List.getElem?_eq_getElem hlt)
          rw [Addr.add_lit, Nat.zero_add] at h1
          rw [h1]; rfl) (fun t ht => HOw.out.frozen_ _)
        have hcut := own_cutF (i := i) (us := us) HOw.out (by omega) hul
        rw [hX.out] at hcut
        have HCUT := Lib.hid hcut
        have HB9 := Lib.hid (HB.out.grown (setCells_grown (g := g) us wr (i * 6)) (Nat.le_trans HBs.out HB.out.size) (fun j e => by cases e; exact hg0))
        have HRUN : ∀ ty, (Builtin.clear_ #[22] ty #[.slice (some ⟨g, i * 6, none⟩) (j - i) (c - i)]).run Try.prog wr = .ok (.tuple #[]) (setCells wr g (i * 6) us) := fun ty => hrun
        have t1 : ¬ (j : Int) < (j : Int) := by omega
        have t5 : (i : Int) ≤ (j : Int) := by omega
        have t6 : (0 : Int) ≤ (i : Int) := by omega
        have t7 : (i : Int) ≤ (c : Int) := by have := own_capF HOw.out; omega
        have t8 : ¬ c = i := by have := own_capF HOw.out; omega
        clear hgl hul hu1 hcut hrun HOw HT HD HB
        go_wp2_with fail
        go_ret
        exact ⟨_, rfl, HCUT.out, HB9.out⟩
end Go.Proofs.Ytcljocmaojfhhaa

namespace Go.Proofs.Ytcljocmaojfhhaa
open Go.RowKit

set_option maxRecDepth 100000 in
set_option maxHeartbeats 2000000 in
theorem poverlap_any (A : Option Addr) (n c : Nat) (L : List FileM) (lv : Int) (fi la : ByteArray) (w : World) (hI : FilesAt w A n L) (hn : n ≤ 1000000) :
    Calls Try.prog 16 #[.slice A n c, .int .i64 lv, .string fi, .string la] w fun e w' => ∃ v, e = .returned v ∧ Own elInts w' w.heap.size 3 v (overP L lv fi la) ∧ w.grownBy w' none := by
  obtain ⟨F, hF⟩ : ∃ F, F = Obj.cells #[.string fi] 9 := ⟨_, rfl⟩
  obtain ⟨G, hG⟩ : ∃ G, G = Obj.cells #[.string la] 9 := ⟨_, rfl⟩
  have g0 : w.grownBy ((w.alloc F).alloc G) none := gnone (World.grownBy_alloc w F none) (World.grownBy_alloc _ G none)
  have CO := Lib.hid (pof_any A n c L lv ((w.alloc F).alloc G) (hI.below (below_g g0)) hn)
  have hlen : (ofP L lv).length ≤ 1000000 := by
    unfold ofP
    refine Nat.le_trans (List.length_filter_le _ _) ?_
    rw [← hI.len]; exact hn
  have hov : overP L lv fi la = ((ofP L lv).filter fun f => !apartP fi la f).map (·.nu) := rfl
  rw [hov]
  have f1 : ((w.alloc F).alloc G).cell? ⟨w.heap.size, 0, none⟩ = some (.string fi) := by
    rw [hF]
    exact (World.grownBy_alloc _ G none).cell ((Blk.new w 9 #[.string fi]).cell 0) (by simp)
  have f2 : ((w.alloc F).alloc G).cell? ⟨w.heap.size + 1, 0, none⟩ = some (.string la) := by
    rw [hG]
    simp
  have sz2 : ((w.alloc F).alloc G).heap.size = w.heap.size + 2 := by simp
  rw [sz2] at CO
  have Hg0 := Lib.hid g0
  have F1 := Lib.hid f1
  have F2 := Lib.hid f2
  have SZ := Lib.hid sz2
  generalize ofP L lv = M at *
  rw [hF, hG] at CO Hg0 F1 F2 SZ
  clear hI g0 f1 f2 hov sz2 hF hG
  go_enter Try.func16, Try.ntmps16
  go_wp2_with fail
  refine CO.out.mono ?_
  rintro e w1 ⟨v, rfl, hown, hg⟩
  obtain ⟨a, c1, rfl⟩ := hown.slice
  have CD := Lib.hid (pdelete_any a M.length c1 (w.heap.size + 2) M fi la (w.heap.size + 1) w.heap.size w1 hown (by omega) (hg.cell F2.out (by simp)) (hg.cell F1.out (by simp)) (by omega) (by omega) (by rw [← SZ.out]; exact hg.size))
  have HG1 := Lib.hid (gnone Hg0.out hg)
  clear hown hg CO
  go_wp2_with fail
  refine CD.out.mono ?_
  rintro e w2 ⟨v, rfl, hown, hb⟩
  obtain ⟨a2, c2, rfl⟩ := hown.slice
  have hlen2 : (M.filter fun f => !apartP fi la f).length ≤ 1000000 := Nat.le_trans (List.length_filter_le _ _) (by omega)
  have CN := Lib.hid (pnumbers_any a2 _ c2 _ w2 (own_files hown).1 hlen2)
  have HG2 : Hid (w.grownBy w2 none) := Lib.hid (g_below ((below_g HG1.out).trans (hb.mono (by omega))))
  clear hown hb CD HG1 hlen2
  go_wp2_with fail
  refine CN.out.mono ?_
  rintro e w3 ⟨v, rfl, hown, hg⟩
  have HO3 := Lib.hid (hown.low HG2.out.size)
  have HG3 := Lib.hid (gnone HG2.out hg)
  clear hown hg CN
  go_wp2_with fail
  go_ret
  exact ⟨_, rfl, HO3.out, HG3.out⟩
end Go.Proofs.Ytcljocmaojfhhaa

namespace Go.Proofs.Ytcljocmaojfhhaa
open Ieee

/-- A word's lower 63 bits. -/
def rung (x : Nat) : Nat := x % 9223372036854775808
def isNeg (x : Nat) : Bool := x / 9223372036854775808 % 2 == 1
/-- A magnitude in units of the least one. -/
def magOf (r : Nat) : Nat := if r < 4503599627370496 then r else (4503599627370496 + r % 4503599627370496) * 2 ^ (r / 4503599627370496 - 1)
/-- A word's place in the order of numbers, nan aside. -/
def nkey (x : Nat) : Int := if isNeg x then -(rung x : Int) else (rung x : Int)
def infR : Nat := 9218868437227405312

theorem magOf_step (r : Nat) : magOf r < magOf (r + 1) := by
  unfold magOf
  by_cases h1 : r + 1 < 4503599627370496
  · rw [if_pos (by omega), if_pos h1]; omega
  · rw [if_neg h1]
    by_cases h2 : r < 4503599627370496
    · rw [if_pos h2, show (r + 1) / 4503599627370496 - 1 = 0 from by omega]
      omega
    · rw [if_neg h2]
      by_cases h3 : (r + 1) % 4503599627370496 = 0
      · have e1 : (r + 1) / 4503599627370496 = r / 4503599627370496 + 1 := by omega
        have e2 : r % 4503599627370496 = 4503599627370495 := by omega
        rw [h3, e1, e2, show r / 4503599627370496 + 1 - 1 = (r / 4503599627370496 - 1) + 1 from by omega, Nat.pow_succ]
        have := Nat.two_pow_pos (r / 4503599627370496 - 1)
        omega
      · have e1 : (r + 1) / 4503599627370496 = r / 4503599627370496 := by omega
        have e2 : (r + 1) % 4503599627370496 = r % 4503599627370496 + 1 := by omega
        rw [e1, e2]
        exact Nat.mul_lt_mul_of_pos_right (by omega) (Nat.two_pow_pos _)
theorem magOf_mono {a b : Nat} (h : a < b) : magOf a < magOf b := by
  induction b with
  | zero => omega
  | succ b ih =>
    rcases Nat.lt_or_ge a b with h1 | h1
    · exact Nat.lt_trans (ih h1) (magOf_step b)
    · obtain rfl : a = b := by omega
      exact magOf_step a
theorem magOf_lt (a b : Nat) : magOf a < magOf b ↔ a < b := by
  constructor
  · intro h
    rcases Nat.lt_trichotomy a b with h1 | h1 | h1
    · exact h1
    · subst h1; omega
    · have := magOf_mono h1; omega
  · exact magOf_mono
theorem magOf_eq (a b : Nat) : magOf a = magOf b ↔ a = b := by
  constructor
  · intro h
    rcases Nat.lt_trichotomy a b with h1 | h1 | h1
    · have := magOf_mono h1; omega
    · exact h1
    · have := magOf_mono h1; omega
  · rintro rfl; rfl

theorem f64_sign : Ieee.double.signWeight = 9223372036854775808 := by decide
theorem f64_binade : Ieee.double.binade = 4503599627370496 := by decide
theorem f64_inf : Ieee.double.infRung = infR := by decide
theorem f64_least : Ieee.double.leastPlace = -1074 := by decide

theorem read_fin (x : Nat) (h : rung x < infR) : ∃ m k : Nat, Ieee.double.read x = .number (isNeg x) m (-1074 + (k : Int)) ∧ m * 2 ^ k = magOf (rung x) := by
  unfold Format.read
  rw [f64_sign, f64_binade, f64_inf, f64_least]
  show ∃ m k : Nat, (if rung x < 4503599627370496 then _ else _) = _ ∧ _
  by_cases h1 : rung x < 4503599627370496
  · rw [if_pos h1]
    refine ⟨rung x, 0, rfl, ?_⟩
    unfold magOf
    rw [if_pos h1]
    omega
  · rw [if_neg h1]
    show ∃ m k : Nat, (if rung x < infR then _ else _) = _ ∧ _
    rw [if_pos h]
    refine ⟨4503599627370496 + rung x % 4503599627370496, rung x / 4503599627370496 - 1, rfl, ?_⟩
    unfold magOf
    rw [if_neg h1]
theorem read_inf (x : Nat) (h : rung x = infR) : Ieee.double.read x = .infinity (isNeg x) := by
  unfold Format.read
  rw [f64_sign, f64_binade, f64_inf, f64_least]
  show (if rung x < 4503599627370496 then _ else if rung x < infR then _ else if rung x = infR then _ else _) = _
  rw [if_neg (by rw [h]; decide), if_neg (by omega), if_pos h]
  rfl
theorem read_nan (x : Nat) (h : infR < rung x) : ∃ f, Ieee.double.read x = .nan (isNeg x) f := by
  unfold Format.read
  rw [f64_sign, f64_binade, f64_inf, f64_least]
  refine ⟨rung x - infR, ?_⟩
  show (if rung x < 4503599627370496 then _ else if rung x < infR then _ else if rung x = infR then _ else _) = _
  have : (4503599627370496 : Nat) < infR := by decide
  rw [if_neg (by omega), if_neg (by omega), if_neg (by omega)]
  rfl

theorem cmp_of {a b a' b' : Int} (h1 : a < b ↔ a' < b') (h2 : a = b ↔ a' = b') : compare a b = compare a' b' := by
  show compareOfLessAndEq a b = compareOfLessAndEq a' b'
  unfold compareOfLessAndEq
  simp only [h1, h2]

theorem scale_mag (m k l : Nat) : (m <<< (k - min k l)) * 2 ^ min k l = m * 2 ^ k := by
  rw [Nat.shiftLeft_eq, Nat.mul_assoc, ← Nat.pow_add]
  congr 2
  omega

theorem signed_cmp (s t : Bool) (a b A B c : Nat) (hc : 0 < c) (ha : a * c = A) (hb : b * c = B) (x y : Nat) (h1 : A < B ↔ x < y) (h1' : B < A ↔ y < x) (hx : A = 0 ↔ x = 0) (hy : B = 0 ↔ y = 0) :
    compare (if s then -((a : Nat) : Int) else ((a : Nat) : Int)) (if t then -((b : Nat) : Int) else ((b : Nat) : Int)) = compare (if s then -(x : Int) else (x : Int)) (if t then -(y : Int) else (y : Int)) := by
  have g1 : a < b ↔ A < B := by rw [← ha, ← hb]; exact (Nat.mul_lt_mul_right hc).symm
  have g2 : b < a ↔ B < A := by rw [← ha, ← hb]; exact (Nat.mul_lt_mul_right hc).symm
  have g3 : a = 0 ↔ A = 0 := by
    rw [← ha]
    constructor
    · rintro rfl; simp
    · intro h; rcases Nat.mul_eq_zero.1 h with h | h <;> omega
  have g4 : b = 0 ↔ B = 0 := by
    rw [← hb]
    constructor
    · rintro rfl; simp
    · intro h; rcases Nat.mul_eq_zero.1 h with h | h <;> omega
  clear ha hb
  cases s <;> cases t <;> apply cmp_of <;> simp only [if_true, Bool.false_eq_true, if_false] <;> omega

theorem magOf_zero (a : Nat) : magOf a = 0 ↔ a = 0 := by
  have := magOf_eq a 0
  rw [show magOf 0 = 0 from by decide] at this
  exact this

theorem order_key (x y : Nat) (hx : rung x ≤ infR) (hy : rung y ≤ infR) : Ieee.double.order x y = some (compare (nkey x) (nkey y)) := by
  unfold Format.order
  rcases Nat.lt_or_ge (rung x) infR with h1 | h1
  · obtain ⟨m, k, e1, f1⟩ := read_fin x h1
    rcases Nat.lt_or_ge (rung y) infR with h2 | h2
    · obtain ⟨n, l, e2, f2⟩ := read_fin y h2
      rw [e1, e2]
      show some (compare (signed _ m _) (signed _ n _)) = _
      have p1 : ((-1074 + (k : Int)) - min (-1074 + (k : Int)) (-1074 + (l : Int))).toNat = k - min k l := by omega
      have p2 : ((-1074 + (l : Int)) - min (-1074 + (k : Int)) (-1074 + (l : Int))).toNat = l - min k l := by omega
      rw [p1, p2]
      unfold signed nkey
      congr 1
      refine signed_cmp (isNeg x) (isNeg y) _ _ (magOf (rung x)) (magOf (rung y)) (2 ^ min k l) (Nat.two_pow_pos _) ?_ ?_ (rung x) (rung y) (magOf_lt _ _) (magOf_lt _ _) (magOf_zero _) (magOf_zero _)
      · rw [scale_mag, f1]
      · have h3 := scale_mag n l k
        rw [Nat.min_comm l k] at h3
        rw [h3, f2]
    · have h2' : rung y = infR := by omega
      rw [e1, read_inf y h2']
      show some (if isNeg y then Ordering.gt else Ordering.lt) = _
      congr 1
      unfold nkey
      rw [h2']
      generalize infR = r at *
      have hlt : rung x < r := h1
      cases isNeg y <;> cases isNeg x <;> simp only [if_true, Bool.false_eq_true, if_false] <;> symm <;> first
        | (apply Int.compare_eq_lt.2; omega)
        | (apply Int.compare_eq_gt.2; omega)
  · have h1' : rung x = infR := by omega
    rcases Nat.lt_or_ge (rung y) infR with h2 | h2
    · obtain ⟨n, l, e2, f2⟩ := read_fin y h2
      rw [read_inf x h1', e2]
      show some (if isNeg x then Ordering.lt else Ordering.gt) = _
      congr 1
      unfold nkey
      rw [h1']
      generalize infR = r at *
      have hlt : rung y < r := h2
      cases isNeg x <;> cases isNeg y <;> simp only [if_true, Bool.false_eq_true, if_false] <;> symm <;> first
        | (apply Int.compare_eq_lt.2; omega)
        | (apply Int.compare_eq_gt.2; omega)
    · have h2' : rung y = infR := by omega
      rw [read_inf x h1', read_inf y h2']
      show some (compare (isNeg y).toNat (isNeg x).toNat) = _
      unfold nkey
      rw [h1', h2']
      cases isNeg x <;> cases isNeg y <;> rfl
end Go.Proofs.Ytcljocmaojfhhaa

namespace Go.Proofs.Ytcljocmaojfhhaa
open Go.RowKit Ieee

def isN (x : Nat) : Bool := decide (infR < rung x)
def rankN (x : Nat) : Nat := if isN x then 0 else if isNeg x then 18446744073709551615 - x else x + 9223372036854775808
def cmpN (a b : Nat) : Int := if rankN a < rankN b then -1 else if rankN b < rankN a then 1 else 0

theorem order_nan (x y : Nat) (h : isN x = true ∨ isN y = true) : Ieee.double.order x y = none := by
  unfold Format.order
  rcases h with h | h
  · obtain ⟨f, e⟩ := read_nan x (by simpa [isN] using h)
    rw [e]; rfl
  · obtain ⟨f, e⟩ := read_nan y (by simpa [isN] using h)
    rw [e]
    cases Ieee.double.read x <;> rfl

theorem order_num (x y : Nat) (hx : isN x = false) (hy : isN y = false) : Ieee.double.order x y = some (compare (nkey x) (nkey y)) :=
  order_key x y (by simpa [isN] using hx) (by simpa [isN] using hy)

theorem lss_eq (x y : Nat) : (FloatKind.f64.format.order x y == some .lt) = (!isN x && !isN y && decide (nkey x < nkey y)) := by
  show (Ieee.double.order x y == some .lt) = _
  cases hx : isN x
  · cases hy : isN y
    · rw [order_num x y hx hy]
      rcases Int.lt_trichotomy (nkey x) (nkey y) with h | h | h
      · rw [Int.compare_eq_lt.2 h, decide_eq_true h]; rfl
      · rw [Int.compare_eq_eq.2 h, decide_eq_false (by omega)]; rfl
      · rw [Int.compare_eq_gt.2 h, decide_eq_false (by omega)]; rfl
    · rw [order_nan x y (Or.inr hy)]; rfl
  · rw [order_nan x y (Or.inl hx)]; rfl
theorem gtr_eq (x y : Nat) : (FloatKind.f64.format.order x y == some .gt) = (!isN x && !isN y && decide (nkey y < nkey x)) := by
  show (Ieee.double.order x y == some .gt) = _
  cases hx : isN x
  · cases hy : isN y
    · rw [order_num x y hx hy]
      rcases Int.lt_trichotomy (nkey x) (nkey y) with h | h | h
      · rw [Int.compare_eq_lt.2 h, decide_eq_false (by omega)]; rfl
      · rw [Int.compare_eq_eq.2 h, decide_eq_false (by omega)]; rfl
      · rw [Int.compare_eq_gt.2 h, decide_eq_true h]; rfl
    · rw [order_nan x y (Or.inr hy)]; rfl
  · rw [order_nan x y (Or.inl hx)]; rfl
theorem eql_eq (x y : Nat) : (FloatKind.f64.format.order x y == some .eq) = (!isN x && !isN y && decide (nkey x = nkey y)) := by
  show (Ieee.double.order x y == some .eq) = _
  cases hx : isN x
  · cases hy : isN y
    · rw [order_num x y hx hy]
      rcases Int.lt_trichotomy (nkey x) (nkey y) with h | h | h
      · rw [Int.compare_eq_lt.2 h, decide_eq_false (by omega)]; rfl
      · rw [Int.compare_eq_eq.2 h, decide_eq_true h]; rfl
      · rw [Int.compare_eq_gt.2 h, decide_eq_false (by omega)]; rfl
    · rw [order_nan x y (Or.inr hy)]; rfl
  · rw [order_nan x y (Or.inl hx)]; rfl
theorem neq_self (x : Nat) : (FloatKind.f64.format.order x x != some .eq) = isN x := by
  show (!(FloatKind.f64.format.order x x == some .eq)) = _
  rw [eql_eq, decide_eq_true rfl]
  cases isN x <;> rfl
theorem eql_self (x : Nat) : (FloatKind.f64.format.order x x == some .eq) = !isN x := by
  rw [eql_eq, decide_eq_true rfl]
  cases isN x <;> rfl

/-! ### Words below 2^64 -/
theorem word_neg (x : Nat) (hx : x < 18446744073709551616) : isNeg x = decide (9223372036854775808 ≤ x) := by
  unfold isNeg
  rcases Nat.lt_or_ge x 9223372036854775808 with h | h
  · rw [decide_eq_false (by omega), show x / 9223372036854775808 % 2 = 0 from by omega]; rfl
  · rw [decide_eq_true h, show x / 9223372036854775808 % 2 = 1 from by omega]; rfl
/-- A word's parts. -/
theorem word_parts (x : Nat) (hx : x < 18446744073709551616) : (isNeg x = true ∧ x = 9223372036854775808 + rung x ∧ rung x < 9223372036854775808) ∨ (isNeg x = false ∧ x = rung x ∧ rung x < 9223372036854775808) := by
  rw [word_neg x hx]
  unfold rung
  rcases Nat.lt_or_ge x 9223372036854775808 with h | h
  · exact Or.inr ⟨decide_eq_false (by omega), by omega, by omega⟩
  · exact Or.inl ⟨decide_eq_true h, by omega, by omega⟩
theorem rung_lt (x : Nat) : rung x < 9223372036854775808 := Nat.mod_lt _ (by decide)

theorem rankN_lt (x : Nat) (hx : x < 18446744073709551616) : rankN x < 18446744073709551616 := by
  unfold rankN
  rcases word_parts x hx with ⟨h1, h2, h3⟩ | ⟨h1, h2, h3⟩ <;> rw [h1] <;> cases isN x <;> simp <;> omega

/-- Of numbers that are no nan the rank tells what the order and the signs tell. -/
theorem rank_cases (x y : Nat) (hx : x < 18446744073709551616) (hy : y < 18446744073709551616) (nx : isN x = false) (ny : isN y = false) :
    (nkey x < nkey y → rankN x < rankN y) ∧ (nkey y < nkey x → rankN y < rankN x) ∧ (nkey x = nkey y → isNeg x = isNeg y → rankN x = rankN y) ∧ (nkey x = nkey y → isNeg x = true → isNeg y = false → rankN x < rankN y) := by
  unfold rankN nkey
  rw [nx, ny]
  rcases word_parts x hx with ⟨h1, h2, h3⟩ | ⟨h1, h2, h3⟩ <;> rcases word_parts y hy with ⟨k1, k2, k3⟩ | ⟨k1, k2, k3⟩ <;> rw [h1, k1] <;> simp <;> omega

theorem rank_nan (x : Nat) (h : isN x = true) : rankN x = 0 := by unfold rankN; rw [h]; rfl
theorem rank_pos (x : Nat) (hx : x < 18446744073709551616) (h : isN x = false) : 0 < rankN x := by
  have hi : rung x ≤ infR := by simpa [isN] using h
  have hc : infR = 9218868437227405312 := rfl
  unfold rankN
  rw [h]
  rcases word_parts x hx with ⟨h1, h2, h3⟩ | ⟨h1, h2, h3⟩ <;> rw [h1] <;> simp <;> omega
theorem rank_inj (x y : Nat) (hx : x < 18446744073709551616) (hy : y < 18446744073709551616) (nx : isN x = false) (h : rankN x = rankN y) : x = y := by
  have ny : isN y = false := by
    cases e : isN y
    · rfl
    · have := rank_pos x hx nx
      rw [rank_nan y e] at h
      omega
  unfold rankN at h
  rw [nx, ny] at h
  rcases word_parts x hx with ⟨h1, h2, h3⟩ | ⟨h1, h2, h3⟩ <;> rcases word_parts y hy with ⟨k1, k2, k3⟩ | ⟨k1, k2, k3⟩ <;> rw [h1, k1] at h <;> simp at h <;> omega

theorem cmpN_self (a : Nat) : cmpN a a = 0 := by unfold cmpN; rw [if_neg (by omega), if_neg (by omega)]
theorem cmpN_lt {a b : Nat} (h : rankN a < rankN b) : cmpN a b = -1 := by unfold cmpN; rw [if_pos h]
theorem cmpN_gt {a b : Nat} (h : rankN b < rankN a) : cmpN a b = 1 := by unfold cmpN; rw [if_neg (by omega), if_pos h]
theorem cmpN_eq {a b : Nat} (h : rankN a = rankN b) : cmpN a b = 0 := by unfold cmpN; rw [if_neg (by omega), if_neg (by omega)]
theorem cmpN_zero (a b : Nat) : cmpN a b = 0 ↔ rankN a = rankN b := by unfold cmpN; split <;> (try split) <;> omega
theorem cmpN_swap (a b : Nat) : cmpN b a = -cmpN a b := by unfold cmpN; split <;> split <;> (try split) <;> omega

/-! ### Bits of words -/
theorem ofInt_u64 (a : Nat) (ha : a < 18446744073709551616) : (BitVec.ofInt 64 (a : Int)).toNat = a := by
  rw [BitVec.ofInt_natCast, BitVec.toNat_ofNat]; exact Nat.mod_eq_of_lt (by omega)
theorem wrap_u64_nat (a : Nat) (ha : a < 18446744073709551616) : IntKind.u64.wrap ((a : Nat) : Int) = (a : Int) := by
  rw [IntKind.wrap_u64]; omega
theorem u64_and_nat (a b : Nat) (ha : a < 18446744073709551616) (hb : b < 18446744073709551616) : bits .and .u64 (a : Int) (b : Int) = ((a &&& b : Nat) : Int) := by
  have hx : a &&& b < 2 ^ 64 := Nat.and_lt_two_pow _ (by omega)
  show IntKind.u64.wrap ((BitVec.ofInt 64 (a : Int) &&& BitVec.ofInt 64 (b : Int)).toNat : Int) = _
  rw [BitVec.toNat_and, ofInt_u64 a ha, ofInt_u64 b hb, wrap_u64_nat _ (by omega)]
theorem u64_or_nat (a b : Nat) (ha : a < 18446744073709551616) (hb : b < 18446744073709551616) : bits .or .u64 (a : Int) (b : Int) = ((a ||| b : Nat) : Int) := by
  have hx : a ||| b < 2 ^ 64 := Nat.or_lt_two_pow (by omega) (by omega)
  show IntKind.u64.wrap ((BitVec.ofInt 64 (a : Int) ||| BitVec.ofInt 64 (b : Int)).toNat : Int) = _
  rw [BitVec.toNat_or, ofInt_u64 a ha, ofInt_u64 b hb, wrap_u64_nat _ (by omega)]
theorem u64_xor_nat (a b : Nat) (ha : a < 18446744073709551616) (hb : b < 18446744073709551616) : bits .xor .u64 (a : Int) (b : Int) = ((a ^^^ b : Nat) : Int) := by
  have hx : a ^^^ b < 2 ^ 64 := Nat.xor_lt_two_pow (by omega) (by omega)
  show IntKind.u64.wrap ((BitVec.ofInt 64 (a : Int) ^^^ BitVec.ofInt 64 (b : Int)).toNat : Int) = _
  rw [BitVec.toNat_xor, ofInt_u64 a ha, ofInt_u64 b hb, wrap_u64_nat _ (by omega)]
theorem u64_not_nat (a : Nat) (ha : a < 18446744073709551616) : bits .xor .u64 IntKind.u64.max (a : Int) = ((18446744073709551615 - a : Nat) : Int) := by
  have hm : IntKind.u64.max = ((18446744073709551615 : Nat) : Int) := by decide
  have e : (18446744073709551615 ^^^ a : Nat) = 18446744073709551615 - a := by
    have h1 : (BitVec.allOnes 64 ^^^ BitVec.ofNat 64 a) = ~~~ BitVec.ofNat 64 a := BitVec.allOnes_xor
    have h2 := congrArg BitVec.toNat h1
    rw [BitVec.toNat_xor, BitVec.toNat_not, BitVec.toNat_ofNat, Nat.mod_eq_of_lt (show a < 2 ^ 64 from by omega), BitVec.toNat_allOnes] at h2
    have h3 : (2 : Nat) ^ 64 - 1 = 18446744073709551615 := by decide
    rw [h3] at h2
    exact h2
  rw [hm, u64_xor_nat _ _ (by decide) ha, e]

theorem and_sign (x : Nat) (hx : x < 18446744073709551616) : x &&& 9223372036854775808 = if isNeg x then 9223372036854775808 else 0 := by
  have h1 : x &&& 9223372036854775808 = x / 2 ^ 63 % 2 * 2 ^ 63 := by
    apply Nat.eq_of_testBit_eq
    intro i
    rw [Nat.testBit_and, show (9223372036854775808 : Nat) = 2 ^ 63 from rfl, Nat.testBit_two_pow, Nat.testBit_mul_two_pow]
    by_cases hi : 63 = i
    · subst hi
      simp [Nat.testBit, Nat.shiftRight_eq_div_pow]
    · rw [decide_eq_false hi, Bool.and_false]
      symm
      by_cases h3 : 63 ≤ i
      · rw [decide_eq_true h3, Bool.true_and]
        apply Nat.testBit_lt_two_pow
        have : 2 ^ 1 ≤ 2 ^ (i - 63) := Nat.pow_le_pow_right (by decide) (by omega)
        have := Nat.mod_lt (x / 2 ^ 63) (show 2 > 0 by decide)
        omega
      · rw [decide_eq_false h3, Bool.false_and]
  rw [h1]
  rcases word_parts x hx with ⟨h1, h2, h3⟩ | ⟨h1, h2, h3⟩ <;> rw [h1] <;> simp <;> omega
theorem or_sign (x : Nat) (hx : x < 9223372036854775808) : x ||| 9223372036854775808 = x + 9223372036854775808 := by
  have := Nat.two_pow_add_eq_or_of_lt (i := 63) (b := x) hx 1
  rw [show 2 ^ 63 * 1 = 9223372036854775808 from by decide] at this
  rw [Nat.or_comm]
  omega
theorem xor_sign (x : Nat) (hx : x < 9223372036854775808) : x ^^^ 9223372036854775808 = x + 9223372036854775808 := by
  rw [← or_sign x hx]
  apply Nat.eq_of_testBit_eq
  intro i
  rw [Nat.testBit_xor, Nat.testBit_or, show (9223372036854775808 : Nat) = 2 ^ 63 from rfl, Nat.testBit_two_pow]
  by_cases hi : 63 = i
  · subst hi
    rw [Nat.testBit_lt_two_pow hx]
    rfl
  · rw [decide_eq_false hi, Bool.xor_false, Bool.or_false]

theorem and_sign_int (x : Nat) (hx : x < 18446744073709551616) : (bits .and .u64 (x : Int) 9223372036854775808 != 0) = isNeg x := by
  have := u64_and_nat x 9223372036854775808 hx (by decide)
  rw [and_sign x hx] at this
  rw [show ((9223372036854775808 : Int)) = ((9223372036854775808 : Nat) : Int) from rfl, this]
  cases isNeg x <;> rfl
theorem or_sign_int (x : Nat) (hx : x < 9223372036854775808) : bits .or .u64 (x : Int) 9223372036854775808 = ((x + 9223372036854775808 : Nat) : Int) := by
  have := u64_or_nat x 9223372036854775808 (by omega) (by decide)
  rw [or_sign x hx] at this
  exact this

/-- '-f': the sign is turned. -/
theorem neg_word (x : Nat) (hx : x < 18446744073709551616) : Op.negFloat .f64 x = if isNeg x then x - 9223372036854775808 else x + 9223372036854775808 := by
  show x ^^^ 9223372036854775808 = _
  rcases word_parts x hx with ⟨h1, h2, h3⟩ | ⟨h1, h2, h3⟩
  · rw [h1, if_pos rfl]
    have e : x = rung x ^^^ 9223372036854775808 := by rw [xor_sign _ h3]; omega
    have e2 : x ^^^ 9223372036854775808 = rung x := by
      conv => lhs; rw [e]
      rw [Nat.xor_assoc, Nat.xor_self, Nat.xor_zero]
    rw [e2]; omega
  · rw [h1, if_neg (by decide)]
    exact xor_sign x (by omega)

/-- The number that stands at a rank. -/
def unrankN (r : Nat) : Nat := if isNeg r then r - 9223372036854775808 else 18446744073709551615 - r
theorem unrankN_lt (r : Nat) (h : r < 18446744073709551616) : unrankN r < 18446744073709551616 := by unfold unrankN; split <;> omega
theorem unrank_rank (x : Nat) (hx : x < 18446744073709551616) (h : isN x = false) : unrankN (rankN x) = x := by
  unfold unrankN rankN
  rw [h]
  rcases word_parts x hx with ⟨h1, h2, h3⟩ | ⟨h1, h2, h3⟩ <;> rw [h1] <;> simp only [Bool.false_eq_true, if_false, if_true]
  · rw [word_neg _ (by omega), decide_eq_false (by omega)]
    simp only [Bool.false_eq_true, if_false]
    omega
  · rw [word_neg _ (by omega), decide_eq_true (by omega)]
    simp only [if_true]
    omega
theorem andNot_rung (x : Nat) (hx : x < 18446744073709551616) : bits .andNot .u64 (x : Int) 9223372036854775808 = (rung x : Int) := by
  show IntKind.u64.wrap ((BitVec.ofInt 64 (x : Int) &&& ~~~ BitVec.ofInt 64 ((9223372036854775808 : Nat) : Int)).toNat : Int) = _
  have hm := Nat.and_two_pow_sub_one_eq_mod x 63
  rw [BitVec.toNat_and, BitVec.toNat_not, ofInt_u64 x hx, ofInt_u64 _ (by decide), show (2 ^ 64 - 1 - 9223372036854775808 : Nat) = 2 ^ 63 - 1 from by decide, hm]
  have hd : (2 : Nat) ^ 63 = 9223372036854775808 := by decide
  rw [hd, wrap_u64_nat _ (by omega)]
  rfl
theorem and_sign_eq (x : Nat) (hx : x < 18446744073709551616) : bits .and .u64 (x : Int) 9223372036854775808 = ((if isNeg x then 9223372036854775808 else 0 : Nat) : Int) := by
  have := u64_and_nat x 9223372036854775808 hx (by decide)
  rw [and_sign x hx] at this
  exact this
theorem andNot_sign (x : Nat) (hx : x < 18446744073709551616) (h : isNeg x = true) : bits .andNot .u64 (x : Int) 9223372036854775808 = ((x - 9223372036854775808 : Nat) : Int) := by
  show IntKind.u64.wrap ((BitVec.ofInt 64 (x : Int) &&& ~~~ BitVec.ofInt 64 ((9223372036854775808 : Nat) : Int)).toNat : Int) = _
  have hm := Nat.and_two_pow_sub_one_eq_mod x 63
  rw [BitVec.toNat_and, BitVec.toNat_not, ofInt_u64 x hx, ofInt_u64 _ (by decide), show (2 ^ 64 - 1 - 9223372036854775808 : Nat) = 2 ^ 63 - 1 from by decide, hm]
  have hd : (2 : Nat) ^ 63 = 9223372036854775808 := by decide
  rw [hd, wrap_u64_nat _ (by omega)]
  rcases word_parts x hx with ⟨h1, h2, h3⟩ | ⟨h1, h2, h3⟩
  · have e : x % 9223372036854775808 = x - 9223372036854775808 := by omega
    rw [e]
  · rw [h] at h1; cases h1
end Go.Proofs.Ytcljocmaojfhhaa

namespace Go.Proofs.Ytcljocmaojfhhaa
open Go.RowKit

theorem run_float64bits (x : Nat) (w : World) : (callFunc 27 #[.float .f64 x]).run Try.prog w = .ok (.value (.int .u64 (x : Int))) w := by
  rw [run_callFunc_extern (e := Extern.MathFloatBits.float64bits) Try.func27 (by kernel_rfl) (by kernel_rfl) (by kernel_rfl) (by kernel_rfl)]
  rfl
theorem run_neg_float (x : Nat) (w : World) : (Op.unary .neg (.float .f64 x)).run Try.prog w = .ok (.float .f64 (Op.negFloat .f64 x)) w := rfl

theorem xor_max_int (x : Nat) (hx : x < 18446744073709551616) : bits .xor .u64 18446744073709551615 (x : Int) = ((18446744073709551615 - x : Nat) : Int) := u64_not_nat x hx

def sgnC (s t : Bool) : Int := if s == t then 0 else if s then -1 else 1

def maxN (x y : Nat) : Nat := if cmpN x y < 0 then y else x
def minN (x y : Nat) : Nat := if cmpN x y > 0 then y else x

end Go.Proofs.Ytcljocmaojfhhaa

namespace Go.Proofs.Ytcljocmaojfhhaa
open Go.RowKit

end Go.Proofs.Ytcljocmaojfhhaa

namespace Go.Proofs.Ytcljocmaojfhhaa
open Go.RowKit

/-- A digit of sixteen. -/
def hx (n : Nat) : UInt8 := if n < 10 then UInt8.ofNat (48 + n) else UInt8.ofNat (87 + n)
/-- A byte in quotes. -/
def qb (c : UInt8) : List UInt8 :=
  if c.toNat < 32 ∨ 126 < c.toNat then [92, 120, hx (c.toNat / 16), hx (c.toNat % 16)] else if c.toNat = 34 ∨ c.toNat = 92 then [92, c] else [c]
def quoteL (l : List UInt8) : List UInt8 := 34 :: (l.map qb).flatten ++ [34]
theorem qb_len (c : UInt8) : 1 ≤ (qb c).length ∧ (qb c).length ≤ 4 := by
  unfold qb
  split
  · simp
  · split <;> simp
theorem flat_len (l : List UInt8) : (l.map qb).flatten.length ≤ 4 * l.length := by
  induction l with
  | nil => simp
  | cons c r ih =>
    have := (qb_len c).2
    rw [List.map_cons, List.flatten_cons, List.length_append, List.length_cons]
    omega
theorem flat_snoc (s : ByteArray) (k : Nat) (h : k < s.size) : ((s.data.toList.take (k + 1)).map qb).flatten = ((s.data.toList.take k).map qb).flatten ++ qb s[k] := by
  rw [List.take_succ_eq_append_getElem (by simpa using h), List.map_append, List.flatten_append]
  simp; rfl

theorem hexidx0 (W : World) : (Instr.index 9 (.string ⟨#[48, 49, 50, 51, 52, 53, 54, 55, 56, 57, 97, 98, 99, 100, 101, 102]⟩) (.int .u8 0)).run Try.prog W = .ok (.int .u8 48) W := by kernel_rfl
theorem hexidx1 (W : World) : (Instr.index 9 (.string ⟨#[48, 49, 50, 51, 52, 53, 54, 55, 56, 57, 97, 98, 99, 100, 101, 102]⟩) (.int .u8 1)).run Try.prog W = .ok (.int .u8 49) W := by kernel_rfl
theorem hexidx2 (W : World) : (Instr.index 9 (.string ⟨#[48, 49, 50, 51, 52, 53, 54, 55, 56, 57, 97, 98, 99, 100, 101, 102]⟩) (.int .u8 2)).run Try.prog W = .ok (.int .u8 50) W := by kernel_rfl
theorem hexidx3 (W : World) : (Instr.index 9 (.string ⟨#[48, 49, 50, 51, 52, 53, 54, 55, 56, 57, 97, 98, 99, 100, 101, 102]⟩) (.int .u8 3)).run Try.prog W = .ok (.int .u8 51) W := by kernel_rfl
theorem hexidx4 (W : World) : (Instr.index 9 (.string ⟨#[48, 49, 50, 51, 52, 53, 54, 55, 56, 57, 97, 98, 99, 100, 101, 102]⟩) (.int .u8 4)).run Try.prog W = .ok (.int .u8 52) W := by kernel_rfl
theorem hexidx5 (W : World) : (Instr.index 9 (.string ⟨#[48, 49, 50, 51, 52, 53, 54, 55, 56, 57, 97, 98, 99, 100, 101, 102]⟩) (.int .u8 5)).run Try.prog W = .ok (.int .u8 53) W := by kernel_rfl
theorem hexidx6 (W : World) : (Instr.index 9 (.string ⟨#[48, 49, 50, 51, 52, 53, 54, 55, 56, 57, 97, 98, 99, 100, 101, 102]⟩) (.int .u8 6)).run Try.prog W = .ok (.int .u8 54) W := by kernel_rfl
theorem hexidx7 (W : World) : (Instr.index 9 (.string ⟨#[48, 49, 50, 51, 52, 53, 54, 55, 56, 57, 97, 98, 99, 100, 101, 102]⟩) (.int .u8 7)).run Try.prog W = .ok (.int .u8 55) W := by kernel_rfl
theorem hexidx8 (W : World) : (Instr.index 9 (.string ⟨#[48, 49, 50, 51, 52, 53, 54, 55, 56, 57, 97, 98, 99, 100, 101, 102]⟩) (.int .u8 8)).run Try.prog W = .ok (.int .u8 56) W := by kernel_rfl
theorem hexidx9 (W : World) : (Instr.index 9 (.string ⟨#[48, 49, 50, 51, 52, 53, 54, 55, 56, 57, 97, 98, 99, 100, 101, 102]⟩) (.int .u8 9)).run Try.prog W = .ok (.int .u8 57) W := by kernel_rfl
theorem hexidx10 (W : World) : (Instr.index 9 (.string ⟨#[48, 49, 50, 51, 52, 53, 54, 55, 56, 57, 97, 98, 99, 100, 101, 102]⟩) (.int .u8 10)).run Try.prog W = .ok (.int .u8 97) W := by kernel_rfl
theorem hexidx11 (W : World) : (Instr.index 9 (.string ⟨#[48, 49, 50, 51, 52, 53, 54, 55, 56, 57, 97, 98, 99, 100, 101, 102]⟩) (.int .u8 11)).run Try.prog W = .ok (.int .u8 98) W := by kernel_rfl
theorem hexidx12 (W : World) : (Instr.index 9 (.string ⟨#[48, 49, 50, 51, 52, 53, 54, 55, 56, 57, 97, 98, 99, 100, 101, 102]⟩) (.int .u8 12)).run Try.prog W = .ok (.int .u8 99) W := by kernel_rfl
theorem hexidx13 (W : World) : (Instr.index 9 (.string ⟨#[48, 49, 50, 51, 52, 53, 54, 55, 56, 57, 97, 98, 99, 100, 101, 102]⟩) (.int .u8 13)).run Try.prog W = .ok (.int .u8 100) W := by kernel_rfl
theorem hexidx14 (W : World) : (Instr.index 9 (.string ⟨#[48, 49, 50, 51, 52, 53, 54, 55, 56, 57, 97, 98, 99, 100, 101, 102]⟩) (.int .u8 14)).run Try.prog W = .ok (.int .u8 101) W := by kernel_rfl
theorem hexidx15 (W : World) : (Instr.index 9 (.string ⟨#[48, 49, 50, 51, 52, 53, 54, 55, 56, 57, 97, 98, 99, 100, 101, 102]⟩) (.int .u8 15)).run Try.prog W = .ok (.int .u8 102) W := by kernel_rfl
theorem hexidx (n : Nat) (h : n < 16) (W : World) : (Instr.index 9 (.string ⟨#[48, 49, 50, 51, 52, 53, 54, 55, 56, 57, 97, 98, 99, 100, 101, 102]⟩) (.int .u8 (n : Int))).run Try.prog W = .ok (.int .u8 ((hx n).toNat : Int)) W := by
  match n, h with
  | 0, _ => exact hexidx0 W
  | 1, _ => exact hexidx1 W
  | 2, _ => exact hexidx2 W
  | 3, _ => exact hexidx3 W
  | 4, _ => exact hexidx4 W
  | 5, _ => exact hexidx5 W
  | 6, _ => exact hexidx6 W
  | 7, _ => exact hexidx7 W
  | 8, _ => exact hexidx8 W
  | 9, _ => exact hexidx9 W
  | 10, _ => exact hexidx10 W
  | 11, _ => exact hexidx11 W
  | 12, _ => exact hexidx12 W
  | 13, _ => exact hexidx13 W
  | 14, _ => exact hexidx14 W
  | 15, _ => exact hexidx15 W
  | n + 16, h => omega
theorem and_15 : ∀ c : Nat, c < 256 → bits .and .u8 (c : Int) 15 = ((c % 16 : Nat) : Int) := by decide +kernel

end Go.Proofs.Ytcljocmaojfhhaa

namespace Go.Proofs.Ytcljocmaojfhhaa
open Go.RowKit

/-! ### The reader's steps, of its whole block -/
/-! ### Digits -/
/-- The worth of a digit of sixteen. -/
def hexv (c : Nat) : Option Nat := if 97 ≤ c ∧ c ≤ 102 then some (c - 87) else if 65 ≤ c ∧ c ≤ 70 then some (c - 55) else if 48 ≤ c ∧ c ≤ 57 then some (c - 48) else none

/-! ### What stands behind a backslash -/
def escx : List UInt8 → Option (UInt8 × Nat)
  | a :: b :: _ => (hexv a.toNat).bind fun x => (hexv b.toNat).map fun y => (UInt8.ofNat (16 * x + y), 3)
  | _ => none
def esc : List UInt8 → Option (UInt8 × Nat)
  | [] => none
  | c :: r => if c.toNat = 34 ∨ c.toNat = 92 then some (c, 1) else if c.toNat = 120 then escx r else none

theorem escx_cons (a b : UInt8) (t : List UInt8) : escx (a :: b :: t) = (hexv a.toNat).bind fun x => (hexv b.toNat).map fun y => (UInt8.ofNat (16 * x + y), 3) := rfl
theorem hexv_lt {c v : Nat} (h : hexv c = some v) : v < 16 := by
  unfold hexv at h
  split at h
  · injection h; omega
  · split at h
    · injection h; omega
    · split at h
      · injection h; omega
      · cases h

theorem grown_trans {a b c : World} {p : Nat} (h : a.grownBy b (some p)) (k : b.grownBy c (some p)) : a.grownBy c (some p) :=
  ⟨k.os.trans h.os, k.tape.trans h.tape, k.output.trans h.output, Nat.le_trans h.size k.size, fun i hi hne => (k.block i (Nat.lt_of_lt_of_le hi h.size) hne).trans (h.block i hi hne)⟩

theorem or_nib (x y : Nat) (hx : x < 16) (hy : y < 16) : bits .or .u8 ((x : Int) * 16) (y : Int) = ((UInt8.ofNat (16 * x + y)).toNat : Int) := by
  have h : ∀ x < 16, ∀ y < 16, bits .or .u8 (((x * 16 : Nat) : Int)) ((y : Nat) : Int) = ((16 * x + y : Nat) : Int) := by decide +kernel
  rw [show ((x : Int) * 16) = ((x * 16 : Nat) : Int) from by omega, h x hx y hy, u8_of _ (by omega)]

/-! ### What stands in quotes, behind the first of them -/
theorem esc_pos {l : List UInt8} {c : UInt8} {n : Nat} (h : esc l = some (c, n)) : 1 ≤ n ∧ n ≤ l.length := by
  cases l with
  | nil => cases h
  | cons a r =>
    rw [esc] at h
    split at h
    · injection h with h; injection h with _ h; subst h; simp
    · split at h
      · cases r with
        | nil => cases h
        | cons b t =>
          cases t with
          | nil => cases h
          | cons d t =>
            rw [escx_cons] at h
            cases hx : hexv b.toNat with
            | none => rw [hx] at h; cases h
            | some x =>
              cases hy : hexv d.toNat with
              | none => rw [hx, hy] at h; cases h
              | some y =>
                rw [hx, hy] at h
                injection h with h; injection h with _ h; subst h; simp
      · cases h

def uq (l : List UInt8) : Option (List UInt8 × Nat) :=
  match l with
  | [] => none
  | c :: r => if c.toNat = 34 then some ([], 1) else if c.toNat = 92 then
      match _h : esc r with
      | some (d, n) => (uq (r.drop n)).map fun x => (d :: x.1, x.2 + n + 1)
      | none => none
    else if 32 ≤ c.toNat ∧ c.toNat ≤ 126 then (uq r).map fun x => (c :: x.1, x.2 + 1) else none
  termination_by l.length
  decreasing_by
    · simp; omega
    · simp
/-- acc has been gathered out of n bytes; the rest says x. -/
def onto (acc : List UInt8) (n : Nat) (x : Option (List UInt8 × Nat)) : Option (List UInt8 × Nat) := x.map fun x => (acc ++ x.1, n + x.2)

theorem uq_end (c : UInt8) (r : List UInt8) (h : c.toNat = 34) : uq (c :: r) = some ([], 1) := by rw [uq, if_pos h]
theorem uq_esc (c : UInt8) (r : List UInt8) (d : UInt8) (n : Nat) (h : c.toNat = 92) (he : esc r = some (d, n)) (acc : List UInt8) (m : Nat) : onto acc m (uq (c :: r)) = onto (acc ++ [d]) (m + 1 + n) (uq (r.drop n)) := by
  rw [uq, if_neg (by omega), if_pos h]
  split
  · rename_i d' n' h'
    rw [he] at h'
    injection h' with h'
    injection h' with h1 h2
    subst h1; subst h2
    unfold onto
    cases uq (r.drop n) with
    | none => rfl
    | some x =>
      simp
      omega
  · rename_i h'
    rw [he] at h'
    cases h'
theorem uq_bad (c : UInt8) (r : List UInt8) (h : c.toNat = 92) (he : esc r = none) : uq (c :: r) = none := by
  rw [uq, if_neg (by omega), if_pos h]
  split
  · rename_i d' n' h'
    rw [he] at h'
    cases h'
  · rfl
theorem uq_plain (c : UInt8) (r : List UInt8) (h1 : c.toNat ≠ 34) (h2 : c.toNat ≠ 92) (h : 32 ≤ c.toNat ∧ c.toNat ≤ 126) (acc : List UInt8) (m : Nat) : onto acc m (uq (c :: r)) = onto (acc ++ [c]) (m + 1) (uq r) := by
  rw [uq, if_neg h1, if_neg h2, if_pos h]
  unfold onto
  cases uq r with
  | none => rfl
  | some x =>
    simp
    omega
theorem uq_not (c : UInt8) (r : List UInt8) (h1 : c.toNat ≠ 34) (h2 : c.toNat ≠ 92) (h : ¬ (32 ≤ c.toNat ∧ c.toNat ≤ 126)) : uq (c :: r) = none := by
  rw [uq, if_neg h1, if_neg h2, if_neg h]

def unq : List UInt8 → Option (List UInt8 × Nat)
  | [] => none
  | c :: r => if c.toNat = 34 then onto [] 1 (uq r) else none

end Go.Proofs.Ytcljocmaojfhhaa

namespace Go.Proofs.Ytcljocmaojfhhaa
open Go.RowKit

/-! ### Get -/
def getL (l : List UInt8) : Nat := l.foldl (fun a c => a * 256 + c.toNat) 0
theorem getL_snoc (s : ByteArray) (k : Nat) (h : k < s.size) : getL (s.data.toList.take (k + 1)) = getL (s.data.toList.take k) * 256 + s[k].toNat := by
  unfold getL
  rw [List.take_succ_eq_append_getElem (by simpa using h), List.foldl_append]
  rfl

/-! ### Number -/
def digs : List UInt8 → Nat → Option Nat
  | [], a => some a
  | c :: r, a => if 48 ≤ c.toNat ∧ c.toNat ≤ 57 then digs r (a * 10 + (c.toNat - 48)) else none
def natL (l : List UInt8) : Option Nat := if l.length < 1 ∨ 16 < l.length ∨ (l.headD 0).toNat = 48 then none else digs l 0

end Go.Proofs.Ytcljocmaojfhhaa

namespace Go.Proofs.Ytcljocmaojfhhaa
open Go.RowKit

theorem be_step7 (v k : Nat) (h : k < 8) : (((be v 8).take k ++ List.replicate (8 - k) (0 : UInt8)).map b8).set k (.int .u8 ((v : Int) / 2 ^ (8 * (7 - k)) % 256)) =
    ((be v 8).take (k + 1) ++ List.replicate (8 - (k + 1)) (0 : UInt8)).map b8 := be_step v 8 k h

theorem run_float64frombits (z : Int) (w : World) : (callFunc 26 #[.int .u64 z]).run Try.prog w = .ok (.value (.float .f64 z.toNat)) w := by
  rw [run_callFunc_extern (e := Extern.MathFloatBits.float64frombits) Try.func26 (by kernel_rfl) (by kernel_rfl) (by kernel_rfl) (by kernel_rfl)]
  rfl
theorem ret_float {a b : Nat} (h : a = b) : Ending.returned (.float .f64 a) = .returned (.float .f64 b) := by rw [h]

def getF (r : Nat) : Nat × Int := if rankN (unrankN r) = r then (unrankN r, 0) else (0, 4)

end Go.Proofs.Ytcljocmaojfhhaa

namespace Go.Proofs.Ytcljocmaojfhhaa
open Go.RowKit

def tz64L : List Int := Lib.deBruijn64tab.map fun (n : Nat) => (n : Int)
/-- The tables that chapter 2's laws read. -/
structure LaidR (w : World) : Prop where
  tz64 : Lib.TabIs Try.prog w "math/bits.deBruijn64tab" .u8 tz64L
  pow10 : Lib.TabIs Try.prog w "internal/strconv.uint64pow10" .u64 Lib.pow10Tab

theorem tz64_at (i : Nat) (hi : i < 64) : tz64L.getD i 0 = (Lib.deBruijn64tab.getD i 0 : Int) := by
  have : ∀ i, i < 64 → tz64L.getD i 0 = (Lib.deBruijn64tab.getD i 0 : Int) := by decide +kernel
  exact this i hi

theorem tz64_idx (x a : Nat) (hx : x < 18446744073709551616) (hx0 : x ≠ 0) (hlow : x &&& (18446744073709551616 - x) = a) :
    IntKind.u64.wrap (bits BinOp.and IntKind.u64 (x : Int) (IntKind.u64.wrap (-(x : Int))) * 285870213051353865) / 288230376151711744 = ((a * 285870213051353865 % 18446744073709551616 / 288230376151711744 : Nat) : Int) := by
  have e1 : IntKind.u64.wrap (-(x : Int)) = ((18446744073709551616 - x : Nat) : Int) := by rw [IntKind.wrap_u64]; omega
  rw [e1, bits_and_u64_nat x _ hx (by omega), hlow, IntKind.wrap_u64]
  omega

/-- All twos out of m. -/
def tzN (m : Nat) : Nat := Lib.ctz 64 m
def oddN (m : Nat) : Nat := m / 2 ^ tzN m

end Go.Proofs.Ytcljocmaojfhhaa

namespace Go.Proofs.Ytcljocmaojfhhaa
open Ieee

/-- To the nearest whole number; between two, the even one. -/
def hround (n g : Nat) : Nat := n / g + if g < 2 * (n % g) ∨ (g = 2 * (n % g) ∧ n / g % 2 = 1) then 1 else 0

theorem hround_mono {n m g : Nat} (_hg : 0 < g) (h : n ≤ m) : hround n g ≤ hround m g := by
  unfold hround
  have hd : n / g ≤ m / g := Nat.div_le_div_right h
  rcases Nat.lt_or_ge (n / g) (m / g) with h1 | h1
  · split <;> split <;> omega
  · have he : n / g = m / g := by omega
    have e1 := Nat.div_add_mod n g
    have e2 := Nat.div_add_mod m g
    rw [he] at e1 ⊢
    have hr : n % g ≤ m % g := by omega
    split
    · rename_i hc
      rw [if_pos (by omega)]
      exact Nat.le_refl _
    · omega
theorem hround_mul (n g : Nat) (hg : 0 < g) : hround (n * g) g = n := by
  unfold hround
  rw [Nat.mul_div_cancel _ hg, Nat.mul_mod_left, if_neg (by omega)]
  rfl
theorem hround_small (n g : Nat) (h : 2 * n < g) : hround n g = 0 := by
  unfold hround
  rw [Nat.div_eq_of_lt (by omega), Nat.mod_eq_of_lt (by omega), if_neg (by omega)]

theorem cut_even (neg : Bool) (n d : Nat) : Toward.even.cut neg n d = hround n (2 ^ d) := by
  have key : ∀ g, n / g + (decide (g < 2 * (n % g)) || (g == 2 * (n % g) && n / g % 2 == 1)).toNat = hround n g := by
    intro g
    unfold hround
    congr 1
    by_cases h1 : g < 2 * (n % g)
    · simp [h1]
    · by_cases h2 : g = 2 * (n % g) ∧ n / g % 2 = 1
      · rw [if_pos (Or.inr h2)]
        have a1 : (g == 2 * (n % g)) = true := by rw [beq_iff_eq]; exact h2.1
        have a2 : (n / g % 2 == 1) = true := by rw [beq_iff_eq]; exact h2.2
        rw [a1, a2]
        simp
      · rw [if_neg (by omega)]
        have a : (g == 2 * (n % g) && n / g % 2 == 1) = false := by
          rw [Bool.eq_false_iff]
          intro e
          rw [Bool.and_eq_true, beq_iff_eq, beq_iff_eq] at e
          exact h2 e
        rw [a, decide_eq_false h1]
        rfl
  have hc : Toward.even.cut neg n d = hround n (1 <<< min d (n.log2 + 2)) := key _
  rw [hc, Nat.one_shiftLeft]
  rcases Nat.le_total d (n.log2 + 2) with h | h
  · rw [Nat.min_eq_left h]
  · rw [Nat.min_eq_right h]
    have h1 : n < 2 ^ (n.log2 + 1) := Nat.lt_log2_self
    have h2 : 2 ^ (n.log2 + 2) = 2 * 2 ^ (n.log2 + 1) := by rw [Nat.pow_succ]; omega
    have h3 : 2 ^ (n.log2 + 2) ≤ 2 ^ d := Nat.pow_le_pow_right (by decide) h
    rw [hround_small _ _ (by omega), hround_small _ _ (by omega)]

/-- The place of the last digit that is kept, and what is kept. -/
def lastP (m : Nat) (p : Int) : Int := max (p + (m.log2 : Int) - 52) (-1074)
def keptN (m : Nat) (p L : Int) : Nat := hround (m * 2 ^ (p - L).toNat) (2 ^ (L - p).toNat)
def rungOf (m : Nat) (p : Int) : Nat := (lastP m p + 1074).toNat * 4503599627370496 + keptN m p (lastP m p)

theorem nearest_eq (neg : Bool) (m : Nat) (p : Int) (h : m ≠ 0) : Ieee.double.nearest neg m p = Ieee.double.word neg (min (rungOf m p) infR) := by
  unfold Format.nearest
  rw [if_neg h, f64_least, f64_binade, f64_inf]
  show Ieee.double.word neg (min ((lastP m p - -1074).toNat * 4503599627370496 + Toward.even.cut neg (m <<< (p - lastP m p).toNat) (lastP m p - p).toNat) infR) = _
  rw [cut_even, Nat.shiftLeft_eq, show lastP m p - -1074 = lastP m p + 1074 from by omega]
  rfl

theorem kept_le (m : Nat) (p L : Int) (h : p + (m.log2 : Int) - 52 ≤ L) : keptN m p L ≤ 9007199254740992 := by
  have hg := Nat.two_pow_pos (L - p).toNat
  have h1 : m ≤ 2 ^ (m.log2 + 1) := Nat.le_of_lt Nat.lt_log2_self
  have h2 : m * 2 ^ (p - L).toNat ≤ 9007199254740992 * 2 ^ (L - p).toNat := by
    refine Nat.le_trans (Nat.mul_le_mul_right _ h1) ?_
    rw [← Nat.pow_add, show (9007199254740992 : Nat) = 2 ^ 53 from rfl, ← Nat.pow_add]
    exact Nat.pow_le_pow_right (by decide) (by omega)
  have := hround_mono hg h2
  rwa [hround_mul _ _ hg] at this
theorem kept_ge (m : Nat) (p L : Int) (hm : m ≠ 0) (h : L ≤ p + (m.log2 : Int) - 52) : 4503599627370496 ≤ keptN m p L := by
  have hg := Nat.two_pow_pos (L - p).toNat
  have h1 : 2 ^ m.log2 ≤ m := Nat.log2_self_le hm
  have h2 : 4503599627370496 * 2 ^ (L - p).toNat ≤ m * 2 ^ (p - L).toNat := by
    refine Nat.le_trans ?_ (Nat.mul_le_mul_right _ h1)
    rw [← Nat.pow_add, show (4503599627370496 : Nat) = 2 ^ 52 from rfl, ← Nat.pow_add]
    exact Nat.pow_le_pow_right (by decide) (by omega)
  have := hround_mono hg h2
  rwa [hround_mul _ _ hg] at this

theorem log2_mono {m n : Nat} (hm : m ≠ 0) (h : m ≤ n) : m.log2 ≤ n.log2 := by
  have h1 : 2 ^ m.log2 ≤ m := Nat.log2_self_le hm
  have h2 : n < 2 ^ (n.log2 + 1) := Nat.lt_log2_self
  rcases Nat.lt_or_ge n.log2 m.log2 with h3 | h3
  · have : 2 ^ (n.log2 + 1) ≤ 2 ^ m.log2 := Nat.pow_le_pow_right (by decide) (by omega)
    omega
  · exact h3

/-- Rounding never turns the order round (one place for both). -/
theorem rungOf_mono (m n : Nat) (p : Int) (hm : m ≠ 0) (h : m ≤ n) : rungOf m p ≤ rungOf n p := by
  have hl := log2_mono hm h
  have hL : lastP m p ≤ lastP n p := by unfold lastP; omega
  have hb : -1074 ≤ lastP m p := by unfold lastP; omega
  unfold rungOf
  by_cases he : lastP m p = lastP n p
  · rw [he]
    have : keptN m p (lastP n p) ≤ keptN n p (lastP n p) := hround_mono (Nat.two_pow_pos _) (Nat.mul_le_mul_right _ h)
    omega
  · have h1 := kept_le m p (lastP m p) (by unfold lastP; omega)
    have h2 : lastP n p = p + (n.log2 : Int) - 52 := by unfold lastP at *; omega
    have h3 := kept_ge n p (lastP n p) (by omega) (by omega)
    omega

/-- What fits stays as it is. -/
theorem rungOf_exact (m : Nat) (p : Int) (hm : m ≠ 0) (h : m < 9007199254740992) (hp : -1074 ≤ p) : magOf (rungOf m p) = m * 2 ^ (p + 1074).toNat := by
  have hlog : m.log2 ≤ 52 := by
    have h1 : 2 ^ m.log2 ≤ m := Nat.log2_self_le hm
    rcases Nat.lt_or_ge 52 m.log2 with h2 | h2
    · have : 2 ^ 53 ≤ 2 ^ m.log2 := Nat.pow_le_pow_right (by decide) h2
      omega
    · exact h2
  have hLp : lastP m p ≤ p := by unfold lastP; omega
  have hb : -1074 ≤ lastP m p := by unfold lastP; omega
  have hk : keptN m p (lastP m p) = m * 2 ^ (p - lastP m p).toNat := by
    unfold keptN
    have := hround_mul (m * 2 ^ (p - lastP m p).toNat) 1 (by decide)
    rw [Nat.mul_one] at this
    rw [show (lastP m p - p).toNat = 0 from by omega]
    exact this
  have hlt : m < 2 ^ (m.log2 + 1) := Nat.lt_log2_self
  have hlt2 : m * 2 ^ (p - lastP m p).toNat < 9007199254740992 := by
    have h1 : m * 2 ^ (p - lastP m p).toNat < 2 ^ (m.log2 + 1) * 2 ^ (p - lastP m p).toNat := Nat.mul_lt_mul_of_pos_right hlt (Nat.two_pow_pos _)
    rw [← Nat.pow_add] at h1
    have h2 : 2 ^ (m.log2 + 1 + (p - lastP m p).toNat) ≤ 2 ^ 53 := Nat.pow_le_pow_right (by decide) (by unfold lastP; omega)
    omega
  unfold rungOf
  rw [hk]
  by_cases hL : lastP m p = -1074
  · rw [hL] at hlt2 ⊢
    rw [show (-1074 + 1074 : Int).toNat = 0 from rfl, Nat.zero_mul, Nat.zero_add, show p - -1074 = p + 1074 from by omega] at *
    unfold magOf
    split
    · rfl
    · rw [show m * 2 ^ (p + 1074).toNat / 4503599627370496 - 1 = 0 from by omega]
      omega
  · have hLe : lastP m p = p + (m.log2 : Int) - 52 := by unfold lastP at *; omega
    have hge := kept_ge m p (lastP m p) hm (by omega)
    rw [hk] at hge
    obtain ⟨x, hx⟩ : ∃ x, x = m * 2 ^ (p - lastP m p).toNat := ⟨_, rfl⟩
    obtain ⟨a, ha⟩ : ∃ a, a = (lastP m p + 1074).toNat := ⟨_, rfl⟩
    have hsum : m * 2 ^ (p + 1074).toNat = x * 2 ^ a := by
      rw [hx, Nat.mul_assoc, ← Nat.pow_add, show (p + 1074).toNat = (p - lastP m p).toNat + a from by omega]
    rw [hsum, ← ha, ← hx]
    rw [← hx] at hge hlt2
    unfold magOf
    rw [if_neg (by omega), show (a * 4503599627370496 + x) / 4503599627370496 - 1 = a from by omega, show 4503599627370496 + (a * 4503599627370496 + x) % 4503599627370496 = x from by omega]

theorem hround_scale (n g c : Nat) (hc : 0 < c) : hround (n * c) (g * c) = hround n g := by
  unfold hround
  rw [Nat.mul_div_mul_right _ _ hc, Nat.mul_mod_mul_right]
  have e1 : g * c < 2 * (n % g * c) ↔ g < 2 * (n % g) := by rw [← Nat.mul_assoc]; exact Nat.mul_lt_mul_right hc
  have e2 : g * c = 2 * (n % g * c) ↔ g = 2 * (n % g) := by
    rw [← Nat.mul_assoc]
    exact ⟨fun h => Nat.eq_of_mul_eq_mul_right hc h, fun h => by rw [← h]⟩
  simp only [e1, e2]

/-- The same value at another place is rounded the same. -/
theorem rungOf_scale (m k : Nat) (p : Int) (hm : m ≠ 0) : rungOf (m * 2 ^ k) p = rungOf m (p + (k : Int)) := by
  have hm2 : m * 2 ^ k ≠ 0 := Nat.mul_ne_zero hm (Nat.ne_of_gt (Nat.two_pow_pos _))
  have hlog : (m * 2 ^ k).log2 = m.log2 + k := by
    rw [Nat.log2_eq_iff hm2]
    have h1 : 2 ^ m.log2 ≤ m := Nat.log2_self_le hm
    have h2 : m < 2 ^ (m.log2 + 1) := Nat.lt_log2_self
    constructor
    · rw [Nat.pow_add]; exact Nat.mul_le_mul_right _ h1
    · rw [show m.log2 + k + 1 = (m.log2 + 1) + k from by omega, Nat.pow_add]
      exact Nat.mul_lt_mul_of_pos_right h2 (Nat.two_pow_pos _)
  have hL : lastP (m * 2 ^ k) p = lastP m (p + (k : Int)) := by unfold lastP; rw [hlog]; omega
  unfold rungOf
  rw [hL]
  congr 1
  generalize lastP m (p + (k : Int)) = L
  unfold keptN
  obtain ⟨c, h1, h2⟩ : ∃ c : Nat, k + (p - L).toNat = (p + (k : Int) - L).toNat + c ∧ (L - p).toNat = (L - (p + (k : Int))).toNat + c := ⟨(L - p).toNat - (L - (p + (k : Int))).toNat, by omega, by omega⟩
  rw [Nat.mul_assoc, ← Nat.pow_add, h1, h2, Nat.pow_add, Nat.pow_add, ← Nat.mul_assoc]
  exact hround_scale _ _ _ (Nat.two_pow_pos _)
end Go.Proofs.Ytcljocmaojfhhaa

namespace Go.Proofs.Ytcljocmaojfhhaa
open Ieee

/-- The rung of a product of two magnitudes (in units of the least one). -/
def mulR (a b : Nat) : Nat := if a * b = 0 then 0 else min (rungOf (a * b) (-2148)) infR

theorem mulR_mono {a b c d : Nat} (h1 : a ≤ c) (h2 : b ≤ d) : mulR a b ≤ mulR c d := by
  have h := Nat.mul_le_mul h1 h2
  unfold mulR
  by_cases h0 : a * b = 0
  · rw [if_pos h0]; exact Nat.zero_le _
  · have := rungOf_mono (a * b) (c * d) (-2148) h0 h
    rw [if_neg h0, if_neg (by omega)]
    omega

theorem mul_fin (x y : Nat) (hx : rung x < infR) (hy : rung y < infR) :
    Ieee.double.mul x y = some (Ieee.double.word (isNeg x ^^ isNeg y) (mulR (magOf (rung x)) (magOf (rung y)))) := by
  obtain ⟨m, k, e1, f1⟩ := read_fin x hx
  obtain ⟨n, l, e2, f2⟩ := read_fin y hy
  unfold Format.mul
  rw [e1, e2]
  show some (Ieee.double.nearest (isNeg x ^^ isNeg y) (m * n) ((-1074 + (k : Int)) + (-1074 + (l : Int)))) = _
  congr 1
  have hp : magOf (rung x) * magOf (rung y) = (m * n) * 2 ^ (k + l) := by
    rw [← f1, ← f2, Nat.pow_add]
    rw [Nat.mul_assoc, Nat.mul_assoc, Nat.mul_left_comm (2 ^ k)]
  unfold mulR
  by_cases h0 : m * n = 0
  · rw [h0, hp, h0, Nat.zero_mul, if_pos rfl]
    unfold Format.nearest
    rw [if_pos rfl]
  · rw [nearest_eq _ _ _ h0, hp, if_neg (Nat.mul_ne_zero h0 (Nat.ne_of_gt (Nat.two_pow_pos _))), rungOf_scale _ _ _ h0]
    congr 3
    omega

theorem cut_down (way : Toward) (hw : way = .zero ∨ way = .down) (n d : Nat) : way.cut false n d = n / 2 ^ d := by
  have key : way.cut false n d = n / (1 <<< min d (n.log2 + 2)) := by
    rcases hw with rfl | rfl
    · rfl
    · show n / _ + ((false && _ : Bool)).toNat = _
      rw [Bool.false_and]
      rfl
  rw [key, Nat.one_shiftLeft]
  rcases Nat.le_total d (n.log2 + 2) with h | h
  · rw [Nat.min_eq_left h]
  · rw [Nat.min_eq_right h]
    have h1 : n < 2 ^ (n.log2 + 1) := Nat.lt_log2_self
    have h2 : 2 ^ (n.log2 + 2) = 2 * 2 ^ (n.log2 + 1) := by rw [Nat.pow_succ]; omega
    have h3 : 2 ^ (n.log2 + 2) ≤ 2 ^ d := Nat.pow_le_pow_right (by decide) h
    rw [Nat.div_eq_of_lt (by omega), Nat.div_eq_of_lt (by omega)]

/-- The whole part of a number that is not negative. -/
theorem whole_fin (way : Toward) (hw : way = .zero ∨ way = .down) (x : Nat) (hx : rung x < infR) (h0 : isNeg x = false) :
    (Ieee.double.read x).toInt way = some ((magOf (rung x) / 2 ^ 1074 : Nat) : Int) := by
  obtain ⟨m, k, e, f⟩ := read_fin x hx
  rw [e, h0, ← f]
  show some (signed false (way.cut false (m <<< (-1074 + (k : Int)).toNat) (-(-1074 + (k : Int))).toNat) 0) = _
  rw [cut_down way hw, Nat.shiftLeft_eq]
  have h : m * 2 ^ (-1074 + (k : Int)).toNat / 2 ^ (-(-1074 + (k : Int))).toNat = m * 2 ^ k / 2 ^ 1074 := by
    rcases Nat.le_total k 1074 with h1 | h1
    · rw [show (-1074 + (k : Int)).toNat = 0 from by omega, show (-(-1074 + (k : Int))).toNat = 1074 - k from by omega, Nat.pow_zero, Nat.mul_one]
      have : (2 : Nat) ^ 1074 = 2 ^ (1074 - k) * 2 ^ k := by rw [← Nat.pow_add, show 1074 - k + k = 1074 from by omega]
      rw [this, Nat.mul_div_mul_right _ _ (Nat.two_pow_pos _)]
    · rw [show (-1074 + (k : Int)).toNat = k - 1074 from by omega, show (-(-1074 + (k : Int))).toNat = 0 from by omega, Nat.pow_zero, Nat.div_one]
      have h5 := Nat.pow_add 2 (k - 1074) 1074
      rw [show k - 1074 + 1074 = k from by omega] at h5
      have h6 := Nat.two_pow_pos 1074
      rw [h5]
      generalize 2 ^ 1074 = c at *
      rw [← Nat.mul_assoc, Nat.mul_div_cancel _ h6]
  rw [h]
  unfold signed
  simp only [Bool.false_eq_true, if_false, Nat.shiftLeft_zero]
end Go.Proofs.Ytcljocmaojfhhaa

namespace Go.Proofs.Ytcljocmaojfhhaa
open Go.RowKit Ieee

theorem leq_eq (x y : Nat) : (FloatKind.f64.format.order x y == some .lt || FloatKind.f64.format.order x y == some .eq) = (!isN x && !isN y && decide (nkey x ≤ nkey y)) := by
  rw [lss_eq, eql_eq]
  cases isN x <;> cases isN y <;> simp
  rw [Bool.eq_iff_iff]
  simp
  omega
theorem geq_eq (x y : Nat) : (FloatKind.f64.format.order x y == some .gt || FloatKind.f64.format.order x y == some .eq) = (!isN x && !isN y && decide (nkey y ≤ nkey x)) := by
  rw [gtr_eq, eql_eq]
  cases isN x <;> cases isN y <;> simp
  rw [Bool.eq_iff_iff]
  simp
  omega

/-- The rung of float64(m) of a natural number. -/
def fltR (m : Nat) : Nat := if m = 0 then 0 else rungOf m 0
theorem rungOf_top : rungOf 9223372036854775808 0 = 4890909195324358656 := by decide +kernel
theorem fltR_le (m : Nat) (h : m ≤ 9223372036854775808) : fltR m ≤ 4890909195324358656 := by
  unfold fltR
  split
  · omega
  · rename_i h0
    rw [← rungOf_top]
    exact rungOf_mono m _ 0 h0 h
theorem fltR_mono {m n : Nat} (h : m ≤ n) : fltR m ≤ fltR n := by
  unfold fltR
  by_cases h0 : m = 0
  · rw [if_pos h0]; exact Nat.zero_le _
  · rw [if_neg h0, if_neg (by omega)]
    exact rungOf_mono m n 0 h0 h
theorem fltR_mag (m : Nat) (h : m < 9007199254740992) : magOf (fltR m) = m * 2 ^ 1074 := by
  unfold fltR
  by_cases h0 : m = 0
  · generalize 2 ^ 1074 = U
    rw [if_pos h0, h0, Nat.zero_mul]; exact (magOf_zero 0).2 rfl
  · rw [if_neg h0, rungOf_exact m 0 h0 h (by decide), show ((0 : Int) + 1074).toNat = 1074 from rfl]
theorem floatOfInt_nat (m : Nat) (h : m ≤ 9223372036854775808) : floatOfInt .f64 (m : Int) = fltR m := by
  have hl := fltR_le m h
  show Ieee.double.nearest (decide ((m : Int) < 0)) (m : Int).natAbs 0 = _
  rw [decide_eq_false (by omega), Int.natAbs_natCast]
  by_cases h0 : m = 0
  · subst h0; rfl
  · unfold fltR at hl ⊢
    rw [if_neg h0] at hl ⊢
    rw [nearest_eq _ _ _ h0, Nat.min_eq_left (by unfold infR; omega)]
    rfl
theorem floatOfInt_neg (m : Nat) (h : m ≤ 9223372036854775808) (h0 : m ≠ 0) : floatOfInt .f64 (-(m : Int)) = 9223372036854775808 + fltR m := by
  have hl := fltR_le m h
  show Ieee.double.nearest (decide (-(m : Int) < 0)) (-(m : Int)).natAbs 0 = _
  rw [decide_eq_true (by omega), Int.natAbs_neg, Int.natAbs_natCast]
  unfold fltR at hl ⊢
  rw [if_neg h0] at hl ⊢
  rw [nearest_eq _ _ _ h0, Nat.min_eq_left (by unfold infR; omega)]
  rfl
theorem fltR_pos (m : Nat) (h : m ≤ 9223372036854775808) (h0 : m ≠ 0) : 4607182418800017408 ≤ fltR m := by
  have h1 : fltR 1 = 4607182418800017408 := by decide +kernel
  rw [← h1]
  exact fltR_mono (by omega)

theorem small_parts (r : Nat) (h : r < 9223372036854775808) : isNeg r = false ∧ rung r = r := by
  unfold isNeg rung
  rw [show r / 9223372036854775808 % 2 = 0 from by omega]
  exact ⟨rfl, by omega⟩
theorem isN_small (r : Nat) (h : r ≤ infR) : isN r = false := by
  have hc : infR = 9218868437227405312 := rfl
  unfold isN
  rw [(small_parts r (by omega)).2]
  exact decide_eq_false (by omega)
theorem nkey_small (r : Nat) (h : r < 9223372036854775808) : nkey r = (r : Int) := by
  unfold nkey
  rw [(small_parts r h).1, (small_parts r h).2]
  rfl

/-- The rung of float64(m) times x (m above 0, x above 0). -/
def farR (m x : Nat) : Nat := if rung x = infR then infR else mulR (m * 2 ^ 1074) (magOf (rung x))
theorem farR_le (m x : Nat) : farR m x ≤ infR := by
  unfold farR
  split
  · exact Nat.le_refl _
  · unfold mulR; split
    · exact Nat.zero_le _
    · exact Nat.min_le_right _ _
theorem word_pp (r : Nat) : Ieee.double.word (false ^^ false) r = r := rfl
theorem mul_far (m x : Nat) (h0 : m ≠ 0) (hm : m ≤ 281474976710656) (hx : isN x = false) (hs : isNeg x = false) :
    floatBits .mul .f64 (fltR m) x = some (farR m x) := by
  show Ieee.double.mul (fltR m) x = _
  have hc : infR = 9218868437227405312 := rfl
  have hi : rung x ≤ infR := by simpa [isN] using hx
  have hl := fltR_le m (by omega)
  obtain ⟨p1, p2⟩ := small_parts (fltR m) (by omega)
  have hmag := fltR_mag m (by omega)
  unfold farR
  by_cases h : rung x = infR
  · rw [if_pos h]
    obtain ⟨a, k, e1, f1⟩ := read_fin (fltR m) (by omega)
    have ha : a ≠ 0 := by
      rintro rfl
      rw [p2, hmag, Nat.zero_mul] at f1
      have hp := Nat.two_pow_pos 1074
      have := Nat.mul_ne_zero h0 (Nat.ne_of_gt hp)
      generalize m * 2 ^ 1074 = z at *
      exact this f1.symm
    unfold Format.mul
    rw [e1, read_inf x h, p1, hs]
    show Option.map _ (if a = 0 then none else some (Datum.infinity (false ^^ false))) = _
    rw [if_neg ha]
    show some (Ieee.double.word (false ^^ false) Ieee.double.infRung) = _
    rw [word_pp, f64_inf]
  · rw [if_neg h, mul_fin (fltR m) x (by omega) (by omega), p1, p2, hs, hmag, word_pp]

theorem int_far (r : Nat) (h : r < 4823355200913801216) : floatToIntVal .f64 r .i64 = some ((magOf r / 2 ^ 1074 : Nat) : Int) ∧ magOf r / 2 ^ 1074 < 281474976710656 := by
  have hlt : magOf r / 2 ^ 1074 < 281474976710656 := by
    have h1 : magOf r < magOf 4823355200913801216 := (magOf_lt _ _).2 h
    have h2 : magOf 4823355200913801216 = 281474976710656 * 2 ^ 1074 := by decide +kernel
    rw [h2] at h1
    have hp := Nat.two_pow_pos 1074
    clear h2
    generalize 2 ^ 1074 = U at *
    exact (Nat.div_lt_iff_lt_mul hp).2 h1
  refine ⟨?_, hlt⟩
  obtain ⟨p1, p2⟩ := small_parts r (by omega)
  have hw := whole_fin .zero (Or.inl rfl) r (by unfold infR; omega) p1
  rw [p2] at hw
  unfold floatToIntVal
  show (match (Ieee.double.read r).toInt .zero with | some n => _ | none => _) = _
  rw [hw]
  generalize magOf r / 2 ^ 1074 = q at *
  show (if IntKind.i64.min ≤ (q : Int) ∧ (q : Int) ≤ IntKind.i64.max then some (q : Int) else none) = _
  have e1 : IntKind.i64.min = -9223372036854775808 := by decide
  have e2 : IntKind.i64.max = 9223372036854775807 := by decide
  rw [e1, e2, if_pos ⟨by omega, by omega⟩]

/-- How far a clock goes. -/
def capN (n : Int) : Nat := if n < 0 then 0 else if 281474976710656 < n then 281474976710656 else n.toNat
def goesN (m x : Nat) : Nat := if 4823355200913801216 ≤ farR m x then 281474976710656 else magOf (farR m x) / 2 ^ 1074
def scaleN (m x : Nat) : Nat := if isN x then m else if m = 0 then 0 else if nkey x ≤ 0 then 0 else goesN m x

theorem goesN_le (m x : Nat) : goesN m x ≤ 281474976710656 := by
  unfold goesN
  split
  · exact Nat.le_refl _
  · rename_i h
    exact Nat.le_of_lt (int_far _ (by omega)).2
theorem farR_mono {m n x y : Nat} (h : m ≤ n) (_hx : rung x ≤ infR) (hy : rung y ≤ infR) (hxy : rung x ≤ rung y) : farR m x ≤ farR n y := by
  by_cases h1 : rung y = infR
  · have : farR n y = infR := by unfold farR; rw [if_pos h1]
    rw [this]
    exact farR_le m x
  · unfold farR
    rw [if_neg h1, if_neg (by omega)]
    refine mulR_mono (Nat.mul_le_mul_right _ h) ?_
    rcases Nat.lt_or_ge (rung x) (rung y) with h2 | h2
    · exact Nat.le_of_lt (magOf_mono h2)
    · rw [show rung x = rung y from by omega]; exact Nat.le_refl _
theorem goesN_mono {m n x y : Nat} (h : farR m x ≤ farR n y) : goesN m x ≤ goesN n y := by
  by_cases h1 : 4823355200913801216 ≤ farR n y
  · have : goesN n y = 281474976710656 := by unfold goesN; rw [if_pos h1]
    rw [this]
    exact goesN_le m x
  · unfold goesN
    rw [if_neg h1, if_neg (by omega)]
    refine Nat.div_le_div_right ?_
    rcases Nat.lt_or_ge (farR m x) (farR n y) with h2 | h2
    · exact Nat.le_of_lt (magOf_mono h2)
    · rw [show farR m x = farR n y from by omega]; exact Nat.le_refl _
theorem scaleN_le (m x : Nat) (h : m ≤ 281474976710656) : scaleN m x ≤ 281474976710656 := by
  unfold scaleN
  split
  · exact h
  · split
    · omega
    · split
      · omega
      · exact goesN_le m x

/-- A longer time goes further. -/
theorem scaleN_longer {m n : Nat} (x : Nat) (h : m ≤ n) : scaleN m x ≤ scaleN n x := by
  unfold scaleN
  cases hx : isN x
  · simp only [Bool.false_eq_true, if_false]
    by_cases h0 : m = 0
    · rw [if_pos h0]; exact Nat.zero_le _
    · rw [if_neg h0, if_neg (show ¬ n = 0 by omega)]
      split
      · exact Nat.le_refl _
      · have hi : rung x ≤ infR := by simpa [isN] using hx
        exact goesN_mono (farR_mono h hi hi (Nat.le_refl _))
  · simp only [if_true]; exact h
/-- A faster clock goes further. -/
theorem scaleN_faster (m : Nat) {x y : Nat} (hx : isN x = false) (hy : isN y = false) (h : nkey x ≤ nkey y) : scaleN m x ≤ scaleN m y := by
  unfold scaleN
  rw [hx, hy]
  simp only [Bool.false_eq_true, if_false]
  by_cases h0 : m = 0
  · rw [if_pos h0]; exact Nat.zero_le _
  · rw [if_neg h0, if_neg h0]
    by_cases h1 : nkey x ≤ 0
    · rw [if_pos h1]; exact Nat.zero_le _
    · rw [if_neg h1, if_neg (by omega)]
      have hi : rung x ≤ infR := by simpa [isN] using hx
      have hj : rung y ≤ infR := by simpa [isN] using hy
      refine goesN_mono (farR_mono (Nat.le_refl _) hi hj ?_)
      unfold nkey at h h1
      cases hs : isNeg x <;> rw [hs] at h h1 <;> cases ht : isNeg y <;> rw [ht] at h <;> simp at h h1 <;> omega
/-- At the speed 1 as far as time goes. -/
theorem scaleN_one (m : Nat) (h : m ≤ 281474976710656) : scaleN m 4607182418800017408 = m := by
  have h1 : isN 4607182418800017408 = false := by decide
  have h2 : ¬ nkey 4607182418800017408 ≤ 0 := by decide
  have h3 : rung 4607182418800017408 = 4607182418800017408 := by decide
  have h4 : magOf 4607182418800017408 = 2 ^ 1074 := by decide +kernel
  unfold scaleN
  rw [h1, if_neg h2]
  simp only [Bool.false_eq_true, if_false]
  by_cases h0 : m = 0
  · rw [if_pos h0, h0]
  · rw [if_neg h0]
    have hf : farR m 4607182418800017408 = fltR m := by
      have hl := fltR_le m (by omega)
      unfold farR mulR
      rw [h3, if_neg (by decide), h4]
      have hp : (2 : Nat) ^ 1074 ≠ 0 := Nat.ne_of_gt (Nat.two_pow_pos 1074)
      have ea : ∀ U : Nat, m * U * U = m * (U * U) := fun U => Nat.mul_assoc _ _ _
      have eb := (Nat.pow_add 2 1074 1074).symm
      rw [if_neg (Nat.mul_ne_zero (Nat.mul_ne_zero h0 hp) hp), ea, eb, rungOf_scale m (1074 + 1074) (-2148) h0]
      unfold fltR at hl ⊢
      rw [if_neg h0] at hl ⊢
      have hz : (-2148 + ((1074 + 1074 : Nat) : Int)) = 0 := by decide
      rw [hz]
      exact Nat.min_eq_left (by unfold infR; omega)
    have hmag := fltR_mag m (by omega)
    have h48 : fltR 281474976710656 = 4823355200913801216 := by decide +kernel
    have ed : ∀ U : Nat, 0 < U → m * U / U = m := fun U hU => Nat.mul_div_cancel m hU
    unfold goesN
    rw [hf, hmag, ed _ (Nat.two_pow_pos 1074)]
    split
    · rename_i hg
      rcases Nat.lt_or_ge m 281474976710656 with h5 | h5
      · have : magOf (fltR m) < magOf (fltR 281474976710656) := by
          have hp := Nat.two_pow_pos 1074
          have h6 := fltR_mag 281474976710656 (by decide)
          clear ed hf
          rw [hmag, h6]
          have hp := Nat.two_pow_pos 1074
          clear hmag h6
          generalize 2 ^ 1074 = U at *
          exact Nat.mul_lt_mul_of_pos_right h5 hp
        have := (magOf_lt _ _).1 this
        omega
      · omega
    · rfl
end Go.Proofs.Ytcljocmaojfhhaa

namespace Go.Proofs.Ytcljocmaojfhhaa
open Go.RowKit

def numL (l : List UInt8) : Option Int := if l = [48] then some 0 else (natL (Lib.trimPrefix l [45])).map fun (v : Nat) => if Lib.hasPrefix l [45] then -(v : Int) else (v : Int)

theorem digs_lt (l : List UInt8) : ∀ a v, digs l a = some v → v < (a + 1) * 10 ^ l.length := by
  induction l with
  | nil => intro a v h; injection h with h; subst h; simp
  | cons c r ih =>
    intro a v h
    rw [digs] at h
    split at h
    · have := ih _ _ h
      rw [List.length_cons, Nat.pow_succ]
      have h2 : (a * 10 + (c.toNat - 48) + 1) * 10 ^ r.length ≤ ((a + 1) * 10) * 10 ^ r.length := Nat.mul_le_mul_right _ (by omega)
      rw [Nat.mul_assoc, Nat.mul_comm 10] at h2
      omega
    · cases h
theorem natL_lt {l : List UInt8} {v : Nat} (h : natL l = some v) : v < 10000000000000000 := by
  unfold natL at h
  split at h
  · cases h
  · rename_i hn
    have := digs_lt l 0 v h
    have h2 : (10 : Nat) ^ l.length ≤ 10 ^ 16 := Nat.pow_le_pow_right (by decide) (by omega)
    omega

end Go.Proofs.Ytcljocmaojfhhaa

namespace Go.Proofs.Ytcljocmaojfhhaa
open Go.RowKit

theorem dec_digit (u : Nat) : ∀ c ∈ Lib.decDigits u, 48 ≤ c.toNat ∧ c.toNat ≤ 57 := by
  induction u using Nat.strongRecOn with
  | _ u ih =>
    intro c hc
    rw [Lib.decDigits] at hc
    split at hc
    · obtain rfl := List.mem_singleton.1 hc
      rw [UInt8.toNat_ofNat']; omega
    · rcases List.mem_append.1 hc with h | h
      · exact ih (u / 10) (by omega) c h
      · obtain rfl := List.mem_singleton.1 h
        rw [UInt8.toNat_ofNat']; omega

theorem digs_dec (u : Nat) : ∀ (r : List UInt8) (a : Nat), digs (Lib.decDigits u ++ r) a = digs r (a * 10 ^ Lib.nDigits u + u) := by
  induction u using Nat.strongRecOn with
  | _ u ih =>
    intro r a
    rw [Lib.decDigits]
    split
    · rename_i h
      have e : (UInt8.ofNat (48 + u)).toNat = 48 + u := by rw [UInt8.toNat_ofNat']; omega
      rw [Lib.nDigits_small h, List.cons_append, List.nil_append, digs, e, if_pos (by omega)]
      congr 1
      omega
    · rename_i h
      have e : (UInt8.ofNat (48 + u % 10)).toNat = 48 + u % 10 := by rw [UInt8.toNat_ofNat']; omega
      rw [Lib.nDigits_big h, List.append_assoc, ih (u / 10) (by omega), List.cons_append, List.nil_append, digs, e, if_pos (by omega)]
      congr 1
      rw [Nat.pow_succ, ← Nat.mul_assoc]
      omega

theorem dec_ne (u : Nat) : Lib.decDigits u ≠ [] := by
  intro h
  have := Lib.decDigits_length u
  have h2 := Lib.nDigits_pos u
  rw [h] at this
  simp at this
  omega

theorem dec_head (u : Nat) (hu : u ≠ 0) : ((Lib.decDigits u).headD 0).toNat ≠ 48 := by
  induction u using Nat.strongRecOn with
  | _ u ih =>
    rw [Lib.decDigits]
    split
    · rw [List.headD_cons, UInt8.toNat_ofNat']; omega
    · have := ih (u / 10) (by omega) (by omega)
      cases h : Lib.decDigits (u / 10) with
      | nil => exact absurd h (dec_ne _)
      | cons c r => rw [h] at this; exact this

theorem pow_le_nDigits (u : Nat) (hu : u ≠ 0) : 10 ^ (Lib.nDigits u - 1) ≤ u := by
  induction u using Nat.strongRecOn with
  | _ u ih =>
    by_cases h : u < 10
    · rw [Lib.nDigits_small h]; simp; omega
    · have h1 := ih (u / 10) (by omega) (by omega)
      have h2 := Lib.nDigits_pos (u / 10)
      rw [Lib.nDigits_big h, show Lib.nDigits (u / 10) + 1 - 1 = (Lib.nDigits (u / 10) - 1) + 1 from by omega, Nat.pow_succ]
      omega

theorem natL_dec (u : Nat) (hu : u ≠ 0) : natL (Lib.decDigits u) = if u < 10000000000000000 then some u else none := by
  have h1 := dec_head u hu
  have h2 := Lib.nDigits_pos u
  unfold natL
  rw [Lib.decDigits_length]
  by_cases h : u < 10000000000000000
  · have h3 : Lib.nDigits u ≤ 16 := by
      rcases Nat.lt_or_ge 16 (Lib.nDigits u) with hl | hl
      · have := pow_le_nDigits u hu
        have : (10 : Nat) ^ 16 ≤ 10 ^ (Lib.nDigits u - 1) := Nat.pow_le_pow_right (by decide) (by omega)
        omega
      · exact hl
    have := digs_dec u [] 0
    rw [List.append_nil] at this
    rw [if_pos h, if_neg (by omega), this]
    show some (0 * _ + u) = _
    congr 1
    omega
  · have h3 : 16 < Lib.nDigits u := by
      rcases Nat.lt_or_ge 16 (Lib.nDigits u) with hl | hl
      · exact hl
      · have := Lib.lt_pow_nDigits u
        have : (10 : Nat) ^ (Lib.nDigits u) ≤ 10 ^ 16 := Nat.pow_le_pow_right (by decide) hl
        omega
    rw [if_neg h, if_pos (Or.inr (Or.inl h3))]

theorem numL_itoa (v : Int) : numL (Lib.itoa v) = if -10000000000000000 < v ∧ v < 10000000000000000 then some v else none := by
  rcases Int.lt_trichotomy v 0 with h | h | h
  · have hi : Lib.itoa v = 45 :: Lib.decDigits v.natAbs := by unfold Lib.itoa; rw [if_pos h]
    have hp : Lib.hasPrefix (45 :: Lib.decDigits v.natAbs) [45] = true := by simp [Lib.hasPrefix]
    unfold numL
    rw [hi, if_neg (by simp)]
    unfold Lib.trimPrefix
    rw [if_pos hp, hp]
    show (natL (Lib.decDigits v.natAbs)).map _ = _
    rw [natL_dec _ (by omega)]
    by_cases hv : -10000000000000000 < v
    · rw [if_pos (by omega), if_pos (by omega)]
      simp
      omega
    · rw [if_neg (by omega), if_neg (by omega)]
      rfl
  · subst h
    have hi : Lib.itoa 0 = [48] := by unfold Lib.itoa; rw [if_neg (by decide)]; exact Lib.decDigits_one (by decide)
    rw [hi, if_pos (by decide)]
    rfl
  · have hi : Lib.itoa v = Lib.decDigits v.toNat := by unfold Lib.itoa; rw [if_neg (by omega)]
    have hd := dec_head v.toNat (by omega)
    have hn : Lib.decDigits v.toNat ≠ [48] := by intro e; rw [e] at hd; exact hd rfl
    have hp : Lib.hasPrefix (Lib.decDigits v.toNat) [45] = false := by
      cases hc : Lib.decDigits v.toNat with
      | nil => exact absurd hc (dec_ne _)
      | cons c r =>
        have := dec_digit v.toNat c (by rw [hc]; simp)
        simp only [Lib.hasPrefix, List.isPrefixOf, Bool.and_true, beq_eq_false_iff_ne]
        intro e
        rw [← e] at this
        exact absurd this (by decide)
    unfold numL
    rw [hi, if_neg hn]
    unfold Lib.trimPrefix
    rw [hp, if_neg (by decide), natL_dec _ (by omega)]
    by_cases hv : v < 10000000000000000
    · rw [if_pos (by omega), if_pos (by omega)]
      simp
      omega
    · rw [if_neg (by omega), if_neg (by omega)]
      rfl

theorem dec_len (u : Nat) (hu : u ≤ 9223372036854775808) : (Lib.decDigits u).length ≤ 39 := by
  rw [Lib.decDigits_length]
  rcases Nat.eq_zero_or_pos u with h | h
  · subst h; rw [Lib.nDigits_small (by decide)]; decide
  · rcases Nat.lt_or_ge 39 (Lib.nDigits u) with hl | hl
    · have := pow_le_nDigits u (by omega)
      have : (10 : Nat) ^ 39 ≤ 10 ^ (Lib.nDigits u - 1) := Nat.pow_le_pow_right (by decide) (by omega)
      omega
    · exact hl

theorem itoa_len (v : Int) (h0 : -9223372036854775808 ≤ v) (h1 : v ≤ 9223372036854775807) : (Lib.itoa v).length ≤ 40 := by
  unfold Lib.itoa
  split
  · have := dec_len v.natAbs (by omega)
    simp; omega
  · have := dec_len v.toNat (by omega)
    omega
end Go.Proofs.Ytcljocmaojfhhaa

namespace Go.Proofs.Ytcljocmaojfhhaa
open Go.RowKit

/-- The digits and the power of a rung, all twos still in. -/
def rawM (r : Nat) : Nat := if r < 4503599627370496 then r else 4503599627370496 + r % 4503599627370496
def rawE (r : Nat) : Int := if r < 4503599627370496 then -1074 else (r / 4503599627370496 : Nat) - 1075
theorem rawM_lt (r : Nat) : rawM r < 9007199254740992 := by unfold rawM; split <;> omega
theorem rawM_pos (r : Nat) (h : r ≠ 0) : rawM r ≠ 0 := by unfold rawM; split <;> omega
theorem rawE_lt (r : Nat) (h : r < infR) : -1074 ≤ rawE r ∧ rawE r ≤ 971 := by
  have hc : infR = 9218868437227405312 := rfl
  unfold rawE; split <;> omega
def spM (r : Nat) : Nat := oddN (rawM r)
def spE (r : Nat) : Int := rawE r + (tzN (rawM r) : Int)

/-- The text of a number without a sign. -/
def whole (r : Nat) : Bool := decide (0 ≤ spE r ∧ (Lib.bitLen (spM r) : Int) + spE r ≤ 53)
def unsN (r : Nat) : List UInt8 :=
  if r = 0 then [48] else if r = infR then [105, 110, 102] else if whole r then Lib.itoa ((spM r * 2 ^ (spE r).toNat : Nat) : Int)
  else Lib.itoa (spM r : Int) ++ 112 :: Lib.itoa (spE r)
def textN (x : Nat) : List UInt8 := if isN x then [110, 97, 110] else if isNeg x then 45 :: unsN (rung x) else unsN (rung x)

theorem unsN_zero : unsN 0 = [48] := by unfold unsN; rw [if_pos rfl]

theorem spM_lt (r : Nat) : spM r < 9007199254740992 := Nat.lt_of_le_of_lt (Nat.div_le_self _ _) (rawM_lt r)
theorem spE_lt (r : Nat) (h0 : r ≠ 0) (h : r < infR) : -1074 ≤ spE r ∧ spE r ≤ 1035 := by
  have h1 := rawE_lt r h
  have h2 : tzN (rawM r) < 64 := (Lib.lowest_bit 64 _ (rawM_pos r h0) (Nat.lt_trans (rawM_lt r) (by decide))).2
  unfold spE
  omega

theorem len_lt (m e : Nat) (hm : m < 18446744073709551616) (h : Lib.bitLen m + e ≤ 53) : m * 2 ^ e < 9007199254740992 := by
  by_cases h0 : m = 0
  · subst h0; rw [Nat.zero_mul]; decide
  · have hb := (Lib.bitLenAux_bounds 64 m hm h0).2.2
    have h1 : m * 2 ^ e < 2 ^ Lib.bitLen m * 2 ^ e := Nat.mul_lt_mul_of_pos_right hb (Nat.two_pow_pos _)
    rw [← Nat.pow_add] at h1
    exact Nat.lt_of_lt_of_le h1 (Nat.pow_le_pow_right (by decide) h)

theorem run_cat (a b : List UInt8) (ha : a.length ≤ 1000000) (hb : b.length ≤ 1000000) (w : World) : (Op.stringOp .add ⟨a.toArray⟩ ⟨b.toArray⟩).run Try.prog w = .ok (.string ⟨(a ++ b).toArray⟩) w := by
  rw [run_string_add_sum _ _ _ (by rw [size_mk, size_mk]; omega), ByteArray.mk_append_mk]

theorem unsN_len (r : Nat) (h : r ≤ infR) : (unsN r).length ≤ 100 := by
  unfold unsN
  split
  · decide
  · split
    · decide
    · rename_i h0 h1
      have hM := spM_lt r
      have hE := spE_lt r h0 (by omega)
      split
      · rename_i hw
        unfold whole at hw
        have hw := of_decide_eq_true hw
        have hlt := len_lt (spM r) (spE r).toNat (by omega) (by omega)
        have := itoa_len ((spM r * 2 ^ (spE r).toNat : Nat) : Int) (by omega) (by omega)
        omega
      · have hl1 := itoa_len (spM r : Int) (by omega) (by omega)
        have hl2 := itoa_len (spE r) (by omega) (by omega)
        simp only [List.length_append, List.length_cons]
        omega

end Go.Proofs.Ytcljocmaojfhhaa

namespace Go.Proofs.Ytcljocmaojfhhaa
open Go.RowKit Ieee

theorem read_norm (x : Nat) (h1 : 4503599627370496 ≤ rung x) (h : rung x < infR) :
    Ieee.double.read x = .number (isNeg x) (4503599627370496 + rung x % 4503599627370496) (-1074 + ((rung x / 4503599627370496 - 1 : Nat) : Int)) := by
  unfold Format.read
  rw [f64_sign, f64_binade, f64_inf, f64_least]
  show (if rung x < 4503599627370496 then _ else if rung x < infR then _ else _) = _
  rw [if_neg (by omega), if_pos h]
  rfl

theorem word_eq (s : Bool) (r : Nat) : Ieee.double.word s r = if s then 9223372036854775808 + r else r := by
  unfold Format.word
  rw [f64_sign]
theorem word_facts (s : Bool) (r : Nat) (h : r ≤ infR) : isNeg (Ieee.double.word s r) = s ∧ rung (Ieee.double.word s r) = r ∧ isN (Ieee.double.word s r) = false ∧ Ieee.double.word s r < 18446744073709551616 := by
  have hc : infR = 9218868437227405312 := rfl
  rw [word_eq]
  have hr : ∀ x : Nat, rung x = r → isN x = false := fun x hx => by unfold isN; rw [hx]; exact decide_eq_false (by omega)
  cases s
  · simp only [Bool.false_eq_true, if_false]
    obtain ⟨p1, p2⟩ := small_parts r (by omega)
    exact ⟨p1, p2, hr r p2, by omega⟩
  · simp only [if_true]
    have h1 : rung (9223372036854775808 + r) = r := by unfold rung; omega
    have h2 : isNeg (9223372036854775808 + r) = true := by unfold isNeg; rw [show (9223372036854775808 + r) / 9223372036854775808 % 2 = 1 from by omega]; rfl
    exact ⟨h2, h1, hr _ h1, by omega⟩
theorem word_key (s : Bool) (r : Nat) (h : r ≤ infR) : nkey (Ieee.double.word s r) = if s then -(r : Int) else (r : Int) := by
  obtain ⟨h1, h2, _⟩ := word_facts s r h
  unfold nkey
  rw [h1, h2]

/-- float64(a) of an int. -/
theorem flt_word (a : Int) (h0 : -9223372036854775808 ≤ a) (h1 : a ≤ 9223372036854775808) : floatOfInt .f64 a = Ieee.double.word (decide (a < 0)) (fltR a.natAbs) := by
  by_cases ha : a < 0
  · have e : a = -(a.natAbs : Int) := by omega
    rw [decide_eq_true ha, word_eq, if_pos rfl]
    conv => lhs; rw [e]
    exact floatOfInt_neg a.natAbs (by omega) (by omega)
  · have e : a = (a.natAbs : Int) := by omega
    rw [decide_eq_false ha, word_eq]
    conv => lhs; rw [e]
    exact floatOfInt_nat a.natAbs (by omega)

theorem fltR_top (m : Nat) (h : m ≤ 9223372036854775808) : fltR m ≤ infR := Nat.le_trans (fltR_le m h) (by decide)

theorem flt_read (a : Int) (h0 : -9223372036854775808 ≤ a) (h1 : a ≤ 9223372036854775808) (hn : a ≠ 0) :
    ∃ m k : Nat, Ieee.double.read (floatOfInt .f64 a) = .number (decide (a < 0)) m (-1074 + (k : Int)) ∧ 4503599627370496 ≤ m ∧ m < 9007199254740992 ∧ 1022 ≤ k ∧ k ≤ 1085 := by
  have hl := fltR_le a.natAbs (by omega)
  have hg := fltR_pos a.natAbs (by omega) (by omega)
  obtain ⟨f1, f2, f3, f4⟩ := word_facts (decide (a < 0)) (fltR a.natAbs) (fltR_top _ (by omega))
  have hc : infR = 9218868437227405312 := rfl
  rw [flt_word a h0 h1]
  have hr := read_norm (Ieee.double.word (decide (a < 0)) (fltR a.natAbs)) (by rw [f2]; omega) (by rw [f2]; omega)
  rw [f1, f2] at hr
  exact ⟨_, _, hr, by omega, by omega, by omega, by omega⟩
theorem flt_zero : floatOfInt .f64 0 = 0 := by decide +kernel
theorem read_zero : Ieee.double.read 0 = .number false 0 (-1074) := by decide +kernel

theorem log2_norm (m : Nat) (h0 : 4503599627370496 ≤ m) (h1 : m < 9007199254740992) : m.log2 = 52 := by
  rw [Nat.log2_eq_iff (by omega)]
  exact ⟨h0, h1⟩

theorem div_zero_zero : floatBits .quo .f64 (floatOfInt .f64 0) (floatOfInt .f64 0) = none := by
  rw [flt_zero]
  show Ieee.double.div 0 0 = none
  unfold Format.div
  rw [read_zero]
  rfl
/-- By nothing: an edge with the sign. -/
theorem div_zero (a : Int) (h0 : -9223372036854775808 ≤ a) (h1 : a ≤ 9223372036854775808) (hn : a ≠ 0) :
    floatBits .quo .f64 (floatOfInt .f64 a) (floatOfInt .f64 0) = some (Ieee.double.word (decide (a < 0)) infR) := by
  obtain ⟨m, k, e, g1, g2, g3, g4⟩ := flt_read a h0 h1 hn
  rw [flt_zero]
  show Ieee.double.div _ 0 = _
  unfold Format.div
  rw [e, read_zero]
  unfold Datum.quotient
  dsimp only
  rw [if_pos rfl, if_neg (by omega), Bool.xor_false]
  show some (Ieee.double.word _ Ieee.double.infRung) = _
  rw [f64_inf]
/-- Nothing by something. -/
theorem div_of_zero (b : Int) (h0 : -9223372036854775808 ≤ b) (h1 : b ≤ 9223372036854775808) (hn : b ≠ 0) :
    floatBits .quo .f64 (floatOfInt .f64 0) (floatOfInt .f64 b) = some (Ieee.double.word (decide (b < 0)) 0) := by
  obtain ⟨m, k, e, g1, g2, g3, g4⟩ := flt_read b h0 h1 hn
  rw [flt_zero]
  show Ieee.double.div 0 _ = _
  unfold Format.div
  rw [e, read_zero]
  unfold Datum.quotient
  dsimp only
  rw [if_neg (by omega)]
  rw [show (0 : Nat) <<< (Ieee.double.fractionBits + 2 + m.log2 - Nat.log2 0) = 0 from Nat.zero_shiftLeft _, Nat.zero_div, Nat.zero_mod]
  show some (Ieee.double.nearest (false ^^ decide (b < 0)) 0 _) = _
  unfold Format.nearest
  rw [if_pos rfl, Bool.false_xor]

/-- Something by something: no nan, not nothing, the sign as it must be. -/
theorem div_some (a b : Int) (ha0 : -9223372036854775808 ≤ a) (ha1 : a ≤ 9223372036854775808) (ha : a ≠ 0) (hb0 : -9223372036854775808 ≤ b) (hb1 : b ≤ 9223372036854775808) (hb : b ≠ 0) :
    ∃ r, floatBits .quo .f64 (floatOfInt .f64 a) (floatOfInt .f64 b) = some (Ieee.double.word (decide (a < 0) ^^ decide (b < 0)) r) ∧ 0 < r ∧ r ≤ infR := by
  obtain ⟨m, k, e, g1, g2, g3, g4⟩ := flt_read a ha0 ha1 ha
  obtain ⟨n, l, e', k1, k2, k3, k4⟩ := flt_read b hb0 hb1 hb
  have hc : infR = 9218868437227405312 := rfl
  have hq : 2 ^ 53 ≤ m * 2 ^ 54 / n := by
    refine (Nat.le_div_iff_mul_le (by omega)).2 ?_
    have h1 : 2 ^ 53 * n ≤ 2 ^ 53 * 9007199254740992 := Nat.mul_le_mul_left _ (Nat.le_of_lt k2)
    have h2 : 4503599627370496 * 2 ^ 54 ≤ m * 2 ^ 54 := Nat.mul_le_mul_right _ g1
    have h3 : (2 : Nat) ^ 53 * 9007199254740992 = 4503599627370496 * 2 ^ 54 := by decide
    rw [h3] at h1
    exact Nat.le_trans h1 h2
  obtain ⟨q, hqe⟩ : ∃ q, q = 2 * (m * 2 ^ 54 / n) + (m * 2 ^ 54 % n != 0).toNat := ⟨_, rfl⟩
  have hq54 : 2 ^ 54 ≤ q := by
    rw [hqe]
    generalize m * 2 ^ 54 / n = d at hq ⊢
    omega
  obtain ⟨p, hp⟩ : ∃ p : Int, p = -1074 + (k : Int) - (-1074 + (l : Int)) - ((54 : Nat) : Int) - 1 := ⟨_, rfl⟩
  have hp2 : -118 ≤ p := by clear hqe hq hq54; omega
  have hq0 : q ≠ 0 := by clear hqe hq hp; omega
  refine ⟨min (rungOf q p) infR, ?_, ?_, Nat.min_le_right _ _⟩
  · clear hq hq54
    show Ieee.double.div _ _ = _
    unfold Format.div
    rw [e, e']
    unfold Datum.quotient
    dsimp only
    rw [if_neg (by omega), log2_norm m g1 g2, log2_norm n k1 k2, show Ieee.double.fractionBits + 2 + 52 - 52 = 54 from by decide, Nat.shiftLeft_eq, ← hqe, ← hp]
    show some (Ieee.double.nearest _ q p) = _
    rw [nearest_eq _ _ _ hq0]
  · clear hqe hq hp e e' hc
    have hlog : 54 ≤ q.log2 := by
      rcases Nat.lt_or_ge q.log2 54 with h1 | h1
      · have h2 : q < 2 ^ (q.log2 + 1) := Nat.lt_log2_self
        have : 2 ^ (q.log2 + 1) ≤ 2 ^ 54 := Nat.pow_le_pow_right (by decide) (by omega)
        omega
      · exact h1
    have hpos : 0 < rungOf q p := by
      unfold rungOf lastP
      have : 1 ≤ (max (p + (q.log2 : Int) - 52) (-1074) + 1074).toNat := by clear hq54 hq0; omega
      generalize (max (p + (q.log2 : Int) - 52) (-1074) + 1074).toNat = z at *
      generalize keptN q p (max (p + (q.log2 : Int) - 52) (-1074)) = y
      omega
    exact Nat.lt_min.2 ⟨hpos, by decide⟩
/-- By itself: one. -/
theorem div_self' (a : Int) (ha0 : -9223372036854775808 ≤ a) (ha1 : a ≤ 9223372036854775808) (ha : a ≠ 0) :
    floatBits .quo .f64 (floatOfInt .f64 a) (floatOfInt .f64 a) = some 4607182418800017408 := by
  obtain ⟨m, k, e, g1, g2, g3, g4⟩ := flt_read a ha0 ha1 ha
  show Ieee.double.div _ _ = _
  unfold Format.div
  rw [e]
  unfold Datum.quotient
  dsimp only
  rw [if_neg (by omega), log2_norm m g1 g2, show Ieee.double.fractionBits + 2 + 52 - 52 = 54 from by decide, Nat.shiftLeft_eq, Nat.mul_div_cancel_left _ (by omega), Nat.mul_mod_right,
    show -1074 + (k : Int) - (-1074 + (k : Int)) - ((54 : Nat) : Int) - 1 = -55 from by omega, Bool.xor_self]
  decide +kernel
end Go.Proofs.Ytcljocmaojfhhaa

namespace Go.Proofs.Ytcljocmaojfhhaa
open Go.RowKit

/-- The NaN that the model's tape gives where a quotient is none. -/
def tapeNan (w : World) (x y : Nat) : Nat := (Question.nanBits .f64 x y).cut (w.tape w.drawn (.nanBits .f64 x y))
theorem tapeNan_is (w : World) (x y : Nat) : isN (tapeNan w x y) = true ∧ tapeNan w x y < 18446744073709551616 := by
  have e : tapeNan w x y = (w.tape w.drawn (.nanBits .f64 x y) % 2) * 2 ^ 63 + 0x7ff0000000000000 + 1 + (w.tape w.drawn (.nanBits .f64 x y) / 2) % (2 ^ 52 - 1) := rfl
  rw [e]
  generalize w.tape w.drawn (.nanBits .f64 x y) = t
  have h1 : t / 2 % (2 ^ 52 - 1) < 2 ^ 52 - 1 := Nat.mod_lt _ (by decide)
  generalize t / 2 % (2 ^ 52 - 1) = u at *
  unfold isN rung infR
  refine ⟨decide_eq_true ?_, ?_⟩ <;> omega
theorem run_quo_nan (x y : Nat) (h : floatBits .quo .f64 x y = none) (w : World) : (binOp .quo 23 (.float .f64 x) (.float .f64 y)).run Try.prog w = .ok (.float .f64 (tapeNan w x y)) w.drew := by
  have h : FloatKind.f64.format.div x y = none := h
  simp [binOp, Op.floatArith, h, Question.forced]
  rfl

def RatP (w : World) (g : Option Nat) (e : Ending) (w' : World) : Prop :=
  match g with
  | some r => e = .returned (.float .f64 r) ∧ w = w'
  | none => ∃ z, e = .returned (.float .f64 z) ∧ Hid (isN z = true) ∧ z < 18446744073709551616 ∧ Below w.heap.size w w'

set_option maxRecDepth 100000 in
set_option maxHeartbeats 1000000 in
theorem fratio_any (a b : Int) (w : World) :
    Calls Try.prog 17 #[.int .i64 a, .int .i64 b] w fun e w' => RatP w (floatBits .quo .f64 (floatOfInt .f64 a) (floatOfInt .f64 b)) e w' := by
  cases h : floatBits .quo .f64 (floatOfInt .f64 a) (floatOfInt .f64 b) with
  | some r =>
    have hq := fun W : World => run_float_arith (P := Try.prog) W .quo 23 .f64 _ _ _ h
    clear h
    go_enter Try.func17, Try.ntmps17
    go_wp2_with fail
    go_ret
    exact ⟨rfl, rfl⟩
  | none =>
    have hq := run_quo_nan _ _ h
    have hz := Lib.hid (fun W => tapeNan_is W (floatOfInt .f64 a) (floatOfInt .f64 b))
    clear h
    go_enter Try.func17, Try.ntmps17
    go_wp2_with fail
    go_ret
    exact ⟨_, rfl, (hz.out _).1, (hz.out _).2, (Below.refl _ _).drew⟩
end Go.Proofs.Ytcljocmaojfhhaa

namespace Go.Proofs.Ytcljocmaojfhhaa
open Go.RowKit

theorem be_bytes (v n j : Nat) (h : j < n) : (be v n).drop j = UInt8.ofNat (v / 2 ^ (8 * (n - 1 - j)) % 256) :: (be v n).drop (j + 1) := by
  have hl : j < (be v n).length := by rw [be_length]; exact h
  have hg := be_get v n j h
  rw [List.getElem?_eq_getElem hl] at hg
  injection hg with hg
  rw [List.drop_eq_getElem_cons hl, hg]

theorem be_back (v n j k : Nat) (h : j + 1 + k = n) (x : Int) (hx : x = ((v / 2 ^ (8 * k) : Nat) : Int) % 256) :
    ((List.replicate (j + 1) (0 : UInt8) ++ (be v n).drop (j + 1)).map b8).set j (.int .u8 x) = (List.replicate j (0 : UInt8) ++ (be v n).drop j).map b8 := by
  have hb : Value.int .u8 x = b8 (UInt8.ofNat (v / 2 ^ (8 * k) % 256)) := by
    unfold b8
    rw [← u8_of _ (by omega), hx]
    congr 1
  rw [be_bytes v n j (by omega), show n - 1 - j = k from by omega, hb, ← List.map_set]
  congr 1
  rw [List.replicate_succ', List.append_assoc, List.set_append_right _ _ (by simp)]
  simp

theorem putIs_of (v n _k : Nat) (h1 : 1 ≤ n) (h7 : n ≤ 7) (s : ByteArray) (hs : s = ⟨(be v n).toArray⟩) (h : v / 2 ^ (8 * n) = 0) : PutIs v n s 0 := by
  refine Or.inl ⟨rfl, by omega, by omega, by omega, ?_, ?_⟩
  · have h2 : v < 2 ^ (8 * n) := by
      rcases Nat.lt_or_ge v (2 ^ (8 * n)) with h3 | h3
      · exact h3
      · have := (Nat.le_div_iff_mul_le (Nat.two_pow_pos (8 * n))).2 (show 1 * 2 ^ (8 * n) ≤ v by omega)
        omega
    rw [Int.toNat_natCast]
    exact_mod_cast h2
  · rw [Int.toNat_natCast, Int.toNat_natCast]; exact hs

theorem putIs_not (v n : Nat) (h : 0 < v / 2 ^ (8 * n)) : PutIs v n ByteArray.empty 1 := by
  refine Or.inr ⟨rfl, rfl, Or.inr (Or.inr (Or.inr ?_))⟩
  rw [Int.toNat_natCast]
  have h2 : 2 ^ (8 * n) ≤ v := by
    have := (Nat.le_div_iff_mul_le (Nat.two_pow_pos (8 * n))).1 h
    omega
  exact_mod_cast h2

theorem putIs_one {v n : Int} {s t : ByteArray} {e f : Int} (h : PutIs v n s e) (k : PutIs v n t f) : s = t ∧ e = f := by
  rcases h with ⟨h0, h1, h2, h3, h4, h5⟩ | ⟨h0, h1, h2⟩
  · rcases k with ⟨k0, k1, k2, k3, k4, k5⟩ | ⟨k0, k1, k2⟩
    · exact ⟨h5.trans k5.symm, h0.trans k0.symm⟩
    · omega
  · rcases k with ⟨k0, k1, k2, k3, k4, k5⟩ | ⟨k0, k1, k2⟩
    · omega
    · exact ⟨h1.trans k1.symm, h0.trans k0.symm⟩

end Go.Proofs.Ytcljocmaojfhhaa

namespace Go.Proofs.Ytcljocmaojfhhaa
open Go.RowKit

/-! ### Put -/
theorem be_cat (m : Nat) : ∀ (n v : Nat), be v (n + m) = be (v / 2 ^ (8 * m)) n ++ be v m
  | 0, v => by simp [be]
  | n + 1, v => by
    rw [show n + 1 + m = (n + m) + 1 from by omega, be_succ, be_succ, be_cat m n v, List.cons_append, Nat.div_div_eq_div_mul, ← Nat.pow_add]
    congr 6
    omega
theorem be_half (v : Nat) : be v 8 = be (v / 4294967296) 4 ++ be (v % 4294967296) 4 := by
  have h := be_cat 4 4 v
  have h2 := be_mod v 4
  rw [show (2 : Nat) ^ (8 * 4) = 4294967296 from by decide] at h h2
  rw [← h2]
  exact h

end Go.Proofs.Ytcljocmaojfhhaa

namespace Go.Proofs.Ytcljocmaojfhhaa
open Go.RowKit Ieee

theorem product_commP (a b : Datum) : a.product b = b.product a := by
  cases a <;> cases b <;> simp [Datum.product, Bool.xor_comm, Nat.mul_comm, Int.add_comm]
theorem fmul_commP (x y : Nat) : floatBits .mul .f64 x y = floatBits .mul .f64 y x := by
  show Ieee.double.mul x y = Ieee.double.mul y x
  unfold Format.mul
  rw [product_commP]
theorem mul_nanP (a x : Nat) (h : isN x = true) : floatBits .mul .f64 a x = none := by
  show Ieee.double.mul a x = none
  obtain ⟨f, e⟩ := read_nan x (by simpa [isN] using h)
  unfold Format.mul
  rw [e, product_commP]
  rfl
theorem run_mul_nanP (x y : Nat) (h : floatBits .mul .f64 x y = none) (w : World) : (binOp .mul 23 (.float .f64 x) (.float .f64 y)).run Try.prog w = .ok (.float .f64 (tapeNan w x y)) w.drew := by
  have h : FloatKind.f64.format.mul x y = none := h
  simp [binOp, Op.floatArith, h, Question.forced]
  rfl
theorem run_store_f64P (W : World) (ad : Addr) (v : Nat) : (store ad (.float .f64 v)).run Try.prog W = stored Try.prog W ad (.float .f64 v) .plain := run_store _ W ad _ _ rfl
def nanW : Nat := 9221120237041090561
def fq (x y : Nat) : Nat := (floatBits .quo .f64 x y).getD nanW
def fm (x y : Nat) : Nat := (floatBits .mul .f64 x y).getD nanW
/-- The same number, or both are none. -/
def SameF (r c : Nat) : Prop := r = c ∨ (isN r = true ∧ isN c = true)
theorem SameF.refl (r : Nat) : SameF r r := Or.inl rfl
theorem SameF.symm {r c : Nat} (h : SameF r c) : SameF c r := h.elim (fun e => Or.inl e.symm) fun e => Or.inr ⟨e.2, e.1⟩
theorem SameF.trans {r c d : Nat} (h : SameF r c) (g : SameF c d) : SameF r d := by
  rcases h with rfl | ⟨a, b⟩
  · exact g
  · rcases g with rfl | ⟨_, e⟩
    · exact Or.inr ⟨a, b⟩
    · exact Or.inr ⟨a, e⟩
theorem nanW_is : isN nanW = true := by decide
theorem nearest_lt (s : Bool) (m : Nat) (p : Int) : Ieee.double.nearest s m p < 18446744073709551616 ∧ isN (Ieee.double.nearest s m p) = false := by
  by_cases h : m = 0
  · unfold Format.nearest
    rw [if_pos h]
    have := word_facts s 0 (by decide)
    exact ⟨this.2.2.2, this.2.2.1⟩
  · rw [nearest_eq _ _ _ h]
    have := word_facts s (min (rungOf m p) infR) (Nat.min_le_right _ _)
    exact ⟨this.2.2.2, this.2.2.1⟩
theorem write_lt {d : Datum} (h : d.isNaN = false) : Ieee.double.write d < 18446744073709551616 ∧ isN (Ieee.double.write d) = false := by
  cases d with
  | nan s f => cases h
  | infinity s =>
    have := word_facts s infR (Nat.le_refl _)
    exact ⟨this.2.2.2, this.2.2.1⟩
  | number s m p => exact nearest_lt s m p
theorem quotient_num {n : Nat} {a b d : Datum} (h : Datum.quotient n a b = some d) : d.isNaN = false := by
  cases a <;> cases b <;> simp only [Datum.quotient] at h <;> (try cases h) <;> (try rfl)
  split at h
  · split at h
    · cases h
    · cases h; rfl
  · cases h; rfl
theorem product_num {a b d : Datum} (h : Datum.product a b = some d) : d.isNaN = false := by
  cases a <;> cases b <;> simp only [Datum.product] at h <;> (try cases h) <;> (try rfl)
  all_goals (split at h <;> cases h; rfl)
theorem quo_lt {x y r : Nat} (h : floatBits .quo .f64 x y = some r) : r < 18446744073709551616 := by
  have h : Ieee.double.div x y = some r := h
  unfold Format.div at h
  cases hq : Datum.quotient (Ieee.double.fractionBits + 2) (Ieee.double.read x) (Ieee.double.read y) with
  | none => rw [hq] at h; cases h
  | some d => rw [hq] at h; cases h; exact (write_lt (quotient_num hq)).1
theorem mul_lt {x y r : Nat} (h : floatBits .mul .f64 x y = some r) : r < 18446744073709551616 := by
  have h : Ieee.double.mul x y = some r := h
  unfold Format.mul at h
  cases hq : Datum.product (Ieee.double.read x) (Ieee.double.read y) with
  | none => rw [hq] at h; cases h
  | some d => rw [hq] at h; cases h; exact (write_lt (product_num hq)).1
theorem quo_nan_right (x y : Nat) (h : isN y = true) : floatBits .quo .f64 x y = none := by
  show Ieee.double.div x y = none
  obtain ⟨f, e⟩ := read_nan y (by simpa [isN] using h)
  unfold Format.div
  rw [e]
  cases Ieee.double.read x <;> rfl
theorem fq_right {x y z : Nat} (h : SameF y z) : SameF (fq x y) (fq x z) := by
  rcases h with rfl | ⟨a, b⟩
  · exact SameF.refl _
  · unfold fq
    rw [quo_nan_right x y a, quo_nan_right x z b]
    exact SameF.refl _
theorem fm_left {x y z : Nat} (h : SameF x y) : SameF (fm x z) (fm y z) := by
  rcases h with rfl | ⟨a, b⟩
  · exact SameF.refl _
  · unfold fm
    rw [fmul_commP, mul_nanP z x a, fmul_commP, mul_nanP z y b]
    exact SameF.refl _
theorem run_fq (x y : Nat) (W : World) : ∃ z W2, (binOp .quo 23 (.float .f64 x) (.float .f64 y)).run Try.prog W = .ok (.float .f64 z) W2 ∧ SameF z (fq x y) ∧ z < 18446744073709551616 ∧ W.grownBy W2 none := by
  unfold fq
  cases h : floatBits .quo .f64 x y with
  | some r => exact ⟨r, W, run_float_arith W .quo 23 .f64 _ _ _ h, Or.inl rfl, quo_lt h, ⟨rfl, rfl, rfl, Nat.le_refl _, fun _ _ _ => rfl⟩⟩
  | none => exact ⟨tapeNan W x y, W.drew, run_quo_nan x y h W, Or.inr ⟨(tapeNan_is W x y).1, nanW_is⟩, (tapeNan_is W x y).2, ⟨rfl, rfl, rfl, Nat.le_refl _, fun _ _ _ => rfl⟩⟩
theorem run_fm (x y : Nat) (W : World) : ∃ z W2, (binOp .mul 23 (.float .f64 x) (.float .f64 y)).run Try.prog W = .ok (.float .f64 z) W2 ∧ SameF z (fm x y) ∧ z < 18446744073709551616 ∧ W.grownBy W2 none := by
  unfold fm
  cases h : floatBits .mul .f64 x y with
  | some r => exact ⟨r, W, run_float_arith W .mul 23 .f64 _ _ _ h, Or.inl rfl, mul_lt h, ⟨rfl, rfl, rfl, Nat.le_refl _, fun _ _ _ => rfl⟩⟩
  | none => exact ⟨tapeNan W x y, W.drew, run_mul_nanP x y h W, Or.inr ⟨(tapeNan_is W x y).1, nanW_is⟩, (tapeNan_is W x y).2, ⟨rfl, rfl, rfl, Nat.le_refl _, fun _ _ _ => rfl⟩⟩
/-! ### comparisons -/
def geF (x y : Nat) : Bool := FloatKind.f64.format.order x y == some .gt || FloatKind.f64.format.order x y == some .eq
def gtF (x y : Nat) : Bool := FloatKind.f64.format.order x y == some .gt
theorem geF_same {x x' : Nat} (y : Nat) (h : SameF x x') : geF x y = geF x' y := by
  rcases h with rfl | ⟨a, b⟩
  · rfl
  · unfold geF
    rw [geq_eq, geq_eq, a, b]
    rfl
theorem gtF_same {x x' y y' : Nat} (h : SameF x x') (g : SameF y y') : gtF x y = gtF x' y' := by
  unfold gtF
  rw [gtr_eq, gtr_eq]
  rcases h with rfl | ⟨a, b⟩
  · rcases g with rfl | ⟨c, d⟩
    · rfl
    · rw [c, d]; simp
  · rw [a, b]; simp
/-- Two rows of numbers that are the same. -/
def SameL (S T : List Nat) : Prop := S.length = T.length ∧ ∀ (j : Nat) x y, S[j]? = some x → T[j]? = some y → SameF x y
theorem SameL.refl (S : List Nat) : SameL S S := ⟨rfl, fun j x y h g => by rw [h] at g; cases g; exact SameF.refl _⟩
theorem SameL.getD {S T : List Nat} (h : SameL S T) (j : Nat) : SameF (S.getD j 0) (T.getD j 0) := by
  rw [List.getD_eq_getElem?_getD, List.getD_eq_getElem?_getD]
  by_cases hj : j < S.length
  · have hj2 : j < T.length := by rw [← h.1]; exact hj
    rw [List.getElem?_eq_getElem hj, List.getElem?_eq_getElem hj2]
    exact h.2 j _ _ (List.getElem?_eq_getElem hj) (List.getElem?_eq_getElem hj2)
  · rw [List.getElem?_eq_none (by omega), List.getElem?_eq_none (by rw [← h.1]; omega)]
    exact SameF.refl _
theorem SameL.symm {S T : List Nat} (h : SameL S T) : SameL T S := ⟨h.1.symm, fun j x y a b => (h.2 j y x b a).symm⟩
theorem SameL.trans {S T U : List Nat} (h : SameL S T) (g : SameL T U) : SameL S U := ⟨h.1.trans g.1, fun j x y a b => by
  have hj := (List.getElem?_eq_some_iff.1 a).1
  have hj2 : j < T.length := by rw [← h.1]; exact hj
  exact (h.2 j x _ a (List.getElem?_eq_getElem hj2)).trans (g.2 j _ y (List.getElem?_eq_getElem hj2) b)⟩

/-! ### scores, and which level is the fullest -/
def roomP (base ratio : Nat) : Nat → Nat
  | 0 => base
  | k + 1 => fm (roomP base ratio k) ratio
def scoreP (cnt : Int) (by_ : Nat → Int) (base ratio : Nat) : Nat → Nat
  | 0 => fq (floatOfInt .f64 cnt) (floatOfInt .f64 4)
  | k + 1 => fq (floatOfInt .f64 (by_ (k + 1))) (roomP base ratio k)
def oneW : Nat := 4607182418800017408
def overP0 (S : List Nat) (x : Nat) : Option Nat → Bool
  | none => true
  | some b => gtF x (S.getD b 0)
/-- The place of the greatest of the first k numbers that are at least one; none: there is none. -/
def fullP (S : List Nat) : Nat → Option Nat
  | 0 => none
  | k + 1 => if (geF (S.getD k 0) oneW && overP0 S (S.getD k 0) (fullP S k)) = true then some k else fullP S k
theorem fullP_same {S T : List Nat} (h : SameL S T) : ∀ k, fullP S k = fullP T k
  | 0 => rfl
  | k + 1 => by
    have e : overP0 S (S.getD k 0) (fullP T k) = overP0 T (T.getD k 0) (fullP T k) := by
      cases fullP T k with
      | none => rfl
      | some b => exact gtF_same (h.getD k) (h.getD b)
    rw [fullP, fullP, fullP_same h k, geF_same oneW (h.getD k), e]
theorem fullP_lt {S : List Nat} : ∀ {k b : Nat}, fullP S k = some b → b < k ∧ geF (S.getD b 0) oneW = true
  | 0, b, h => by cases h
  | k + 1, b, h => by
    rw [fullP] at h
    by_cases hc : (geF (S.getD k 0) oneW && overP0 S (S.getD k 0) (fullP S k)) = true
    · rw [if_pos hc] at h
      cases h
      rw [Bool.and_eq_true] at hc
      exact ⟨by omega, hc.1⟩
    · rw [if_neg hc] at h
      have := fullP_lt (k := k) h
      exact ⟨by omega, this.2⟩
/-- Nothing by whatever is never at least one. -/
theorem zero_small (y : Nat) : geF (fq (floatOfInt .f64 0) y) oneW = false := by
  have hz : ∀ s : Bool, geF (Ieee.double.word s 0) oneW = false := by
    intro s; cases s <;> decide +kernel
  unfold fq
  rw [flt_zero]
  cases h : floatBits .quo .f64 0 y with
  | none => decide +kernel
  | some r =>
    have h : Ieee.double.div 0 y = some r := h
    unfold Format.div at h
    rw [read_zero] at h
    show geF r oneW = false
    cases hy : Ieee.double.read y with
    | nan s f => rw [hy] at h; cases h
    | infinity s =>
      rw [hy] at h
      simp only [Datum.quotient] at h
      cases h
      show geF (Ieee.double.nearest (false ^^ s) 0 0) oneW = false
      unfold Format.nearest
      rw [if_pos rfl]
      exact hz _
    | number s m i =>
      rw [hy] at h
      simp only [Datum.quotient] at h
      by_cases hm : m = 0
      · rw [if_pos hm] at h
        cases h
      · rw [if_neg hm, Nat.zero_shiftLeft, Nat.zero_div, Nat.zero_mod] at h
        cases h
        show geF (Ieee.double.nearest _ 0 _) oneW = false
        unfold Format.nearest
        rw [if_pos rfl]
        exact hz _
end Go.Proofs.Ytcljocmaojfhhaa

namespace Go.Proofs.Ytcljocmaojfhhaa
open Go.RowKit

theorem flt_lt64 (n : Int) : floatOfInt .f64 n < 18446744073709551616 := by
  show Ieee.double.write (.number (decide (n < 0)) n.natAbs 0) < _
  exact (write_lt rfl).1
def elReals : El (Nat) := ⟨fun x => [.float .f64 x], 1, by decide, fun _ => rfl, fun x u hu => by simp at hu; subst hu; rfl, fun i k => floatOfInt .f64 (-1000000 * (i : Int) - (k : Int) - 7)⟩
def okReals (x : Nat) : Prop := x < 18446744073709551616
theorem okmReals (i start n : Nat) : ∀ x ∈ elReals.marks i start n, okReals x := by
  intro x hx
  obtain ⟨k, _, rfl⟩ := List.mem_map.1 hx
  exact flt_lt64 _
theorem infoReals : (Try.prog.info? 23).map (fun i => (i.zero, i.size, i.bytes)) = some (some (.float .f64 0), elReals.sz, 8) := by kernel_rfl
theorem underReals : Try.prog.underlying 33 = some (.slice 23) := by kernel_rfl
end Go.Proofs.Ytcljocmaojfhhaa

namespace Go.Proofs.Ytcljocmaojfhhaa
open Go.RowKit

def scoresP (L : List FileM) (base ratio : Nat) : List Nat := (List.range 6).map (scoreP ((ofP L 0).length : Nat) (fun k => bytesP L (k : Nat)) base ratio)
theorem scoresP_len (L : List FileM) (base ratio : Nat) : (scoresP L base ratio).length = 6 := by simp [scoresP]
theorem scoresP_at (L : List FileM) (base ratio j : Nat) (h : j < 6) : (scoresP L base ratio)[j]? = some (scoreP ((ofP L 0).length : Nat) (fun k => bytesP L (k : Nat)) base ratio j) := by
  unfold scoresP
  rw [List.getElem?_map, List.getElem?_range h]
  rfl
theorem realRow_set (S : List Nat) (j : Nat) (x : Nat) : (elReals.row S).set j (.float .f64 x) = elReals.row (S.set j x) := by
  have h : ∀ S : List Nat, elReals.row S = S.map (Value.float .f64) := fun S => by
    induction S with
    | nil => rfl
    | cons y r ih =>
      have e : elReals.row (y :: r) = Value.float .f64 y :: elReals.row r := rfl
      rw [e, ih, List.map_cons]
  rw [h, h, List.map_set]
theorem own_setR {w : World} {B g c n j : Nat} {e : TypeId} {S : List Nat} (h : Own elReals w B e (.slice (some ⟨g, 0, none⟩) n c) S) (x : Nat) :
    Own elReals (w.setCell ⟨g, j, none⟩ (.float .f64 x)) B e (.slice (some ⟨g, 0, none⟩) n c) (S.set j x) ∧ w.grownBy (w.setCell ⟨g, j, none⟩ (.float .f64 x)) (some g) := by
  obtain ⟨hn, _, _⟩ := own_reads h
  subst hn
  have h1 := World.ownsRow.stored h j (.float .f64 x)
  rw [realRow_set] at h1
  refine ⟨?_, h1.2⟩
  unfold Own
  rw [List.length_set]
  exact h1.1
theorem own_cellR {w : World} {B g c n j x : Nat} {e : TypeId} {S : List Nat} (h : Own elReals w B e (.slice (some ⟨g, 0, none⟩) n c) S) (hx : S[j]? = some x) : w.cell? ⟨g, j, none⟩ = some (.float .f64 x) := by
  have := Own.cells (j := 0) (u := .float .f64 x) h hx (by decide) rfl
  rwa [show j * elReals.sz + 0 = j by show j * 1 + 0 = j; omega] at this
set_option maxRecDepth 100000 in
theorem pratio_any (a b : Int) (w : World) : Calls Try.prog 17 #[.int .i64 a, .int .i64 b] w fun e w' => ∃ z, e = .returned (.float .f64 z) ∧ SameF z (fq (floatOfInt .f64 a) (floatOfInt .f64 b)) ∧ z < 18446744073709551616 ∧ w.grownBy w' none := by
  refine (fratio_any a b w).mono ?_
  intro e w' h
  unfold RatP at h
  unfold fq
  cases hq : floatBits .quo .f64 (floatOfInt .f64 a) (floatOfInt .f64 b) with
  | some r =>
    rw [hq] at h
    obtain ⟨h1, rfl⟩ := h
    exact ⟨r, h1, Or.inl rfl, quo_lt hq, grefl _ _⟩
  | none =>
    rw [hq] at h
    obtain ⟨z, h1, h2, h3, h4⟩ := h
    exact ⟨z, h1, Or.inr ⟨h2.out, nanW_is⟩, h3, g_below h4⟩
set_option maxRecDepth 100000 in
set_option maxHeartbeats 4000000 in
theorem pscores_any (A : Option Addr) (n c : Nat) (L : List FileM) (base ratio : Nat) (w : World) (hI : FilesAt w A n L) (hn : n ≤ 1000000) (hb64 : base < 18446744073709551616) :
    Calls Try.prog 8 #[.slice A n c, .float .f64 base, .float .f64 ratio] w fun e w' => ∃ g S, e = .returned (.slice (some ⟨g, 0, none⟩) 6 6) ∧ Own elReals w' w.heap.size 23 (.slice (some ⟨g, 0, none⟩) 6 6) S ∧ SameL S (scoresP L base ratio) ∧ (∀ x ∈ S, x < 18446744073709551616) ∧ w.grownBy w' none := by
  obtain ⟨i0, hi0, hz0, hz1, hz2⟩ := info_parts infoReals
  have CO := fun W (h : w.grownBy W none) => Lib.hid (pof_any A n c L 0 W (hI.below (below_g h)) hn)
  have CB := fun W (h : w.grownBy W none) (k : Int) => Lib.hid (pbytes_any A n c L k W (hI.below (below_g h)) hn)
  have CR := fun W => Lib.hid (pratio_any ((ofP L 0).length : Nat) 4 W)
  have hst := run_store_f64P
  obtain ⟨sc, hsc⟩ : ∃ sc, sc = scoreP ((ofP L 0).length : Nat) (fun k => bytesP L (k : Nat)) base ratio := ⟨_, rfl⟩
  have SC0 : Hid (sc 0 = fq (floatOfInt .f64 ((ofP L 0).length : Nat)) (floatOfInt .f64 4)) := Lib.hid (by rw [hsc]; rfl)
  have SC1 : Hid (∀ k, sc (k + 1) = fq (floatOfInt .f64 (bytesP L ((k + 1 : Nat) : Int))) (roomP base ratio k)) := Lib.hid (by rw [hsc]; intro k; rfl)
  have SCL : Hid (∀ S : List Nat, S.length = 6 → (∀ j, j < 6 → SameF (S.getD j 0) (sc j)) → SameL S (scoresP L base ratio)) := Lib.hid fun S h1 h2 => ⟨by rw [h1, scoresP_len], fun j x y hx hy => by
    have hj : j < 6 := by rw [← h1]; exact (List.getElem?_eq_some_iff.1 hx).1
    rw [scoresP_at L base ratio j hj, ← hsc] at hy
    cases hy
    have := h2 j hj
    rwa [List.getD_eq_getElem?_getD, hx] at this⟩
  generalize scoresP L base ratio = TS at *
  clear hsc hI
  go_enter Try.func8, Try.ntmps8
  go_wp2_with (at_make; refine wpList_make_full _ rfl (.const (.int .i64 6)) (.const (.int .i64 6)) 33 rfl w.heap.size 23 i0 (.float .f64 0) 1 Try.underlying33 hi0 hz0 hz1 .i64 .i64 _ _ 6 rfl rfl rfl rfl ?b2 ?b3 ?b4 ?_)
  case b2 => rw [hz2]; omega
  case b3 => unfold maxLen; omega
  case b4 => exact Nat.le_refl _
  intro w2 hown hgr
  have hmade : (madeCells #[Value.float .f64 0] (6 * 1)).toList = elReals.row (List.replicate 6 0) := toList_madeCells_one _ _
  have hown : Own elReals w2 w.heap.size 23 (.slice (some ⟨w.heap.size, 0, none⟩) 6 6) (List.replicate 6 0) := by unfold Own; rw [← hmade]; exact hown
  have HG2 := Lib.hid hgr
  have HO2 := Lib.hid hown
  clear hown hgr hmade
  go_wp2_with fail
  refine (CO w2 HG2.out).out.mono ?_
  rintro e w3 ⟨v3, rfl, ho3, hg3⟩
  obtain ⟨a3, c3, rfl⟩ := ho3.slice
  have HG3 := Lib.hid (gnone HG2.out hg3)
  have HO3 := Lib.hid (HO2.out.below (below_g hg3))
  clear ho3 hg3 HO2 CO
  go_wp2_with fail
  refine (CR w3).out.mono ?_
  rintro e w4 ⟨z, rfl, hz, hz64, hg4⟩
  have HG4 := Lib.hid (gnone HG3.out hg4)
  have HO4 := Lib.hid (HO3.out.below (below_g hg4))
  have c4 := own_cellR (j := 0) HO4.out rfl
  have f4 := HO4.out.frozen_ 0
  have st4 := own_setR (j := 0) HO4.out z
  have HS5 := Lib.hid st4.1
  have HG5 : Hid (w.grownBy (w4.setCell ⟨w.heap.size, 0, none⟩ (.float .f64 z)) none) := Lib.hid (grow_k HG4.out HO4.out (Nat.le_refl _) st4.2)
  have HZ : Hid (SameF z (sc 0)) := Lib.hid (by rw [SC0.out]; exact hz)
  have HZ64 := Lib.hid hz64
  have HB64 := Lib.hid hb64
  clear hz hg4 HO3 HO4 HG3 HG4 st4 CR hz64 HG2 hb64
  go_wp2_with fail
  go_loopw [8, 9] (fun r i wr => ∃ (k : Nat) (q : Nat) (S : List Nat), 1 ≤ k ∧ k ≤ 6 ∧ i = .int .i64 (k : Int) ∧ r = .float .f64 q ∧ Hid (SameF q (roomP base ratio (k - 1))) ∧ Hid (q < 18446744073709551616) ∧ Hid (S.length = 6) ∧ Hid (∀ j, j < k → SameF (S.getD j 0) (sc j)) ∧ Hid (∀ x ∈ S, x < 18446744073709551616) ∧ Hid (Own elReals wr w.heap.size 23 (.slice (some ⟨w.heap.size, 0, none⟩) 6 6) S) ∧ Hid (w.grownBy wr none)) (fun _ i _ => 6 - (intOf i).toNat)
  case atStart =>
    refine ⟨1, base, _, by omega, by omega, rfl, rfl, Lib.hid (SameF.refl _), HB64, Lib.hid (by simp), Lib.hid fun j hj => ?_, Lib.hid fun x hx => ?_, HS5, HG5⟩
    · obtain rfl : j = 0 := by omega
      exact HZ.out
    · rcases List.mem_or_eq_of_mem_set hx with h | h
      · rw [List.mem_replicate] at h; omega
      · rw [h]; exact HZ64.out
  case round =>
    obtain ⟨k, q, S, k1, k6, rfl, rfl, HQ, HQ64, HSl, HSC, HS64, HO, HG⟩ := hrel
    clear HS5 HG5 HZ HZ64 HB64 c4 f4
    by_cases hl : k < 6
    · have g1 : (k : Int) < 6 := by omega
      have g2 : (0 : Int) ≤ (k : Int) := by omega
      have w1 : wrap64 ((k : Int) + 1) = (k : Int) + 1 := by unfold wrap64; omega
      have CBk := CB wr HG.out (k : Int)
      have SCk : Hid (sc k = fq (floatOfInt .f64 (bytesP L (k : Int))) (roomP base ratio (k - 1))) := Lib.hid (by
        have := SC1.out (k - 1)
        rwa [show k - 1 + 1 = k by omega] at this)
      have HRm : Hid (roomP base ratio k = fm (roomP base ratio (k - 1)) ratio) := Lib.hid (by
        obtain ⟨m, rfl⟩ : ∃ m, k = m + 1 := ⟨k - 1, by omega⟩
        rfl)
      generalize bytesP L (k : Int) = by_ at *
      go_wp2_with fail
      refine CBk.out.mono ?_
      rintro e w5 ⟨rfl, hg5⟩
      have HO5 := HO.out.below (below_g hg5)
      have hgg := gnone HG.out hg5
      obtain ⟨z1, w6, hr1, hs1, hl1, hg6⟩ := run_fq (floatOfInt .f64 by_) q w5
      have HO6 := HO5.below (below_g hg6)
      have hgg6 := gnone hgg hg6
      have hkS : k < S.length := by rw [HSl.out]; exact hl
      have c6 := own_cellR (j := k) HO6 (List.getElem?_eq_getElem hkS)
      generalize S[k] = old at c6
      have f6 := HO6.frozen_ k
      have st6 := own_setR (j := k) HO6 z1
      have hg7 : w.grownBy (w6.setCell ⟨w.heap.size, k, none⟩ (.float .f64 z1)) none := grow_k hgg6 HO6 (Nat.le_refl _) st6.2
      obtain ⟨z2, w8, hr2, hs2, hl2, hg8⟩ := run_fm q ratio (w6.setCell ⟨w.heap.size, k, none⟩ (.float .f64 z1))
      have HO8 := Lib.hid (st6.1.below (below_g hg8))
      have HG8 := Lib.hid (gnone hg7 hg8)
      have HL8 : Hid ((S.set k z1).length = 6) := Lib.hid (by rw [List.length_set]; exact HSl.out)
      have HQ8 : Hid (SameF z2 (roomP base ratio (k + 1 - 1))) := Lib.hid (by
        rw [Nat.add_sub_cancel, HRm.out]
        exact hs2.trans (fm_left HQ.out))
      have HC8 : Hid (∀ j, j < k + 1 → SameF ((S.set k z1).getD j 0) (sc j)) := Lib.hid fun j hj => by
        rw [List.getD_eq_getElem?_getD]
        by_cases e : j = k
        · subst e
          rw [List.getElem?_set_self hkS, SCk.out]
          exact hs1.trans (fq_right HQ.out)
        · rw [List.getElem?_set_ne (fun h => e h.symm), ← List.getD_eq_getElem?_getD]
          exact HSC.out j (by omega)
      have H64 : Hid (∀ x ∈ S.set k z1, x < 18446744073709551616) := Lib.hid fun x hx => by
        rcases List.mem_or_eq_of_mem_set hx with h | h
        · exact HS64.out x h
        · rw [h]; exact hl1
      have HL2 := Lib.hid hl2
      clear CBk hg5 HO5 hgg hs1 hl1 hg6 HO6 hgg6 hkS st6 hg7 hs2 hl2 hg8 HO HG
      go_wp2_with fail
      go_roundw
      case rel => exact ⟨k + 1, z2, S.set k z1, by omega, by omega, by go_num, rfl, HQ8, HL2, HL8, HC8, H64, HO8, HG8⟩
      case measure => exact meas_ltP hl
    · obtain rfl : k = 6 := by omega
      have hX := Lib.hid (SCL.out S HSl.out HSC.out)
      go_wp2_with fail
      go_ret
      exact ⟨_, S, rfl, HO.out, hX.out, HS64.out, HG.out⟩
end Go.Proofs.Ytcljocmaojfhhaa
