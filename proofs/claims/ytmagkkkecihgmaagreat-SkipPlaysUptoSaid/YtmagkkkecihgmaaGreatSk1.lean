/-
  The document's own list of chapter 10, part 1: how it lies in memory; the order of bytes; where a key's place is.
-/
import Derived.Test.YtmagkkkecihgmaaGreatBkC
import Derived.LoopTactic
import Derived.BigQuiet
import Derived.Lib.Strings
import Derived.Lib.Bytealg
namespace Go.Proofs.YtmagkkkecihgmaaGreat
open Go.RowKit

theorem cmp9_cons (a b : UInt8) (r t : List UInt8) : Lib.compareBytes (a :: r) (b :: t) = if a.toNat < b.toNat then -1 else if b.toNat < a.toNat then 1 else Lib.compareBytes r t := by
  rw [Lib.compareBytes]
  simp only [UInt8.lt_iff_toNat_lt]
/-- The order of two texts, by their bytes. -/
def cmpT (a b : ByteArray) : Int := Lib.compareBytes a.data.toList b.data.toList

set_option maxRecDepth 100000 in
set_option maxHeartbeats 2000000 in
theorem rcompare9 (a b : ByteArray) (w : World) (ha : a.size ≤ 9223372036854775807) (hb : b.size ≤ 9223372036854775807) :
    Calls Tryz.prog 37 #[.string a, .string b] w fun e w' => e = .returned (.int .i64 (cmpT a b)) ∧ ∃ j, w' = w.drewN j := by
  have hla : a.data.toList.length = a.size := rfl
  have hlb : b.data.toList.length = b.size := rfl
  obtain ⟨g, hg⟩ : ∃ g, g = Lib.compareBytes a.data.toList b.data.toList := ⟨_, rfl⟩
  unfold cmpT
  rw [← hg]
  have Hg := Lib.hid hg
  have Hla := Lib.hid hla
  have Hlb := Lib.hid hlb
  clear hg hla hlb
  go_enter Tryz.func37, Tryz.ntmps37
  go_wp2_with fail
  go_loopw [5] (fun i wr => ∃ k j : Nat, k ≤ a.size ∧ k ≤ b.size ∧ i = .int .i64 (k : Int) ∧ Hid (g = Lib.compareBytes (a.data.toList.drop k) (b.data.toList.drop k)) ∧ Hid (wr = w.drewN j)) (fun i _ => a.size - (intOf i).toNat)
  case atStart => exact ⟨0, 0, by omega, by omega, rfl, Hg, Lib.hid rfl⟩
  case round =>
    obtain ⟨k, j0, hka, hkb, rfl, Hk, HW⟩ := hrel
    by_cases hl : k < a.size
    · by_cases hm : k < b.size
      · have hda : a.data.toList.drop k = a[k] :: a.data.toList.drop (k + 1) := List.drop_eq_getElem_cons (by simpa using hl)
        have hdb : b.data.toList.drop k = b[k] :: b.data.toList.drop (k + 1) := List.drop_eq_getElem_cons (by simpa using hm)
        have hk := Hk.out
        rw [hda, hdb, cmp9_cons] at hk
        have hka' : (k : Int) < (a.size : Int) := by omega
        have hkb' : (k : Int) < (b.size : Int) := by omega
        have hk0 : (0 : Int) ≤ (k : Int) := by omega
        clear hda hdb
        by_cases h1 : a[k].toNat < b[k].toNat
        · rw [if_pos h1] at hk
          have Hk2 := Lib.hid hk
          have e1 : decide (a[k].toNat < b[k].toNat) = true := decide_eq_true (by omega)
          clear hk h1
          go_wp2_with fail
          go_quiet (fail)
          go_wp2_with fail
          go_ret
          exact ⟨by rw [Hk2.out]; rfl, _, by rw [HW.out]; simp only [World.drewN_drewN]; rfl⟩
        · rw [if_neg h1] at hk
          have e1 : decide (a[k].toNat < b[k].toNat) = false := decide_eq_false (by omega)
          by_cases h2 : b[k].toNat < a[k].toNat
          · rw [if_pos h2] at hk
            have Hk2 := Lib.hid hk
            have e2 : decide (b[k].toNat < a[k].toNat) = true := decide_eq_true (by omega)
            clear hk h1 h2
            go_wp2_with fail
            go_quiet (fail)
            go_wp2_with fail
            go_quiet (fail)
            go_wp2_with fail
            go_ret
            exact ⟨by rw [Hk2.out]; rfl, _, by rw [HW.out]; simp only [World.drewN_drewN]; rfl⟩
          · rw [if_neg h2] at hk
            have Hk2 := Lib.hid hk
            have e2 : decide (b[k].toNat < a[k].toNat) = false := decide_eq_false (by omega)
            clear hk h1 h2
            go_wp2_with fail
            go_quiet (fail)
            go_wp2_with fail
            go_quiet (fail)
            go_wp2_with fail
            go_roundw
            case rel => exact ⟨k + 1, _, by omega, by omega, by go_num, Hk2, Lib.hid (by rw [HW.out]; simp only [World.drewN_drewN]; rfl)⟩
            case measure => simp [intOf]; omega
      · obtain rfl : k = b.size := by omega
        have hgg : g = 1 := by
          rw [Hk.out, List.drop_of_length_le (Nat.le_of_eq Hlb.out), show a.data.toList.drop b.size = a[b.size] :: a.data.toList.drop (b.size + 1) from List.drop_eq_getElem_cons (by simpa using hl)]
          rfl
        have Hgg := Lib.hid hgg
        clear hgg
        go_wp2_with fail
        go_ret
        exact ⟨by rw [Hgg.out]; rfl, j0, HW.out⟩
    · obtain rfl : k = a.size := by omega
      by_cases hm : a.size < b.size
      · have hgg : g = -1 := by
          rw [Hk.out, List.drop_of_length_le (Nat.le_of_eq Hla.out), show b.data.toList.drop a.size = b[a.size] :: b.data.toList.drop (a.size + 1) from List.drop_eq_getElem_cons (by simpa using hm)]
          rfl
        have Hgg := Lib.hid hgg
        clear hgg
        go_wp2_with fail
        go_ret
        exact ⟨by rw [Hgg.out]; rfl, j0, HW.out⟩
      · have heq : a.size = b.size := by omega
        have hgg : g = 0 := by
          rw [Hk.out, List.drop_of_length_le (Nat.le_of_eq Hla.out), List.drop_of_length_le (by rw [Hlb.out]; omega)]
          rfl
        have Hgg := Lib.hid hgg
        clear hgg
        have h3 : ¬ (b.size < a.size) := by omega
        go_wp2_with fail
        go_ret
        exact ⟨by rw [Hgg.out]; rfl, j0, HW.out⟩

/-- A pair of the list, with its height. -/
abbrev P10 := ByteArray × ByteArray × Int
def elP : El P10 where
  cl x := [.string x.1, .string x.2.1, .int .i64 x.2.2]
  sz := 3
  pos := by decide
  len _ := rfl
  one x u hu := by simp at hu; rcases hu with rfl | rfl | rfl <;> rfl
  mark _ _ := (⟨#[]⟩, ⟨#[]⟩, 0)
/-- What chapter 10's list is: its pairs, and whether it is frozen. -/
structure S10 where
  L : List P10
  frozen : Bool
/-- The document's own list s lies behind p. -/
def SkR (B p : Nat) (w : World) (s : S10) : Prop :=
  ∃ sl, Blk w p 29 #[sl, .bool s.frozen] ∧ Own elP w B 80 sl s.L ∧ B ≤ p ∧ ∀ m ∈ s.L, m.1.size ≤ 65536 ∧ m.2.1.size ≤ 65536 ∧ 1 ≤ m.2.2 ∧ m.2.2 ≤ 12
/-- Its cells, read. -/
structure SkC (p : Nat) (w : World) (s : S10) (A : Option Addr) (c : Nat) : Prop where
  c0 : w.cell? ⟨p, 0, none⟩ = some (.slice A s.L.length c)
  c1 : w.cell? ⟨p, 1, none⟩ = some (.bool s.frozen)
  f0 : w.frozen? ⟨p, 0, none⟩ = false
  f1 : w.frozen? ⟨p, 1, none⟩ = false
  none_ : A = none → s.L = []
  le : s.L.length ≤ c
  cap : c ≤ maxLen
  row : ∀ a, A = some a → a = ⟨a.block, 0, none⟩
  at_ : ∀ k m, s.L[k]? = some m → ∃ g, A = some ⟨g, 0, none⟩ ∧ w.cell? ⟨g, k * 3, none⟩ = some (.string m.1) ∧ w.cell? ⟨g, k * 3 + 1, none⟩ = some (.string m.2.1) ∧ w.cell? ⟨g, k * 3 + 2, none⟩ = some (.int .i64 m.2.2)
theorem SkR.cells {B p : Nat} {w : World} {s : S10} (h : SkR B p w s) : ∃ A c, SkC p w s A c := by
  obtain ⟨sl, h1, h2, _, _⟩ := h
  have c0 := h1.cell 0
  have H2 := h2
  rcases h2.2 with ⟨rfl, e0⟩ | ⟨g, cap, cur, rfl, _, hh, hle, hcm, _, _⟩
  · have hL : s.L = [] := List.eq_nil_of_length_eq_zero e0
    exact ⟨none, 0, by rw [hL]; exact c0, h1.cell 1, h1.frozen 0, h1.frozen 1, fun _ => hL, by rw [e0]; exact Nat.le_refl _, by unfold maxLen; omega, (fun _ e => by cases e), (fun k m hm => by rw [hL] at hm; simp at hm)⟩
  · exact ⟨some ⟨g, 0, none⟩, cap, c0, h1.cell 1, h1.frozen 0, h1.frozen 1, (fun e => by cases e), hle, hcm, (fun a e => by cases e; rfl), fun k m hm => ⟨g, rfl, H2.cells (j := 0) hm (by decide) rfl, H2.cells (j := 1) hm (by decide) rfl, H2.cells (j := 2) hm (by decide) rfl⟩⟩

/-- How many pairs at the head have keys below this one. -/
def placeL (L : List P10) (key : ByteArray) : Nat := (L.takeWhile fun m => decide (cmpT m.1 key < 0)).length
theorem placeL_le (L : List P10) (key : ByteArray) : placeL L key ≤ L.length := (List.takeWhile_sublist _).length_le
theorem placeL_of (key : ByteArray) : ∀ (L : List P10) (k : Nat), k ≤ L.length → (∀ i m, i < k → L[i]? = some m → cmpT m.1 key < 0) → (∀ m, L[k]? = some m → 0 ≤ cmpT m.1 key) → placeL L key = k := by
  intro L
  induction L with
  | nil => intro k hk _ _; simp at hk; subst hk; rfl
  | cons x L ih =>
    intro k hk h1 h2
    cases k with
    | zero =>
      have := h2 x rfl
      unfold placeL
      rw [List.takeWhile_cons_of_neg (by simpa using this)]
      rfl
    | succ k =>
      have := h1 0 x (by omega) rfl
      unfold placeL
      rw [List.takeWhile_cons_of_pos (by simpa using this), List.length_cons]
      exact congrArg (· + 1) (ih k (by simpa using hk) (fun i m hi hm => h1 (i + 1) m (by omega) (by simpa using hm)) (fun m hm => h2 m (by simpa using hm)))

set_option maxRecDepth 100000 in
set_option maxHeartbeats 2000000 in
theorem rat_any {B p : Nat} {s : S10} {w : World} (h : SkR B p w s) (key : ByteArray) (hkey : key.size ≤ 140737488351232) :
    Calls Tryz.prog 34 #[.pointer (some ⟨p, 0, none⟩), .string key] w fun e w' => e = .returned (.int .i64 (placeL s.L key)) ∧ ∃ j, w' = w.drewN j := by
  obtain ⟨A, c, hc⟩ := h.cells
  obtain ⟨sl, _, _, _, hs⟩ := h
  have c0 := hc.c0
  have hat := hc.at_
  have hcap : s.L.length ≤ maxLen := Nat.le_trans hc.le hc.cap
  unfold maxLen at hcap
  obtain ⟨L, hL⟩ : ∃ L, L = s.L := ⟨_, rfl⟩
  rw [← hL] at hs c0 hat hcap ⊢
  obtain ⟨n, hn⟩ : ∃ n, n = L.length := ⟨_, rfl⟩
  rw [← hn] at c0 hcap
  have Hn := Lib.hid hn
  have Hat := Lib.hid hat
  have Hs := Lib.hid hs
  obtain ⟨r, hr⟩ : ∃ r, placeL L key = r := ⟨_, rfl⟩
  rw [hr]
  have Hr := Lib.hid hr
  have Hkey := Lib.hid hkey
  clear hat hn hs hr hkey hc hL
  go_enter Tryz.func34, Tryz.ntmps34
  go_wp2_with fail
  go_loopw [5] (fun i wr => ∃ k j : Nat, k ≤ n ∧ i = .int .i64 (k : Int) ∧ Hid (∀ i m, i < k → L[i]? = some m → cmpT m.1 key < 0) ∧ wr = w.drewN j) (fun i _ => n - (intOf i).toNat)
  case atStart => exact ⟨0, 0, by omega, rfl, Lib.hid (fun _ _ h => by omega), rfl⟩
  case round =>
    obtain ⟨k, j0, hk, rfl, hf, rfl⟩ := hrel
    by_cases hl : k < n
    · have hlC : k < L.length := by rw [← Hn.out]; exact hl
      obtain ⟨g, rfl, x0, x1, x2⟩ := Hat.out k L[k] (List.getElem?_eq_getElem hlC)
      clear x1 x2
      have g2 : (k : Int) < (n : Int) := by omega
      have CC := Lib.hid (rcompare9 L[k].1 key (w.drewN j0) (by have := (Hs.out L[k] (List.getElem_mem hlC)).1; omega) (by have := Hkey.out; omega))
      obtain ⟨m, hm⟩ : ∃ m, L[k] = m := ⟨_, rfl⟩
      rw [hm] at x0 CC
      have hk? : L[k]? = some m := by rw [List.getElem?_eq_getElem hlC, hm]
      have Hk := Lib.hid hk?
      clear hm hk? hlC
      by_cases he : cmpT m.1 key < 0
      · have e1 : decide (cmpT m.1 key < 0) = true := decide_eq_true he
        have hf2 : Hid (∀ i m, i < k + 1 → L[i]? = some m → cmpT m.1 key < 0) := by
          show ∀ i m, _
          intro i m' hi hm'
          by_cases e : i = k
          · subst e
            rw [Hk.out] at hm'
            cases hm'
            exact he
          · exact hf.out i m' (by omega) hm'
        generalize cmpT m.1 key = cm at *
        clear hf
        go_wp2_with fail
        refine CC.out.mono ?_
        rintro e w7 ⟨rfl, j1, rfl⟩
        go_wp2_with fail
        go_roundw
        case rel => exact ⟨k + 1, _, by omega, by go_num, hf2, rfl⟩
        case measure => simp [intOf]; omega
      · have e1 : decide (cmpT m.1 key < 0) = false := decide_eq_false he
        have e2 : placeL L key = k := placeL_of key L k (by rw [← Hn.out]; omega) hf.out (fun m' hm' => by
          rw [Hk.out] at hm'
          cases hm'
          omega)
        obtain rfl : r = k := by rw [← Hr.out]; exact e2
        generalize cmpT m.1 key = cm at *
        clear e2 hf
        go_wp2_with fail
        refine CC.out.mono ?_
        rintro e w7 ⟨rfl, j1, rfl⟩
        go_wp2_with fail
        go_ret
        exact ⟨rfl, _, rfl⟩
    · obtain rfl : k = n := by omega
      have e2 : placeL L key = k := placeL_of key L k (by rw [← Hn.out]; omega) hf.out (fun m' hm' => by
        rw [List.getElem?_eq_none (by rw [← Hn.out]; omega)] at hm'
        cases hm')
      obtain rfl : r = k := by rw [← Hr.out]; exact e2
      clear e2 hf hl hk
      go_wp2_with fail
      go_ret
      exact ⟨rfl, _, rfl⟩
end Go.Proofs.YtmagkkkecihgmaaGreat
