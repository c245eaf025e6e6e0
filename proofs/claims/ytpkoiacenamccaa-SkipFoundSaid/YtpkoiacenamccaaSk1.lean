/-
  The document's own list of chapter 10, part 1: how it lies in memory; the order of bytes; where a key's place is.
-/
import Derived.Test.YtpkoiacenamccaaBkC
import Derived.LoopTactic
import Derived.BigQuiet
import Derived.Lib.Strings
import Derived.Lib.Bytealg
namespace Go.Proofs.Ytpkoiacenamccaa
open Go.RowKit

theorem cmp9_cons (a b : UInt8) (r t : List UInt8) : Lib.compareBytes (a :: r) (b :: t) = if a.toNat < b.toNat then -1 else if b.toNat < a.toNat then 1 else Lib.compareBytes r t := by
  rw [Lib.compareBytes]
  simp only [UInt8.lt_iff_toNat_lt]
/-- The order of two texts, by their bytes. -/
def cmpT (a b : ByteArray) : Int := Lib.compareBytes a.data.toList b.data.toList

/-- A pair of the list, with its height. -/
abbrev P10 := ByteArray × ByteArray × Int
def elP : El P10 where
  cl x := [.string x.1, .string x.2.1, .int .i64 x.2.2]
  sz := 3
  pos := by decide
  len _ := rfl
  one x u hu := by simp at hu; rcases hu with rfl | rfl | rfl <;> rfl
  mark _ _ := (⟨#[]⟩, ⟨#[]⟩, 0)
/-- What chapter 10's list is: its pairs, and whether it is frozen. -/
structure S10 where
  L : List P10
  frozen : Bool
/-- Its cells, read. -/
structure SkC (p : Nat) (w : World) (s : S10) (A : Option Addr) (c : Nat) : Prop where
  c0 : w.cell? ⟨p, 0, none⟩ = some (.slice A s.L.length c)
  c1 : w.cell? ⟨p, 1, none⟩ = some (.bool s.frozen)
  f0 : w.frozen? ⟨p, 0, none⟩ = false
  f1 : w.frozen? ⟨p, 1, none⟩ = false
  none_ : A = none → s.L = []
  le : s.L.length ≤ c
  cap : c ≤ maxLen
  row : ∀ a, A = some a → a = ⟨a.block, 0, none⟩
  at_ : ∀ k m, s.L[k]? = some m → ∃ g, A = some ⟨g, 0, none⟩ ∧ w.cell? ⟨g, k * 3, none⟩ = some (.string m.1) ∧ w.cell? ⟨g, k * 3 + 1, none⟩ = some (.string m.2.1) ∧ w.cell? ⟨g, k * 3 + 2, none⟩ = some (.int .i64 m.2.2)
/-- How many pairs at the head have keys below this one. -/
def placeL (L : List P10) (key : ByteArray) : Nat := (L.takeWhile fun m => decide (cmpT m.1 key < 0)).length
theorem placeL_le (L : List P10) (key : ByteArray) : placeL L key ≤ L.length := (List.takeWhile_sublist _).length_le
theorem placeL_of (key : ByteArray) : ∀ (L : List P10) (k : Nat), k ≤ L.length → (∀ i m, i < k → L[i]? = some m → cmpT m.1 key < 0) → (∀ m, L[k]? = some m → 0 ≤ cmpT m.1 key) → placeL L key = k := by
  intro L
  induction L with
  | nil => intro k hk _ _; simp at hk; subst hk; rfl
  | cons x L ih =>
    intro k hk h1 h2
    cases k with
    | zero =>
      have := h2 x rfl
      unfold placeL
      rw [List.takeWhile_cons_of_neg (by simpa using this)]
      rfl
    | succ k =>
      have := h1 0 x (by omega) rfl
      unfold placeL
      rw [List.takeWhile_cons_of_pos (by simpa using this), List.length_cons]
      exact congrArg (· + 1) (ih k (by simpa using hk) (fun i m hi hm => h1 (i + 1) m (by omega) (by simpa using hm)) (fun m hm => h2 m (by simpa using hm)))

end Go.Proofs.Ytpkoiacenamccaa
