/-
  Plain lemmas: how a key is read out of bytes. No program is named.
-/
import Derived.Test.YthjphiniljopgaaDoorIkP2
namespace Go.Proofs.YthjphiniljopgaaDoor
open Go.RowKit

/-- The key at the front of bytes, as far as it goes, and what is left: at most m steps. -/
def scanL : Nat → List UInt8 → List UInt8 → List UInt8 × List UInt8
  | 0, acc, l => (acc, l)
  | m + 1, acc, c :: d :: l => if c = 0 ∧ d = 1 then (acc, c :: d :: l) else if c = 0 then scanL m (acc ++ [0]) l else scanL m (acc ++ [c]) (d :: l)
  | _ + 1, acc, l => (acc, l)

theorem scanL_head : ∀ (key acc rest : List UInt8) (m : Nat), key.length ≤ m → scanL (m + 1) acc (headL key ++ rest) = (acc ++ key, 0 :: 1 :: rest)
  | [], acc, rest, m, _ => by simp [headL, scanL]
  | c :: k, acc, rest, 0, h => by simp at h
  | c :: k, acc, rest, m + 1, h => by
    have h' : k.length ≤ m := by simpa using h
    unfold headL
    by_cases hc : c = 0
    · subst hc
      rw [if_pos rfl]
      simp only [List.cons_append]
      unfold scanL
      rw [if_neg (by rintro ⟨_, h⟩; exact absurd h (by decide)), if_pos rfl, scanL_head k (acc ++ [0]) rest m h']
      simp
    · rw [if_neg hc]
      obtain ⟨d, l, hd⟩ : ∃ d l, headL k ++ rest = d :: l := by
        cases hk : headL k ++ rest with
        | nil =>
          have := (headL_two k).1
          rw [(List.append_eq_nil_iff.1 hk).1] at this
          simp at this
        | cons d l => exact ⟨d, l, rfl⟩
      simp only [List.cons_append]
      rw [hd]
      unfold scanL
      rw [if_neg (fun h => hc h.1), if_neg hc, ← hd, scanL_head k (acc ++ [c]) rest m h']
      simp
/-- Once nothing more is read, more steps read nothing more. -/
theorem scanL_stop (m : Nat) (acc l : List UInt8) (h : l.length < 2 ∨ ∃ r, l = 0 :: 1 :: r) : scanL m acc l = (acc, l) := by
  cases m with
  | zero => rfl
  | succ m =>
    rcases h with h | ⟨r, rfl⟩
    · match l, h with
      | [], _ => rfl
      | [_], _ => rfl
    · simp [scanL]
theorem scanL_zero (m : Nat) (acc l : List UInt8) (d : UInt8) (hd : d ≠ 1) : scanL (m + 1) acc (0 :: d :: l) = scanL m (acc ++ [0]) l := by
  show (if (0 : UInt8) = 0 ∧ d = 1 then _ else _) = _
  rw [if_neg (fun h => hd h.2), if_pos rfl]
theorem scanL_one (m : Nat) (acc l : List UInt8) (c d : UInt8) (hc : c ≠ 0) : scanL (m + 1) acc (c :: d :: l) = scanL m (acc ++ [c]) (d :: l) := by
  show (if c = 0 ∧ d = 1 then _ else _) = _
  rw [if_neg (fun h => hc h.1), if_neg hc]
/-- What is read of a version's bytes. -/
theorem scanL_put (key : List UInt8) (xs : List Int) (o x : Int) (m : Nat) (h : key.length ≤ m) : scanL (m + 1) [] (putVL key xs o x) = (key, 0 :: 1 :: tailL (timeN xs o).toNat o.toNat x.toNat (vecB xs)) := by
  unfold putVL
  rw [scanL_head key [] _ m h]
  rfl
end Go.Proofs.YthjphiniljopgaaDoor
