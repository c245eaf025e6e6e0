/-
  What is got of bytes as a vector, in one contract for every text: the landed package vec.
-/
import Derived.Test.YthjphiniljopgaaDoorVec5
import Derived.Test.YthjphiniljopgaaDoorVecP
namespace Go.Proofs.YthjphiniljopgaaDoor
open Go.RowKit

/-- What Get answers: the times, how many bytes, the error. -/
def getT (s : ByteArray) : List Int × Int × Int :=
  if s.size = 0 then ([], 0, 3) else
  if getL (s.data.toList.take 1) = 0 ∨ 8 < getL (s.data.toList.take 1) then ([], 0, 4) else
  if s.size < 1 + 6 * getL (s.data.toList.take 1) then ([], 0, 3) else (timesL s.data.toList (getL (s.data.toList.take 1)), 1 + 6 * ((getL (s.data.toList.take 1) : Nat) : Int), 0)
theorem gvget_any (s : ByteArray) (w : World) (hs : s.size ≤ 140737488351232) :
    Calls Tryd.prog 42 #[.string s] w fun e w' => ∃ v, e = .returned (.tuple #[v, .int .i64 (getT s).2.1, .int .i64 (getT s).2.2]) ∧ Nums w' w.heap.size 3 v (getT s).1 ∧ Below w.heap.size w w' := by
  unfold getT
  split
  · next h => exact (vget_empty s w h).mono fun _ _ h => ⟨_, h.1, World.ownsRow_nil _ _ _ _, h.2⟩
  · next h0 =>
    split
    · next h => exact (vget_form s _ w (by omega) rfl h).mono fun _ _ h => ⟨_, h.1, World.ownsRow_nil _ _ _ _, h.2⟩
    · next h1 =>
      split
      · next h => exact (vget_short s _ w (by omega) (by omega) rfl (by omega) (by omega) h).mono fun _ _ h => ⟨_, h.1, World.ownsRow_nil _ _ _ _, h.2⟩
      · next h => exact (vget_ok s _ w (by omega) (by omega) rfl (by omega) (by omega) (by omega)).mono fun _ _ h => by obtain ⟨⟨v, e, hN⟩, hb⟩ := h; exact ⟨v, e, hN, hb⟩
theorem getL_below : ∀ l : List UInt8, getL l < 256 ^ l.length
  | [] => by decide
  | c :: r => by
    rw [getL_cons, List.length_cons, Nat.pow_succ]
    have h1 := getL_below r
    have h2 := UInt8.toNat_lt c
    have h3 : c.toNat * 256 ^ r.length ≤ 255 * 256 ^ r.length := Nat.mul_le_mul_right _ (by omega)
    omega
theorem getT_ok (s : ByteArray) : (getT s).1.length ≤ 1000 ∧ ∀ z ∈ (getT s).1, (Lit.int .i64 z).wf = true := by
  unfold getT
  split
  · exact ⟨by simp, by simp⟩
  · split
    · exact ⟨by simp, by simp⟩
    · split
      · exact ⟨by simp, by simp⟩
      · refine ⟨by rw [timesL_length]; omega, fun z hz => ?_⟩
        unfold timesL at hz
        obtain ⟨k, _, rfl⟩ := List.mem_map.1 hz
        have h1 := getL_below ((s.data.toList.drop (1 + 6 * k)).take 6)
        have h2 : ((s.data.toList.drop (1 + 6 * k)).take 6).length ≤ 6 := by rw [List.length_take]; omega
        have h3 : 256 ^ ((s.data.toList.drop (1 + 6 * k)).take 6).length ≤ 256 ^ 6 := Nat.pow_le_pow_right (by decide) h2
        have h4 : 256 ^ 6 = 281474976710656 := by decide
        exact WalkArith.wf_i64 ⟨by omega, by omega⟩
theorem getT_vecB {xs : List Int} (h : validL xs = true) (r : ByteArray) (hr : r.data.toList = vecB xs) : getT r = (xs, 1 + 6 * (xs.length : Int), 0) := by
  have hl : r.size = 1 + 6 * xs.length := by
    have := vecB_length xs
    rw [← hr, Array.length_toList] at this
    exact this
  have hv := (validL_of h).1
  have h1 := head_vecB xs [] h
  have h2 := times_vecB xs [] h
  rw [List.append_nil, ← hr] at h1 h2
  unfold getT
  rw [if_neg (by omega)]
  simp only [h1]
  rw [if_neg (by omega), if_neg (by omega), h2]
end Go.Proofs.YthjphiniljopgaaDoor
