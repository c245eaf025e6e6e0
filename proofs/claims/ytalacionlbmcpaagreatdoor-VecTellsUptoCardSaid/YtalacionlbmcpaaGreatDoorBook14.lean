/-
  Chapter 3's own answers: a vector's text, its bytes.
-/
import Derived.Test.YtalacionlbmcpaaGreatDoorBook13
import Derived.Test.YtalacionlbmcpaaGreatDoorVec4
import Derived.Test.YtalacionlbmcpaaGreatDoorRef1
import Derived.Test.YtalacionlbmcpaaGreatDoorRef4
namespace Go.Proofs.YtalacionlbmcpaaGreatDoor
open Go.RowKit

/-- The text of the first k. -/
def txtL (xs : List Int) (k : Nat) : List UInt8 := 91 :: Lib.join ((xs.take k).map Lib.itoa) [44]
theorem take_snoc (xs : List Int) (k : Nat) (hk : k < xs.length) : xs.take (k + 1) = xs.take k ++ [xs.getD k 0] := by
  rw [List.take_add_one, List.getD_eq_getElem?_getD, List.getElem?_eq_getElem hk]
  rfl
theorem txtL_one (xs : List Int) (h : 0 < xs.length) : txtL xs 1 = [91] ++ Lib.itoa (xs.getD 0 0) := by
  unfold txtL
  rw [take_snoc xs 0 h]
  simp [Lib.join_one]
theorem txtL_more (xs : List Int) (k : Nat) (h0 : 0 < k) (hk : k < xs.length) : txtL xs (k + 1) = (txtL xs k ++ [44]) ++ Lib.itoa (xs.getD k 0) := by
  unfold txtL
  rw [take_snoc xs k hk, List.map_append]
  cases hl : (xs.take k).map Lib.itoa with
  | nil =>
    have h : ((xs.take k).map Lib.itoa).length = k := by rw [List.length_map, List.length_take]; omega
    rw [hl] at h
    simp at h
    omega
  | cons x r =>
    rw [List.cons_append, Lib.join_cons, Lib.join_cons]
    unfold Lib.joinTail
    simp

set_option maxRecDepth 100000 in
set_option maxHeartbeats 1000000 in
theorem rtext_any (A : Option Addr) (n c : Nat) (xs : List Int) (w : World) (I : IntsIn w A n xs) (hn : n ≤ 1000) :
    Calls Tryz.prog 26 #[.slice A n c] w fun e w' => e = .returned (.string ⟨(textL xs).toArray⟩) ∧ Below w.heap.size w w' := by
  have l := I.len
  have J := Lib.hid I
  clear I
  have hn' : (n : Int) ≤ 1000 := by omega
  go_enter Tryz.func26, Tryz.ntmps26
  go_wp2_with fail
  go_loopw [3, 4] (fun s i wr => ∃ (k : Nat) (L : List UInt8), k ≤ n ∧ i = .int .i64 (k : Int) ∧ s = .string ⟨L.toArray⟩ ∧ Hid (L = txtL xs k) ∧ Hid (L.length ≤ 1 + 42 * k) ∧ Below w.heap.size w wr) (fun _ i _ => n - (intOf i).toNat)
  case atStart => exact ⟨0, [91], by omega, rfl, rfl, rfl, by unfold Hid; decide, Below.refl _ _⟩
  case round =>
    obtain ⟨k, L, hk, rfl, rfl, HL, HLL, hbe⟩ := hrel
    have hLL := HLL.out
    by_cases hl : k < n
    · obtain ⟨b, o, rfl, hlt, hc⟩ := (J.out.below hbe).some (by omega)
      have d := hc k hl
      have hwf := bounds_i64 (wf_getD J.out.wf (j := k) (by omega))
      obtain ⟨x, hx⟩ : ∃ x, xs.getD k 0 = x := ⟨_, rfl⟩
      rw [hx] at d hwf
      have hil := itoa_len x (by omega) (by omega)
      have Hx := Lib.hid hx
      have hl1 : (k : Int) < (n : Int) := by omega
      have D := Lib.hid (rdigits_any x wr (by omega) (by omega))
      clear hc hx
      by_cases h0 : k = 0
      · have h0' : ¬ 0 < (k : Int) := by omega
        have k2 := vcat L (Lib.itoa x) (by omega) (by omega)
        have HS : Hid (L ++ Lib.itoa x = txtL xs (k + 1)) := by unfold Hid; rw [HL.out, ← Hx.out]; subst h0; rw [txtL_one xs (by omega)]; rfl
        have HN : Hid ((L ++ Lib.itoa x).length ≤ 1 + 42 * (k + 1)) := by unfold Hid; rw [List.length_append]; omega
        clear hil hLL h0
        go_wp2_with fail
        refine D.out.mono ?_
        rintro e w2 ⟨rfl, hb2⟩
        go_wp2_with fail
        go_roundw
        case rel => exact ⟨k + 1, _, by omega, by go_num, rfl, HS.out, HN.out, hbe.trans (hb2.mono hbe.size)⟩
        case measure => simp [intOf]; omega
      · have k1 := vcat L [44] (by omega) (by decide)
        have k2 := vcat (L ++ [44]) (Lib.itoa x) (by rw [List.length_append]; simp only [List.length_cons, List.length_nil]; omega) (by omega)
        have HS : Hid ((L ++ [44]) ++ Lib.itoa x = txtL xs (k + 1)) := by unfold Hid; rw [txtL_more xs k (by omega) (by omega), Hx.out, HL.out]
        have HN : Hid (((L ++ [44]) ++ Lib.itoa x).length ≤ 1 + 42 * (k + 1)) := by unfold Hid; rw [List.length_append, List.length_append]; simp only [List.length_cons, List.length_nil]; omega
        have h0' : 0 < (k : Int) := by omega
        clear hil hLL
        go_wp2_with fail
        refine D.out.mono ?_
        rintro e w2 ⟨rfl, hb2⟩
        go_wp2_with fail
        go_roundw
        case rel => exact ⟨k + 1, _, by omega, by go_num, rfl, by unfold Hid; simpa using HS.out, by unfold Hid; simpa using HN.out, hbe.trans (hb2.mono hbe.size)⟩
        case measure => simp [intOf]; omega
    · obtain rfl : k = n := by omega
      have k1 := vcat L [93] (by omega) (by decide)
      have HS : Hid (L ++ [93] = textL xs) := by
        unfold Hid textL
        rw [HL.out]
        unfold txtL
        rw [List.take_of_length_le (by omega)]
        rfl
      clear hLL
      go_wp2_with fail
      go_ret
      exact ⟨by rw [← HS.out]; rfl, hbe⟩
end Go.Proofs.YtalacionlbmcpaaGreatDoor
