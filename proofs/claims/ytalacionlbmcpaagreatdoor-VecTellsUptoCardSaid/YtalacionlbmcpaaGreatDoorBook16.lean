/-
  Chapter 3's own answers: a vector is got from bytes.
-/
import Derived.Test.YtalacionlbmcpaaGreatDoorBook15
import Derived.Test.YtalacionlbmcpaaGreatDoorVec5
namespace Go.Proofs.YtalacionlbmcpaaGreatDoor
open Go.RowKit

set_option maxRecDepth 100000 in
set_option maxHeartbeats 1000000 in
theorem rvget_empty (s : ByteArray) (w : World) (hs : s.size = 0) :
    Calls Tryz.prog 12 #[.string s] w fun e w' => e = .returned (.tuple #[.slice none 0 0, .int .i64 0, .int .i64 3]) ∧ Below w.heap.size w w' := by
  have h0 : (s.size : Int) = 0 := by omega
  clear hs
  go_enter Tryz.func12, Tryz.ntmps12
  go_wp2_with fail
  go_ret3
  exact ⟨rfl, Below.refl _ _⟩

theorem times_snoc (l : List UInt8) (n k : Nat) (hk : k < n) : (timesL l n).take (k + 1) = (timesL l n).take k ++ [((getL ((l.drop (1 + 6 * k)).take 6) : Nat) : Int)] := by
  unfold timesL
  rw [List.take_add_one, List.getElem?_map, List.getElem?_range hk]
  rfl
theorem first_byte (s : ByteArray) (n : Nat) (hs : 0 < s.size) (hn : getL (s.data.toList.take 1) = n) : (s[0]'hs).toNat = n := by
  have := getL_snoc s 0 hs
  rw [hn] at this
  simpa [getL] using this.symm

set_option maxRecDepth 100000 in
set_option maxHeartbeats 1000000 in
theorem rvget_form (s : ByteArray) (n : Nat) (w : World) (hs : 1 ≤ s.size) (hn : getL (s.data.toList.take 1) = n) (h : n = 0 ∨ 8 < n) :
    Calls Tryz.prog 12 #[.string s] w fun e w' => e = .returned (.tuple #[.slice none 0 0, .int .i64 0, .int .i64 4]) ∧ Below w.heap.size w w' := by
  have hs0 : 0 < s.size := hs
  have hb := first_byte s n hs0 hn
  have hs1 : ¬ (s.size : Int) = 0 := by omega
  have hn' : (n : Int) ≤ 255 := by have := UInt8.toNat_lt (s[0]'hs); omega
  clear hn hs
  rcases h with h | h
  · have h1 : (n : Int) < 1 := by omega
    clear h
    go_enter Tryz.func12, Tryz.ntmps12
    go_wp2_with fail
    go_ret3
    exact ⟨rfl, Below.refl _ _⟩
  · have h1 : ¬ (n : Int) < 1 := by omega
    have h8 : 8 < (n : Int) := by omega
    clear h
    go_enter Tryz.func12, Tryz.ntmps12
    go_wp2_with fail
    go_ret3
    exact ⟨rfl, Below.refl _ _⟩

set_option maxRecDepth 100000 in
set_option maxHeartbeats 1000000 in
theorem rvget_short (s : ByteArray) (n : Nat) (w : World) (hs : 1 ≤ s.size) (hsm : s.size ≤ 9223372036854775807) (hn : getL (s.data.toList.take 1) = n) (h1 : 1 ≤ n) (h8 : n ≤ 8) (hlen : s.size < 1 + 6 * n) :
    Calls Tryz.prog 12 #[.string s] w fun e w' => e = .returned (.tuple #[.slice none 0 0, .int .i64 0, .int .i64 3]) ∧ Below w.heap.size w w' := by
  have hs0 : 0 < s.size := hs
  have hb := first_byte s n hs0 hn
  have hs1 : ¬ (s.size : Int) = 0 := by omega
  have g1 : ¬ (n : Int) < 1 := by omega
  have g8 : ¬ 8 < (n : Int) := by omega
  have gl : (s.size : Int) < 1 + 6 * (n : Int) := by omega
  have gn : (n : Int) ≤ 8 := by omega
  clear hn hs h1 h8 hlen hsm
  go_enter Tryz.func12, Tryz.ntmps12
  go_wp2_with fail
  go_ret3
  exact ⟨rfl, Below.refl _ _⟩

set_option maxRecDepth 100000 in
set_option maxHeartbeats 1000000 in
theorem rvget_ok (s : ByteArray) (n : Nat) (w : World) (hs : 1 ≤ s.size) (hsm : s.size ≤ 9223372036854775807) (hn : getL (s.data.toList.take 1) = n) (h1 : 1 ≤ n) (h8 : n ≤ 8) (hlen : 1 + 6 * n ≤ s.size) :
    Calls Tryz.prog 12 #[.string s] w fun e w' => (∃ v, e = .returned (.tuple #[v, .int .i64 (1 + 6 * (n : Int)), .int .i64 0]) ∧ Nums w' w.heap.size 3 v (timesL s.data.toList n)) ∧ Below w.heap.size w w' := by
  obtain ⟨i0, hi0, hz0, hz1, hz2⟩ := info_parts i64info
  have hs0 : 0 < s.size := hs
  have hb := first_byte s n hs0 hn
  have hs1 : ¬ (s.size : Int) = 0 := by omega
  have g1 : ¬ (n : Int) < 1 := by omega
  have g8 : ¬ 8 < (n : Int) := by omega
  have gl : ¬ (s.size : Int) < 1 + 6 * (n : Int) := by omega
  have gn : (n : Int) ≤ 8 := by omega
  have Hlen := Lib.hid hlen
  have H8 := Lib.hid h8
  clear hn hs h1 h8 hlen
  go_enter Tryz.func12, Tryz.ntmps12
  go_wp2_with fail
  go_loopw [6, 7] (fun v i wr => ∃ k : Nat, k ≤ n ∧ i = .int .i64 (k : Int) ∧ Hid (Nums wr w.heap.size 3 v ((timesL s.data.toList n).take k)) ∧ Below w.heap.size w wr) (fun _ i _ => n - (intOf i).toNat)
  case atStart => exact ⟨0, by omega, rfl, World.ownsRow_nil _ _ _ _, Below.refl _ _⟩
  case round =>
    obtain ⟨k, hk, rfl, HN, hbe⟩ := hrel
    have hlen := Hlen.out
    have h8 := H8.out
    by_cases hl : k < n
    · have hl1 : (k : Int) < (n : Int) := by omega
      have b1 : 1 + 6 * (k : Int) ≤ (s.size : Int) := by omega
      have b2 : 7 + 6 * (k : Int) ≤ (s.size : Int) := by omega
      have b3 : 1 + 6 * (k : Int) ≤ 7 + 6 * (k : Int) := by omega
      have hz : (s.extract (1 + 6 * k) (7 + 6 * k)).data.toList = (s.data.toList.drop (1 + 6 * k)).take 6 := by
        rw [Lib.extract_data, show 7 + 6 * k - (1 + 6 * k) = 6 from by omega]
      have hzs : (s.extract (1 + 6 * k) (7 + 6 * k)).size = 6 := by rw [ByteArray.size_extract]; omega
      have hG := rget_ok (s.extract (1 + 6 * k) (7 + 6 * k)) wr (by omega) (by omega)
      rw [hz] at hG
      have hst := times_snoc s.data.toList n k hl
      obtain ⟨x, hx⟩ : ∃ x, getL ((s.data.toList.drop (1 + 6 * k)).take 6) = x := ⟨_, rfl⟩
      rw [hx] at hG hst
      have HS := Lib.hid hst
      have G := Lib.hid hG
      have hln : ((timesL s.data.toList n).take k).length = k := by rw [List.length_take, timesL_length]; omega
      have Q3 : Hid (((timesL s.data.toList n).take k).length + 1 ≤ maxLen) := by unfold Hid maxLen; omega
      have Q4 : Hid ((((timesL s.data.toList n).take k).length + 1) * 8 ≤ 140737488355328) := by unfold Hid; omega
      have hS1 : w.heap.size ≤ wr.heap.size := hbe.size
      clear hlen h8 hz hzs hG hst hx hln
      go_wp2_with (first
        | (go_at_call 38; refine G.out.mono ?_; rintro e w2 ⟨rfl, rfl⟩)
        | (at_builtin; refine wpList_append_own _ rfl _ _ 23 rfl w.heap.size 3 i0 (.int .i64 0) 1 8 Tryz.underlying23 hi0 hz0 hz1 hz2 rfl (by decide) _ _ _ rfl (World.ownsRow.alloc HN.out _) ⟨_, 0, none⟩ 1 1 [.int .i64 (x : Int)] rfl rfl (cells_new _ _ [_]) (by intro u hu; simp at hu; subst hu; rfl) Q3.out Q4.out (Nat.le_trans hS1 (by simp)) ?_; intro v2 w2 hown2 hgr2 hnil2))
      have HM : Hid (Nums w2 w.heap.size 3 v2 ((timesL s.data.toList n).take (k + 1))) := by
        unfold Hid Nums
        rw [HS.out, List.length_append, List.map_append]
        exact hown2
      have HB := Lib.hid (grown_below (below_alloc hbe (Nat.le_refl _) (.cells #[.int .i64 (x : Int)] 3)) (Nat.le_refl _) (World.ownsRow.alloc HN.out _) hgr2)
      clear hown2 hgr2 hnil2
      go_wp2_with fail
      go_roundw
      case rel => exact ⟨k + 1, by omega, by go_num, HM.out, HB.out⟩
      case measure => simp [intOf]; omega
    · obtain rfl : k = n := by omega
      have HT : Hid ((timesL s.data.toList k).take k = timesL s.data.toList k) := List.take_of_length_le (by rw [timesL_length]; omega)
      clear hlen h8
      go_wp2_with fail
      go_ret3
      exact ⟨⟨_, rfl, by rw [← HT.out]; exact HN.out⟩, hbe⟩
end Go.Proofs.YtalacionlbmcpaaGreatDoor
