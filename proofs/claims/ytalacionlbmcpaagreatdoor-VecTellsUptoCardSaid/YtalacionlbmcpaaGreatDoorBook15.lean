/-
  Chapter 3's own answers: a vector's bytes.
-/
import Derived.Test.YtalacionlbmcpaaGreatDoorBook14
namespace Go.Proofs.YtalacionlbmcpaaGreatDoor
open Go.RowKit

theorem rput6_any (x : Int) (w : World) (h0 : 0 ≤ x) (h1 : x < 281474976710656) :
    Calls Tryz.prog 43 #[.int .i64 x, .int .i64 6] w fun e w' => e = .returned (.tuple #[.string ⟨(be x.toNat 6).toArray⟩, .int .i64 0]) ∧ Below w.heap.size w w' := by
  refine (rput_any x 6 w (by omega)).mono ?_
  rintro e w' ⟨s, er, rfl, hP, hb⟩
  rcases hP with ⟨rfl, _, _, _, _, rfl⟩ | ⟨_, _, h⟩
  · exact ⟨rfl, hb⟩
  · exfalso
    have : (2 : Int) ^ (8 * (6 : Int).toNat) = 281474976710656 := by decide
    rw [this] at h
    omega

set_option maxRecDepth 100000 in
set_option maxHeartbeats 1000000 in
theorem rvput_bad (A : Option Addr) (n c : Nat) (xs : List Int) (w : World) (I : IntsIn w A n xs) (h : validL xs = false) :
    Calls Tryz.prog 14 #[.slice A n c] w fun e w' => e = .returned (.tuple #[.string ByteArray.empty, .int .i64 1]) ∧ w = w' := by
  have V := rvalid_any A n c xs w I
  rw [h] at V
  have V := Lib.hid V
  clear I h
  go_enter Tryz.func14, Tryz.ntmps14
  go_wp2_with fail
  refine V.out.mono ?_
  rintro e w' ⟨rfl, rfl⟩
  go_wp2_with fail
  go_ret2
  exact ⟨rfl, rfl⟩

set_option maxRecDepth 100000 in
set_option maxHeartbeats 1000000 in
theorem rvput_ok (A : Option Addr) (n c : Nat) (xs : List Int) (w : World) (I : IntsIn w A n xs) (h : validL xs = true) :
    Calls Tryz.prog 14 #[.slice A n c] w fun e w' => e = .returned (.tuple #[.string ⟨(vecB xs).toArray⟩, .int .i64 0]) ∧ Below w.heap.size w w' := by
  have V := rvalid_any A n c xs w I
  rw [h] at V
  have V := Lib.hid V
  obtain ⟨⟨h1, h8⟩, hall⟩ := validL_of h
  have J := Lib.hid I
  have l := I.len
  have Hall := Lib.hid hall
  clear I h hall
  rw [l] at h1 h8
  have hm := u8_of n (by omega)
  have hcv : (convert 65 9 (.slice (some ⟨w.heap.size, 0, none⟩) 1 1)).run Tryz.prog (w.alloc (.cells #[.int .u8 (n : Int)] 5)) = .ok (.string ⟨[UInt8.ofNat n].toArray⟩) (w.alloc (.cells #[.int .u8 (n : Int)] 5)) := by
    refine run_convert_bytes_back _ 65 9 5 ⟨w.heap.size, 0, none⟩ 1 [UInt8.ofNat n] Tryz.underlying65 Tryz.underlying5 Tryz.underlying9 fun j hj => ?_
    have := cells_new w 5 [.int .u8 (n : Int)] j (.int .u8 (n : Int)) (by
      have : j = 0 := by simpa using hj
      subst this; rfl)
    have h0 : j = 0 := by simpa using hj
    subst h0
    exact this.trans (congrArg (fun z => some (Value.int .u8 z)) hm)
  have hb0 : Below w.heap.size w (w.alloc (.cells #[.int .u8 (n : Int)] 5)) := below_alloc (Below.refl _ _) (Nat.le_refl _) _
  have hn8 : (n : Int) ≤ 8 := by omega
  have HB0 := Lib.hid hb0
  clear hm hb0
  go_enter Tryz.func14, Tryz.ntmps14
  go_wp2_with fail
  refine V.out.mono ?_
  rintro e w' ⟨rfl, rfl⟩
  go_wp2_with fail
  go_loopw [4, 5] (fun s i wr => ∃ (k : Nat) (L : List UInt8), k ≤ n ∧ i = .int .i64 (k : Int) ∧ s = .string ⟨L.toArray⟩ ∧ Hid (L = UInt8.ofNat xs.length :: ((xs.take k).map fun z => be z.toNat 6).flatten) ∧ Hid (L.length = 1 + 6 * k) ∧ Below w.heap.size w wr) (fun _ i _ => n - (intOf i).toNat)
  case atStart => exact ⟨0, _, by omega, rfl, rfl, by unfold Hid; rw [l]; rfl, by unfold Hid; rfl, HB0.out⟩
  case round =>
    obtain ⟨k, L, hk, rfl, rfl, HL, HLL, hbe⟩ := hrel
    by_cases hl : k < n
    · obtain ⟨b, o, rfl, hlt, hc⟩ := (J.out.below hbe).some (by omega)
      have d := hc k hl
      have hx2 := Hall.out k (by omega)
      have hst := vecB_step xs k (by omega)
      obtain ⟨x, hx⟩ : ∃ x, xs.getD k 0 = x := ⟨_, rfl⟩
      rw [hx] at d hx2 hst
      have P := Lib.hid (rput6_any x wr hx2.1 hx2.2)
      have k1 := vcat L (be x.toNat 6) (by have := HLL.out; omega) (by rw [be_length]; omega)
      have HS : Hid (L ++ be x.toNat 6 = UInt8.ofNat xs.length :: ((xs.take (k + 1)).map fun z => be z.toNat 6).flatten) := by unfold Hid; rw [hst, HL.out]
      have HN : Hid ((L ++ be x.toNat 6).length = 1 + 6 * (k + 1)) := by unfold Hid; rw [List.length_append, be_length]; have := HLL.out; omega
      have hl1 : (k : Int) < (n : Int) := by omega
      clear hc hx hst hx2
      go_wp2_with fail
      refine P.out.mono ?_
      rintro e w2 ⟨rfl, hb2⟩
      go_wp2_with fail
      go_roundw
      case rel => exact ⟨k + 1, _, by omega, by go_num, rfl, HS.out, HN.out, hbe.trans (hb2.mono hbe.size)⟩
      case measure => simp [intOf]; omega
    · obtain rfl : k = n := by omega
      have HS : Hid (L = vecB xs) := by
        unfold Hid vecB
        rw [HL.out, List.take_of_length_le (by omega)]
      go_wp2_with fail
      go_ret2
      exact ⟨by rw [← HS.out]; rfl, hbe⟩
end Go.Proofs.YtalacionlbmcpaaGreatDoor
