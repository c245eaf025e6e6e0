/-
  Walks over the document's own answer to chapter 1: Sum, Compare.
-/
import Derived.Test.YtkjfhgaiakienaaDoorRaw6
import Derived.Test.YtkjfhgaiakienaaDoorRaw7
namespace Go.Proofs.YtkjfhgaiakienaaDoor
open Go.RowKit

theorem i64_xor_nat (a b : Nat) (ha : a < 9223372036854775808) (hb : b < 9223372036854775808) : bits .xor .i64 (a : Int) (b : Int) = ((a ^^^ b : Nat) : Int) := by
  have hx : a ^^^ b < 2 ^ 63 := Nat.xor_lt_two_pow (by omega) (by omega)
  show IntKind.i64.wrap ((BitVec.ofInt 64 (a : Int) ^^^ BitVec.ofInt 64 (b : Int)).toNat : Int) = _
  rw [BitVec.toNat_xor, ofInt_i64 a ha, ofInt_i64 b hb, IntKind.wrap_i64]
  omega

/-- One of a sum's eight steps. -/
def bit1 (x : Nat) : Nat := if x % 2 = 1 then (x / 2) ^^^ 2197175160 else x / 2
def bitN : Nat → Nat → Nat
  | 0, x => x
  | n + 1, x => bit1 (bitN n x)

theorem half_xor (a b : Nat) : (a ^^^ b) / 2 = a / 2 ^^^ b / 2 := by
  have e : ∀ x : Nat, x / 2 = x >>> 1 := fun x => (Nat.shiftRight_eq_div_pow x 1).symm
  rw [e, e, e, Nat.shiftRight_xor_distrib]
theorem par_xor (a b : Nat) : (a ^^^ b) % 2 = (a % 2 ^^^ b % 2) := Nat.xor_mod_two_pow (n := 1)

theorem bit1_xor (a b : Nat) : bit1 (a ^^^ b) = bit1 a ^^^ bit1 b := by
  unfold bit1
  rw [half_xor, par_xor]
  rcases Nat.mod_two_eq_zero_or_one a with h | h <;> rcases Nat.mod_two_eq_zero_or_one b with k | k <;> simp only [h, k]
  · rfl
  · show (a / 2 ^^^ b / 2) ^^^ 2197175160 = a / 2 ^^^ (b / 2 ^^^ 2197175160)
    rw [Nat.xor_assoc]
  · show (a / 2 ^^^ b / 2) ^^^ 2197175160 = (a / 2 ^^^ 2197175160) ^^^ b / 2
    rw [Nat.xor_assoc, Nat.xor_assoc, Nat.xor_comm (b / 2)]
  · show a / 2 ^^^ b / 2 = (a / 2 ^^^ 2197175160) ^^^ (b / 2 ^^^ 2197175160)
    rw [Nat.xor_assoc, Nat.xor_comm 2197175160, Nat.xor_assoc, Nat.xor_self, Nat.xor_zero]
theorem bit1_even (y : Nat) : bit1 (2 * y) = y := by
  unfold bit1
  rw [if_neg (by omega)]
  omega
theorem bitN_xor (n : Nat) : ∀ a b, bitN n (a ^^^ b) = bitN n a ^^^ bitN n b := by
  induction n with
  | zero => intro a b; rfl
  | succ n ih => intro a b; show bit1 _ = bit1 _ ^^^ bit1 _; rw [ih, bit1_xor]
theorem split_xor (x : Nat) : (16 * (x / 16)) ^^^ (x % 16) = x := by
  have h1 : ((16 * (x / 16)) ^^^ (x % 16)) / 16 = x / 16 := by
    have e : ∀ x : Nat, x / 16 = x >>> 4 := fun x => (Nat.shiftRight_eq_div_pow x 4).symm
    rw [e (_ ^^^ _), Nat.shiftRight_xor_distrib, ← e, ← e, show 16 * (x / 16) / 16 = x / 16 from by omega, show x % 16 / 16 = 0 from by omega, Nat.xor_zero]
  have h2 : ((16 * (x / 16)) ^^^ (x % 16)) % 16 = x % 16 := by
    have := Nat.xor_mod_two_pow (a := 16 * (x / 16)) (b := x % 16) (n := 4)
    rw [show (2 : Nat) ^ 4 = 16 from rfl] at this
    rw [this, show 16 * (x / 16) % 16 = 0 from by omega, Nat.zero_xor]
    omega
  omega
theorem bits_low : ∀ r < 16, bitN 4 r = halfN r := by decide
theorem bits_nib (x : Nat) : bitN 4 x = nib x := by
  have h := bitN_xor 4 (16 * (x / 16)) (x % 16)
  rw [split_xor] at h
  have h2 : bitN 4 (16 * (x / 16)) = x / 16 := by
    show bit1 (bit1 (bit1 (bit1 (16 * (x / 16))))) = _
    rw [show 16 * (x / 16) = 2 * (2 * (2 * (2 * (x / 16)))) from by omega, bit1_even, bit1_even, bit1_even, bit1_even]
  rw [h, h2, bits_low _ (by omega)]
  rfl
theorem bits_step (a : Nat) (c : UInt8) : bitN 8 (a ^^^ c.toNat) = sumStep a c := by
  unfold sumStep
  rw [← bits_nib, ← bits_nib]
  rfl
theorem bit1_lt (x : Nat) (h : x < 4294967296) : bit1 x < 4294967296 := by
  unfold bit1
  split
  · exact Nat.xor_lt_two_pow (n := 32) (by omega) (by decide)
  · omega

set_option maxRecDepth 100000 in
set_option maxHeartbeats 2000000 in
theorem rsum_any (s : ByteArray) (w : World) (hs : s.size ≤ 9223372036854775807) :
    Calls Tryd.prog 27 #[.string s] w fun e w' => e = .returned (.int .i64 (crc s.data.toList : Int)) ∧ w = w' := by
  go_enter Tryd.func27, Tryd.ntmps27
  go_wp2
  go_loop [3, 4] (fun x i => ∃ k a : Nat, k ≤ s.size ∧ i = .int .i64 (k : Int) ∧ x = .int .i64 (a : Int) ∧ a < 4294967296 ∧ Hid (a = sumL (s.data.toList.take k))) (fun _ i => s.size - (intOf i).toNat)
  case atStart => exact ⟨0, 4294967295, by omega, rfl, rfl, by omega, rfl⟩
  case round =>
    obtain ⟨k, a, hk, rfl, rfl, ha, Ha⟩ := hrel
    by_cases hl : k < s.size
    · have hb8 := UInt8.toNat_lt s[k]
      obtain ⟨b, hb⟩ : ∃ b, b = a ^^^ (s[k]'hl).toNat := ⟨_, rfl⟩
      have hblt : b < 4294967296 := by rw [hb]; exact Nat.xor_lt_two_pow (n := 32) ha (by omega)
      have x1 : bits .xor .i64 (a : Int) ((s[k]'hl).toNat : Int) = (b : Int) := by
        rw [i64_xor_nat _ _ (by omega) (by omega), hb]
      have hst := sum_snoc s k hl
      rw [← Ha.out, ← bits_step, ← hb] at hst
      have Hst := Lib.hid hst
      clear hb hst
      go_wp2
      go_loop [3, 5] (fun x i => ∃ j y : Nat, j ≤ 8 ∧ i = .int .i64 (j : Int) ∧ x = .int .i64 (y : Int) ∧ y < 4294967296 ∧ Hid (y = bitN j b)) (fun _ i => 8 - (intOf i).toNat)
      case atStart => exact ⟨0, b, by omega, rfl, rfl, hblt, rfl⟩
      case round =>
        obtain ⟨j, y, hj, rfl, rfl, hy, Hy⟩ := hrel
        by_cases hj8 : j < 8
        · have hnx : bit1 y = bitN (j + 1) b := by rw [Hy.out]; rfl
          have hnl := bit1_lt y hy
          by_cases hodd : y % 2 = 1
          · obtain ⟨z, hz⟩ : ∃ z, z = (y / 2) ^^^ 2197175160 := ⟨_, rfl⟩
            have hzx : bits .xor .i64 ((y : Int) / 2) 2197175160 = (z : Int) := by
              have := i64_xor_nat (y / 2) 2197175160 (by omega) (by decide)
              rw [← hz] at this
              exact this
            have hz1 : bit1 y = z := by unfold bit1; rw [if_pos hodd, hz]
            rw [hz1] at hnx hnl
            have Hnx := Lib.hid hnx
            have hodd' : (y : Int) % 2 = 1 := by omega
            clear hz hz1 hnx hodd
            go_wp2
            go_round
            case rel => exact ⟨j + 1, z, by omega, by go_num, rfl, hnl, Hnx⟩
            case measure => simp [intOf]; omega
          · have hz1 : bit1 y = y / 2 := by unfold bit1; rw [if_neg hodd]
            rw [hz1] at hnx hnl
            have Hnx := Lib.hid hnx
            have hodd' : (y : Int) % 2 = 0 := by omega
            clear hz1 hnx hodd
            go_wp2
            go_round
            case rel => exact ⟨j + 1, y / 2, by omega, by go_num, by go_num, hnl, Hnx⟩
            case measure => simp [intOf]; omega
        · obtain rfl : j = 8 := by omega
          go_wp2
          go_round
          case rel => exact ⟨k + 1, y, by omega, by go_num, rfl, hy, by show y = _; rw [Hst.out]; exact Hy.out⟩
          case measure => simp [intOf]; omega
    · obtain rfl : k = s.size := by omega
      obtain ⟨r, hr⟩ : ∃ r, r = 4294967295 - a := ⟨_, rfl⟩
      have x1 : bits .xor .i64 (a : Int) 4294967295 = (r : Int) := by
        have h1 := u32_not_nat a ha
        have h2 := u32_xor_nat 4294967295 a (by decide) ha
        rw [show (IntKind.u32.max : Int) = ((4294967295 : Nat) : Int) from by decide] at h1
        rw [h2] at h1
        have h3 := i64_xor_nat a 4294967295 (by omega) (by decide)
        rw [Nat.xor_comm] at h3
        rw [h1, ← hr] at h3
        exact h3
      have Hr : Hid (r = crc s.data.toList) := by
        have := Ha.out
        rw [List.take_of_length_le (by simp)] at this
        rw [hr, this]
        rfl
      clear hr
      go_wp2
      go_ret
      exact ⟨by rw [← Hr.out]; rfl, rfl⟩

theorem cmp_cons (a b : UInt8) (r t : List UInt8) : Lib.compareBytes (a :: r) (b :: t) = if a.toNat < b.toNat then -1 else if b.toNat < a.toNat then 1 else Lib.compareBytes r t := by
  rw [Lib.compareBytes]
  simp only [UInt8.lt_iff_toNat_lt]

set_option maxRecDepth 100000 in
set_option maxHeartbeats 2000000 in
theorem rcompare_any (a b : ByteArray) (w : World) (ha : a.size ≤ 9223372036854775807) (hb : b.size ≤ 9223372036854775807) :
    Calls Tryd.prog 29 #[.string a, .string b] w fun e w' => e = .returned (.int .i64 (Lib.compareBytes a.data.toList b.data.toList)) ∧ Below w.heap.size w w' := by
  have hla : a.data.toList.length = a.size := rfl
  have hlb : b.data.toList.length = b.size := rfl
  obtain ⟨g, hg⟩ : ∃ g, g = Lib.compareBytes a.data.toList b.data.toList := ⟨_, rfl⟩
  rw [← hg]
  have Hg := Lib.hid hg
  have Hla := Lib.hid hla
  have Hlb := Lib.hid hlb
  clear hg hla hlb
  go_enter Tryd.func29, Tryd.ntmps29
  go_wp2
  go_loopw [5] (fun i wr => ∃ k : Nat, k ≤ a.size ∧ k ≤ b.size ∧ i = .int .i64 (k : Int) ∧ Hid (g = Lib.compareBytes (a.data.toList.drop k) (b.data.toList.drop k)) ∧ Below w.heap.size w wr) (fun i _ => a.size - (intOf i).toNat)
  case atStart => exact ⟨0, by omega, by omega, rfl, Hg, Below.refl _ _⟩
  case round =>
    obtain ⟨k, hka, hkb, rfl, Hk, hbe⟩ := hrel
    by_cases hl : k < a.size
    · by_cases hm : k < b.size
      · have hda : a.data.toList.drop k = a[k] :: a.data.toList.drop (k + 1) := List.drop_eq_getElem_cons (by simpa using hl)
        have hdb : b.data.toList.drop k = b[k] :: b.data.toList.drop (k + 1) := List.drop_eq_getElem_cons (by simpa using hm)
        have hk := Hk.out
        rw [hda, hdb, cmp_cons] at hk
        have hka' : (k : Int) < (a.size : Int) := by omega
        have hkb' : (k : Int) < (b.size : Int) := by omega
        have hk0 : (0 : Int) ≤ (k : Int) := by omega
        clear hda hdb
        by_cases h1 : a[k].toNat < b[k].toNat
        · rw [if_pos h1] at hk
          have Hk2 := Lib.hid hk
          have e1 : decide (a[k].toNat < b[k].toNat) = true := decide_eq_true (by omega)
          clear hk h1
          go_wp2
          go_region
          go_wp2
          go_ret
          exact ⟨by rw [Hk2.out]; rfl, hbe.drew⟩
        · rw [if_neg h1] at hk
          have e1 : decide (a[k].toNat < b[k].toNat) = false := decide_eq_false (by omega)
          by_cases h2 : b[k].toNat < a[k].toNat
          · rw [if_pos h2] at hk
            have Hk2 := Lib.hid hk
            have e2 : decide (b[k].toNat < a[k].toNat) = true := decide_eq_true (by omega)
            clear hk h1 h2
            go_wp2
            go_region
            go_wp2
            go_region
            go_wp2
            go_ret
            exact ⟨by rw [Hk2.out]; rfl, hbe.drew.drew⟩
          · rw [if_neg h2] at hk
            have Hk2 := Lib.hid hk
            have e2 : decide (b[k].toNat < a[k].toNat) = false := decide_eq_false (by omega)
            clear hk h1 h2
            go_wp2
            go_region
            go_wp2
            go_region
            go_wp2
            go_roundw
            case rel => exact ⟨k + 1, by omega, by omega, by go_num, Hk2, hbe.drew.drew⟩
            case measure => simp [intOf]; omega
      · obtain rfl : k = b.size := by omega
        have hgg : g = 1 := by
          rw [Hk.out, List.drop_of_length_le (Nat.le_of_eq Hlb.out), show a.data.toList.drop b.size = a[b.size] :: a.data.toList.drop (b.size + 1) from List.drop_eq_getElem_cons (by simpa using hl)]
          rfl
        have Hgg := Lib.hid hgg
        clear hgg
        go_wp2
        go_ret
        exact ⟨by rw [Hgg.out]; rfl, hbe⟩
    · obtain rfl : k = a.size := by omega
      by_cases hm : a.size < b.size
      · have hgg : g = -1 := by
          rw [Hk.out, List.drop_of_length_le (Nat.le_of_eq Hla.out), show b.data.toList.drop a.size = b[a.size] :: b.data.toList.drop (a.size + 1) from List.drop_eq_getElem_cons (by simpa using hm)]
          rfl
        have Hgg := Lib.hid hgg
        clear hgg
        go_wp2
        go_ret
        exact ⟨by rw [Hgg.out]; rfl, hbe⟩
      · have heq : a.size = b.size := by omega
        have hgg : g = 0 := by
          rw [Hk.out, List.drop_of_length_le (Nat.le_of_eq Hla.out), List.drop_of_length_le (by rw [Hlb.out]; omega)]
          rfl
        have Hgg := Lib.hid hgg
        clear hgg
        have h3 : ¬ (b.size < a.size) := by omega
        go_wp2
        go_ret
        exact ⟨by rw [Hgg.out]; rfl, hbe⟩
end Go.Proofs.YtkjfhgaiakienaaDoor
