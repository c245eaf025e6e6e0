/-
  Walks over package raw, part 6: Sum.
-/
import Derived.Test.YtkjfhgaiakienaaDoorRows
import Derived.Test.YtkjfhgaiakienaaDoorLib
import Derived.Lib.LaidTab
namespace Go.Proofs.YtkjfhgaiakienaaDoor
open Go.RowKit

/-- What four of a sum's eight steps make of four bits. -/
def halvesL : List Int := [0, 274646895, 549293790, 820201905, 1098587580, 1361435347, 1640403810, 1905808397, 2197175160, 2460548119, 2722870694, 2987750089, 3280807620, 3553878443, 3811616794, 4084100981]

def halfN (i : Nat) : Nat := (halvesL.getD i 0).toNat
theorem halfN_lt : ∀ i < 16, halvesL.getD i 0 = (halfN i : Int) ∧ halfN i < 4294967296 := by decide

/-- Four bits of a sum. -/
def nib (b : Nat) : Nat := (b / 16) ^^^ halfN (b % 16)
theorem nib_lt (b : Nat) (hb : b < 4294967296) : nib b < 4294967296 := by
  have h1 := (halfN_lt (b % 16) (by omega)).2
  exact Nat.xor_lt_two_pow (n := 32) (by omega) (by omega)

/-- A sum goes on by a byte. -/
def sumStep (a : Nat) (c : UInt8) : Nat := nib (nib (a ^^^ c.toNat))
theorem sumStep_lt (a : Nat) (c : UInt8) (ha : a < 4294967296) : sumStep a c < 4294967296 :=
  nib_lt _ (nib_lt _ (Nat.xor_lt_two_pow (n := 32) ha (by have := UInt8.toNat_lt c; omega)))

def sumL (l : List UInt8) : Nat := l.foldl sumStep 4294967295
theorem foldl_sum_lt (l : List UInt8) (a : Nat) (ha : a < 4294967296) : l.foldl sumStep a < 4294967296 := by
  induction l generalizing a with
  | nil => exact ha
  | cons c r ih => exact ih _ (sumStep_lt a c ha)
theorem sumL_lt (l : List UInt8) : sumL l < 4294967296 := foldl_sum_lt l _ (by decide)

theorem sum_snoc (s : ByteArray) (k : Nat) (h : k < s.size) : sumL (s.data.toList.take (k + 1)) = sumStep (sumL (s.data.toList.take k)) s[k] := by
  unfold sumL
  rw [List.take_succ_eq_append_getElem (by simpa using h), List.foldl_append]
  rfl

theorem nib_walk (b : Nat) (hb : b < 4294967296) : bits .and .u32 (b : Int) 15 = ((b % 16 : Nat) : Int) ∧ bits .xor .u32 ((b : Int) / 16) (halvesL.getD (b % 16) 0) = (nib b : Int) := by
  have h1 := halfN_lt (b % 16) (by omega)
  constructor
  · have := u32_and_nat b 15 hb (by decide)
    rw [show b &&& 15 = b % 16 from Nat.and_two_pow_sub_one_eq_mod b 4] at this
    exact this
  · rw [h1.1, show (b : Int) / 16 = ((b / 16 : Nat) : Int) from by omega, u32_xor_nat _ _ (by omega) h1.2]
    rfl

/-- The check sum of some bytes. -/
def crc (l : List UInt8) : Nat := 4294967295 - sumL l

set_option maxRecDepth 100000 in
set_option maxHeartbeats 1000000 in
theorem sum_any (s : ByteArray) (w : World) (hs : s.size ≤ 9223372036854775807) (hT : Lib.TabIs Tryd.prog w "bedrock/raw.halves" .u32 halvesL) :
    Calls Tryd.prog 26 #[.string s] w fun e w' => e = .returned (.int .i64 (crc s.data.toList : Int)) ∧ w = w' := by
  have HT := Lib.hid hT
  clear hT
  go_enter Tryd.func26, Tryd.ntmps26
  go_wp2
  go_loop [3, 7] (fun x i => ∃ k a : Nat, k ≤ s.size ∧ i = .int .i64 (k : Int) ∧ x = .int .u32 (a : Int) ∧ a < 4294967296 ∧ Hid (a = sumL (s.data.toList.take k))) (fun _ i => s.size - (intOf i).toNat)
  case atStart => exact ⟨0, 4294967295, by omega, rfl, rfl, by omega, rfl⟩
  case round =>
    obtain ⟨k, a, hk, rfl, rfl, ha, Ha⟩ := hrel
    by_cases hl : k < s.size
    · have hb8 := UInt8.toNat_lt s[k]
      obtain ⟨b, hb⟩ : ∃ b, b = a ^^^ (s[k]'hl).toNat := ⟨_, rfl⟩
      have hblt : b < 4294967296 := by rw [hb]; exact Nat.xor_lt_two_pow (n := 32) ha (by omega)
      have x1 : bits .xor .u32 (a : Int) ((s[k]'hl).toNat : Int) = (b : Int) := by
        rw [u32_xor_nat _ _ ha (by omega), hb]
      have Hb := Lib.hid hb
      clear hb
      obtain ⟨i, hi⟩ : ∃ i, i = b % 16 := ⟨_, rfl⟩
      have hi16 : i < 16 := by omega
      obtain ⟨x2, x3⟩ := nib_walk b hblt
      rw [← hi] at x2 x3
      have c1 := HT.out.cell (g := 0) (by kernel_rfl) i (by simp [halvesL]; omega)
      obtain ⟨d, hd⟩ : ∃ d, d = nib b := ⟨_, rfl⟩
      have hdlt : d < 4294967296 := by rw [hd]; exact nib_lt b hblt
      rw [← hd] at x3
      have Hd := Lib.hid hd
      have Hi := Lib.hid hi
      clear hd hi
      obtain ⟨j, hj⟩ : ∃ j, j = d % 16 := ⟨_, rfl⟩
      have hj16 : j < 16 := by omega
      obtain ⟨y2, y3⟩ := nib_walk d hdlt
      rw [← hj] at y2 y3
      have c2 := HT.out.cell (g := 0) (by kernel_rfl) j (by simp [halvesL]; omega)
      clear hj
      obtain ⟨z1, hz1⟩ : ∃ z, z = halvesL.getD i 0 := ⟨_, rfl⟩
      obtain ⟨z2, hz2⟩ : ∃ z, z = halvesL.getD j 0 := ⟨_, rfl⟩
      rw [← hz1] at x3 c1
      rw [← hz2] at y3 c2
      clear hz1 hz2
      have hs1 := Lib.hid (sum_snoc s k hl)
      go_wp2
      go_round
      case rel => exact ⟨k + 1, nib d, by omega, by go_num, rfl, nib_lt d hdlt, by show nib d = _; rw [hs1.out, ← Ha.out]; show nib d = nib (nib _); rw [Hd.out, Hb.out]⟩
      case measure => simp [intOf]; omega
    · obtain rfl : k = s.size := by omega
      have x1 := u32_not_nat a ha
      have hr : Hid ((4294967295 - a : Nat) = crc s.data.toList) := by
        have := Ha.out
        rw [List.take_of_length_le (by simp)] at this
        show 4294967295 - a = 4294967295 - sumL _
        rw [this]
      obtain ⟨r, hrr⟩ : ∃ r, r = 4294967295 - a := ⟨_, rfl⟩
      have hr2 : r ≤ 4294967295 := by omega
      rw [← hrr] at x1
      have Hr : Hid (r = crc s.data.toList) := hrr.trans hr
      clear hrr
      have hw : wrap64 (r : Int) = (r : Int) := IntWalk.wrap64_in _ (by omega)
      go_wp2
      go_ret
      exact ⟨by rw [← Hr.out]; rfl, rfl⟩
end Go.Proofs.YtkjfhgaiakienaaDoor
