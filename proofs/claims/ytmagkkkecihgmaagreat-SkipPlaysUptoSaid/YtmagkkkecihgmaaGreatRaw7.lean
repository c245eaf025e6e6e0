/-
  The order of bytes; what Compare and Put answer.
-/
import Derived.Test.YtmagkkkecihgmaaGreatRaw5
import Derived.Test.YtmagkkkecihgmaaGreatShelf
import Derived.Lib.Strings
import Derived.Lib.Bytealg
namespace Go.Proofs.YtmagkkkecihgmaaGreat
open Go.RowKit

set_option maxHeartbeats 400000 in
theorem compare_any (a b : ByteArray) (w : World) :
    Calls Tryz.prog 102 #[.string a, .string b] w fun e w' => e = .returned (.int .i64 (Lib.compareBytes a.data.toList b.data.toList)) ∧ w = w' := by
  go_enter Tryz.func102, Tryz.ntmps102
  go_wp2_with fail
  refine (Tryz.strings_Compare a b w).mono ?_
  rintro e w' ⟨rfl, rfl⟩
  go_wp2
  go_ret
  exact ⟨rfl, rfl⟩


/-! ### The order of bytes -/
theorem cmp_range (a b : List UInt8) : -1 ≤ Lib.compareBytes a b ∧ Lib.compareBytes a b ≤ 1 := by
  fun_induction Lib.compareBytes a b <;> first | omega | assumption
theorem cmp_swap (a b : List UInt8) : Lib.compareBytes b a = -Lib.compareBytes a b := by
  fun_induction Lib.compareBytes a b with
  | case1 => rfl
  | case2 => rfl
  | case3 => rfl
  | case4 x l y r h => rw [Lib.compareBytes, if_neg (by simp only [UInt8.lt_iff_toNat_lt] at *; omega), if_pos h]; rfl
  | case5 x l y r h h' => rw [Lib.compareBytes, if_pos h']
  | case6 x l y r h h' ih => rw [Lib.compareBytes, if_neg h', if_neg h, ih]
theorem cmp_eq (a b : List UInt8) : Lib.compareBytes a b = 0 ↔ a = b := by
  fun_induction Lib.compareBytes a b with
  | case1 => simp
  | case2 => simp
  | case3 => simp
  | case4 x l y r h => exact ⟨fun e => absurd e (by decide), fun e => by injection e with e1 _; subst e1; simp only [UInt8.lt_iff_toNat_lt] at h; omega⟩
  | case5 x l y r h h' => exact ⟨fun e => absurd e (by decide), fun e => by injection e with e1 _; subst e1; simp only [UInt8.lt_iff_toNat_lt] at h'; omega⟩
  | case6 x l y r h h' ih =>
    have e : x = y := by
      apply UInt8.toNat_inj.1
      simp only [UInt8.lt_iff_toNat_lt] at *
      omega
    rw [ih]; simp [e]
theorem cmp_trans (a b c : List UInt8) : Lib.compareBytes a b ≤ 0 → Lib.compareBytes b c ≤ 0 → Lib.compareBytes a c ≤ 0 ∧ (Lib.compareBytes a b < 0 → Lib.compareBytes a c < 0) := by
  fun_induction Lib.compareBytes a b generalizing c with
  | case1 => intro _ h; exact ⟨h, fun h => absurd h (by decide)⟩
  | case2 y bs =>
    intro _ h
    cases c with
    | nil => simp [Lib.compareBytes] at h
    | cons z cs => simp [Lib.compareBytes]
  | case3 => intro h; exact absurd h (by decide)
  | case4 x l y r h =>
    intro _ h2
    cases c with
    | nil => simp [Lib.compareBytes] at h2
    | cons z cs =>
      have hxz : x < z := by
        rw [Lib.compareBytes] at h2
        simp only [UInt8.lt_iff_toNat_lt] at *
        split at h2
        · omega
        · split at h2
          · exact absurd h2 (by decide)
          · omega
      rw [Lib.compareBytes, if_pos hxz]
      decide
  | case5 x l y r h h' => intro h; exact absurd h (by decide)
  | case6 x l y r h h' ih =>
    have e : x = y := by
      apply UInt8.toNat_inj.1
      simp only [UInt8.lt_iff_toNat_lt] at *
      omega
    subst e
    intro h1 h2
    cases c with
    | nil => simp [Lib.compareBytes] at h2
    | cons z cs =>
      rw [Lib.compareBytes] at h2 ⊢
      split
      · exact ⟨by decide, fun _ => by decide⟩
      · rename_i h3
        rw [if_neg h3] at h2
        split
        · rename_i h4; rw [if_pos h4] at h2; exact absurd h2 (by decide)
        · rename_i h4; rw [if_neg h4] at h2; exact ih cs h1 h2

theorem be_succ (v n : Nat) : be v (n + 1) = UInt8.ofNat (v / 2 ^ (8 * n) % 256) :: be v n := by
  unfold be
  rw [List.range_succ_eq_map, List.map_cons, List.map_map]
  congr 1
  apply List.map_congr_left
  intro i _
  simp only [Function.comp]
  rw [show n + 1 - 1 - i.succ = n - 1 - i from by omega]
theorem be_mod (v n : Nat) : be v n = be (v % 2 ^ (8 * n)) n := by
  unfold be
  apply List.map_congr_left
  intro i hi
  have hi : i < n := List.mem_range.1 hi
  have e : 2 ^ (8 * n) = 2 ^ (8 * (n - 1 - i)) * (256 * 2 ^ (8 * i)) := by
    rw [show (256 : Nat) = 2 ^ 8 from rfl, ← Nat.pow_add, ← Nat.pow_add]
    congr 1
    omega
  have e2 : v % 2 ^ (8 * n) / 2 ^ (8 * (n - 1 - i)) = v / 2 ^ (8 * (n - 1 - i)) % (256 * 2 ^ (8 * i)) := by rw [e, Nat.mod_mul_right_div_self]
  rw [e2, Nat.mod_mul_right_mod]
theorem be_cmp (n : Nat) : ∀ v u : Nat, v < 2 ^ (8 * n) → u < 2 ^ (8 * n) → Lib.compareBytes (be v n) (be u n) = if v < u then -1 else if v = u then 0 else 1 := by
  induction n with
  | zero =>
    intro v u hv hu
    have hv : v < 1 := hv
    have hu : u < 1 := hu
    obtain rfl : v = 0 := by omega
    obtain rfl : u = 0 := by omega
    rfl
  | succ n ih =>
    intro v u hv hu
    have hp : 2 ^ (8 * (n + 1)) = 256 * 2 ^ (8 * n) := by rw [Nat.mul_add, Nat.pow_add, Nat.mul_comm]
    have hv1 : v / 2 ^ (8 * n) < 256 := by rw [Nat.div_lt_iff_lt_mul (Nat.two_pow_pos _)]; omega
    have hu1 : u / 2 ^ (8 * n) < 256 := by rw [Nat.div_lt_iff_lt_mul (Nat.two_pow_pos _)]; omega
    have hm := ih (v % 2 ^ (8 * n)) (u % 2 ^ (8 * n)) (Nat.mod_lt _ (Nat.two_pow_pos _)) (Nat.mod_lt _ (Nat.two_pow_pos _))
    rw [← be_mod, ← be_mod] at hm
    rw [be_succ, be_succ, Lib.compareBytes, hm]
    have hvd := Nat.div_add_mod v (2 ^ (8 * n))
    have hud := Nat.div_add_mod u (2 ^ (8 * n))
    have hvl := Nat.mod_lt v (Nat.two_pow_pos (8 * n))
    have hul := Nat.mod_lt u (Nat.two_pow_pos (8 * n))
    generalize v / 2 ^ (8 * n) = A at *
    generalize u / 2 ^ (8 * n) = B at *
    generalize v % 2 ^ (8 * n) = C at *
    generalize u % 2 ^ (8 * n) = D at *
    generalize 2 ^ (8 * n) = M at *
    have hA : (UInt8.ofNat (A % 256)).toNat = A := by rw [UInt8.toNat_ofNat']; omega
    have hB : (UInt8.ofNat (B % 256)).toNat = B := by rw [UInt8.toNat_ofNat']; omega
    simp only [UInt8.lt_iff_toNat_lt, hA, hB]
    rcases Nat.lt_trichotomy A B with h | h | h
    · have h2 : M * A + M ≤ M * B := by rw [← Nat.mul_succ]; exact Nat.mul_le_mul_left _ h
      rw [if_pos h, if_pos (by omega)]
    · subst h
      rw [if_neg (by omega), if_neg (by omega)]
      by_cases h1 : C < D
      · rw [if_pos h1, if_pos (by omega)]
      · by_cases h2 : C = D
        · rw [if_neg h1, if_pos h2, if_neg (by omega), if_pos (by omega)]
        · rw [if_neg h1, if_neg h2, if_neg (by omega), if_neg (by omega)]
    · have h2 : M * B + M ≤ M * A := by rw [← Nat.mul_succ]; exact Nat.mul_le_mul_left _ h
      rw [if_neg (by omega), if_pos h, if_neg (by omega), if_neg (by omega)]

/-- What Put answers. -/
def PutIs (v n : Int) (s : ByteArray) (er : Int) : Prop :=
  (er = 0 ∧ 1 ≤ n ∧ n ≤ 7 ∧ 0 ≤ v ∧ v < 2 ^ (8 * n.toNat) ∧ s = ⟨(be v.toNat n.toNat).toArray⟩) ∨ (er = 1 ∧ s = ByteArray.empty ∧ (n < 1 ∨ 7 < n ∨ v < 0 ∨ 2 ^ (8 * n.toNat) ≤ v))

theorem put_cmp {v u n : Int} {s t : ByteArray} (hs : PutIs v n s 0) (ht : PutIs u n t 0) :
    (v < u ∧ Lib.compareBytes s.data.toList t.data.toList = -1) ∨ (v = u ∧ Lib.compareBytes s.data.toList t.data.toList = 0) ∨ (u < v ∧ Lib.compareBytes s.data.toList t.data.toList = 1) := by
  rcases hs with ⟨_, h1, h2, h3, h4, rfl⟩ | ⟨h, _⟩
  · rcases ht with ⟨_, _, _, g3, g4, rfl⟩ | ⟨h, _⟩
    · obtain ⟨v, rfl⟩ := Int.eq_ofNat_of_zero_le h3
      obtain ⟨u, rfl⟩ := Int.eq_ofNat_of_zero_le g3
      have a4 : v < 2 ^ (8 * n.toNat) := by exact_mod_cast h4
      have b4 : u < 2 ^ (8 * n.toNat) := by exact_mod_cast g4
      have := be_cmp n.toNat v u a4 b4
      simp only [Int.toNat_natCast]
      rw [this]
      rcases Nat.lt_trichotomy v u with h | h | h
      · exact .inl ⟨by omega, by rw [if_pos h]⟩
      · exact .inr (.inl ⟨by omega, by rw [if_neg (by omega), if_pos h]⟩)
      · exact .inr (.inr ⟨by omega, by rw [if_neg (by omega), if_neg (by omega)]⟩)
    · exact absurd h (by decide)
  · exact absurd h (by decide)

end Go.Proofs.YtmagkkkecihgmaaGreat
