/-
  RealTwo, plain: where digits and a power of two are just so.
-/
import Derived.Test.YtcnjjolmjpeeoaaDoorRefR5
import Derived.Test.YtcnjjolmjpeeoaaDoorFr2
namespace Go.Proofs.YtcnjjolmjpeeoaaDoor

theorem bitLen_eq (m b : Nat) (h0 : m ≠ 0) (hm : m < 9007199254740992) (h1 : 2 ^ (b - 1) ≤ m) (h2 : m < 2 ^ b) : Lib.bitLen m = b := by
  obtain ⟨l1, l2, l3, l4⟩ := bitLen_facts m h0 hm
  have hb : 1 ≤ b := by
    rcases Nat.eq_zero_or_pos b with h | h
    · subst h; simp at h2; omega
    · exact h
  have a1 : Lib.bitLen m - 1 < b := (Nat.pow_lt_pow_iff_right (by decide)).1 (Nat.lt_of_le_of_lt l4 h2)
  have a2 : b - 1 < Lib.bitLen m := (Nat.pow_lt_pow_iff_right (by decide)).1 (Nat.lt_of_le_of_lt h1 l3)
  omega

theorem bitLen_shift (m k : Nat) (h0 : m ≠ 0) (hm : m * 2 ^ k < 9007199254740992) : Lib.bitLen (m * 2 ^ k) = Lib.bitLen m + k := by
  have hp := Nat.two_pow_pos k
  have hle : m ≤ m * 2 ^ k := Nat.le_mul_of_pos_right m hp
  obtain ⟨l1, l2, l3, l4⟩ := bitLen_facts m h0 (by omega)
  refine bitLen_eq _ _ (Nat.mul_ne_zero h0 (by omega)) hm ?_ ?_
  · rw [show Lib.bitLen m + k - 1 = (Lib.bitLen m - 1) + k from by omega, Nat.pow_add]
    exact Nat.mul_le_mul_right _ l4
  · rw [Nat.pow_add]
    exact Nat.mul_lt_mul_of_pos_right l3 hp

theorem norm_ne (E f : Nat) (hE : E ≤ 2046) (hE1 : 1 ≤ E) (hf : f < 4503599627370496) : E * 4503599627370496 + f ≠ infR ∧ E * 4503599627370496 + f ≠ 0 := by
  have hc : infR = 9218868437227405312 := rfl
  omega
theorem low_ne (R : Nat) (h : R < 4503599627370496) : R ≠ infR := by
  have hc : infR = 9218868437227405312 := rfl
  omega

/-- What Frexp tells of a word without a sign: the bits behind the point, the power. -/
def fieldN (R : Nat) : Nat := if R < 4503599627370496 then R * 2 ^ (53 - Lib.bitLen R) - 4503599627370496 else R % 4503599627370496
def expN (R : Nat) : Int := if R < 4503599627370496 then (Lib.bitLen R : Int) - 1074 else ((R / 4503599627370496 : Nat) : Int) - 1022

/-- Digits and a power are a number just if Frexp tells them back. -/
theorem two_key (m : Nat) (e : Int) (f : Nat) (h0 : m ≠ 0) (hm : m < 9007199254740992) (hf : m * 2 ^ (53 - Lib.bitLen m) = 4503599627370496 + f) (hfl : f < 4503599627370496) :
    joinN m e = if ldN m e ≠ 0 ∧ ldN m e ≠ infR ∧ fieldN (ldN m e) = f ∧ expN (ldN m e) = e + (Lib.bitLen m : Int) then some (ldN m e) else none := by
  obtain ⟨l1, l2, l3, l4⟩ := bitLen_facts m h0 hm
  obtain ⟨o1, o2, o3⟩ := odd_parts m h0 (by omega)
  have hop : oddN m ≠ 0 := by omega
  have hbl : Lib.bitLen m = Lib.bitLen (oddN m) + tzN m := by
    have := bitLen_shift (oddN m) (tzN m) hop (by rw [← o2]; exact hm)
    rwa [← o2] at this
  have hol : oddN m < 9007199254740992 := by
    have : oddN m ≤ m := by
      have h1 : oddN m ≤ oddN m * 2 ^ tzN m := Nat.le_mul_of_pos_right _ (Nat.two_pow_pos _)
      omega
    omega
  obtain ⟨q1, q2, q3, q4⟩ := bitLen_facts (oddN m) hop hol
  have hld : ldN m e = ldN (oddN m) (e + (tzN m : Int)) := by
    unfold ldN
    have := rungOf_scale (oddN m) (tzN m) e hop
    rw [← o2] at this
    rw [this]
  unfold joinN
  rw [if_neg (by omega), if_neg h0]
  by_cases hA : 1024 < (Lib.bitLen m : Int) + e
  · rw [ld_over m e h0 hm hA, if_pos (Or.inr (by omega)), if_neg (fun h => h.2.1 rfl)]
  · by_cases hB : -1021 ≤ (Lib.bitLen m : Int) + e
    · have hp := pack_ld (oddN m) (e + (tzN m : Int)) hop hol (by omega) (by omega)
      rw [if_neg (by omega), ← hp, ← hld, ld_norm m e f h0 hm hf hB (by omega)]
      obtain ⟨E, hE⟩ : ∃ E : Nat, E = (e + (Lib.bitLen m : Int) + 1022).toNat := ⟨_, rfl⟩
      have hE1 : 1 ≤ E := by omega
      have hE2 : E ≤ 2046 := by omega
      have hEi : (E : Int) = e + (Lib.bitLen m : Int) + 1022 := by omega
      rw [← hE]
      have g1 : fieldN (E * 4503599627370496 + f) = f := by unfold fieldN; rw [if_neg (by omega)]; omega
      have g2 : expN (E * 4503599627370496 + f) = e + (Lib.bitLen m : Int) := by
        unfold expN
        rw [if_neg (by omega), show (E * 4503599627370496 + f) / 4503599627370496 = E from by omega]
        omega
      obtain ⟨g4, g3⟩ := norm_ne E f hE2 hE1 hfl
      generalize E * 4503599627370496 + f = R at *
      exact (if_pos ⟨g3, g4, g1, g2⟩).symm
    · by_cases hC : e + (tzN m : Int) < -1074
      · rw [if_pos (Or.inl hC)]
        refine (if_neg fun h => ?_).symm
        obtain ⟨n0, n1, n2, n3⟩ := h
        by_cases hlow : ldN m e < 4503599627370496
        · unfold fieldN at n2
          unfold expN at n3
          rw [if_pos hlow] at n2 n3
          obtain ⟨R, hR⟩ : ∃ R, R = ldN m e := ⟨_, rfl⟩
          rw [← hR] at n0 n2 n3 hlow
          obtain ⟨g, hg, hgl⟩ := lead_parts R n0 (by omega)
          have hgf : g = f := by omega
          rw [hgf, ← hf] at hg
          obtain ⟨d, hd⟩ : ∃ d : Nat, (d : Int) = -(e + 1074) := ⟨(-(e + 1074)).toNat, by omega⟩
          have hbr : Lib.bitLen R + d = Lib.bitLen m := by omega
          rw [show 53 - Lib.bitLen R = d + (53 - Lib.bitLen m) from by omega, Nat.pow_add, ← Nat.mul_assoc] at hg
          have hmul : R * 2 ^ d = m := Nat.eq_of_mul_eq_mul_right (Nat.two_pow_pos _) hg
          have hdt : tzN m < d := by omega
          have h2 : 2 ^ d = 2 ^ tzN m * (2 * 2 ^ (d - tzN m - 1)) := by
            obtain ⟨s, hs⟩ : ∃ s, s = d - tzN m - 1 := ⟨_, rfl⟩
            rw [← hs, show d = tzN m + (s + 1) from by omega, Nat.pow_add, Nat.pow_succ, Nat.mul_comm (2 ^ s) 2]
          have h3 : oddN m = R * (2 * 2 ^ (d - tzN m - 1)) := by
            have h5 : R * 2 ^ d = R * (2 * 2 ^ (d - tzN m - 1)) * 2 ^ tzN m := by rw [h2, Nat.mul_comm (2 ^ tzN m), ← Nat.mul_assoc]
            exact Nat.eq_of_mul_eq_mul_right (Nat.two_pow_pos (tzN m)) (o2.symm.trans (hmul.symm.trans h5))
          rw [h3, ← Nat.mul_assoc, Nat.mul_comm R 2, Nat.mul_assoc, Nat.mul_mod_right] at o1
          cases o1
        · unfold expN at n3
          rw [if_neg hlow] at n3
          have : 1 ≤ ldN m e / 4503599627370496 := by omega
          omega
      · have hp := pack_ld (oddN m) (e + (tzN m : Int)) hop hol (by omega) (by omega)
        have hleft : leftN (oddN m) (e + (tzN m : Int)) = e + (tzN m : Int) + 1074 := by
          unfold leftN
          rw [if_neg (by omega)]
        have hR : ldN m e = oddN m * 2 ^ (e + (tzN m : Int) + 1074).toNat := by
          rw [hld, hp]
          unfold packN
          rw [hleft, show e + (tzN m : Int) - (e + (tzN m : Int) + 1074) + 1074 = 0 from by omega]
          simp
        rw [if_neg (by omega), ← hp, ← hld]
        obtain ⟨k, hk⟩ : ∃ k : Nat, (k : Int) = e + (tzN m : Int) + 1074 := ⟨(e + (tzN m : Int) + 1074).toNat, by omega⟩
        rw [show (e + (tzN m : Int) + 1074).toNat = k from by omega] at hR
        have hkb : Lib.bitLen (oddN m) + k ≤ 52 := by omega
        have hlow : oddN m * 2 ^ k < 4503599627370496 := by
          have h1 : oddN m * 2 ^ k < 2 ^ Lib.bitLen (oddN m) * 2 ^ k := Nat.mul_lt_mul_of_pos_right q3 (Nat.two_pow_pos _)
          rw [← Nat.pow_add] at h1
          have h2 : 2 ^ (Lib.bitLen (oddN m) + k) ≤ 2 ^ 52 := Nat.pow_le_pow_right (by decide) hkb
          have h3 : (2 : Nat) ^ 52 = 4503599627370496 := by decide
          omega
        have hbr := bitLen_shift (oddN m) k hop (by omega)
        have hne : oddN m * 2 ^ k ≠ 0 := Nat.mul_ne_zero hop (Nat.ne_of_gt (Nat.two_pow_pos _))
        have hfe : oddN m * 2 ^ k * 2 ^ (53 - Lib.bitLen (oddN m * 2 ^ k)) = 4503599627370496 + f := by
          rw [← hf, hbr]
          rw [Nat.mul_assoc, ← Nat.pow_add]
          conv => rhs; rw [o2]
          rw [Nat.mul_assoc, ← Nat.pow_add, ← o2]
          congr 2
          omega
        rw [hR]
        have g1 : fieldN (oddN m * 2 ^ k) = f := by unfold fieldN; rw [if_pos hlow]; omega
        have g2 : expN (oddN m * 2 ^ k) = e + (Lib.bitLen m : Int) := by unfold expN; rw [if_pos hlow, hbr]; omega
        have g4 := low_ne _ hlow
        generalize oddN m * 2 ^ k = R at *
        exact (if_pos ⟨hne, g4, g1, g2⟩).symm
end Go.Proofs.YtcnjjolmjpeeoaaDoor
