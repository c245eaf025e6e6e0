/-
  Walks over the document's own answer to chapter 2: Parse.
-/
import Derived.Test.YtcnjjolmjpeeoaaDoorRefR1
import Derived.Test.YtcnjjolmjpeeoaaDoorRef3
import Derived.Test.YtcnjjolmjpeeoaaDoorLd2
namespace Go.Proofs.YtcnjjolmjpeeoaaDoor
open Go.RowKit

def Dig (c : UInt8) : Prop := 48 ≤ c.toNat ∧ c.toNat ≤ 57

/-! ### Digits, 'p', digits (plain) -/
theorem dig_no_p {c : UInt8} (h : Dig c) : c ≠ 112 := by rintro rfl; revert h; unfold Dig; decide
theorem pre_digs (l : List UInt8) (h : ∀ c ∈ l, Dig c) : Lib.hasPrefix l [45] = false := by
  cases l with
  | nil => rfl
  | cons c r => exact pre_digit c r (h c (by simp)).1
theorem prodL_all (l : List UInt8) (h : ∀ c ∈ l, Dig c) : prodL l = (numL l).map fun (m : Int) => (m.toNat, (0 : Int)) := by
  unfold prodL
  rw [cutP_plain l (fun c hc => dig_no_p (h c hc))]
  dsimp only
  rw [pre_digs l h]
  simp only [Bool.false_eq_true, if_false, Option.getD_none, List.length_nil]
  rw [if_neg (by omega)]
  cases numL l <;> rfl
theorem prodL_p (d r : List UInt8) (h : ∀ c ∈ d, Dig c) : prodL (d ++ 112 :: r) = if 5 < r.length then none else match numL d with | none => none | some m => match numL r with | none => none | some p => some (m.toNat, p) := by
  unfold prodL
  rw [cutP_cat d r (fun c hc => dig_no_p (h c hc))]
  dsimp only
  rw [pre_digs d h]
  simp only [Bool.false_eq_true, if_false, Option.getD_some]
  by_cases h5 : 5 < r.length
  · rw [if_pos h5, if_pos h5]
  · rw [if_neg h5, if_neg h5]
    cases numL d <;> rfl
theorem digs_bad (d : List UInt8) (c : UInt8) (hc : ¬ Dig c) : ∀ (r : List UInt8) (a : Nat), digs (d ++ c :: r) a = none := by
  induction d with
  | nil => intro r a; rw [List.nil_append, digs, if_neg (show ¬ (48 ≤ c.toNat ∧ c.toNat ≤ 57) from hc)]
  | cons x d ih =>
    intro r a
    rw [List.cons_append, digs]
    split
    · exact ih r _
    · rfl
theorem cutP_head (d : List UInt8) (c : UInt8) (hd : ∀ x ∈ d, Dig x) (hp : c ≠ 112) (r : List UInt8) : ∃ r', (cutP (d ++ c :: r)).1 = d ++ c :: r' := by
  induction d with
  | nil => exact ⟨(cutP r).1, by simp [cutP, hp]⟩
  | cons x d ih =>
    obtain ⟨r', hr⟩ := ih (fun y hy => hd y (by simp [hy]))
    refine ⟨r', ?_⟩
    rw [List.cons_append]
    unfold cutP
    rw [if_neg (dig_no_p (hd x (by simp))), hr]
    rfl
theorem prodL_bad (d : List UInt8) (c : UInt8) (r : List UInt8) (hd : ∀ x ∈ d, Dig x) (hc : ¬ Dig c) (hp : c ≠ 112) : prodL (d ++ c :: r) = none := by
  obtain ⟨r', hr⟩ := cutP_head d c hd hp r
  unfold prodL
  rw [hr]
  cases hx : Lib.hasPrefix (d ++ c :: r') [45]
  · simp only [Bool.false_eq_true, if_false]
    have hn : numL (d ++ c :: r') = none := by
      unfold numL
      have h48 : d ++ c :: r' ≠ [48] := by
        intro e
        cases d with
        | nil =>
          rw [List.nil_append] at e
          injection e with e _
          subst e
          exact hc (by unfold Dig; decide)
        | cons x d =>
          rw [List.cons_append] at e
          injection e with _ e
          cases d <;> cases e
      have ht : Lib.trimPrefix (d ++ c :: r') [45] = d ++ c :: r' := by unfold Lib.trimPrefix; rw [if_neg (by rw [hx]; decide)]
      have hnat : natL (d ++ c :: r') = none := by
        unfold natL
        split
        · rfl
        · exact digs_bad d c hc r' 0
      rw [if_neg h48, ht, hnat]
      rfl
    rw [hn]
    split <;> rfl
  · rfl

/-! ### The number that is made -/
theorem pack_ld (m : Nat) (p : Int) (h0 : m ≠ 0) (hm : m < 9007199254740992) (h1 : -1074 ≤ p) (h2 : (Lib.bitLen m : Int) + p ≤ 1024) : ldN m p = packN m p := by
  have hc : infR = 9218868437227405312 := rfl
  obtain ⟨l1, l2, l3, l4⟩ := bitLen_facts m h0 hm
  obtain ⟨f1, f2, f3, f4⟩ := left_facts m p h0 hm h1 h2
  have hlt : packN m p < infR := by
    unfold packN
    have := Nat.mul_le_mul_right 4503599627370496 (show (p - leftN m p + 1074).toNat ≤ 2045 by omega)
    omega
  have hmag : magOf (packN m p) = m * 2 ^ (p + 1074).toNat := by
    by_cases hl : 53 - (Lib.bitLen m : Int) ≤ p + 1074
    · have hle : leftN m p = ((53 - Lib.bitLen m : Nat) : Int) := by unfold leftN; rw [if_pos hl]; omega
      obtain ⟨f, _, hf, hfe⟩ := flt_field m h0 hm
      unfold packN
      rw [hle, Int.toNat_natCast, hfe]
      obtain ⟨E, hE⟩ : ∃ E : Nat, E = (p - ((53 - Lib.bitLen m : Nat) : Int) + 1074).toNat := ⟨_, rfl⟩
      rw [← hE]
      have a1 : ∀ C : Nat, E * C + (C + f) = (E + 1) * C + f := fun C => by rw [Nat.add_mul E 1 C, Nat.one_mul, Nat.add_assoc]
      rw [a1, magOf_norm (E + 1) f hf (by omega), ← hfe, Nat.mul_assoc, ← Nat.pow_add]
      congr 2
      omega
    · have hle : leftN m p = p + 1074 := by unfold leftN; rw [if_neg hl]
      have hs : m * 2 ^ (p + 1074).toNat < 4503599627370496 := by
        have h3 : m * 2 ^ (p + 1074).toNat < 2 ^ Lib.bitLen m * 2 ^ (p + 1074).toNat := Nat.mul_lt_mul_of_pos_right l3 (Nat.two_pow_pos _)
        rw [← Nat.pow_add] at h3
        have h5 : 2 ^ (Lib.bitLen m + (p + 1074).toNat) ≤ 2 ^ 52 := Nat.pow_le_pow_right (by decide) (by omega)
        exact Nat.lt_of_lt_of_le h3 h5
      unfold packN
      rw [hle, show (p - (p + 1074) + 1074).toNat = 0 from by omega, Nat.zero_mul, Nat.zero_add]
      unfold magOf
      rw [if_pos hs]
  have hr : rungOf m p = packN m p := (magOf_eq _ _).1 (by rw [hmag, rungOf_exact m p h0 hm h1])
  unfold ldN
  rw [hr, Nat.min_eq_left (by omega)]

set_option maxRecDepth 100000 in
theorem ldexpW_any (m : Nat) (e : Int) (w : World) (h0 : m ≠ 0) (hm : m < 9007199254740992) (he0 : -100000000000000000 ≤ e) (he1 : e ≤ 100000000000000000) :
    Calls Tryd.prog 11 #[.float .f64 (fltR m), .int .i64 e] w fun r w' => r = .returned (.float .f64 (ldN m e)) ∧ w = w' := by
  have C := Lib.hid (ldexp_any m e w h0 hm he0 he1)
  generalize fltR m = r at *
  generalize ldN m e = z at *
  clear h0 hm he0 he1
  go_enter Tryd.func11, Tryd.ntmps11
  go_wp2_with fail
  refine C.out.mono ?_
  rintro e w' ⟨rfl, rfl⟩
  go_wp2_with fail
  go_ret
  exact ⟨rfl, rfl⟩

theorem copy_minus (v : Nat) (h : v < 9223372036854775808) : copysignN v 13830554455654793216 = Op.negFloat .f64 v := by
  unfold copysignN
  rw [show isNeg 13830554455654793216 = true from by decide, if_pos rfl, (small_parts v h).2, neg_word v (by omega), (small_parts v h).1]
  rfl

theorem bits_end (u b : Nat) (h0 : u ≠ 0) (hm : u < 9007199254740992) (hb : b ≤ Lib.bitLen u) (h : u < 2 ^ b) : b = Lib.bitLen u := by
  obtain ⟨l1, l2, l3, l4⟩ := bitLen_facts u h0 hm
  rcases Nat.lt_or_ge b (Lib.bitLen u) with h1 | h1
  · have : 2 ^ b ≤ 2 ^ (Lib.bitLen u - 1) := Nat.pow_le_pow_right (by decide) (by omega)
    omega
  · omega
theorem bits_on (u b : Nat) (h0 : u ≠ 0) (hm : u < 9007199254740992) (h : 2 ^ b ≤ u) : b + 1 ≤ Lib.bitLen u := by
  obtain ⟨l1, l2, l3, l4⟩ := bitLen_facts u h0 hm
  rcases Nat.lt_or_ge b (Lib.bitLen u) with h1 | h1
  · omega
  · have : 2 ^ Lib.bitLen u ≤ 2 ^ b := Nat.pow_le_pow_right (by decide) h1
    omega
theorem shl_facts (b : Nat) (hb : b ≤ 53) : ∃ pw : Nat, pw = 2 ^ b ∧ pw ≤ 9007199254740992 ∧ wrap64 ((2 : Int) ^ b) = (pw : Int) := by
  have hp53 : 2 ^ b ≤ 2 ^ 53 := Nat.pow_le_pow_right (by decide) hb
  refine ⟨2 ^ b, rfl, hp53, ?_⟩
  have hpw : (2 : Int) ^ b = ((2 ^ b : Nat) : Int) := by push_cast; rfl
  rw [hpw]
  generalize 2 ^ b = z at *
  exact IntWalk.wrap64_in _ (by omega)
theorem dec_le_true {x : Int} {pw u : Nat} (hx : x = (pw : Int)) (h : pw ≤ u) : decide (x ≤ (u : Int)) = true := by
  rw [hx]; exact decide_eq_true (by omega)
theorem dec_le_false {x : Int} {pw u : Nat} (hx : x = (pw : Int)) (h : ¬ pw ≤ u) : decide (x ≤ (u : Int)) = false := by
  rw [hx]; exact decide_eq_false (by omega)
theorem pw_le {pw b u : Nat} (hp : pw = 2 ^ b) (h : pw ≤ u) : 2 ^ b ≤ u := by rw [← hp]; exact h
theorem pw_lt {pw b u : Nat} (hp : pw = 2 ^ b) (h : ¬ pw ≤ u) : u < 2 ^ b := by rw [← hp]; exact Nat.lt_of_not_le h
theorem kle (u k M : Nat) (h : u * 2 ^ k = M) (hu : u ≠ 0) (hM : M < 9007199254740992) : k ≤ 53 := by
  rcases Nat.lt_or_ge 53 k with h1 | h1
  · have h2 : 2 ^ 53 ≤ 2 ^ k := Nat.pow_le_pow_right (by decide) (by omega)
    have h3 : 1 * 2 ^ k ≤ u * 2 ^ k := Nat.mul_le_mul_right _ (by omega)
    omega
  · exact h1
theorem halfstep (u k M : Nat) (h : u * 2 ^ k = M) (he : u % 2 = 0) : u / 2 * 2 ^ (k + 1) = M := by
  rw [Nat.pow_succ, Nat.mul_comm (2 ^ k) 2, ← Nat.mul_assoc, show u / 2 * 2 = u from by omega]
  exact h

/-- What is made of digits and a power, with its sign. -/
def madeN (neg : Bool) (g : Option (Nat × Int)) : Nat × Int :=
  match g with
  | none => (0, 4)
  | some (m, p) => match joinN m p with
    | none => (0, 11)
    | some f => (if neg then Op.negFloat .f64 f else f, 0)

def sgnW (neg : Bool) (v : Nat) : Nat := if neg then Op.negFloat .f64 v else v
theorem sgnW_true (v : Nat) : sgnW true v = Op.negFloat .f64 v := by unfold sgnW; rw [if_pos rfl]
theorem sgnW_false (v : Nat) : sgnW false v = v := by unfold sgnW; rw [if_neg (by decide)]
theorem copyneg_any (v : Nat) (hv : v < 9223372036854775808) (w : World) :
    Calls Tryd.prog 30 #[.float .f64 v, .float .f64 13830554455654793216] w fun e w' => e = .returned (.float .f64 (Op.negFloat .f64 v)) ∧ w = w' := by
  have := copysign_any v 13830554455654793216 (by omega) (by decide) w
  rw [copy_minus v hv] at this
  exact this
theorem made_join (neg : Bool) (m : Nat) (p : Int) : madeN neg (some (m, p)) = match joinN m p with | none => (0, 11) | some f => (sgnW neg f, 0) := by
  unfold madeN sgnW
  rfl
theorem made_big (neg : Bool) (m : Nat) (p : Int) (h : 9007199254740992 ≤ m) : madeN neg (some (m, p)) = (0, 11) := by
  have hj : joinN m p = none := by unfold joinN; rw [if_pos h]
  rw [made_join, hj]
theorem made_zero (neg : Bool) (p : Int) : madeN neg (some (0, p)) = (sgnW neg 0, 0) := by
  have hj : joinN 0 p = some 0 := by unfold joinN; rw [if_neg (by decide), if_pos rfl]
  rw [made_join, hj]
theorem made_over (neg : Bool) (m : Nat) (p : Int) (h : ¬ 9007199254740992 ≤ m) (h0 : m ≠ 0) (h1 : p + (tzN m : Int) < -1074 ∨ 1024 < (Lib.bitLen (oddN m) : Int) + (p + (tzN m : Int))) : madeN neg (some (m, p)) = (0, 11) := by
  have hj : joinN m p = none := by unfold joinN; rw [if_neg h, if_neg h0, if_pos h1]
  rw [made_join, hj]
theorem made_ok (neg : Bool) (m : Nat) (p : Int) (h : ¬ 9007199254740992 ≤ m) (h0 : m ≠ 0) (h1 : ¬ (p + (tzN m : Int) < -1074 ∨ 1024 < (Lib.bitLen (oddN m) : Int) + (p + (tzN m : Int)))) : madeN neg (some (m, p)) = (sgnW neg (packN (oddN m) (p + (tzN m : Int))), 0) := by
  have hj : joinN m p = some (packN (oddN m) (p + (tzN m : Int))) := by unfold joinN; rw [if_neg h, if_neg h0, if_neg h1]
  rw [made_join, hj]

def TupP (w : World) (g : Nat × Int) (e : Ending) (w' : World) : Prop := e = .returned (.tuple #[.float .f64 g.1, .int .i64 g.2]) ∧ Below w.heap.size w w'

end Go.Proofs.YtcnjjolmjpeeoaaDoor
