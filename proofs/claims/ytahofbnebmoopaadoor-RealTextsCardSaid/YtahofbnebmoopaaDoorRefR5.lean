/-
  Walks over the document's own answer to chapter 2: Parse.
-/
import Derived.Test.YtahofbnebmoopaaDoorRefR1
import Derived.Test.YtahofbnebmoopaaDoorRef3
import Derived.Test.YtahofbnebmoopaaDoorLd2
namespace Go.Proofs.YtahofbnebmoopaaDoor
open Go.RowKit

def Dig (c : UInt8) : Prop := 48 ≤ c.toNat ∧ c.toNat ≤ 57

/-! ### Digits, 'p', digits (plain) -/
theorem dig_no_p {c : UInt8} (h : Dig c) : c ≠ 112 := by rintro rfl; revert h; unfold Dig; decide
theorem pre_digs (l : List UInt8) (h : ∀ c ∈ l, Dig c) : Lib.hasPrefix l [45] = false := by
  cases l with
  | nil => rfl
  | cons c r => exact pre_digit c r (h c (by simp)).1
theorem prodL_all (l : List UInt8) (h : ∀ c ∈ l, Dig c) : prodL l = (numL l).map fun (m : Int) => (m.toNat, (0 : Int)) := by
  unfold prodL
  rw [cutP_plain l (fun c hc => dig_no_p (h c hc))]
  dsimp only
  rw [pre_digs l h]
  simp only [Bool.false_eq_true, if_false, Option.getD_none, List.length_nil]
  rw [if_neg (by omega)]
  cases numL l <;> rfl
theorem prodL_p (d r : List UInt8) (h : ∀ c ∈ d, Dig c) : prodL (d ++ 112 :: r) = if 5 < r.length then none else match numL d with | none => none | some m => match numL r with | none => none | some p => some (m.toNat, p) := by
  unfold prodL
  rw [cutP_cat d r (fun c hc => dig_no_p (h c hc))]
  dsimp only
  rw [pre_digs d h]
  simp only [Bool.false_eq_true, if_false, Option.getD_some]
  by_cases h5 : 5 < r.length
  · rw [if_pos h5, if_pos h5]
  · rw [if_neg h5, if_neg h5]
    cases numL d <;> rfl
theorem digs_bad (d : List UInt8) (c : UInt8) (hc : ¬ Dig c) : ∀ (r : List UInt8) (a : Nat), digs (d ++ c :: r) a = none := by
  induction d with
  | nil => intro r a; rw [List.nil_append, digs, if_neg (show ¬ (48 ≤ c.toNat ∧ c.toNat ≤ 57) from hc)]
  | cons x d ih =>
    intro r a
    rw [List.cons_append, digs]
    split
    · exact ih r _
    · rfl
theorem cutP_head (d : List UInt8) (c : UInt8) (hd : ∀ x ∈ d, Dig x) (hp : c ≠ 112) (r : List UInt8) : ∃ r', (cutP (d ++ c :: r)).1 = d ++ c :: r' := by
  induction d with
  | nil => exact ⟨(cutP r).1, by simp [cutP, hp]⟩
  | cons x d ih =>
    obtain ⟨r', hr⟩ := ih (fun y hy => hd y (by simp [hy]))
    refine ⟨r', ?_⟩
    rw [List.cons_append]
    unfold cutP
    rw [if_neg (dig_no_p (hd x (by simp))), hr]
    rfl
theorem prodL_bad (d : List UInt8) (c : UInt8) (r : List UInt8) (hd : ∀ x ∈ d, Dig x) (hc : ¬ Dig c) (hp : c ≠ 112) : prodL (d ++ c :: r) = none := by
  obtain ⟨r', hr⟩ := cutP_head d c hd hp r
  unfold prodL
  rw [hr]
  cases hx : Lib.hasPrefix (d ++ c :: r') [45]
  · simp only [Bool.false_eq_true, if_false]
    have hn : numL (d ++ c :: r') = none := by
      unfold numL
      have h48 : d ++ c :: r' ≠ [48] := by
        intro e
        cases d with
        | nil =>
          rw [List.nil_append] at e
          injection e with e _
          subst e
          exact hc (by unfold Dig; decide)
        | cons x d =>
          rw [List.cons_append] at e
          injection e with _ e
          cases d <;> cases e
      have ht : Lib.trimPrefix (d ++ c :: r') [45] = d ++ c :: r' := by unfold Lib.trimPrefix; rw [if_neg (by rw [hx]; decide)]
      have hnat : natL (d ++ c :: r') = none := by
        unfold natL
        split
        · rfl
        · exact digs_bad d c hc r' 0
      rw [if_neg h48, ht, hnat]
      rfl
    rw [hn]
    split <;> rfl
  · rfl

/-! ### The number that is made -/
theorem pack_ld (m : Nat) (p : Int) (h0 : m ≠ 0) (hm : m < 9007199254740992) (h1 : -1074 ≤ p) (h2 : (Lib.bitLen m : Int) + p ≤ 1024) : ldN m p = packN m p := by
  have hc : infR = 9218868437227405312 := rfl
  obtain ⟨l1, l2, l3, l4⟩ := bitLen_facts m h0 hm
  obtain ⟨f1, f2, f3, f4⟩ := left_facts m p h0 hm h1 h2
  have hlt : packN m p < infR := by
    unfold packN
    have := Nat.mul_le_mul_right 4503599627370496 (show (p - leftN m p + 1074).toNat ≤ 2045 by omega)
    omega
  have hmag : magOf (packN m p) = m * 2 ^ (p + 1074).toNat := by
    by_cases hl : 53 - (Lib.bitLen m : Int) ≤ p + 1074
    · have hle : leftN m p = ((53 - Lib.bitLen m : Nat) : Int) := by unfold leftN; rw [if_pos hl]; omega
      obtain ⟨f, _, hf, hfe⟩ := flt_field m h0 hm
      unfold packN
      rw [hle, Int.toNat_natCast, hfe]
      obtain ⟨E, hE⟩ : ∃ E : Nat, E = (p - ((53 - Lib.bitLen m : Nat) : Int) + 1074).toNat := ⟨_, rfl⟩
      rw [← hE]
      have a1 : ∀ C : Nat, E * C + (C + f) = (E + 1) * C + f := fun C => by rw [Nat.add_mul E 1 C, Nat.one_mul, Nat.add_assoc]
      rw [a1, magOf_norm (E + 1) f hf (by omega), ← hfe, Nat.mul_assoc, ← Nat.pow_add]
      congr 2
      omega
    · have hle : leftN m p = p + 1074 := by unfold leftN; rw [if_neg hl]
      have hs : m * 2 ^ (p + 1074).toNat < 4503599627370496 := by
        have h3 : m * 2 ^ (p + 1074).toNat < 2 ^ Lib.bitLen m * 2 ^ (p + 1074).toNat := Nat.mul_lt_mul_of_pos_right l3 (Nat.two_pow_pos _)
        rw [← Nat.pow_add] at h3
        have h5 : 2 ^ (Lib.bitLen m + (p + 1074).toNat) ≤ 2 ^ 52 := Nat.pow_le_pow_right (by decide) (by omega)
        exact Nat.lt_of_lt_of_le h3 h5
      unfold packN
      rw [hle, show (p - (p + 1074) + 1074).toNat = 0 from by omega, Nat.zero_mul, Nat.zero_add]
      unfold magOf
      rw [if_pos hs]
  have hr : rungOf m p = packN m p := (magOf_eq _ _).1 (by rw [hmag, rungOf_exact m p h0 hm h1])
  unfold ldN
  rw [hr, Nat.min_eq_left (by omega)]

set_option maxRecDepth 100000 in
theorem ldexpW_any (m : Nat) (e : Int) (w : World) (h0 : m ≠ 0) (hm : m < 9007199254740992) (he0 : -100000000000000000 ≤ e) (he1 : e ≤ 100000000000000000) :
    Calls Tryd.prog 40 #[.float .f64 (fltR m), .int .i64 e] w fun r w' => r = .returned (.float .f64 (ldN m e)) ∧ w = w' := by
  have C := Lib.hid (ldexp_any m e w h0 hm he0 he1)
  generalize fltR m = r at *
  generalize ldN m e = z at *
  clear h0 hm he0 he1
  go_enter Tryd.func40, Tryd.ntmps40
  go_wp2_with fail
  refine C.out.mono ?_
  rintro e w' ⟨rfl, rfl⟩
  go_wp2_with fail
  go_ret
  exact ⟨rfl, rfl⟩

theorem copy_minus (v : Nat) (h : v < 9223372036854775808) : copysignN v 13830554455654793216 = Op.negFloat .f64 v := by
  unfold copysignN
  rw [show isNeg 13830554455654793216 = true from by decide, if_pos rfl, (small_parts v h).2, neg_word v (by omega), (small_parts v h).1]
  rfl

theorem bits_end (u b : Nat) (h0 : u ≠ 0) (hm : u < 9007199254740992) (hb : b ≤ Lib.bitLen u) (h : u < 2 ^ b) : b = Lib.bitLen u := by
  obtain ⟨l1, l2, l3, l4⟩ := bitLen_facts u h0 hm
  rcases Nat.lt_or_ge b (Lib.bitLen u) with h1 | h1
  · have : 2 ^ b ≤ 2 ^ (Lib.bitLen u - 1) := Nat.pow_le_pow_right (by decide) (by omega)
    omega
  · omega
theorem bits_on (u b : Nat) (h0 : u ≠ 0) (hm : u < 9007199254740992) (h : 2 ^ b ≤ u) : b + 1 ≤ Lib.bitLen u := by
  obtain ⟨l1, l2, l3, l4⟩ := bitLen_facts u h0 hm
  rcases Nat.lt_or_ge b (Lib.bitLen u) with h1 | h1
  · omega
  · have : 2 ^ Lib.bitLen u ≤ 2 ^ b := Nat.pow_le_pow_right (by decide) h1
    omega
theorem shl_facts (b : Nat) (hb : b ≤ 53) : ∃ pw : Nat, pw = 2 ^ b ∧ pw ≤ 9007199254740992 ∧ wrap64 ((2 : Int) ^ b) = (pw : Int) := by
  have hp53 : 2 ^ b ≤ 2 ^ 53 := Nat.pow_le_pow_right (by decide) hb
  refine ⟨2 ^ b, rfl, hp53, ?_⟩
  have hpw : (2 : Int) ^ b = ((2 ^ b : Nat) : Int) := by push_cast; rfl
  rw [hpw]
  generalize 2 ^ b = z at *
  exact IntWalk.wrap64_in _ (by omega)
theorem dec_le_true {x : Int} {pw u : Nat} (hx : x = (pw : Int)) (h : pw ≤ u) : decide (x ≤ (u : Int)) = true := by
  rw [hx]; exact decide_eq_true (by omega)
theorem dec_le_false {x : Int} {pw u : Nat} (hx : x = (pw : Int)) (h : ¬ pw ≤ u) : decide (x ≤ (u : Int)) = false := by
  rw [hx]; exact decide_eq_false (by omega)
theorem pw_le {pw b u : Nat} (hp : pw = 2 ^ b) (h : pw ≤ u) : 2 ^ b ≤ u := by rw [← hp]; exact h
theorem pw_lt {pw b u : Nat} (hp : pw = 2 ^ b) (h : ¬ pw ≤ u) : u < 2 ^ b := by rw [← hp]; exact Nat.lt_of_not_le h
theorem kle (u k M : Nat) (h : u * 2 ^ k = M) (hu : u ≠ 0) (hM : M < 9007199254740992) : k ≤ 53 := by
  rcases Nat.lt_or_ge 53 k with h1 | h1
  · have h2 : 2 ^ 53 ≤ 2 ^ k := Nat.pow_le_pow_right (by decide) (by omega)
    have h3 : 1 * 2 ^ k ≤ u * 2 ^ k := Nat.mul_le_mul_right _ (by omega)
    omega
  · exact h1
theorem halfstep (u k M : Nat) (h : u * 2 ^ k = M) (he : u % 2 = 0) : u / 2 * 2 ^ (k + 1) = M := by
  rw [Nat.pow_succ, Nat.mul_comm (2 ^ k) 2, ← Nat.mul_assoc, show u / 2 * 2 = u from by omega]
  exact h

/-- What is made of digits and a power, with its sign. -/
def madeN (neg : Bool) (g : Option (Nat × Int)) : Nat × Int :=
  match g with
  | none => (0, 4)
  | some (m, p) => match joinN m p with
    | none => (0, 11)
    | some f => (if neg then Op.negFloat .f64 f else f, 0)

def sgnW (neg : Bool) (v : Nat) : Nat := if neg then Op.negFloat .f64 v else v
theorem sgnW_true (v : Nat) : sgnW true v = Op.negFloat .f64 v := by unfold sgnW; rw [if_pos rfl]
theorem sgnW_false (v : Nat) : sgnW false v = v := by unfold sgnW; rw [if_neg (by decide)]
theorem copyneg_any (v : Nat) (hv : v < 9223372036854775808) (w : World) :
    Calls Tryd.prog 37 #[.float .f64 v, .float .f64 13830554455654793216] w fun e w' => e = .returned (.float .f64 (Op.negFloat .f64 v)) ∧ w = w' := by
  have := copysign_any v 13830554455654793216 (by omega) (by decide) w
  rw [copy_minus v hv] at this
  exact this
theorem made_join (neg : Bool) (m : Nat) (p : Int) : madeN neg (some (m, p)) = match joinN m p with | none => (0, 11) | some f => (sgnW neg f, 0) := by
  unfold madeN sgnW
  rfl
theorem made_big (neg : Bool) (m : Nat) (p : Int) (h : 9007199254740992 ≤ m) : madeN neg (some (m, p)) = (0, 11) := by
  have hj : joinN m p = none := by unfold joinN; rw [if_pos h]
  rw [made_join, hj]
theorem made_zero (neg : Bool) (p : Int) : madeN neg (some (0, p)) = (sgnW neg 0, 0) := by
  have hj : joinN 0 p = some 0 := by unfold joinN; rw [if_neg (by decide), if_pos rfl]
  rw [made_join, hj]
theorem made_over (neg : Bool) (m : Nat) (p : Int) (h : ¬ 9007199254740992 ≤ m) (h0 : m ≠ 0) (h1 : p + (tzN m : Int) < -1074 ∨ 1024 < (Lib.bitLen (oddN m) : Int) + (p + (tzN m : Int))) : madeN neg (some (m, p)) = (0, 11) := by
  have hj : joinN m p = none := by unfold joinN; rw [if_neg h, if_neg h0, if_pos h1]
  rw [made_join, hj]
theorem made_ok (neg : Bool) (m : Nat) (p : Int) (h : ¬ 9007199254740992 ≤ m) (h0 : m ≠ 0) (h1 : ¬ (p + (tzN m : Int) < -1074 ∨ 1024 < (Lib.bitLen (oddN m) : Int) + (p + (tzN m : Int)))) : madeN neg (some (m, p)) = (sgnW neg (packN (oddN m) (p + (tzN m : Int))), 0) := by
  have hj : joinN m p = some (packN (oddN m) (p + (tzN m : Int))) := by unfold joinN; rw [if_neg h, if_neg h0, if_neg h1]
  rw [made_join, hj]

def TupP (w : World) (g : Nat × Int) (e : Ending) (w' : World) : Prop := e = .returned (.tuple #[.float .f64 g.1, .int .i64 g.2]) ∧ Below w.heap.size w w'

set_option maxRecDepth 100000 in
theorem qparse_nan (s : ByteArray) (w : World) (h : s.data.toList = [110, 97, 110]) :
    Calls Tryd.prog 33 #[.string s] w fun e w' => TupP w (9221120237041090561, 0) e w' := by
  have e0 : (s.toList == [110, 97, 110]) = true := by rw [Lib.toList_data, h]; rfl
  clear h
  go_enter Tryd.func33, Tryd.ntmps33
  go_wp2_with fail
  refine (mnan_any _).mono ?_
  rintro e w' ⟨rfl, rfl⟩
  go_wp2_with fail
  go_ret2
  exact ⟨rfl, Below.refl _ _⟩

set_option maxRecDepth 100000 in
theorem qparse_inf (s : ByteArray) (w : World) (h : s.data.toList = [105, 110, 102]) :
    Calls Tryd.prog 33 #[.string s] w fun e w' => TupP w (9218868437227405312, 0) e w' := by
  have e0 : (s.toList == [110, 97, 110]) = false := by rw [Lib.toList_data, h]; rfl
  have e1 : (s.toList == [105, 110, 102]) = true := by rw [Lib.toList_data, h]; rfl
  clear h
  go_enter Tryd.func33, Tryd.ntmps33
  go_wp2_with fail
  refine (minf_any _).mono ?_
  rintro e w' ⟨rfl, rfl⟩
  go_wp2_with fail
  go_ret2
  exact ⟨rfl, Below.refl _ _⟩

set_option maxRecDepth 100000 in
theorem qparse_minf (s : ByteArray) (w : World) (h : s.data.toList = [45, 105, 110, 102]) :
    Calls Tryd.prog 33 #[.string s] w fun e w' => TupP w (18442240474082181120, 0) e w' := by
  have e0 : (s.toList == [110, 97, 110]) = false := by rw [Lib.toList_data, h]; rfl
  have e1 : (s.toList == [105, 110, 102]) = false := by rw [Lib.toList_data, h]; rfl
  have e2 : (s.toList == [45, 105, 110, 102]) = true := by rw [Lib.toList_data, h]; rfl
  clear h
  go_enter Tryd.func33, Tryd.ntmps33
  go_wp2_with fail
  refine (mminf_any _).mono ?_
  rintro e w' ⟨rfl, rfl⟩
  go_wp2_with fail
  go_ret2
  exact ⟨rfl, Below.refl _ _⟩

set_option maxRecDepth 100000 in
set_option maxHeartbeats 1000000 in
theorem qparse_empty (s : ByteArray) (w : World) (h : s.size = 0) :
    Calls Tryd.prog 33 #[.string s] w fun e w' => TupP w (0, 4) e w' := by
  have hl : s.data.toList = [] := List.eq_nil_of_length_eq_zero h
  have e90 : (s.toList == [110, 97, 110]) = false := by rw [Lib.toList_data, hl]; rfl
  have e91 : (s.toList == [105, 110, 102]) = false := by rw [Lib.toList_data, hl]; rfl
  have e92 : (s.toList == [45, 105, 110, 102]) = false := by rw [Lib.toList_data, hl]; rfl
  have R := fun W => rnumber_any ByteArray.empty W (by decide)
  rw [show numL ByteArray.empty.data.toList = none from by decide] at R
  have R := fun W => Lib.hid (R W)
  clear hl
  go_enter Tryd.func33, Tryd.ntmps33
  go_wp2_with fail
  go_loop [5] (fun x => x = .int .i64 0) (fun _ => 0)
  case atStart => exact rfl
  case round =>
    subst hrel
    go_wp2_with fail
    refine (R _).out.mono ?_
    rintro e w1 ⟨rfl, HB⟩
    go_wp2_with fail
    go_ret2
    exact ⟨rfl, HB⟩

set_option maxRecDepth 100000 in
set_option maxHeartbeats 16000000 in
theorem qparse_minus (s t : ByteArray) (w : World) (g : Nat × Int) (hs : s.size ≤ 140737488351232) (n1 : s.data.toList ≠ [110, 97, 110]) (n2 : s.data.toList ≠ [105, 110, 102]) (n3 : s.data.toList ≠ [45, 105, 110, 102])
    (hp : 0 < s.size) (e45 : ((s[0].toNat : Int) == 45) = true) (ht : t = s.extract 1 s.size) (hG : g = madeN true (prodL t.data.toList)) :
    Calls Tryd.prog 33 #[.string s] w fun e w' => TupP w g e w' := by
  have e90 : (s.toList == [110, 97, 110]) = false := by rw [Lib.toList_data, beq_eq_false_iff_ne]; exact n1
  have e91 : (s.toList == [105, 110, 102]) = false := by rw [Lib.toList_data, beq_eq_false_iff_ne]; exact n2
  have e92 : (s.toList == [45, 105, 110, 102]) = false := by rw [Lib.toList_data, beq_eq_false_iff_ne]; exact n3
  have HG := Lib.hid hG
  have hts : t.size ≤ 140737488351232 := by rw [ht]; simp; omega
  have Ht := Lib.hid ht
  clear n1 n2 n3 hG ht
  go_enter Tryd.func33, Tryd.ntmps33
  go_wp2_with fail
  try go_region
  rw [← Ht.out]
  clear Ht hs
  go_loop [5] (fun x => ∃ k : Nat, x = .int .i64 (k : Int) ∧ k ≤ t.size ∧ Hid (∀ c ∈ t.data.toList.take k, Dig c)) (fun x => t.size - (intOf x).toNat)
  case atStart => exact ⟨0, rfl, Nat.zero_le _, by show ∀ c ∈ _, _; simp⟩
  case round =>
    obtain ⟨k, rfl, hk, HD⟩ := hrel
    by_cases hl : k < t.size
    · have hb8 := UInt8.toNat_lt t[k]
      have hdk : t.data.toList.drop k = t[k] :: t.data.toList.drop (k + 1) := List.drop_eq_getElem_cons (by simpa using hl)
      have htk : t.data.toList = t.data.toList.take k ++ t[k] :: t.data.toList.drop (k + 1) := by rw [← hdk, List.take_append_drop]
      by_cases hc : Dig t[k]
      · have g1 : decide ((48 : Int) ≤ (t[k].toNat : Int)) = true := decide_eq_true (by have := hc.1; omega)
        have g2 : decide ((t[k].toNat : Int) ≤ 57) = true := decide_eq_true (by have := hc.2; omega)
        have HD1 : Hid (∀ c ∈ t.data.toList.take (k + 1), Dig c) := by
          show ∀ c ∈ _, _
          rw [List.take_succ_eq_append_getElem (by simpa using hl)]
          intro c hcm
          rcases List.mem_append.1 hcm with h | h
          · exact HD.out c h
          · rw [List.mem_singleton.1 h]; exact hc
        clear hdk htk hc
        go_wp2_with fail
        go_round
        case rel => exact ⟨k + 1, by go_num, by omega, HD1⟩
        case measure => simp [intOf]; omega
      · have hg : (decide ((48 : Int) ≤ (t[k].toNat : Int)) = false) ∨ (decide ((48 : Int) ≤ (t[k].toNat : Int)) = true ∧ decide ((t[k].toNat : Int) ≤ 57) = false) := by
          unfold Dig at hc
          by_cases h48 : 48 ≤ t[k].toNat
          · exact Or.inr ⟨decide_eq_true (by omega), decide_eq_false (by omega)⟩
          · exact Or.inl (decide_eq_false (by omega))
        by_cases h112 : t[k] = 112
        · have hgt : t[k].toNat = 112 := by rw [h112]; rfl
          have g1 : decide ((48 : Int) ≤ (t[k].toNat : Int)) = true := decide_eq_true (by omega)
          have g2 : decide ((t[k].toNat : Int) ≤ 57) = false := decide_eq_false (by omega)
          have g3 : ((t[k].toNat : Int) != 112) = false := by rw [bne_eq_false_iff_eq]; omega
          rw [h112] at htk
          have hpr := prodL_p (t.data.toList.take k) (t.data.toList.drop (k + 1)) HD.out
          rw [← htk, List.length_drop, show t.data.toList.length = t.size from rfl] at hpr
          have hg4 := HG.out
          rw [hpr] at hg4
          have hlen : (t.extract (k + 1) t.size).size = t.size - (k + 1) := by simp
          have x1 : (t.extract (k + 1) t.size).data.toList = t.data.toList.drop (k + 1) := by simp; rw [List.take_of_length_le (by simp)]
          have x2 : (t.extract 0 k).data.toList = t.data.toList.take k := by simp
          have R1 := fun W => rnumber_any (t.extract (k + 1) t.size) W (by rw [hlen]; omega)
          have R2 := fun W => rnumber_any (t.extract 0 k) W (by simp; omega)
          rw [x1] at R1
          rw [x2] at R2
          have hpre := pre_digs _ HD.out
          clear hg htk hdk hc hpr x1 x2 hlen HD h112 hgt
          by_cases h5 : 5 < t.size - (k + 1)
          · have b5 : decide ((5 : Int) < (t.size : Int) - (k : Int) - 1) = true := decide_eq_true (by omega)
            rw [if_pos h5] at hg4
            have Hg := Lib.hid hg4
            have HB : Below w.heap.size w w := Below.refl _ _
            clear hg4 h5 R1 R2
            go_wp2_with fail
            go_ret2
            exact ⟨by rw [Hg.out]; rfl, HB⟩
          · have b5 : decide ((5 : Int) < (t.size : Int) - (k : Int) - 1) = false := decide_eq_false (by omega)
            rw [if_neg h5] at hg4
            clear h5
            cases hr : numL (t.data.toList.drop (k + 1)) with
            | none =>
              rw [hr] at hg4 R1
              have Hg : Hid (g = (0, 4)) := by
                have h1 := hg4
                cases hd : numL (t.data.toList.take k) <;> rw [hd] at h1 <;> exact h1
              have R1 := fun W => Lib.hid (R1 W)
              clear hg4 R2 hr
              go_wp2_with fail
              refine (R1 _).out.mono ?_
              rintro e w1 ⟨rfl, HB⟩
              go_wp2_with fail
              go_ret2
              exact ⟨by rw [Hg.out]; rfl, HB⟩
            | some p =>
              have hpb := numL_lt _ p hr
              rw [hr] at hg4 R1
              have R1 := fun W => Lib.hid (R1 W)
              cases hd : numL (t.data.toList.take k) with
              | none =>
                rw [hd] at hg4 R2
                have Hg : Hid (g = (0, 4)) := hg4
                have R2 := fun W => Lib.hid (R2 W)
                clear hg4 hr hd
                go_wp2_with fail
                refine (R1 _).out.mono ?_
                rintro e w1 ⟨rfl, HB1⟩
                go_wp2_with fail
                refine (R2 _).out.mono ?_
                rintro e w2 ⟨rfl, HB2⟩
                have HB := HB1.trans (HB2.mono HB1.size)
                go_wp2_with fail
                go_ret2
                exact ⟨by rw [Hg.out]; rfl, HB⟩
              | some mi =>
                have hmb := numL_lt _ mi hd
                have hm0 := numL_nonneg _ mi hd hpre
                obtain ⟨m, rfl⟩ := Int.eq_ofNat_of_zero_le hm0
                rw [hd] at hg4 R2
                have Hn : Hid (g = madeN true (some (m, p))) := hg4
                have R2 := fun W => Lib.hid (R2 W)
                have hm16 : (m : Int) ≤ 10000000000000000 := by omega
                have hP0 : -10000000000000000 ≤ p := by omega
                have hP1 : p ≤ 10000000000000000 := by omega
                clear hg4 hr hd hpb hmb hm0
                go_wp2_with fail
                refine (R1 _).out.mono ?_
                rintro e w1 ⟨rfl, HB1⟩
                go_wp2_with fail
                refine (R2 _).out.mono ?_
                rintro e w2 ⟨rfl, HB2⟩
                have HB := HB1.trans (HB2.mono HB1.size)
                by_cases hbig : 9007199254740992 ≤ m
                · have c1 : decide ((9007199254740992 : Int) ≤ (m : Int)) = true := decide_eq_true (by omega)
                  have Hg : Hid (g = (0, 11)) := Lib.hid (Hn.out.trans (made_big _ m p hbig))
                  clear hbig
                  go_wp2_with fail
                  go_ret2
                  exact ⟨by rw [Hg.out]; rfl, HB⟩
                · have c1 : decide ((9007199254740992 : Int) ≤ (m : Int)) = false := decide_eq_false (by omega)
                  by_cases hz : m = 0
                  · subst hz
                    have Hg : Hid (g = (sgnW true 0, 0)) := Lib.hid (Hn.out.trans (made_zero _ p))
                    clear hbig
                    go_wp2_with fail
                    refine (copysign_any 0 13830554455654793216 (by decide) (by decide) _).mono ?_
                    rintro e w' ⟨rfl, rfl⟩
                    go_wp2_with fail
                    go_ret2
                    exact ⟨by rw [Hg.out, show sgnW true 0 = copysignN 0 13830554455654793216 from (copy_minus 0 (by decide)).symm]; rfl, HB⟩
                  · have c2 : 0 < m := Nat.pos_of_ne_zero hz
                    have Hm := Lib.hid (And.intro hz (Nat.lt_of_not_le hbig))
                    have Hj : Hid (((p + (tzN m : Int) < -1074 ∨ 1024 < (Lib.bitLen (oddN m) : Int) + (p + (tzN m : Int))) → g = (0, 11)) ∧ (¬ (p + (tzN m : Int) < -1074 ∨ 1024 < (Lib.bitLen (oddN m) : Int) + (p + (tzN m : Int))) → g = (sgnW true (packN (oddN m) (p + (tzN m : Int))), 0))) :=
                      Lib.hid ⟨fun h => Hn.out.trans (made_over _ m p hbig hz h), fun h => Hn.out.trans (made_ok _ m p hbig hz h)⟩
                    clear hbig hz Hn
                    go_wp2_with fail
                    go_loop [6, 9] (fun e x => ∃ u k : Nat, x = .int .i64 (u : Int) ∧ e = .int .i64 (p + (k : Int)) ∧ k ≤ 53 ∧ (u : Int) ≤ 9007199254740991 ∧ Hid (u * 2 ^ k = m ∧ u ≠ 0)) (fun _ x => (intOf x).toNat)
                    case atStart => exact ⟨m, 0, by go_num, by go_num, by omega, by have := Hm.out.2; omega, ⟨by rw [Nat.pow_zero, Nat.mul_one], Hm.out.1⟩⟩
                    case round =>
                      obtain ⟨u, k, rfl, rfl, hk, hu, H⟩ := hrel
                      by_cases he : u % 2 = 0
                      · have q1 : ((u : Int) % 2 == 0) = true := by rw [beq_iff_eq]; omega
                        have Hs := Lib.hid (halfstep u k m H.out.1 he)
                        have hk1 := kle (u / 2) (k + 1) m Hs.out (by have := H.out.2; omega) Hm.out.2
                        have Hu0 := Lib.hid (show u / 2 ≠ 0 by have := H.out.2; omega)
                        clear he
                        go_wp2_with fail
                        go_round
                        case rel => exact ⟨u / 2, k + 1, by go_num, by go_num, hk1, by omega, ⟨Hs.out, Hu0.out⟩⟩
                        case measure => simp [intOf]; have := H.out.2; omega
                      · have q1 : ((u : Int) % 2 == 0) = false := by rw [beq_eq_false_iff_ne]; omega
                        have ht : tzN m = k := by rw [← H.out.1]; exact tzN_mul u k (by omega) (by omega)
                        have ho : oddN m = u := by rw [← H.out.1]; exact oddN_mul u k (by omega) (by omega)
                        have hj := Hj.out
                        rw [ht, ho] at hj
                        have Hu0 := Lib.hid H.out.2
                        have Hul := Lib.hid (show u < 9007199254740992 by omega)
                        clear ht ho he H Hj
                        have hq0 : -20000000000000000 ≤ p + (k : Int) := by omega
                        have hq1 : p + (k : Int) ≤ 20000000000000000 := by omega
                        generalize p + (k : Int) = q at *
                        obtain ⟨l1, l2, l3, l4⟩ := bitLen_facts u Hu0.out Hul.out
                        have Hj := Lib.hid hj
                        clear hj l3 l4
                        go_wp2_with fail
                        go_loop [12] (fun x => ∃ b : Nat, x = .int .i64 (b : Int) ∧ (b : Int) ≤ 53 ∧ Hid (b ≤ Lib.bitLen u)) (fun x => 60 - (intOf x).toNat)
                        case atStart => exact ⟨0, rfl, by omega, Nat.zero_le _⟩
                        case round =>
                          obtain ⟨b, rfl, hb, Hb⟩ := hrel
                          have hb64 : b ≤ 53 := by omega
                          obtain ⟨pw, hpe, hpl, hpi⟩ := shl_facts b hb64
                          by_cases hlt : pw ≤ u
                          · have b1 : decide (wrap64 ((2 : Int) ^ b) ≤ (u : Int)) = true := dec_le_true hpi hlt
                            have Hb1 := Lib.hid (bits_on u b Hu0.out Hul.out (pw_le hpe hlt))
                            clear hlt hpl hpe hpi
                            go_wp2_with fail
                            go_round
                            case rel => exact ⟨b + 1, by go_num, by have := Hb1.out; omega, Hb1.out⟩
                            case measure => simp [intOf]; omega
                          · have b1 : decide (wrap64 ((2 : Int) ^ b) ≤ (u : Int)) = false := dec_le_false hpi hlt
                            have hbl := bits_end u b Hu0.out Hul.out Hb.out (pw_lt hpe hlt)
                            have hj := Hj.out
                            rw [← hbl] at hj
                            clear hlt hpl hpe hpi Hb
                            by_cases hov : 1024 < (b : Int) + q
                            · have Hg : Hid (g = (0, 11)) := Lib.hid (hj.1 (by omega))
                              have b2 : decide (1024 < (b : Int) + q) = true := decide_eq_true hov
                              clear hj hov hbl
                              go_wp2_with fail
                              go_ret2
                              exact ⟨by rw [Hg.out]; rfl, HB⟩
                            · have b2 : decide (1024 < (b : Int) + q) = false := decide_eq_false hov
                              by_cases hun : q < -1074
                              · have Hg : Hid (g = (0, 11)) := Lib.hid (hj.1 (by omega))
                                have b3 : decide (q < -1074) = true := decide_eq_true hun
                                clear hj hov hbl hun
                                go_wp2_with fail
                                go_ret2
                                exact ⟨by rw [Hg.out]; rfl, HB⟩
                              · have b3 : decide (q < -1074) = false := decide_eq_false hun
                                have hj := hj.2 (by omega)
                                have hpk := pack_ld u q Hu0.out Hul.out (by omega) (by omega)
                                have hpl : packN u q < 9223372036854775808 := by
                                  rw [← hpk]
                                  have : ldN u q ≤ infR := Nat.min_le_right _ _
                                  have hc : infR = 9218868437227405312 := rfl
                                  omega
                                have C := ldexpW_any u q w2 Hu0.out Hul.out (by omega) (by omega)
                                rw [hpk, ← floatOfInt_nat u (by have := Hul.out; omega)] at C
                                generalize packN u q = v at *
                                have C := Lib.hid C
                                have K := fun W => copyneg_any v hpl W
                                rw [sgnW_true] at hj
                                generalize Op.negFloat .f64 v = nv at *
                                have K := fun W => Lib.hid (K W)
                                clear hpl
                                have Hg := Lib.hid hj
                                clear hj hov hbl hun hpk
                                go_wp2_with fail
                                refine C.out.mono ?_
                                rintro e w' ⟨rfl, rfl⟩
                                go_wp2_with fail
                                refine (K _).out.mono ?_
                                rintro e w' ⟨rfl, rfl⟩
                                go_wp2_with fail
                                go_ret2
                                exact ⟨by rw [Hg.out]; rfl, HB⟩
        · have hg3 : ((t[k].toNat : Int) != 112) = true := by
            rw [bne_iff_ne]
            intro e
            exact h112 (UInt8.toNat_inj.1 (show t[k].toNat = (112 : UInt8).toNat by have : (112 : UInt8).toNat = 112 := rfl; omega))
          have hbad := prodL_bad (t.data.toList.take k) t[k] (t.data.toList.drop (k + 1)) HD.out hc h112
          rw [← htk] at hbad
          have hg4 := HG.out
          rw [hbad] at hg4
          have Hg : Hid (g = (0, 4)) := hg4
          have HB : Below w.heap.size w w := Below.refl _ _
          clear hbad hg4 htk hdk hc h112 HD
          rcases hg with g1 | ⟨g1, g2⟩
          · go_wp2_with fail
            go_ret2
            exact ⟨by rw [Hg.out]; rfl, HB⟩
          · go_wp2_with fail
            go_ret2
            exact ⟨by rw [Hg.out]; rfl, HB⟩
    · obtain rfl : k = t.size := by omega
      have hD : ∀ c ∈ t.data.toList, Dig c := by
        have := HD.out
        rwa [List.take_of_length_le (by simp)] at this
      have hall := prodL_all t.data.toList hD
      have hg4 := HG.out
      rw [hall] at hg4
      have hpre := pre_digs _ hD
      have R2 := fun W => rnumber_any t W hts
      clear hall hD HD
      cases hd : numL t.data.toList with
      | none =>
        rw [hd] at hg4 R2
        have Hg : Hid (g = (0, 4)) := hg4
        have R2 := fun W => Lib.hid (R2 W)
        clear hg4 hd
        go_wp2_with fail
        refine (R2 _).out.mono ?_
        rintro e w2 ⟨rfl, HB⟩
        go_wp2_with fail
        go_ret2
        exact ⟨by rw [Hg.out]; rfl, HB⟩
      | some mi =>
        have hmb := numL_lt _ mi hd
        have hm0 := numL_nonneg _ mi hd hpre
        obtain ⟨m, rfl⟩ := Int.eq_ofNat_of_zero_le hm0
        rw [hd] at hg4 R2
        have Hn : Hid (g = madeN true (some (m, 0))) := hg4
        have R2 := fun W => Lib.hid (R2 W)
        have hm16 : (m : Int) ≤ 10000000000000000 := by omega
        clear hg4 hd hmb hm0
        go_wp2_with fail
        refine (R2 _).out.mono ?_
        rintro e w2 ⟨rfl, HB⟩
        by_cases hbig : 9007199254740992 ≤ m
        · have c1 : decide ((9007199254740992 : Int) ≤ (m : Int)) = true := decide_eq_true (by omega)
          have Hg : Hid (g = (0, 11)) := Lib.hid (Hn.out.trans (made_big _ m (0 : Int) hbig))
          clear hbig
          go_wp2_with fail
          go_ret2
          exact ⟨by rw [Hg.out]; rfl, HB⟩
        · have c1 : decide ((9007199254740992 : Int) ≤ (m : Int)) = false := decide_eq_false (by omega)
          by_cases hz : m = 0
          · subst hz
            have Hg : Hid (g = (sgnW true 0, 0)) := Lib.hid (Hn.out.trans (made_zero _ (0 : Int)))
            clear hbig
            go_wp2_with fail
            refine (copysign_any 0 13830554455654793216 (by decide) (by decide) _).mono ?_
            rintro e w' ⟨rfl, rfl⟩
            go_wp2_with fail
            go_ret2
            exact ⟨by rw [Hg.out, show sgnW true 0 = copysignN 0 13830554455654793216 from (copy_minus 0 (by decide)).symm]; rfl, HB⟩
          · have c2 : 0 < m := Nat.pos_of_ne_zero hz
            have Hm := Lib.hid (And.intro hz (Nat.lt_of_not_le hbig))
            have Hj : Hid ((((0 : Int) + (tzN m : Int) < -1074 ∨ 1024 < (Lib.bitLen (oddN m) : Int) + ((0 : Int) + (tzN m : Int))) → g = (0, 11)) ∧ (¬ ((0 : Int) + (tzN m : Int) < -1074 ∨ 1024 < (Lib.bitLen (oddN m) : Int) + ((0 : Int) + (tzN m : Int))) → g = (sgnW true (packN (oddN m) ((0 : Int) + (tzN m : Int))), 0))) :=
              Lib.hid ⟨fun h => Hn.out.trans (made_over _ m (0 : Int) hbig hz h), fun h => Hn.out.trans (made_ok _ m (0 : Int) hbig hz h)⟩
            clear hbig hz Hn
            go_wp2_with fail
            go_loop [6, 9] (fun e x => ∃ u k : Nat, x = .int .i64 (u : Int) ∧ e = .int .i64 ((0 : Int) + (k : Int)) ∧ k ≤ 53 ∧ (u : Int) ≤ 9007199254740991 ∧ Hid (u * 2 ^ k = m ∧ u ≠ 0)) (fun _ x => (intOf x).toNat)
            case atStart => exact ⟨m, 0, by go_num, by go_num, by omega, by have := Hm.out.2; omega, ⟨by rw [Nat.pow_zero, Nat.mul_one], Hm.out.1⟩⟩
            case round =>
              obtain ⟨u, k, rfl, rfl, hk, hu, H⟩ := hrel
              by_cases he : u % 2 = 0
              · have q1 : ((u : Int) % 2 == 0) = true := by rw [beq_iff_eq]; omega
                have Hs := Lib.hid (halfstep u k m H.out.1 he)
                have hk1 := kle (u / 2) (k + 1) m Hs.out (by have := H.out.2; omega) Hm.out.2
                have Hu0 := Lib.hid (show u / 2 ≠ 0 by have := H.out.2; omega)
                clear he
                go_wp2_with fail
                go_round
                case rel => exact ⟨u / 2, k + 1, by go_num, by go_num, hk1, by omega, ⟨Hs.out, Hu0.out⟩⟩
                case measure => simp [intOf]; have := H.out.2; omega
              · have q1 : ((u : Int) % 2 == 0) = false := by rw [beq_eq_false_iff_ne]; omega
                have ht : tzN m = k := by rw [← H.out.1]; exact tzN_mul u k (by omega) (by omega)
                have ho : oddN m = u := by rw [← H.out.1]; exact oddN_mul u k (by omega) (by omega)
                have hj := Hj.out
                rw [ht, ho] at hj
                have Hu0 := Lib.hid H.out.2
                have Hul := Lib.hid (show u < 9007199254740992 by omega)
                clear ht ho he H Hj
                have hq0 : -20000000000000000 ≤ (0 : Int) + (k : Int) := by omega
                have hq1 : (0 : Int) + (k : Int) ≤ 20000000000000000 := by omega
                generalize (0 : Int) + (k : Int) = q at *
                obtain ⟨l1, l2, l3, l4⟩ := bitLen_facts u Hu0.out Hul.out
                have Hj := Lib.hid hj
                clear hj l3 l4
                go_wp2_with fail
                go_loop [12] (fun x => ∃ b : Nat, x = .int .i64 (b : Int) ∧ (b : Int) ≤ 53 ∧ Hid (b ≤ Lib.bitLen u)) (fun x => 60 - (intOf x).toNat)
                case atStart => exact ⟨0, rfl, by omega, Nat.zero_le _⟩
                case round =>
                  obtain ⟨b, rfl, hb, Hb⟩ := hrel
                  have hb64 : b ≤ 53 := by omega
                  obtain ⟨pw, hpe, hpl, hpi⟩ := shl_facts b hb64
                  by_cases hlt : pw ≤ u
                  · have b1 : decide (wrap64 ((2 : Int) ^ b) ≤ (u : Int)) = true := dec_le_true hpi hlt
                    have Hb1 := Lib.hid (bits_on u b Hu0.out Hul.out (pw_le hpe hlt))
                    clear hlt hpl hpe hpi
                    go_wp2_with fail
                    go_round
                    case rel => exact ⟨b + 1, by go_num, by have := Hb1.out; omega, Hb1.out⟩
                    case measure => simp [intOf]; omega
                  · have b1 : decide (wrap64 ((2 : Int) ^ b) ≤ (u : Int)) = false := dec_le_false hpi hlt
                    have hbl := bits_end u b Hu0.out Hul.out Hb.out (pw_lt hpe hlt)
                    have hj := Hj.out
                    rw [← hbl] at hj
                    clear hlt hpl hpe hpi Hb
                    by_cases hov : 1024 < (b : Int) + q
                    · have Hg : Hid (g = (0, 11)) := Lib.hid (hj.1 (by omega))
                      have b2 : decide (1024 < (b : Int) + q) = true := decide_eq_true hov
                      clear hj hov hbl
                      go_wp2_with fail
                      go_ret2
                      exact ⟨by rw [Hg.out]; rfl, HB⟩
                    · have b2 : decide (1024 < (b : Int) + q) = false := decide_eq_false hov
                      by_cases hun : q < -1074
                      · have Hg : Hid (g = (0, 11)) := Lib.hid (hj.1 (by omega))
                        have b3 : decide (q < -1074) = true := decide_eq_true hun
                        clear hj hov hbl hun
                        go_wp2_with fail
                        go_ret2
                        exact ⟨by rw [Hg.out]; rfl, HB⟩
                      · have b3 : decide (q < -1074) = false := decide_eq_false hun
                        have hj := hj.2 (by omega)
                        have hpk := pack_ld u q Hu0.out Hul.out (by omega) (by omega)
                        have hpl : packN u q < 9223372036854775808 := by
                          rw [← hpk]
                          have : ldN u q ≤ infR := Nat.min_le_right _ _
                          have hc : infR = 9218868437227405312 := rfl
                          omega
                        have C := ldexpW_any u q w2 Hu0.out Hul.out (by omega) (by omega)
                        rw [hpk, ← floatOfInt_nat u (by have := Hul.out; omega)] at C
                        generalize packN u q = v at *
                        have C := Lib.hid C
                        have K := fun W => copyneg_any v hpl W
                        rw [sgnW_true] at hj
                        generalize Op.negFloat .f64 v = nv at *
                        have K := fun W => Lib.hid (K W)
                        clear hpl
                        have Hg := Lib.hid hj
                        clear hj hov hbl hun hpk
                        go_wp2_with fail
                        refine C.out.mono ?_
                        rintro e w' ⟨rfl, rfl⟩
                        go_wp2_with fail
                        refine (K _).out.mono ?_
                        rintro e w' ⟨rfl, rfl⟩
                        go_wp2_with fail
                        go_ret2
                        exact ⟨by rw [Hg.out]; rfl, HB⟩

set_option maxRecDepth 100000 in
set_option maxHeartbeats 16000000 in
theorem qparse_plus (s t : ByteArray) (w : World) (g : Nat × Int) (hs : s.size ≤ 140737488351232) (n1 : s.data.toList ≠ [110, 97, 110]) (n2 : s.data.toList ≠ [105, 110, 102]) (n3 : s.data.toList ≠ [45, 105, 110, 102])
    (hsg : ∃ hp : 0 < s.size, ((s[0]'hp).toNat : Int) ≠ 45) (ht : t = s) (hG : g = madeN false (prodL t.data.toList)) :
    Calls Tryd.prog 33 #[.string s] w fun e w' => TupP w g e w' := by
  have e90 : (s.toList == [110, 97, 110]) = false := by rw [Lib.toList_data, beq_eq_false_iff_ne]; exact n1
  have e91 : (s.toList == [105, 110, 102]) = false := by rw [Lib.toList_data, beq_eq_false_iff_ne]; exact n2
  have e92 : (s.toList == [45, 105, 110, 102]) = false := by rw [Lib.toList_data, beq_eq_false_iff_ne]; exact n3
  have HG := Lib.hid hG
  subst ht
  have hts := hs
  clear n1 n2 n3 hG hs
  obtain ⟨hp, h45⟩ := hsg
  · have z0 : decide ((0 : Int) < (t.size : Int)) = true := decide_eq_true (by omega)
    have e45 : (((t[0]'hp).toNat : Int) == 45) = false := by rw [beq_eq_false_iff_ne]; exact h45
    clear h45
    go_enter Tryd.func33, Tryd.ntmps33
    go_wp2_with fail
    go_loop [5] (fun x => ∃ k : Nat, x = .int .i64 (k : Int) ∧ k ≤ t.size ∧ Hid (∀ c ∈ t.data.toList.take k, Dig c)) (fun x => t.size - (intOf x).toNat)
    case atStart => exact ⟨0, rfl, Nat.zero_le _, by show ∀ c ∈ _, _; simp⟩
    case round =>
      obtain ⟨k, rfl, hk, HD⟩ := hrel
      by_cases hl : k < t.size
      · have hb8 := UInt8.toNat_lt t[k]
        have hdk : t.data.toList.drop k = t[k] :: t.data.toList.drop (k + 1) := List.drop_eq_getElem_cons (by simpa using hl)
        have htk : t.data.toList = t.data.toList.take k ++ t[k] :: t.data.toList.drop (k + 1) := by rw [← hdk, List.take_append_drop]
        by_cases hc : Dig t[k]
        · have g1 : decide ((48 : Int) ≤ (t[k].toNat : Int)) = true := decide_eq_true (by have := hc.1; omega)
          have g2 : decide ((t[k].toNat : Int) ≤ 57) = true := decide_eq_true (by have := hc.2; omega)
          have HD1 : Hid (∀ c ∈ t.data.toList.take (k + 1), Dig c) := by
            show ∀ c ∈ _, _
            rw [List.take_succ_eq_append_getElem (by simpa using hl)]
            intro c hcm
            rcases List.mem_append.1 hcm with h | h
            · exact HD.out c h
            · rw [List.mem_singleton.1 h]; exact hc
          clear hdk htk hc
          go_wp2_with fail
          go_round
          case rel => exact ⟨k + 1, by go_num, by omega, HD1⟩
          case measure => simp [intOf]; omega
        · have hg : (decide ((48 : Int) ≤ (t[k].toNat : Int)) = false) ∨ (decide ((48 : Int) ≤ (t[k].toNat : Int)) = true ∧ decide ((t[k].toNat : Int) ≤ 57) = false) := by
            unfold Dig at hc
            by_cases h48 : 48 ≤ t[k].toNat
            · exact Or.inr ⟨decide_eq_true (by omega), decide_eq_false (by omega)⟩
            · exact Or.inl (decide_eq_false (by omega))
          by_cases h112 : t[k] = 112
          · have hgt : t[k].toNat = 112 := by rw [h112]; rfl
            have g1 : decide ((48 : Int) ≤ (t[k].toNat : Int)) = true := decide_eq_true (by omega)
            have g2 : decide ((t[k].toNat : Int) ≤ 57) = false := decide_eq_false (by omega)
            have g3 : ((t[k].toNat : Int) != 112) = false := by rw [bne_eq_false_iff_eq]; omega
            rw [h112] at htk
            have hpr := prodL_p (t.data.toList.take k) (t.data.toList.drop (k + 1)) HD.out
            rw [← htk, List.length_drop, show t.data.toList.length = t.size from rfl] at hpr
            have hg4 := HG.out
            rw [hpr] at hg4
            have hlen : (t.extract (k + 1) t.size).size = t.size - (k + 1) := by simp
            have x1 : (t.extract (k + 1) t.size).data.toList = t.data.toList.drop (k + 1) := by simp; rw [List.take_of_length_le (by simp)]
            have x2 : (t.extract 0 k).data.toList = t.data.toList.take k := by simp
            have R1 := fun W => rnumber_any (t.extract (k + 1) t.size) W (by rw [hlen]; omega)
            have R2 := fun W => rnumber_any (t.extract 0 k) W (by simp; omega)
            rw [x1] at R1
            rw [x2] at R2
            have hpre := pre_digs _ HD.out
            clear hg htk hdk hc hpr x1 x2 hlen HD h112 hgt
            by_cases h5 : 5 < t.size - (k + 1)
            · have b5 : decide ((5 : Int) < (t.size : Int) - (k : Int) - 1) = true := decide_eq_true (by omega)
              rw [if_pos h5] at hg4
              have Hg := Lib.hid hg4
              have HB : Below w.heap.size w w := Below.refl _ _
              clear hg4 h5 R1 R2
              go_wp2_with fail
              go_ret2
              exact ⟨by rw [Hg.out]; rfl, HB⟩
            · have b5 : decide ((5 : Int) < (t.size : Int) - (k : Int) - 1) = false := decide_eq_false (by omega)
              rw [if_neg h5] at hg4
              clear h5
              cases hr : numL (t.data.toList.drop (k + 1)) with
              | none =>
                rw [hr] at hg4 R1
                have Hg : Hid (g = (0, 4)) := by
                  have h1 := hg4
                  cases hd : numL (t.data.toList.take k) <;> rw [hd] at h1 <;> exact h1
                have R1 := fun W => Lib.hid (R1 W)
                clear hg4 R2 hr
                go_wp2_with fail
                refine (R1 _).out.mono ?_
                rintro e w1 ⟨rfl, HB⟩
                go_wp2_with fail
                go_ret2
                exact ⟨by rw [Hg.out]; rfl, HB⟩
              | some p =>
                have hpb := numL_lt _ p hr
                rw [hr] at hg4 R1
                have R1 := fun W => Lib.hid (R1 W)
                cases hd : numL (t.data.toList.take k) with
                | none =>
                  rw [hd] at hg4 R2
                  have Hg : Hid (g = (0, 4)) := hg4
                  have R2 := fun W => Lib.hid (R2 W)
                  clear hg4 hr hd
                  go_wp2_with fail
                  refine (R1 _).out.mono ?_
                  rintro e w1 ⟨rfl, HB1⟩
                  go_wp2_with fail
                  refine (R2 _).out.mono ?_
                  rintro e w2 ⟨rfl, HB2⟩
                  have HB := HB1.trans (HB2.mono HB1.size)
                  go_wp2_with fail
                  go_ret2
                  exact ⟨by rw [Hg.out]; rfl, HB⟩
                | some mi =>
                  have hmb := numL_lt _ mi hd
                  have hm0 := numL_nonneg _ mi hd hpre
                  obtain ⟨m, rfl⟩ := Int.eq_ofNat_of_zero_le hm0
                  rw [hd] at hg4 R2
                  have Hn : Hid (g = madeN false (some (m, p))) := hg4
                  have R2 := fun W => Lib.hid (R2 W)
                  have hm16 : (m : Int) ≤ 10000000000000000 := by omega
                  have hP0 : -10000000000000000 ≤ p := by omega
                  have hP1 : p ≤ 10000000000000000 := by omega
                  clear hg4 hr hd hpb hmb hm0
                  go_wp2_with fail
                  refine (R1 _).out.mono ?_
                  rintro e w1 ⟨rfl, HB1⟩
                  go_wp2_with fail
                  refine (R2 _).out.mono ?_
                  rintro e w2 ⟨rfl, HB2⟩
                  have HB := HB1.trans (HB2.mono HB1.size)
                  by_cases hbig : 9007199254740992 ≤ m
                  · have c1 : decide ((9007199254740992 : Int) ≤ (m : Int)) = true := decide_eq_true (by omega)
                    have Hg : Hid (g = (0, 11)) := Lib.hid (Hn.out.trans (made_big _ m p hbig))
                    clear hbig
                    go_wp2_with fail
                    go_ret2
                    exact ⟨by rw [Hg.out]; rfl, HB⟩
                  · have c1 : decide ((9007199254740992 : Int) ≤ (m : Int)) = false := decide_eq_false (by omega)
                    by_cases hz : m = 0
                    · subst hz
                      have Hg : Hid (g = (sgnW false 0, 0)) := Lib.hid (Hn.out.trans (made_zero _ p))
                      clear hbig
                      go_wp2_with fail
                      go_ret2
                      exact ⟨by rw [Hg.out]; rfl, HB⟩
                    · have c2 : 0 < m := Nat.pos_of_ne_zero hz
                      have Hm := Lib.hid (And.intro hz (Nat.lt_of_not_le hbig))
                      have Hj : Hid (((p + (tzN m : Int) < -1074 ∨ 1024 < (Lib.bitLen (oddN m) : Int) + (p + (tzN m : Int))) → g = (0, 11)) ∧ (¬ (p + (tzN m : Int) < -1074 ∨ 1024 < (Lib.bitLen (oddN m) : Int) + (p + (tzN m : Int))) → g = (sgnW false (packN (oddN m) (p + (tzN m : Int))), 0))) :=
                        Lib.hid ⟨fun h => Hn.out.trans (made_over _ m p hbig hz h), fun h => Hn.out.trans (made_ok _ m p hbig hz h)⟩
                      clear hbig hz Hn
                      go_wp2_with fail
                      go_loop [6, 9] (fun e x => ∃ u k : Nat, x = .int .i64 (u : Int) ∧ e = .int .i64 (p + (k : Int)) ∧ k ≤ 53 ∧ (u : Int) ≤ 9007199254740991 ∧ Hid (u * 2 ^ k = m ∧ u ≠ 0)) (fun _ x => (intOf x).toNat)
                      case atStart => exact ⟨m, 0, by go_num, by go_num, by omega, by have := Hm.out.2; omega, ⟨by rw [Nat.pow_zero, Nat.mul_one], Hm.out.1⟩⟩
                      case round =>
                        obtain ⟨u, k, rfl, rfl, hk, hu, H⟩ := hrel
                        by_cases he : u % 2 = 0
                        · have q1 : ((u : Int) % 2 == 0) = true := by rw [beq_iff_eq]; omega
                          have Hs := Lib.hid (halfstep u k m H.out.1 he)
                          have hk1 := kle (u / 2) (k + 1) m Hs.out (by have := H.out.2; omega) Hm.out.2
                          have Hu0 := Lib.hid (show u / 2 ≠ 0 by have := H.out.2; omega)
                          clear he
                          go_wp2_with fail
                          go_round
                          case rel => exact ⟨u / 2, k + 1, by go_num, by go_num, hk1, by omega, ⟨Hs.out, Hu0.out⟩⟩
                          case measure => simp [intOf]; have := H.out.2; omega
                        · have q1 : ((u : Int) % 2 == 0) = false := by rw [beq_eq_false_iff_ne]; omega
                          have ht : tzN m = k := by rw [← H.out.1]; exact tzN_mul u k (by omega) (by omega)
                          have ho : oddN m = u := by rw [← H.out.1]; exact oddN_mul u k (by omega) (by omega)
                          have hj := Hj.out
                          rw [ht, ho] at hj
                          have Hu0 := Lib.hid H.out.2
                          have Hul := Lib.hid (show u < 9007199254740992 by omega)
                          clear ht ho he H Hj
                          have hq0 : -20000000000000000 ≤ p + (k : Int) := by omega
                          have hq1 : p + (k : Int) ≤ 20000000000000000 := by omega
                          generalize p + (k : Int) = q at *
                          obtain ⟨l1, l2, l3, l4⟩ := bitLen_facts u Hu0.out Hul.out
                          have Hj := Lib.hid hj
                          clear hj l3 l4
                          go_wp2_with fail
                          go_loop [12] (fun x => ∃ b : Nat, x = .int .i64 (b : Int) ∧ (b : Int) ≤ 53 ∧ Hid (b ≤ Lib.bitLen u)) (fun x => 60 - (intOf x).toNat)
                          case atStart => exact ⟨0, rfl, by omega, Nat.zero_le _⟩
                          case round =>
                            obtain ⟨b, rfl, hb, Hb⟩ := hrel
                            have hb64 : b ≤ 53 := by omega
                            obtain ⟨pw, hpe, hpl, hpi⟩ := shl_facts b hb64
                            by_cases hlt : pw ≤ u
                            · have b1 : decide (wrap64 ((2 : Int) ^ b) ≤ (u : Int)) = true := dec_le_true hpi hlt
                              have Hb1 := Lib.hid (bits_on u b Hu0.out Hul.out (pw_le hpe hlt))
                              clear hlt hpl hpe hpi
                              go_wp2_with fail
                              go_round
                              case rel => exact ⟨b + 1, by go_num, by have := Hb1.out; omega, Hb1.out⟩
                              case measure => simp [intOf]; omega
                            · have b1 : decide (wrap64 ((2 : Int) ^ b) ≤ (u : Int)) = false := dec_le_false hpi hlt
                              have hbl := bits_end u b Hu0.out Hul.out Hb.out (pw_lt hpe hlt)
                              have hj := Hj.out
                              rw [← hbl] at hj
                              clear hlt hpl hpe hpi Hb
                              by_cases hov : 1024 < (b : Int) + q
                              · have Hg : Hid (g = (0, 11)) := Lib.hid (hj.1 (by omega))
                                have b2 : decide (1024 < (b : Int) + q) = true := decide_eq_true hov
                                clear hj hov hbl
                                go_wp2_with fail
                                go_ret2
                                exact ⟨by rw [Hg.out]; rfl, HB⟩
                              · have b2 : decide (1024 < (b : Int) + q) = false := decide_eq_false hov
                                by_cases hun : q < -1074
                                · have Hg : Hid (g = (0, 11)) := Lib.hid (hj.1 (by omega))
                                  have b3 : decide (q < -1074) = true := decide_eq_true hun
                                  clear hj hov hbl hun
                                  go_wp2_with fail
                                  go_ret2
                                  exact ⟨by rw [Hg.out]; rfl, HB⟩
                                · have b3 : decide (q < -1074) = false := decide_eq_false hun
                                  have hj := hj.2 (by omega)
                                  have hpk := pack_ld u q Hu0.out Hul.out (by omega) (by omega)
                                  have hpl : packN u q < 9223372036854775808 := by
                                    rw [← hpk]
                                    have : ldN u q ≤ infR := Nat.min_le_right _ _
                                    have hc : infR = 9218868437227405312 := rfl
                                    omega
                                  have C := ldexpW_any u q w2 Hu0.out Hul.out (by omega) (by omega)
                                  rw [hpk, ← floatOfInt_nat u (by have := Hul.out; omega)] at C
                                  generalize packN u q = v at *
                                  have C := Lib.hid C
                                  rw [sgnW_false] at hj
                                  clear hpl
                                  have Hg := Lib.hid hj
                                  clear hj hov hbl hun hpk
                                  go_wp2_with fail
                                  refine C.out.mono ?_
                                  rintro e w' ⟨rfl, rfl⟩
                                  go_wp2_with fail
                                  go_ret2
                                  exact ⟨by rw [Hg.out]; rfl, HB⟩
          · have hg3 : ((t[k].toNat : Int) != 112) = true := by
              rw [bne_iff_ne]
              intro e
              exact h112 (UInt8.toNat_inj.1 (show t[k].toNat = (112 : UInt8).toNat by have : (112 : UInt8).toNat = 112 := rfl; omega))
            have hbad := prodL_bad (t.data.toList.take k) t[k] (t.data.toList.drop (k + 1)) HD.out hc h112
            rw [← htk] at hbad
            have hg4 := HG.out
            rw [hbad] at hg4
            have Hg : Hid (g = (0, 4)) := hg4
            have HB : Below w.heap.size w w := Below.refl _ _
            clear hbad hg4 htk hdk hc h112 HD
            rcases hg with g1 | ⟨g1, g2⟩
            · go_wp2_with fail
              go_ret2
              exact ⟨by rw [Hg.out]; rfl, HB⟩
            · go_wp2_with fail
              go_ret2
              exact ⟨by rw [Hg.out]; rfl, HB⟩
      · obtain rfl : k = t.size := by omega
        have hD : ∀ c ∈ t.data.toList, Dig c := by
          have := HD.out
          rwa [List.take_of_length_le (by simp)] at this
        have hall := prodL_all t.data.toList hD
        have hg4 := HG.out
        rw [hall] at hg4
        have hpre := pre_digs _ hD
        have R2 := fun W => rnumber_any t W hts
        clear hall hD HD
        cases hd : numL t.data.toList with
        | none =>
          rw [hd] at hg4 R2
          have Hg : Hid (g = (0, 4)) := hg4
          have R2 := fun W => Lib.hid (R2 W)
          clear hg4 hd
          go_wp2_with fail
          refine (R2 _).out.mono ?_
          rintro e w2 ⟨rfl, HB⟩
          go_wp2_with fail
          go_ret2
          exact ⟨by rw [Hg.out]; rfl, HB⟩
        | some mi =>
          have hmb := numL_lt _ mi hd
          have hm0 := numL_nonneg _ mi hd hpre
          obtain ⟨m, rfl⟩ := Int.eq_ofNat_of_zero_le hm0
          rw [hd] at hg4 R2
          have Hn : Hid (g = madeN false (some (m, 0))) := hg4
          have R2 := fun W => Lib.hid (R2 W)
          have hm16 : (m : Int) ≤ 10000000000000000 := by omega
          clear hg4 hd hmb hm0
          go_wp2_with fail
          refine (R2 _).out.mono ?_
          rintro e w2 ⟨rfl, HB⟩
          by_cases hbig : 9007199254740992 ≤ m
          · have c1 : decide ((9007199254740992 : Int) ≤ (m : Int)) = true := decide_eq_true (by omega)
            have Hg : Hid (g = (0, 11)) := Lib.hid (Hn.out.trans (made_big _ m (0 : Int) hbig))
            clear hbig
            go_wp2_with fail
            go_ret2
            exact ⟨by rw [Hg.out]; rfl, HB⟩
          · have c1 : decide ((9007199254740992 : Int) ≤ (m : Int)) = false := decide_eq_false (by omega)
            by_cases hz : m = 0
            · subst hz
              have Hg : Hid (g = (sgnW false 0, 0)) := Lib.hid (Hn.out.trans (made_zero _ (0 : Int)))
              clear hbig
              go_wp2_with fail
              go_ret2
              exact ⟨by rw [Hg.out]; rfl, HB⟩
            · have c2 : 0 < m := Nat.pos_of_ne_zero hz
              have Hm := Lib.hid (And.intro hz (Nat.lt_of_not_le hbig))
              have Hj : Hid ((((0 : Int) + (tzN m : Int) < -1074 ∨ 1024 < (Lib.bitLen (oddN m) : Int) + ((0 : Int) + (tzN m : Int))) → g = (0, 11)) ∧ (¬ ((0 : Int) + (tzN m : Int) < -1074 ∨ 1024 < (Lib.bitLen (oddN m) : Int) + ((0 : Int) + (tzN m : Int))) → g = (sgnW false (packN (oddN m) ((0 : Int) + (tzN m : Int))), 0))) :=
                Lib.hid ⟨fun h => Hn.out.trans (made_over _ m (0 : Int) hbig hz h), fun h => Hn.out.trans (made_ok _ m (0 : Int) hbig hz h)⟩
              clear hbig hz Hn
              go_wp2_with fail
              go_loop [6, 9] (fun e x => ∃ u k : Nat, x = .int .i64 (u : Int) ∧ e = .int .i64 ((0 : Int) + (k : Int)) ∧ k ≤ 53 ∧ (u : Int) ≤ 9007199254740991 ∧ Hid (u * 2 ^ k = m ∧ u ≠ 0)) (fun _ x => (intOf x).toNat)
              case atStart => exact ⟨m, 0, by go_num, by go_num, by omega, by have := Hm.out.2; omega, ⟨by rw [Nat.pow_zero, Nat.mul_one], Hm.out.1⟩⟩
              case round =>
                obtain ⟨u, k, rfl, rfl, hk, hu, H⟩ := hrel
                by_cases he : u % 2 = 0
                · have q1 : ((u : Int) % 2 == 0) = true := by rw [beq_iff_eq]; omega
                  have Hs := Lib.hid (halfstep u k m H.out.1 he)
                  have hk1 := kle (u / 2) (k + 1) m Hs.out (by have := H.out.2; omega) Hm.out.2
                  have Hu0 := Lib.hid (show u / 2 ≠ 0 by have := H.out.2; omega)
                  clear he
                  go_wp2_with fail
                  go_round
                  case rel => exact ⟨u / 2, k + 1, by go_num, by go_num, hk1, by omega, ⟨Hs.out, Hu0.out⟩⟩
                  case measure => simp [intOf]; have := H.out.2; omega
                · have q1 : ((u : Int) % 2 == 0) = false := by rw [beq_eq_false_iff_ne]; omega
                  have ht : tzN m = k := by rw [← H.out.1]; exact tzN_mul u k (by omega) (by omega)
                  have ho : oddN m = u := by rw [← H.out.1]; exact oddN_mul u k (by omega) (by omega)
                  have hj := Hj.out
                  rw [ht, ho] at hj
                  have Hu0 := Lib.hid H.out.2
                  have Hul := Lib.hid (show u < 9007199254740992 by omega)
                  clear ht ho he H Hj
                  have hq0 : -20000000000000000 ≤ (0 : Int) + (k : Int) := by omega
                  have hq1 : (0 : Int) + (k : Int) ≤ 20000000000000000 := by omega
                  generalize (0 : Int) + (k : Int) = q at *
                  obtain ⟨l1, l2, l3, l4⟩ := bitLen_facts u Hu0.out Hul.out
                  have Hj := Lib.hid hj
                  clear hj l3 l4
                  go_wp2_with fail
                  go_loop [12] (fun x => ∃ b : Nat, x = .int .i64 (b : Int) ∧ (b : Int) ≤ 53 ∧ Hid (b ≤ Lib.bitLen u)) (fun x => 60 - (intOf x).toNat)
                  case atStart => exact ⟨0, rfl, by omega, Nat.zero_le _⟩
                  case round =>
                    obtain ⟨b, rfl, hb, Hb⟩ := hrel
                    have hb64 : b ≤ 53 := by omega
                    obtain ⟨pw, hpe, hpl, hpi⟩ := shl_facts b hb64
                    by_cases hlt : pw ≤ u
                    · have b1 : decide (wrap64 ((2 : Int) ^ b) ≤ (u : Int)) = true := dec_le_true hpi hlt
                      have Hb1 := Lib.hid (bits_on u b Hu0.out Hul.out (pw_le hpe hlt))
                      clear hlt hpl hpe hpi
                      go_wp2_with fail
                      go_round
                      case rel => exact ⟨b + 1, by go_num, by have := Hb1.out; omega, Hb1.out⟩
                      case measure => simp [intOf]; omega
                    · have b1 : decide (wrap64 ((2 : Int) ^ b) ≤ (u : Int)) = false := dec_le_false hpi hlt
                      have hbl := bits_end u b Hu0.out Hul.out Hb.out (pw_lt hpe hlt)
                      have hj := Hj.out
                      rw [← hbl] at hj
                      clear hlt hpl hpe hpi Hb
                      by_cases hov : 1024 < (b : Int) + q
                      · have Hg : Hid (g = (0, 11)) := Lib.hid (hj.1 (by omega))
                        have b2 : decide (1024 < (b : Int) + q) = true := decide_eq_true hov
                        clear hj hov hbl
                        go_wp2_with fail
                        go_ret2
                        exact ⟨by rw [Hg.out]; rfl, HB⟩
                      · have b2 : decide (1024 < (b : Int) + q) = false := decide_eq_false hov
                        by_cases hun : q < -1074
                        · have Hg : Hid (g = (0, 11)) := Lib.hid (hj.1 (by omega))
                          have b3 : decide (q < -1074) = true := decide_eq_true hun
                          clear hj hov hbl hun
                          go_wp2_with fail
                          go_ret2
                          exact ⟨by rw [Hg.out]; rfl, HB⟩
                        · have b3 : decide (q < -1074) = false := decide_eq_false hun
                          have hj := hj.2 (by omega)
                          have hpk := pack_ld u q Hu0.out Hul.out (by omega) (by omega)
                          have hpl : packN u q < 9223372036854775808 := by
                            rw [← hpk]
                            have : ldN u q ≤ infR := Nat.min_le_right _ _
                            have hc : infR = 9218868437227405312 := rfl
                            omega
                          have C := ldexpW_any u q w2 Hu0.out Hul.out (by omega) (by omega)
                          rw [hpk, ← floatOfInt_nat u (by have := Hul.out; omega)] at C
                          generalize packN u q = v at *
                          have C := Lib.hid C
                          rw [sgnW_false] at hj
                          clear hpl
                          have Hg := Lib.hid hj
                          clear hj hov hbl hun hpk
                          go_wp2_with fail
                          refine C.out.mono ?_
                          rintro e w' ⟨rfl, rfl⟩
                          go_wp2_with fail
                          go_ret2
                          exact ⟨by rw [Hg.out]; rfl, HB⟩

theorem qparse_any (s : ByteArray) (w : World) (hs : s.size ≤ 140737488351232) :
    Calls Tryd.prog 33 #[.string s] w fun e w' => TupP w (parseN s.data.toList) e w' := by
  have hform : ∀ h1 : s.data.toList ≠ [110, 97, 110], ∀ h2 : s.data.toList ≠ [105, 110, 102], ∀ h3 : s.data.toList ≠ [45, 105, 110, 102],
      parseN s.data.toList = madeN (Lib.hasPrefix s.data.toList [45]) (prodL (Lib.trimPrefix s.data.toList [45])) := by
    intro h1 h2 h3
    unfold parseN madeN
    rw [if_neg h1, if_neg h2, if_neg h3]
    generalize Lib.hasPrefix s.data.toList [45] = neg
    cases prodL (Lib.trimPrefix s.data.toList [45]) with
    | none => rfl
    | some v =>
      obtain ⟨m, p⟩ := v
      dsimp only
      cases joinN m p <;> rfl
  by_cases n1 : s.data.toList = [110, 97, 110]
  · have := qparse_nan s w n1
    rw [n1]
    exact this
  by_cases n2 : s.data.toList = [105, 110, 102]
  · have := qparse_inf s w n2
    rw [n2]
    exact this
  by_cases n3 : s.data.toList = [45, 105, 110, 102]
  · have := qparse_minf s w n3
    rw [n3]
    exact this
  have hf := hform n1 n2 n3
  by_cases hp : 0 < s.size
  · have hd : s.data.toList = s[0] :: s.data.toList.drop 1 := by
      have := List.drop_eq_getElem_cons (l := s.data.toList) (i := 0) (by simpa using hp)
      rw [List.drop_zero] at this
      exact this
    by_cases h45 : s[0] = 45
    · have hpr : Lib.hasPrefix s.data.toList [45] = true := by rw [hd, h45]; simp [Lib.hasPrefix]
      have htr : Lib.trimPrefix s.data.toList [45] = (s.extract 1 s.size).data.toList := by
        unfold Lib.trimPrefix
        rw [if_pos hpr, Lib.extract_data, List.take_of_length_le (by simp)]
        rfl
      rw [hpr, htr] at hf
      exact qparse_minus s (s.extract 1 s.size) w _ hs n1 n2 n3 hp (by rw [h45]; rfl) rfl hf
    · have hpr : Lib.hasPrefix s.data.toList [45] = false := by
        rw [hd]
        simp only [Lib.hasPrefix, List.isPrefixOf, Bool.and_true, beq_eq_false_iff_ne]
        exact fun e => h45 e.symm
      have htr : Lib.trimPrefix s.data.toList [45] = s.data.toList := by
        unfold Lib.trimPrefix
        rw [if_neg (by rw [hpr]; decide)]
      rw [hpr, htr] at hf
      exact qparse_plus s s w _ hs n1 n2 n3 (⟨hp, fun e => h45 (UInt8.toNat_inj.1 (show s[0].toNat = (45 : UInt8).toNat by have : (45 : UInt8).toNat = 45 := rfl; omega))⟩) rfl hf
  · have hl : s.data.toList = [] := List.eq_nil_of_length_eq_zero (show s.size = 0 by omega)
    rw [hl, show parseN [] = (0, 4) from by decide]
    exact qparse_empty s w (by omega)
end Go.Proofs.YtahofbnebmoopaaDoor
