/-
  VecTexts: vectors have the same text just if they are the same.
-/
import Derived.Test.YtcnjjolmjpeeoaaDoorAliveV
import Derived.Test.YtcnjjolmjpeeoaaDoorItoaPlain
namespace Go.Proofs.YtcnjjolmjpeeoaaDoor
open Go.RowKit

theorem dec_bytes (u : Nat) : ∀ c ∈ Lib.decDigits u, c ≠ 44 := by
  intro c hc h
  have := dec_digit u c hc
  subst h
  have e : (44 : UInt8).toNat = 44 := by decide
  omega
theorem itoa_no44 (z : Int) : ∀ c ∈ Lib.itoa z, c ≠ 44 := by
  intro c hc
  unfold Lib.itoa at hc
  split at hc
  · rw [List.mem_cons] at hc
    rcases hc with rfl | hc
    · decide
    · exact dec_bytes _ c hc
  · exact dec_bytes _ c hc
theorem itoa_ne (z : Int) : Lib.itoa z ≠ [] := by
  unfold Lib.itoa
  split
  · exact List.cons_ne_nil _ _
  · exact dec_ne _
theorem dec_inj {u v : Nat} (h : Lib.decDigits u = Lib.decDigits v) : u = v := by
  have h1 := digs_dec u [] 0
  have h2 := digs_dec v [] 0
  rw [h] at h1
  rw [h1] at h2
  simpa [digs] using h2
theorem itoa_inj {x y : Int} (h : Lib.itoa x = Lib.itoa y) : x = y := by
  have h45 : ∀ u v : Nat, 45 :: Lib.decDigits u ≠ Lib.decDigits v := by
    intro u v e
    have := dec_digit v 45 (by rw [← e]; simp)
    have e2 : (45 : UInt8).toNat = 45 := by decide
    omega
  unfold Lib.itoa at h
  by_cases hx : x < 0
  · by_cases hy : y < 0
    · rw [if_pos hx, if_pos hy] at h
      have := dec_inj (List.cons.inj h).2
      omega
    · rw [if_pos hx, if_neg hy] at h
      exact absurd h (h45 _ _)
  · by_cases hy : y < 0
    · rw [if_neg hx, if_pos hy] at h
      exact absurd h.symm (h45 _ _)
    · rw [if_neg hx, if_neg hy] at h
      have := dec_inj h
      omega

/-- What stands behind an element: nothing, or a comma. -/
def Tail44 (r : List UInt8) : Prop := r = [] ∨ ∃ t, r = 44 :: t
theorem tail_join (r : List (List UInt8)) : Tail44 (Lib.joinTail [44] r) := by
  cases r with
  | nil => exact Or.inl rfl
  | cons x r => exact Or.inr ⟨x ++ Lib.joinTail [44] r, by simp [Lib.joinTail]⟩
theorem cut44 : ∀ (a b r s : List UInt8), (∀ c ∈ a, c ≠ 44) → (∀ c ∈ b, c ≠ 44) → Tail44 r → Tail44 s → a ++ r = b ++ s → a = b ∧ r = s
  | [], [], r, s, _, _, _, _, h => ⟨rfl, h⟩
  | [], y :: b, r, s, _, hb, hr, _, h => by
    rcases hr with rfl | ⟨t, rfl⟩
    · cases h
    · exact absurd (List.cons.inj h).1.symm (hb y (by simp))
  | x :: a, [], r, s, ha, _, _, hs, h => by
    rcases hs with rfl | ⟨t, rfl⟩
    · cases h
    · exact absurd (List.cons.inj h).1 (ha x (by simp))
  | x :: a, y :: b, r, s, ha, hb, hr, hs, h => by
    obtain ⟨h1, h2⟩ := List.cons.inj h
    obtain ⟨h3, h4⟩ := cut44 a b r s (fun c hc => ha c (by simp [hc])) (fun c hc => hb c (by simp [hc])) hr hs h2
    exact ⟨by rw [h1, h3], h4⟩
theorem joinTail_inj : ∀ (R S : List (List UInt8)), (∀ l ∈ R, ∀ c ∈ l, c ≠ 44) → (∀ l ∈ S, ∀ c ∈ l, c ≠ 44) → Lib.joinTail [44] R = Lib.joinTail [44] S → R = S
  | [], [], _, _, _ => rfl
  | [], y :: S, _, _, h => by simp [Lib.joinTail] at h
  | x :: R, [], _, _, h => by simp [Lib.joinTail] at h
  | x :: R, y :: S, hR, hS, h => by
    have h' : x ++ Lib.joinTail [44] R = y ++ Lib.joinTail [44] S := by
      have : 44 :: (x ++ Lib.joinTail [44] R) = 44 :: (y ++ Lib.joinTail [44] S) := by simpa [Lib.joinTail] using h
      exact (List.cons.inj this).2
    obtain ⟨h1, h2⟩ := cut44 x y _ _ (hR x (by simp)) (hS y (by simp)) (tail_join R) (tail_join S) h'
    rw [h1, joinTail_inj R S (fun l hl => hR l (by simp [hl])) (fun l hl => hS l (by simp [hl])) h2]
theorem join_inj (R S : List (List UInt8)) (hR : ∀ l ∈ R, l ≠ [] ∧ ∀ c ∈ l, c ≠ 44) (hS : ∀ l ∈ S, l ≠ [] ∧ ∀ c ∈ l, c ≠ 44) (h : Lib.join R [44] = Lib.join S [44]) : R = S := by
  cases R with
  | nil =>
    cases S with
    | nil => rfl
    | cons y S =>
      rw [Lib.join_nil, Lib.join_cons] at h
      exact absurd (List.append_eq_nil_iff.1 h.symm).1 (hS y (by simp)).1
  | cons x R =>
    cases S with
    | nil =>
      rw [Lib.join_nil, Lib.join_cons] at h
      exact absurd (List.append_eq_nil_iff.1 h).1 (hR x (by simp)).1
    | cons y S =>
      rw [Lib.join_cons, Lib.join_cons] at h
      obtain ⟨h1, h2⟩ := cut44 x y _ _ (hR x (by simp)).2 (hS y (by simp)).2 (tail_join R) (tail_join S) h
      rw [h1, joinTail_inj R S (fun l hl => (hR l (by simp [hl])).2) (fun l hl => (hS l (by simp [hl])).2) h2]
theorem map_itoa_inj : ∀ (xs ys : List Int), xs.map Lib.itoa = ys.map Lib.itoa → xs = ys
  | [], [], _ => rfl
  | [], y :: ys, h => by cases h
  | x :: xs, [], h => by cases h
  | x :: xs, y :: ys, h => by
    obtain ⟨h1, h2⟩ := List.cons.inj h
    rw [itoa_inj h1, map_itoa_inj xs ys h2]
theorem textL_inj {xs ys : List Int} (h : textL xs = textL ys) : xs = ys := by
  have hw : ∀ zs : List Int, ∀ l ∈ zs.map Lib.itoa, l ≠ [] ∧ ∀ c ∈ l, c ≠ 44 := by
    intro zs l hl
    obtain ⟨z, _, rfl⟩ := List.mem_map.1 hl
    exact ⟨itoa_ne z, itoa_no44 z⟩
  unfold textL at h
  exact map_itoa_inj _ _ (join_inj _ _ (hw xs) (hw ys) (List.append_cancel_right (List.cons.inj h).2))

theorem last_93 (l : List UInt8) (h : l.length + 1 < (⟨(91 :: (l ++ [93])).toArray⟩ : ByteArray).size) : ((((⟨(91 :: (l ++ [93])).toArray⟩ : ByteArray)[l.length + 1]'h).toNat : Int) == 93) = true := by
  have e : (⟨(91 :: (l ++ [93])).toArray⟩ : ByteArray)[l.length + 1]'h = 93 := by
    have h' : l.length + 1 < (91 :: (l ++ [93])).toArray.size := h
    have e : (⟨(91 :: (l ++ [93])).toArray⟩ : ByteArray)[l.length + 1]'h = (91 :: (l ++ [93])).toArray[l.length + 1]'h' := rfl
    rw [e]
    simp
  rw [e]
  rfl
theorem textL_ends (xs : List Int) : ∃ l, textL xs = 91 :: l ++ [93] := ⟨_, rfl⟩

set_option maxRecDepth 100000 in
set_option maxHeartbeats 2000000 in
theorem lawVecTexts (A0 : Option Addr) (n0 c0 : Nat) (xs : List Int) (A1 : Option Addr) (n1 c1 : Nat) (ys : List Int) (w : World) (I0 : IntsIn w A0 n0 xs) (m0 : n0 ≤ 17592186043904) (I1 : IntsIn w A1 n1 ys) (m1 : n1 ≤ 17592186043904) (hL : LaidV w) :
    Calls Tryd.prog 7 #[.slice A0 n0 c0, .slice A1 n1 c1] w fun e w' => e = .returned (.bool true) ∧ Below w.heap.size w w' := by
  have J0 := Lib.hid I0
  have J1 := Lib.hid I1
  have HL := Lib.hid hL
  clear I0 I1 hL
  by_cases hn : 60 < n0 + n1
  · go_enter Tryd.func7, Tryd.ntmps7
    go_wp2_with fail
    refine (aliveV_any w HL.out).mono ?_
    rintro e w1 ⟨rfl, hb1⟩
    go_wp2_with fail
    go_ret
    exact ⟨rfl, hb1⟩
  · obtain ⟨l, hl⟩ := textL_ends xs
    have T0 := Lib.hid (vtext_any A0 n0 c0 xs w J0.out (by omega) HL.out.pow10)
    obtain ⟨t, ht⟩ : ∃ t : List UInt8, t = textL ys := ⟨_, rfl⟩
    have hst : (91 :: (l ++ [93]) == t) = decide (xs = ys) := by
      rw [show 91 :: (l ++ [93]) = textL xs from hl.symm, ht]
      by_cases h : xs = ys
      · subst h; simp
      · rw [decide_eq_false h, beq_eq_false_iff_ne]
        exact fun e => h (textL_inj e)
    have Hst := Lib.hid hst
    have Hl := Lib.hid hl
    have Ht := Lib.hid ht
    have hlen : l.length + 2 ≤ 2000 := by
      have := join_le (xs.map Lib.itoa) 21 (by
        intro t ht
        obtain ⟨z, hz, rfl⟩ := List.mem_map.1 ht
        have := bounds_i64 (J0.out.wf z hz)
        exact Lib.itoa_length_le z (by omega) (by omega))
      rw [List.length_map, J0.out.len] at this
      have h2 := congrArg List.length hl
      unfold textL at h2
      simp at h2
      omega
    clear hst hl ht
    obtain ⟨d, hd⟩ : ∃ d, d = decide (xs = ys) := ⟨_, rfl⟩
    have Hd := Lib.hid hd
    clear hd
    go_enter Tryd.func7, Tryd.ntmps7
    go_wp2_with fail
    refine T0.out.mono ?_
    rw [Hl.out]
    rintro e w1 ⟨rfl, hb1⟩
    have L1 := Lib.hid (HL.out.on hb1)
    go_wp2_with fail
    refine (aliveV_any w1 L1.out).mono ?_
    rintro e w2 ⟨rfl, hb2⟩
    have h2 := hb1.trans (hb2.mono hb1.size)
    have L2 := Lib.hid (HL.out.on h2)
    have T1 := Lib.hid (vtext_any A1 n1 c1 ys w2 (J1.out.below h2) (by omega) L2.out.pow10)
    go_wp2_with fail
    refine T1.out.mono ?_
    rw [← Ht.out]
    rintro e w3 ⟨rfl, hb3⟩
    have h3 := h2.trans (hb3.mono h2.size)
    have S3 := Lib.hid (same_any A0 n0 c0 xs A1 n1 c1 ys w3 (J0.out.below h3) (J1.out.below h3))
    have hst := Hst.out
    rw [← Hd.out] at hst
    go_wp2_with fail
    refine S3.out.mono ?_
    rw [← Hd.out]
    rintro e w4 ⟨rfl, q, hw4⟩
    have h4 : Below w.heap.size w w4 := by rw [hw4]; exact below_drewN h3 q
    clear hb1 hb2 hb3 h2 h3 hw4
    go_wp2_with fail
    go_ret
    exact ⟨congrArg (fun b => Ending.returned (Value.bool b)) (last_93 l (by rw [size_mk]; simp)), h4⟩
end Go.Proofs.YtcnjjolmjpeeoaaDoor
