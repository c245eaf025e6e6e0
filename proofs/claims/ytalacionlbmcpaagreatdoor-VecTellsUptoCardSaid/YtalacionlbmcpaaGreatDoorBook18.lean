/-
  VecTells: what its calls answer, one contract each.
-/
import Derived.Test.YtalacionlbmcpaaGreatDoorBook17
import Derived.Test.YtalacionlbmcpaaGreatDoorAliveV
import Derived.Test.YtalacionlbmcpaaGreatDoorNumPlain
namespace Go.Proofs.YtalacionlbmcpaaGreatDoor
open Go.RowKit

theorem light_any (A0 : Option Addr) (n0 c0 : Nat) (A1 : Option Addr) (n1 c1 : Nat) (w : World) :
    Calls Tryz.prog 4 #[.slice A0 n0 c0, .slice A1 n1 c1] w fun e w' => e = .returned (.bool (decide (n0 ≤ 60 ∧ n1 ≤ 60))) ∧ w = w' := by
  by_cases h0 : n0 ≤ 60
  · have d0 : decide ((n0 : Int) ≤ 60) = true := decide_eq_true (by omega)
    by_cases h1 : n1 ≤ 60
    · have d1 : decide ((n1 : Int) ≤ 60) = true := decide_eq_true (by omega)
      rw [decide_eq_true (show n0 ≤ 60 ∧ n1 ≤ 60 from ⟨h0, h1⟩)]
      clear h0 h1
      go_enter Tryz.func4, Tryz.ntmps4
      go_wp2
      go_ret
      exact ⟨rfl, rfl⟩
    · have d1 : decide ((n1 : Int) ≤ 60) = false := decide_eq_false (by omega)
      rw [decide_eq_false (show ¬ (n0 ≤ 60 ∧ n1 ≤ 60) from fun h => h1 h.2)]
      clear h0 h1
      go_enter Tryz.func4, Tryz.ntmps4
      go_wp2
      go_ret
      exact ⟨rfl, rfl⟩
  · have d0 : decide ((n0 : Int) ≤ 60) = false := decide_eq_false (by omega)
    rw [decide_eq_false (show ¬ (n0 ≤ 60 ∧ n1 ≤ 60) from fun h => h0 h.1)]
    clear h0
    go_enter Tryz.func4, Tryz.ntmps4
    go_wp2
    go_ret
    exact ⟨rfl, rfl⟩


/-- What Get answers: the times, how many bytes, the error. -/
def getT (s : ByteArray) : List Int × Int × Int :=
  if s.size = 0 then ([], 0, 3) else
  if getL (s.data.toList.take 1) = 0 ∨ 8 < getL (s.data.toList.take 1) then ([], 0, 4) else
  if s.size < 1 + 6 * getL (s.data.toList.take 1) then ([], 0, 3) else (timesL s.data.toList (getL (s.data.toList.take 1)), 1 + 6 * ((getL (s.data.toList.take 1) : Nat) : Int), 0)
theorem gvget_any (s : ByteArray) (w : World) (hs : s.size ≤ 140737488351232) :
    Calls Tryz.prog 11 #[.string s] w fun e w' => ∃ v, e = .returned (.tuple #[v, .int .i64 (getT s).2.1, .int .i64 (getT s).2.2]) ∧ Nums w' w.heap.size 3 v (getT s).1 ∧ Below w.heap.size w w' := by
  unfold getT
  split
  · next h => exact (vget_empty s w h).mono fun _ _ h => ⟨_, h.1, World.ownsRow_nil _ _ _ _, h.2⟩
  · next h0 =>
    split
    · next h => exact (vget_form s _ w (by omega) rfl h).mono fun _ _ h => ⟨_, h.1, World.ownsRow_nil _ _ _ _, h.2⟩
    · next h1 =>
      split
      · next h => exact (vget_short s _ w (by omega) (by omega) rfl (by omega) (by omega) h).mono fun _ _ h => ⟨_, h.1, World.ownsRow_nil _ _ _ _, h.2⟩
      · next h => exact (vget_ok s _ w (by omega) (by omega) rfl (by omega) (by omega) (by omega)).mono fun _ _ h => by obtain ⟨⟨v, e, hN⟩, hb⟩ := h; exact ⟨v, e, hN, hb⟩
theorem grget_any (s : ByteArray) (w : World) (hs : s.size ≤ 140737488351232) :
    Calls Tryz.prog 12 #[.string s] w fun e w' => ∃ v, e = .returned (.tuple #[v, .int .i64 (getT s).2.1, .int .i64 (getT s).2.2]) ∧ Nums w' w.heap.size 3 v (getT s).1 ∧ Below w.heap.size w w' := by
  unfold getT
  split
  · next h => exact (rvget_empty s w h).mono fun _ _ h => ⟨_, h.1, World.ownsRow_nil _ _ _ _, h.2⟩
  · next h0 =>
    split
    · next h => exact (rvget_form s _ w (by omega) rfl h).mono fun _ _ h => ⟨_, h.1, World.ownsRow_nil _ _ _ _, h.2⟩
    · next h1 =>
      split
      · next h => exact (rvget_short s _ w (by omega) (by omega) rfl (by omega) (by omega) h).mono fun _ _ h => ⟨_, h.1, World.ownsRow_nil _ _ _ _, h.2⟩
      · next h => exact (rvget_ok s _ w (by omega) (by omega) rfl (by omega) (by omega) (by omega)).mono fun _ _ h => by obtain ⟨⟨v, e, hN⟩, hb⟩ := h; exact ⟨v, e, hN, hb⟩
/-- What Put answers. -/
def putT (xs : List Int) : ByteArray × Int := if validL xs = true then (⟨(vecB xs).toArray⟩, 0) else (ByteArray.empty, 1)
theorem gvput_any (A : Option Addr) (n c : Nat) (xs : List Int) (w : World) (I : IntsIn w A n xs) :
    Calls Tryz.prog 13 #[.slice A n c] w fun e w' => e = .returned (.tuple #[.string (putT xs).1, .int .i64 (putT xs).2]) ∧ Below w.heap.size w w' := by
  unfold putT
  split
  · next h => exact vput_ok A n c xs w I h
  · next h => exact (vput_bad A n c xs w I (by simpa using h)).mono fun _ _ h => ⟨h.1, by rw [← h.2]; exact Below.refl _ _⟩
theorem grput_any (A : Option Addr) (n c : Nat) (xs : List Int) (w : World) (I : IntsIn w A n xs) :
    Calls Tryz.prog 14 #[.slice A n c] w fun e w' => e = .returned (.tuple #[.string (putT xs).1, .int .i64 (putT xs).2]) ∧ Below w.heap.size w w' := by
  unfold putT
  split
  · next h => exact rvput_ok A n c xs w I h
  · next h => exact (rvput_bad A n c xs w I (by simpa using h)).mono fun _ _ h => ⟨h.1, by rw [← h.2]; exact Below.refl _ _⟩

theorem zip_all (P : Int → Prop) (f : Int → Int → Int) (hf : ∀ x y, f x y = x ∨ f x y = y) : ∀ (xs ys : List Int), (∀ z ∈ xs, P z) → (∀ z ∈ ys, P z) → ∀ z ∈ List.zipWith f xs ys, P z
  | [], _, _, _, z, hz => by simp at hz
  | _ :: _, [], _, _, z, hz => by simp at hz
  | x :: xs, y :: ys, hx, hy, z, hz => by
    rw [List.zipWith_cons_cons] at hz
    rcases List.mem_cons.1 hz with rfl | h
    · rcases hf x y with e | e
      · rw [e]; exact hx x (by simp)
      · rw [e]; exact hy y (by simp)
    · exact zip_all P f hf xs ys (fun z hz => hx z (by simp [hz])) (fun z hz => hy z (by simp [hz])) z h
theorem joinL_ok {xs ys : List Int} (hx : ∀ z ∈ xs, (Lit.int .i64 z).wf = true) (hy : ∀ z ∈ ys, (Lit.int .i64 z).wf = true) (hl : xs.length ≤ 60) : (joinL xs ys).length ≤ 1000 ∧ ∀ z ∈ joinL xs ys, (Lit.int .i64 z).wf = true := by
  unfold joinL
  split
  · exact ⟨by rw [List.length_zipWith]; omega, zip_all _ _ (fun x y => by by_cases h : x < y; exact Or.inr (if_pos h); exact Or.inl (if_neg h)) xs ys hx hy⟩
  · exact ⟨by simp, by simp⟩
theorem meetL_ok {xs ys : List Int} (hx : ∀ z ∈ xs, (Lit.int .i64 z).wf = true) (hy : ∀ z ∈ ys, (Lit.int .i64 z).wf = true) (hl : xs.length ≤ 60) : (meetL xs ys).length ≤ 1000 ∧ ∀ z ∈ meetL xs ys, (Lit.int .i64 z).wf = true := by
  unfold meetL
  split
  · exact ⟨by rw [List.length_zipWith]; omega, zip_all _ _ (fun x y => by by_cases h : y < x; exact Or.inr (if_pos h); exact Or.inl (if_neg h)) xs ys hx hy⟩
  · exact ⟨by simp, by simp⟩
theorem withL_ok {xs : List Int} {i t : Int} (hx : ∀ z ∈ xs, (Lit.int .i64 z).wf = true) (ht : (Lit.int .i64 t).wf = true) (hl : xs.length ≤ 60) : (withL xs i t).length ≤ 1000 ∧ ∀ z ∈ withL xs i t, (Lit.int .i64 z).wf = true := by
  unfold withL
  split
  · refine ⟨by rw [List.length_set]; omega, fun z hz => ?_⟩
    rcases List.mem_or_eq_of_mem_set hz with h | h
    · exact hx z h
    · rw [h]; exact ht
  · exact ⟨by omega, hx⟩
theorem zeroL_ok (i : Int) : (zeroL i).length ≤ 1000 ∧ ∀ z ∈ zeroL i, (Lit.int .i64 z).wf = true := by
  unfold zeroL
  split
  · refine ⟨by rw [List.length_replicate]; omega, fun z hz => ?_⟩
    rw [List.eq_of_mem_replicate hz]
    rfl
  · exact ⟨by simp, by simp⟩
theorem getL_below : ∀ l : List UInt8, getL l < 256 ^ l.length
  | [] => by decide
  | c :: r => by
    rw [getL_cons, List.length_cons, Nat.pow_succ]
    have h1 := getL_below r
    have h2 := UInt8.toNat_lt c
    have h3 : c.toNat * 256 ^ r.length ≤ 255 * 256 ^ r.length := Nat.mul_le_mul_right _ (by omega)
    omega
theorem getT_ok (s : ByteArray) : (getT s).1.length ≤ 1000 ∧ ∀ z ∈ (getT s).1, (Lit.int .i64 z).wf = true := by
  unfold getT
  split
  · exact ⟨by simp, by simp⟩
  · split
    · exact ⟨by simp, by simp⟩
    · split
      · exact ⟨by simp, by simp⟩
      · refine ⟨by rw [timesL_length]; omega, fun z hz => ?_⟩
        unfold timesL at hz
        obtain ⟨k, _, rfl⟩ := List.mem_map.1 hz
        have h1 := getL_below ((s.data.toList.drop (1 + 6 * k)).take 6)
        have h2 : ((s.data.toList.drop (1 + 6 * k)).take 6).length ≤ 6 := by rw [List.length_take]; omega
        have h3 : 256 ^ ((s.data.toList.drop (1 + 6 * k)).take 6).length ≤ 256 ^ 6 := Nat.pow_le_pow_right (by decide) h2
        have h4 : 256 ^ 6 = 281474976710656 := by decide
        exact WalkArith.wf_i64 ⟨by omega, by omega⟩
end Go.Proofs.YtalacionlbmcpaaGreatDoor
