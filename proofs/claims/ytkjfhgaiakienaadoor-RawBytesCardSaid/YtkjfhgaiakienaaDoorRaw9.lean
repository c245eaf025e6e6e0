/-
  Walks over package raw: what stands in quotes is read.
-/
import Derived.Test.YtkjfhgaiakienaaDoorRaw1
import Derived.Test.YtkjfhgaiakienaaDoorRaw4
import Derived.Test.YtkjfhgaiakienaaDoorRaw8
namespace Go.Proofs.YtkjfhgaiakienaaDoor
open Go.RowKit

/-! ### The reader's steps, of its whole block -/
theorem nextB_some (p k : Nat) (s : ByteArray) (er : Int) (w : World) (hB : Blk w p 49 #[.string s, .int .i64 k]) (hk : k < s.size) (hs : s.size ≤ 9223372036854775807) :
    Calls Tryd.prog 44 #[.pointer (some ⟨p, 0, none⟩), .int .i64 er] w fun e w' => e = .returned (.int .u8 (s[k]'hk).toNat) ∧ Blk w' p 49 #[.string s, .int .i64 ((k : Int) + 1)] ∧ w.grownBy w' (some p) := by
  refine (next_some p k s er w (hB.cell 0) (hB.cell 1) (hB.frozen 1) hk hs).mono ?_
  rintro e w' ⟨he, n, rfl⟩
  exact ⟨he, (hB.set_ 1 _).drewN n, only_drewN (only_setCell (World.grownBy.refl _ _) (.inl rfl) _) _⟩
theorem nextB_end (p : Nat) (s : ByteArray) (er : Int) (w : World) (hB : Blk w p 49 #[.string s, .int .i64 (s.size : Int)]) (hs : s.size ≤ 9223372036854775807) :
    Calls Tryd.prog 44 #[.pointer (some ⟨p, 0, none⟩), .int .i64 er] w fun e w' => e = .panicked [{ v := .iface 22 (.int .i64 er), recovered := false }] ∧ w.grownBy w' (some p) := by
  refine (next_end p s er w (hB.cell 0) (hB.cell 1) hs).mono ?_
  rintro e w' ⟨he, n, rfl⟩
  exact ⟨he, only_drewN (World.grownBy.refl _ _) n⟩

/-! ### Digits -/
set_option maxHeartbeats 400000 in
theorem decimal_ok (c : Int) (w : World) (h1 : 48 ≤ c) (h2 : c ≤ 57) :
    Calls Tryd.prog 46 #[.int .u8 c] w fun e w' => e = .returned (.int .i64 (c - 48)) ∧ w = w' := by
  go_enter Tryd.func46, Tryd.ntmps46
  go_wp2
  go_ret
  exact ⟨rfl, rfl⟩
set_option maxHeartbeats 400000 in
theorem decimal_no (c : Int) (w : World) (h : c < 48 ∨ 57 < c) :
    Calls Tryd.prog 46 #[.int .u8 c] w fun e w' => e = .panicked [{ v := .iface 22 (.int .i64 4), recovered := false }] ∧ w = w' := by
  by_cases h1 : c < 48
  · clear h
    go_enter Tryd.func46, Tryd.ntmps46
    go_wp2
    exact ⟨rfl, rfl, rfl⟩
  · have h2 : 57 < c := by omega
    clear h
    go_enter Tryd.func46, Tryd.ntmps46
    go_wp2
    exact ⟨rfl, rfl, rfl⟩

/-- The worth of a digit of sixteen. -/
def hexv (c : Nat) : Option Nat := if 97 ≤ c ∧ c ≤ 102 then some (c - 87) else if 65 ≤ c ∧ c ≤ 70 then some (c - 55) else if 48 ≤ c ∧ c ≤ 57 then some (c - 48) else none

def HexPost (w : World) : Option Nat → Ending → World → Prop
  | some v, e, w' => e = .returned (.int .u8 (v : Int)) ∧ w = w'
  | none, e, w' => e = .panicked [{ v := .iface 22 (.int .i64 4), recovered := false }] ∧ w = w'

set_option maxRecDepth 100000 in
set_option maxHeartbeats 1000000 in
theorem hex_any (c : Nat) (w : World) (hc : c < 256) :
    Calls Tryd.prog 52 #[.int .u8 (c : Int)] w fun e w' => HexPost w (hexv c) e w' := by
  by_cases h1 : 97 ≤ c ∧ c ≤ 102
  · have hh : hexv c = some (c - 87) := if_pos h1
    rw [hh]
    have e2 : decide ((c : Int) ≤ 102) = true := decide_eq_true (by omega)
    obtain ⟨h1, h2⟩ := h1
    clear hh
    go_enter Tryd.func52, Tryd.ntmps52
    go_wp2_with fail
    go_ret
    exact ⟨ret_int (by omega), rfl⟩
  have f1 : decide ((97 : Int) ≤ (c : Int)) = false ∨ decide ((c : Int) ≤ 102) = false := by
    rcases Nat.lt_or_ge c 97 with h | h
    · exact .inl (decide_eq_false (by omega))
    · exact .inr (decide_eq_false (by omega))
  by_cases h2 : 65 ≤ c ∧ c ≤ 70
  · have hh : hexv c = some (c - 55) := by unfold hexv; rw [if_neg h1, if_pos h2]
    rw [hh]
    have e1 : decide ((97 : Int) ≤ (c : Int)) = false := decide_eq_false (by omega)
    have e2 : decide ((c : Int) ≤ 70) = true := decide_eq_true (by omega)
    obtain ⟨h3, h4⟩ := h2
    clear hh h1 f1
    go_enter Tryd.func52, Tryd.ntmps52
    go_wp2_with fail
    go_ret
    exact ⟨ret_int (by omega), rfl⟩
  by_cases h3 : 48 ≤ c ∧ c ≤ 57
  · have hh : hexv c = some (c - 48) := by unfold hexv; rw [if_neg h1, if_neg h2, if_pos h3]
    rw [hh]
    have e1 : decide ((97 : Int) ≤ (c : Int)) = false := decide_eq_false (by omega)
    have e2 : decide ((65 : Int) ≤ (c : Int)) = false := decide_eq_false (by omega)
    obtain ⟨h3, h4⟩ := h3
    clear hh h1 h2 f1
    go_enter Tryd.func52, Tryd.ntmps52
    go_wp2_with fail
    refine (decimal_ok (c : Int) w (by omega) (by omega)).mono ?_
    rintro e w' ⟨rfl, rfl⟩
    go_wp2_with fail
    go_ret
    exact ⟨ret_int (by omega), rfl⟩
  · have hh : hexv c = none := by unfold hexv; rw [if_neg h1, if_neg h2, if_neg h3]
    rw [hh]
    have h3' : (c : Int) < 48 ∨ 57 < (c : Int) := by omega
    have D := Lib.hid (decimal_no (c : Int) w h3')
    rcases (show c < 48 ∨ (57 < c ∧ c < 65) ∨ (70 < c ∧ c < 97) ∨ 102 < c by omega) with h | ⟨h, h'⟩ | ⟨h, h'⟩ | h
    all_goals
      clear hh h1 h2 h3 h3' f1
      go_enter Tryd.func52, Tryd.ntmps52
      go_wp2_with fail
      refine D.out.mono ?_
      rintro e w' ⟨rfl, rfl⟩
      exact ⟨rfl, rfl, rfl⟩

/-! ### What stands behind a backslash -/
def escx : List UInt8 → Option (UInt8 × Nat)
  | a :: b :: _ => (hexv a.toNat).bind fun x => (hexv b.toNat).map fun y => (UInt8.ofNat (16 * x + y), 3)
  | _ => none
def esc : List UInt8 → Option (UInt8 × Nat)
  | [] => none
  | c :: r => if c.toNat = 34 ∨ c.toNat = 92 then some (c, 1) else if c.toNat = 120 then escx r else none

theorem escx_cons (a b : UInt8) (t : List UInt8) : escx (a :: b :: t) = (hexv a.toNat).bind fun x => (hexv b.toNat).map fun y => (UInt8.ofNat (16 * x + y), 3) := rfl
theorem hexv_lt {c v : Nat} (h : hexv c = some v) : v < 16 := by
  unfold hexv at h
  split at h
  · injection h; omega
  · split at h
    · injection h; omega
    · split at h
      · injection h; omega
      · cases h

def EscPost (p k : Nat) (s : ByteArray) (w : World) : Option (UInt8 × Nat) → Ending → World → Prop
  | some (c, n), e, w' => e = .returned (.int .u8 (c.toNat : Int)) ∧ Blk w' p 49 #[.string s, .int .i64 ((k + n : Nat) : Int)] ∧ w.grownBy w' (some p)
  | none, e, w' => e = .panicked [{ v := .iface 22 (.int .i64 4), recovered := false }] ∧ w.grownBy w' (some p)

theorem grown_trans {a b c : World} {p : Nat} (h : a.grownBy b (some p)) (k : b.grownBy c (some p)) : a.grownBy c (some p) :=
  ⟨k.os.trans h.os, k.tape.trans h.tape, k.output.trans h.output, Nat.le_trans h.size k.size, fun i hi hne => (k.block i (Nat.lt_of_lt_of_le hi h.size) hne).trans (h.block i hi hne)⟩

theorem or_nib (x y : Nat) (hx : x < 16) (hy : y < 16) : bits .or .u8 ((x : Int) * 16) (y : Int) = ((UInt8.ofNat (16 * x + y)).toNat : Int) := by
  have h : ∀ x < 16, ∀ y < 16, bits .or .u8 (((x * 16 : Nat) : Int)) ((y : Nat) : Int) = ((16 * x + y : Nat) : Int) := by decide +kernel
  rw [show ((x : Int) * 16) = ((x * 16 : Nat) : Int) from by omega, h x hx y hy, u8_of _ (by omega)]

set_option maxRecDepth 100000 in
set_option maxHeartbeats 2000000 in
theorem escaped_any (p k : Nat) (s : ByteArray) (w : World) (hB : Blk w p 49 #[.string s, .int .i64 (k : Int)]) (hk : k ≤ s.size) (hs : s.size ≤ 9223372036854775807) :
    Calls Tryd.prog 48 #[.pointer (some ⟨p, 0, none⟩)] w fun e w' => EscPost p k s w (esc (s.data.toList.drop k)) e w' := by
  by_cases hl : k < s.size
  · have hb8 := UInt8.toNat_lt s[k]
    have hd : s.data.toList.drop k = s[k] :: s.data.toList.drop (k + 1) := List.drop_eq_getElem_cons (by simpa using hl)
    have N1 := Lib.hid (nextB_some p k s 4 w hB hl hs)
    by_cases h1 : s[k].toNat = 34 ∨ s[k].toNat = 92
    · have he : esc (s.data.toList.drop k) = some (s[k], 1) := by rw [hd, esc, if_pos h1]
      rw [he]
      clear he hd
      rcases h1 with h1 | h1
      all_goals
        go_enter Tryd.func48, Tryd.ntmps48
        go_wp2_with fail
        refine N1.out.mono ?_
        rintro e w1 ⟨rfl, hB1, hg1⟩
        go_wp2_with fail
        go_ret
        exact ⟨ret_int (by rw [h1]; rfl), hB1, hg1⟩
    have g1 : ((s[k].toNat : Int) == 34) = false := by rw [beq_eq_false_iff_ne]; omega
    have g2 : ((s[k].toNat : Int) == 92) = false := by rw [beq_eq_false_iff_ne]; omega
    by_cases h2 : s[k].toNat = 120
    · have he : esc (s.data.toList.drop k) = escx (s.data.toList.drop (k + 1)) := by rw [hd, esc, if_neg h1, if_pos h2]
      rw [he]
      have g3 : ((s[k].toNat : Int) == 120) = true := by rw [beq_iff_eq]; omega
      clear he hd h1 h2
      by_cases hl1 : k + 1 < s.size
      · have hd1 : s.data.toList.drop (k + 1) = s[k + 1] :: s.data.toList.drop (k + 2) := List.drop_eq_getElem_cons (by simpa using hl1)
        have hb81 := UInt8.toNat_lt s[k + 1]
        rw [hd1]
        cases hx : hexv s[k + 1].toNat with
        | none =>
          have he : escx (s[k + 1] :: s.data.toList.drop (k + 2)) = none := by
            cases h : s.data.toList.drop (k + 2) with
            | nil => rfl
            | cons b r => rw [escx_cons, hx]; rfl
          rw [he]
          have H1 := fun W => Lib.hid (hex_any s[k + 1].toNat W hb81)
          rw [hx] at H1
          clear he hx hd1
          go_enter Tryd.func48, Tryd.ntmps48
          go_wp2_with fail
          refine N1.out.mono ?_
          rintro e w1 ⟨rfl, hB1, hg1⟩
          go_wp2_with fail
          refine (nextB_some p (k + 1) s 4 w1 hB1 hl1 hs).mono ?_
          rintro e w2 ⟨rfl, hB2, hg2⟩
          go_wp2_with fail
          refine (H1 w2).out.mono ?_
          rintro e w3 ⟨rfl, rfl⟩
          exact ⟨rfl, rfl, grown_trans hg1 hg2⟩
        | some x =>
          have H1 := fun W => Lib.hid (hex_any s[k + 1].toNat W hb81)
          rw [hx] at H1
          have hx16 := hexv_lt hx
          by_cases hl2 : k + 2 < s.size
          · have hd2 : s.data.toList.drop (k + 2) = s[k + 2] :: s.data.toList.drop (k + 3) := List.drop_eq_getElem_cons (by simpa using hl2)
            have hb82 := UInt8.toNat_lt s[k + 2]
            rw [hd2]
            have H2 := fun W => Lib.hid (hex_any s[k + 2].toNat W hb82)
            cases hy : hexv s[k + 2].toNat with
            | none =>
              have he : escx (s[k + 1] :: s[k + 2] :: s.data.toList.drop (k + 3)) = none := by rw [escx_cons, hx, hy]; rfl
              rw [he]
              rw [hy] at H2
              clear he hx hd1 hd2 hy
              go_enter Tryd.func48, Tryd.ntmps48
              go_wp2_with fail
              refine N1.out.mono ?_
              rintro e w1 ⟨rfl, hB1, hg1⟩
              go_wp2_with fail
              refine (nextB_some p (k + 1) s 4 w1 hB1 hl1 hs).mono ?_
              rintro e w2 ⟨rfl, hB2, hg2⟩
              go_wp2_with fail
              refine (H1 w2).out.mono ?_
              rintro e w3 ⟨rfl, rfl⟩
              go_wp2_with fail
              refine (nextB_some p (k + 2) s 4 w2 hB2 hl2 hs).mono ?_
              rintro e w3 ⟨rfl, hB3, hg3⟩
              go_wp2_with fail
              refine (H2 w3).out.mono ?_
              rintro e w4 ⟨rfl, rfl⟩
              exact ⟨rfl, rfl, grown_trans (grown_trans hg1 hg2) hg3⟩
            | some y =>
              have he : escx (s[k + 1] :: s[k + 2] :: s.data.toList.drop (k + 3)) = some (UInt8.ofNat (16 * x + y), 3) := by rw [escx_cons, hx, hy]; rfl
              have ho := or_nib x y hx16 (hexv_lt hy)
              rw [he]
              rw [hy] at H2
              have Ho := Lib.hid ho
              clear he hx hd1 hd2 hy ho
              go_enter Tryd.func48, Tryd.ntmps48
              go_wp2_with fail
              refine N1.out.mono ?_
              rintro e w1 ⟨rfl, hB1, hg1⟩
              go_wp2_with fail
              refine (nextB_some p (k + 1) s 4 w1 hB1 hl1 hs).mono ?_
              rintro e w2 ⟨rfl, hB2, hg2⟩
              go_wp2_with fail
              refine (H1 w2).out.mono ?_
              rintro e w3 ⟨rfl, rfl⟩
              go_wp2_with fail
              refine (nextB_some p (k + 2) s 4 w2 hB2 hl2 hs).mono ?_
              rintro e w3 ⟨rfl, hB3, hg3⟩
              go_wp2_with fail
              refine (H2 w3).out.mono ?_
              rintro e w4 ⟨rfl, rfl⟩
              go_wp2_with fail
              go_ret
              exact ⟨ret_int Ho.out, hB3, grown_trans (grown_trans hg1 hg2) hg3⟩
          · have hsz : s.size = k + 2 := by omega
            have he : escx (s[k + 1] :: s.data.toList.drop (k + 2)) = none := by
              rw [List.drop_of_length_le (by simp; omega)]
              rfl
            rw [he]
            clear he hx hd1
            go_enter Tryd.func48, Tryd.ntmps48
            go_wp2_with fail
            refine N1.out.mono ?_
            rintro e w1 ⟨rfl, hB1, hg1⟩
            go_wp2_with fail
            refine (nextB_some p (k + 1) s 4 w1 hB1 hl1 hs).mono ?_
            rintro e w2 ⟨rfl, hB2, hg2⟩
            go_wp2_with fail
            refine (H1 w2).out.mono ?_
            rintro e w3 ⟨rfl, rfl⟩
            go_wp2_with fail
            have hB2' : Blk w2 p 49 #[.string s, .int .i64 (s.size : Int)] := by rw [hsz]; exact hB2
            refine (nextB_end p s 4 w2 hB2' hs).mono ?_
            rintro e w3 ⟨rfl, hg3⟩
            exact ⟨rfl, rfl, grown_trans (grown_trans hg1 hg2) hg3⟩
      · have hsz : s.size = k + 1 := by omega
        have he : escx (s.data.toList.drop (k + 1)) = none := by
          rw [List.drop_of_length_le (by simp; omega)]
          rfl
        rw [he]
        clear he
        go_enter Tryd.func48, Tryd.ntmps48
        go_wp2_with fail
        refine N1.out.mono ?_
        rintro e w1 ⟨rfl, hB1, hg1⟩
        go_wp2_with fail
        have hB1' : Blk w1 p 49 #[.string s, .int .i64 (s.size : Int)] := by rw [hsz]; exact hB1
        refine (nextB_end p s 4 w1 hB1' hs).mono ?_
        rintro e w2 ⟨rfl, hg2⟩
        exact ⟨rfl, rfl, grown_trans hg1 hg2⟩
    · have he : esc (s.data.toList.drop k) = none := by rw [hd, esc, if_neg h1, if_neg h2]
      rw [he]
      have g3 : ((s[k].toNat : Int) == 120) = false := by rw [beq_eq_false_iff_ne]; omega
      clear he hd h1 h2
      go_enter Tryd.func48, Tryd.ntmps48
      go_wp2_with fail
      refine N1.out.mono ?_
      rintro e w1 ⟨rfl, hB1, hg1⟩
      go_wp2_with fail
      exact ⟨rfl, rfl, hg1⟩
  · obtain rfl : k = s.size := by omega
    have he : esc (s.data.toList.drop s.size) = none := by
      rw [List.drop_of_length_le (by simp)]
      rfl
    rw [he]
    clear he
    go_enter Tryd.func48, Tryd.ntmps48
    go_wp2_with fail
    refine (nextB_end p s 4 w hB hs).mono ?_
    rintro e w1 ⟨rfl, hg1⟩
    exact ⟨rfl, rfl, hg1⟩

/-! ### What stands in quotes, behind the first of them -/
theorem esc_pos {l : List UInt8} {c : UInt8} {n : Nat} (h : esc l = some (c, n)) : 1 ≤ n ∧ n ≤ l.length := by
  cases l with
  | nil => cases h
  | cons a r =>
    rw [esc] at h
    split at h
    · injection h with h; injection h with _ h; subst h; simp
    · split at h
      · cases r with
        | nil => cases h
        | cons b t =>
          cases t with
          | nil => cases h
          | cons d t =>
            rw [escx_cons] at h
            cases hx : hexv b.toNat with
            | none => rw [hx] at h; cases h
            | some x =>
              cases hy : hexv d.toNat with
              | none => rw [hx, hy] at h; cases h
              | some y =>
                rw [hx, hy] at h
                injection h with h; injection h with _ h; subst h; simp
      · cases h

def uq (l : List UInt8) : Option (List UInt8 × Nat) :=
  match l with
  | [] => none
  | c :: r => if c.toNat = 34 then some ([], 1) else if c.toNat = 92 then
      match _h : esc r with
      | some (d, n) => (uq (r.drop n)).map fun x => (d :: x.1, x.2 + n + 1)
      | none => none
    else if 32 ≤ c.toNat ∧ c.toNat ≤ 126 then (uq r).map fun x => (c :: x.1, x.2 + 1) else none
  termination_by l.length
  decreasing_by
    · simp; omega
    · simp
/-- acc has been gathered out of n bytes; the rest says x. -/
def onto (acc : List UInt8) (n : Nat) (x : Option (List UInt8 × Nat)) : Option (List UInt8 × Nat) := x.map fun x => (acc ++ x.1, n + x.2)

theorem uq_end (c : UInt8) (r : List UInt8) (h : c.toNat = 34) : uq (c :: r) = some ([], 1) := by rw [uq, if_pos h]
theorem uq_esc (c : UInt8) (r : List UInt8) (d : UInt8) (n : Nat) (h : c.toNat = 92) (he : esc r = some (d, n)) (acc : List UInt8) (m : Nat) : onto acc m (uq (c :: r)) = onto (acc ++ [d]) (m + 1 + n) (uq (r.drop n)) := by
  rw [uq, if_neg (by omega), if_pos h]
  split
  · rename_i d' n' h'
    rw [he] at h'
    injection h' with h'
    injection h' with h1 h2
    subst h1; subst h2
    unfold onto
    cases uq (r.drop n) with
    | none => rfl
    | some x =>
      simp
      omega
  · rename_i h'
    rw [he] at h'
    cases h'
theorem uq_bad (c : UInt8) (r : List UInt8) (h : c.toNat = 92) (he : esc r = none) : uq (c :: r) = none := by
  rw [uq, if_neg (by omega), if_pos h]
  split
  · rename_i d' n' h'
    rw [he] at h'
    cases h'
  · rfl
theorem uq_plain (c : UInt8) (r : List UInt8) (h1 : c.toNat ≠ 34) (h2 : c.toNat ≠ 92) (h : 32 ≤ c.toNat ∧ c.toNat ≤ 126) (acc : List UInt8) (m : Nat) : onto acc m (uq (c :: r)) = onto (acc ++ [c]) (m + 1) (uq r) := by
  rw [uq, if_neg h1, if_neg h2, if_pos h]
  unfold onto
  cases uq r with
  | none => rfl
  | some x =>
    simp
    omega
theorem uq_not (c : UInt8) (r : List UInt8) (h1 : c.toNat ≠ 34) (h2 : c.toNat ≠ 92) (h : ¬ (32 ≤ c.toNat ∧ c.toNat ≤ 126)) : uq (c :: r) = none := by
  rw [uq, if_neg h1, if_neg h2, if_neg h]

def unq : List UInt8 → Option (List UInt8 × Nat)
  | [] => none
  | c :: r => if c.toNat = 34 then onto [] 1 (uq r) else none

def QuotPost (p : Nat) (s : ByteArray) (w : World) : Option (List UInt8 × Nat) → Ending → World → Prop
  | some (l, n), e, w' => e = .returned (.string ⟨l.toArray⟩) ∧ Blk w' p 49 #[.string s, .int .i64 (n : Int)] ∧ w.grownBy w' (some p)
  | none, e, w' => e = .panicked [{ v := .iface 22 (.int .i64 4), recovered := false }] ∧ w.grownBy w' (some p)
end Go.Proofs.YtkjfhgaiakienaaDoor
