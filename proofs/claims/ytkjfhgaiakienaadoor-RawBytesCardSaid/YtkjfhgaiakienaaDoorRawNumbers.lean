/-
  RawNumbers: every number is laid and told, and all bytes and texts are read, as the document says.
-/
import Derived.Test.YtkjfhgaiakienaaDoorAlive
import Derived.Test.YtkjfhgaiakienaaDoorRaw13
import Derived.Test.YtkjfhgaiakienaaDoorRef2
import Derived.Test.YtkjfhgaiakienaaDoorRef3
import Derived.Test.YtkjfhgaiakienaaDoorRef4
namespace Go.Proofs.YtkjfhgaiakienaaDoor
open Go.RowKit

theorem held {P : Program} {f : Nat} {args : Array Value} {W w0 : World} {r : Ending} (C : Calls P f args W fun e w' => e = r ∧ Below W.heap.size W w') (h : Below w0.heap.size w0 W) :
    Calls P f args W fun e w' => e = r ∧ Below w0.heap.size w0 w' := C.mono fun _ _ k => ⟨k.1, h.trans (k.2.mono h.size)⟩
theorem held_eq {P : Program} {f : Nat} {args : Array Value} {W w0 : World} {r : Ending} (C : Calls P f args W fun e w' => e = r ∧ W = w') (h : Below w0.heap.size w0 W) :
    Calls P f args W fun e w' => e = r ∧ Below w0.heap.size w0 w' := C.mono fun _ _ k => ⟨k.1, k.2 ▸ h⟩

/-- Two functions answer the same, and leave what was there. -/
def Both (w : World) (f g : Nat) (args : Array Value) (r : Ending) : Prop :=
  (∀ W, Below w.heap.size w W → Calls Tryd.prog f args W fun e w' => e = r ∧ Below w.heap.size w w') ∧ (∀ W, Below w.heap.size w W → Calls Tryd.prog g args W fun e w' => e = r ∧ Below w.heap.size w w')

theorem both_put (v n : Int) (w : World) (hv0 : -9223372036854775808 ≤ v) (hv : v < 9223372036854775808) :
    ∃ (s : ByteArray) (er : Int), Both w 11 12 #[.int .i64 v, .int .i64 n] (.returned (.tuple #[.string s, .int .i64 er])) := by
  obtain ⟨s, er, hP⟩ : ∃ (s : ByteArray) (er : Int), PutIs v n s er := by
    by_cases h : n < 1 ∨ 7 < n ∨ v < 0 ∨ 2 ^ (8 * n.toNat) ≤ v
    · exact ⟨_, _, Or.inr ⟨rfl, rfl, h⟩⟩
    · exact ⟨_, _, Or.inl ⟨rfl, by omega, by omega, by omega, by omega, rfl⟩⟩
  refine ⟨s, er, fun W hW => (put_any v n W hv0 hv).mono ?_, fun W hW => (rput_any v n W hv).mono ?_⟩
  all_goals
    rintro e w' ⟨t, f, rfl, Ht, hb⟩
    obtain ⟨rfl, rfl⟩ := putIs_one hP Ht.out
    exact ⟨rfl, hW.trans (hb.mono hW.size)⟩

theorem both_get (s : ByteArray) (w : World) : ∃ a er : Int, Both w 13 14 #[.string s] (.returned (.tuple #[.int .i64 a, .int .i64 er])) := by
  by_cases h : s.size < 1 ∨ 7 < s.size
  · exact ⟨_, _, fun W hW => held_eq (get_bad s W h) hW, fun W hW => held_eq (rget_bad s W h) hW⟩
  · exact ⟨_, _, fun W hW => held_eq (get_ok s W (by omega) (by omega)) hW, fun W hW => held_eq (rget_ok s W (by omega) (by omega)) hW⟩

theorem both_getvar (s : ByteArray) (w : World) (hs : s.size ≤ 140737488351232) : ∃ a b er : Int, Both w 15 16 #[.string s] (.returned (.tuple #[.int .i64 a, .int .i64 b, .int .i64 er])) := by
  cases hg : gv s.data.toList 0 0 with
  | ok a b =>
    refine ⟨_, _, _, fun W hW => held (getvar_ok s a b W (by omega) hg) hW, fun W hW => (rgetvar_any s W hs).mono ?_⟩
    rintro e w' ⟨x, y, z, rfl, H, hb⟩
    have h := H.out
    rw [hg] at h
    obtain ⟨rfl, rfl, rfl⟩ := h
    exact ⟨rfl, hW.trans (hb.mono hW.size)⟩
  | err er =>
    refine ⟨_, _, _, fun W hW => held (getvar_err s er W (by omega) hg) hW, fun W hW => (rgetvar_any s W hs).mono ?_⟩
    rintro e w' ⟨x, y, z, rfl, H, hb⟩
    have h := H.out
    rw [hg] at h
    obtain ⟨rfl, rfl, rfl⟩ := h
    exact ⟨rfl, hW.trans (hb.mono hW.size)⟩

theorem both_number (s : ByteArray) (w : World) (hs : s.size ≤ 140737488351232) : ∃ a er : Int, Both w 17 18 #[.string s] (.returned (.tuple #[.int .i64 a, .int .i64 er])) :=
  ⟨_, _, fun W hW => held (number_any s W (by omega)) hW, fun W hW => held (rnumber_any s W hs) hW⟩

theorem both_digits (v : Int) (w : World) (hL : Laid w) (h0 : -9223372036854775808 ≤ v) (h1 : v ≤ 9223372036854775807) : ∃ s : ByteArray, Both w 20 21 #[.int .i64 v] (.returned (.string s)) :=
  ⟨_, fun W hW => held (digits_any v W h0 h1 (hL.on hW).pow10) hW, fun W hW => held (rdigits_any v W h0 h1) hW⟩

theorem both_putvar (v : Int) (w : World) (h1 : v ≤ 9223372036854775807) : ∃ s : ByteArray, Both w 22 23 #[.int .i64 v] (.returned (.string s)) := by
  by_cases h : v < 0
  · exact ⟨_, fun W hW => held_eq (putvar_neg v W h) hW, fun W hW => held_eq (rputvar_neg v W h) hW⟩
  · obtain ⟨v, rfl⟩ := Int.eq_ofNat_of_zero_le (show 0 ≤ v by omega)
    exact ⟨_, fun W hW => held (putvar_any v W (by omega)) hW, fun W hW => held (rputvar_any v W (by omega)) hW⟩

set_option maxRecDepth 100000 in
set_option maxHeartbeats 4000000 in
theorem lawRawNumbers (v : Int) (hv : (Lit.int .i64 v).wf = true) (n : Int) (_hn : (Lit.int .i64 n).wf = true) (b : ByteArray) (hb : b.size ≤ 140737488351232) (s : ByteArray) (hs : s.size ≤ 140737488351232) (w : World) (hL : Laid w) :
    Calls Tryd.prog 3 #[.int .i64 v, .int .i64 n, .string b, .string s] w fun e w' => e = .returned (.bool true) ∧ Below w.heap.size w w' := by
  have h1 := bounds_i64 hv
  obtain ⟨x, e1, P⟩ := both_put v n w (by omega) (by omega)
  obtain ⟨k, e2, G⟩ := both_get b w
  obtain ⟨p, i, e3, V⟩ := both_getvar b w hb
  obtain ⟨c, e4, N⟩ := both_number s w hs
  obtain ⟨d, D⟩ := both_digits v w hL (by omega) (by omega)
  obtain ⟨q, Q⟩ := both_putvar v w (by omega)
  have P := Lib.hid P
  have G := Lib.hid G
  have V := Lib.hid V
  have N := Lib.hid N
  have D := Lib.hid D
  have Q := Lib.hid Q
  have A := Lib.hid (fun W hW => held (alive_any W (hL.on hW)) hW)
  clear hL h1 hv
  go_enter Tryd.func3, Tryd.ntmps3
  go_wp2_with fail
  refine (P.out.1 w (Below.refl _ _)).mono ?_
  rintro e w1 ⟨rfl, b1⟩
  go_wp2_with fail
  refine (P.out.2 w1 b1).mono ?_
  rintro e w2 ⟨rfl, b2⟩
  go_wp2_with fail
  refine (G.out.1 w2 b2).mono ?_
  rintro e w3 ⟨rfl, b3⟩
  go_wp2_with fail
  refine (G.out.2 w3 b3).mono ?_
  rintro e w4 ⟨rfl, b4⟩
  go_wp2_with fail
  refine (V.out.1 w4 b4).mono ?_
  rintro e w5 ⟨rfl, b5⟩
  go_wp2_with fail
  refine (V.out.2 w5 b5).mono ?_
  rintro e w6 ⟨rfl, b6⟩
  go_wp2_with fail
  refine (N.out.1 w6 b6).mono ?_
  rintro e w7 ⟨rfl, b7⟩
  go_wp2_with fail
  refine (N.out.2 w7 b7).mono ?_
  rintro e w8 ⟨rfl, b8⟩
  go_wp2_with fail
  refine (A.out w8 b8).mono ?_
  rintro e w9 ⟨rfl, b9⟩
  go_wp2_with fail
  refine (D.out.1 w9 b9).mono ?_
  rintro e w10 ⟨rfl, b10⟩
  go_wp2_with fail
  refine (D.out.2 w10 b10).mono ?_
  rintro e w11 ⟨rfl, b11⟩
  go_wp2_with fail
  refine (Q.out.1 w11 b11).mono ?_
  rintro e w12 ⟨rfl, b12⟩
  go_wp2_with fail
  refine (Q.out.2 w12 b12).mono ?_
  rintro e w13 ⟨rfl, b13⟩
  go_wp2_with fail
  go_ret
  exact ⟨rfl, b13⟩
end Go.Proofs.YtkjfhgaiakienaaDoor
