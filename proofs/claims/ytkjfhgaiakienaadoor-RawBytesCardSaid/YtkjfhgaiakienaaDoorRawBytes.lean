/-
  RawBytes: every sum, order, and text in quotes.
-/
import Derived.Test.YtkjfhgaiakienaaDoorRawNumbers
import Derived.Test.YtkjfhgaiakienaaDoorRaw11
import Derived.Test.YtkjfhgaiakienaaDoorRef5
import Derived.Test.YtkjfhgaiakienaaDoorRef6
import Derived.Test.YtkjfhgaiakienaaDoorRef7
namespace Go.Proofs.YtkjfhgaiakienaaDoor
open Go.RowKit

theorem both_sum (s : ByteArray) (w : World) (hL : Laid w) (hs : s.size ≤ 140737488351232) : ∃ a : Int, Both w 26 27 #[.string s] (.returned (.int .i64 a)) :=
  ⟨_, fun W hW => held_eq (sum_any s W (by omega) (hL.on hW).halves) hW, fun W hW => held_eq (rsum_any s W (by omega)) hW⟩

theorem both_compare (a b : ByteArray) (w : World) (ha : a.size ≤ 140737488351232) (hb : b.size ≤ 140737488351232) : ∃ x : Int, Both w 28 29 #[.string a, .string b] (.returned (.int .i64 x)) :=
  ⟨_, fun W hW => held_eq (compare_any a b W) hW, fun W hW => held (rcompare_any a b W (by omega) (by omega)) hW⟩

theorem both_quote (s : ByteArray) (w : World) (hs : s.size ≤ 30000000000000) : ∃ q : ByteArray, Both w 30 31 #[.string s] (.returned (.string q)) :=
  ⟨_, fun W hW => held (quote_any s W hs) hW, fun W hW => held (rquote_any s W hs) hW⟩

theorem both_unquote (s : ByteArray) (w : World) (hs : s.size ≤ 140737488351232) : ∃ (q : ByteArray) (n er : Int), Both w 24 25 #[.string s] (.returned (.tuple #[.string q, .int .i64 n, .int .i64 er])) := by
  cases hu : unq s.data.toList with
  | some x =>
    obtain ⟨l, n⟩ := x
    refine ⟨_, _, _, fun W hW => held (unquote_ok s l n W hs hu) hW, fun W hW => ?_⟩
    have h := runquote_any s W hs
    rw [hu] at h
    exact held h hW
  | none =>
    refine ⟨_, _, _, fun W hW => held (unquote_err s W hs hu) hW, fun W hW => ?_⟩
    have h := runquote_any s W hs
    rw [hu] at h
    exact held h hW

set_option maxRecDepth 100000 in
set_option maxHeartbeats 1000000 in
theorem rawBytes_big (a b : ByteArray) (w : World) (hL : Laid w) (ha : a.size ≤ 140737488351232) (hb : b.size ≤ 140737488351232) (h : 20000 < a.size + b.size) :
    Calls Tryd.prog 4 #[.string a, .string b] w fun e w' => e = .returned (.bool true) ∧ Below w.heap.size w w' := by
  go_enter Tryd.func4, Tryd.ntmps4
  go_wp2_with fail
  refine (alive_any w hL).mono ?_
  rintro e w1 ⟨rfl, hb1⟩
  go_wp2_with fail
  go_ret
  exact ⟨rfl, hb1⟩

set_option maxRecDepth 100000 in
set_option maxHeartbeats 4000000 in
theorem rawBytes_small (a b : ByteArray) (w : World) (hL : Laid w) (h : a.size + b.size ≤ 20000) :
    Calls Tryd.prog 4 #[.string a, .string b] w fun e w' => e = .returned (.bool true) ∧ Below w.heap.size w w' := by
  obtain ⟨x, n, er, U⟩ := both_unquote b w (by omega)
  obtain ⟨sm, S⟩ := both_sum a w hL (by omega)
  obtain ⟨c, C⟩ := both_compare a b w (by omega) (by omega)
  obtain ⟨q, Q⟩ := both_quote a w (by omega)
  have U := Lib.hid U
  have S := Lib.hid S
  have C := Lib.hid C
  have Q := Lib.hid Q
  have A := Lib.hid (fun W hW => held (alive_any W (hL.on hW)) hW)
  clear hL
  go_enter Tryd.func4, Tryd.ntmps4
  go_wp2_with fail
  refine (U.out.1 w (Below.refl _ _)).mono ?_
  rintro e w1 ⟨rfl, b1⟩
  go_wp2_with fail
  refine (U.out.2 w1 b1).mono ?_
  rintro e w2 ⟨rfl, b2⟩
  go_wp2_with fail
  refine (A.out w2 b2).mono ?_
  rintro e w3 ⟨rfl, b3⟩
  go_wp2_with fail
  refine (S.out.1 w3 b3).mono ?_
  rintro e w4 ⟨rfl, b4⟩
  go_wp2_with fail
  refine (S.out.2 w4 b4).mono ?_
  rintro e w5 ⟨rfl, b5⟩
  go_wp2_with fail
  refine (C.out.1 w5 b5).mono ?_
  rintro e w6 ⟨rfl, b6⟩
  go_wp2_with fail
  refine (C.out.2 w6 b6).mono ?_
  rintro e w7 ⟨rfl, b7⟩
  go_wp2_with fail
  refine (Q.out.1 w7 b7).mono ?_
  rintro e w8 ⟨rfl, b8⟩
  go_wp2_with fail
  refine (Q.out.2 w8 b8).mono ?_
  rintro e w9 ⟨rfl, b9⟩
  go_wp2_with fail
  go_ret
  exact ⟨rfl, b9⟩

theorem lawRawBytes (a : ByteArray) (ha : a.size ≤ 140737488351232) (b : ByteArray) (hb : b.size ≤ 140737488351232) (w : World) (hL : Laid w) :
    Calls Tryd.prog 4 #[.string a, .string b] w fun e w' => e = .returned (.bool true) ∧ Below w.heap.size w w' := by
  by_cases h : 20000 < a.size + b.size
  · exact rawBytes_big a b w hL ha hb h
  · exact rawBytes_small a b w hL (by omega)
end Go.Proofs.YtkjfhgaiakienaaDoor
