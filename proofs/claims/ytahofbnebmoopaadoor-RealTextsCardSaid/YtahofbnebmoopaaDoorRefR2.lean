/-
  Walks over the document's own answer to chapter 2: Get.
-/
import Derived.Test.YtahofbnebmoopaaDoorRefR1
import Derived.Test.YtahofbnebmoopaaDoorReal8
import Derived.Test.YtahofbnebmoopaaDoorNumPlain
namespace Go.Proofs.YtahofbnebmoopaaDoor
open Go.RowKit

theorem getL_cat (a b : List UInt8) : getL (a ++ b) = getL a * 256 ^ b.length + getL b := by
  have h := foldl_get b (getL a)
  rw [← h]
  unfold getL
  rw [List.foldl_append]
theorem getL_lt : ∀ l : List UInt8, getL l < 256 ^ l.length
  | [] => by decide
  | c :: r => by
    have := getL_lt r
    have hc := UInt8.toNat_lt c
    rw [getL_cons, List.length_cons, Nat.pow_succ]
    have h2 : c.toNat * 256 ^ r.length ≤ 255 * 256 ^ r.length := Nat.mul_le_mul_right _ (by omega)
    omega

/-- The document's answer of eight bytes. -/
def qgetF (x : Nat) : Nat × Int := if x = 0 then (9221120237041090561, 0) else if isN (unrankN x) then (0, 4) else (unrankN x, 0)

set_option maxRecDepth 100000 in
theorem qget_bad (s : ByteArray) (w : World) (h : s.size ≠ 8) (hs : s.size ≤ 9223372036854775807) :
    Calls Tryd.prog 31 #[.string s] w fun e w' => e = .returned (.tuple #[.float .f64 0, .int .i64 4]) ∧ w = w' := by
  have h1 : ((s.size : Int) != 8) = true := by rw [bne_iff_ne]; omega
  go_enter Tryd.func31, Tryd.ntmps31
  go_wp2
  go_ret2
  exact ⟨rfl, rfl⟩

set_option maxRecDepth 100000 in
set_option maxHeartbeats 2000000 in
theorem qget_ok (s : ByteArray) (w : World) (h : s.size = 8) :
    Calls Tryd.prog 31 #[.string s] w fun e w' => e = .returned (.tuple #[.float .f64 (qgetF (getL s.data.toList)).1, .int .i64 (qgetF (getL s.data.toList)).2]) ∧ w = w' := by
  have h1 : ((s.size : Int) != 8) = false := by rw [bne_eq_false_iff_eq]; omega
  have e1 : (s.extract 0 4).data.toList = s.data.toList.take 4 := by simp
  have e2 : (s.extract 4 8).data.toList = s.data.toList.drop 4 := by simp; rw [List.take_of_length_le (by simp; omega)]
  have s1 : (s.extract 0 4).size = 4 := by simp [h]
  have s2 : (s.extract 4 8).size = 4 := by simp [h]
  have hl : s.data.toList.length = 8 := h
  have hcat := getL_cat (s.data.toList.take 4) (s.data.toList.drop 4)
  rw [List.take_append_drop, List.length_drop, hl, show (256 : Nat) ^ (8 - 4) = 4294967296 from by decide] at hcat
  have b1 := getL_lt (s.data.toList.take 4)
  rw [List.length_take, hl, show (256 : Nat) ^ (min 4 8) = 4294967296 from by decide] at b1
  have b2 := getL_lt (s.data.toList.drop 4)
  rw [List.length_drop, hl, show (256 : Nat) ^ (8 - 4) = 4294967296 from by decide] at b2
  have C1 := rget_ok (s.extract 0 4) w (by omega) (by omega)
  have C2 := rget_ok (s.extract 4 8) w (by omega) (by omega)
  rw [e1] at C1
  rw [e2] at C2
  generalize getL (s.data.toList.take 4) = a at *
  generalize getL (s.data.toList.drop 4) = c at *
  generalize getL s.data.toList = x at *
  have C1 := Lib.hid C1
  have C2 := Lib.hid C2
  have hfb := run_float64frombits
  clear e1 e2 s1 s2 hl
  by_cases hx0 : x = 0
  · obtain rfl : a = 0 := by omega
    obtain rfl : c = 0 := by omega
    have hg : qgetF x = (9221120237041090561, 0) := if_pos hx0
    rw [hg]
    clear hcat hx0 hg b1 b2
    go_enter Tryd.func31, Tryd.ntmps31
    go_wp2_with fail
    refine C1.out.mono ?_
    rintro e w' ⟨rfl, rfl⟩
    go_wp2_with fail
    refine C2.out.mono ?_
    rintro e w' ⟨rfl, rfl⟩
    go_wp2_with fail
    refine (mnan_any _).mono ?_
    rintro e w' ⟨rfl, rfl⟩
    go_wp2_with fail
    go_ret2
    exact ⟨rfl, rfl⟩
  · have hq : ((a : Int) == 0) = false ∨ (((a : Int) == 0) = true ∧ ((c : Int) == 0) = false) := by
      by_cases ha : a = 0
      · exact Or.inr ⟨by rw [beq_iff_eq]; omega, by rw [beq_eq_false_iff_ne]; omega⟩
      · exact Or.inl (by rw [beq_eq_false_iff_ne]; omega)
    have N := Lib.hid (qisnan_any (unrankN x) w)
    have hg : qgetF x = if isN (unrankN x) then (0, 4) else (unrankN x, 0) := if_neg hx0
    have hA : (a : Int) ≤ 4294967295 := by omega
    have hC : (c : Int) ≤ 4294967295 := by omega
    obtain ⟨g, hgg⟩ : ∃ g, g = qgetF x := ⟨_, rfl⟩
    rw [← hgg]
    rw [← hgg] at hg
    by_cases ha : 2147483648 ≤ a
    · have hd : decide ((2147483648 : Int) ≤ (a : Int)) = true := decide_eq_true (by omega)
      have hu : unrankN x = (IntKind.u64.wrap (IntKind.u64.wrap (IntKind.u64.wrap ((a : Int) - 2147483648) * 4294967296) + (c : Int))).toNat := by
        unfold unrankN
        rw [word_neg x (by omega), decide_eq_true (by omega)]
        simp only [if_true, IntKind.wrap_u64]
        omega
      rw [hu] at N hg
      have hq : ((a : Int) == 0) = false := by rw [beq_eq_false_iff_ne]; omega
      clear b1 b2 hcat hx0 hu hgg ha
      cases hn : isN (IntKind.u64.wrap (IntKind.u64.wrap (IntKind.u64.wrap ((a : Int) - 2147483648) * 4294967296) + (c : Int))).toNat
      · rw [hn] at N hg
        have HG := Lib.hid hg
        clear hg hn
        go_enter Tryd.func31, Tryd.ntmps31
        go_wp2_with fail
        refine C1.out.mono ?_
        rintro e w' ⟨rfl, rfl⟩
        go_wp2_with fail
        refine C2.out.mono ?_
        rintro e w' ⟨rfl, rfl⟩
        go_wp2_with fail
        refine N.out.mono ?_
        rintro e w' ⟨rfl, rfl⟩
        go_wp2_with fail
        go_ret2
        exact ⟨by rw [HG.out]; rfl, rfl⟩
      · rw [hn] at N hg
        have HG := Lib.hid hg
        clear hg hn
        go_enter Tryd.func31, Tryd.ntmps31
        go_wp2_with fail
        refine C1.out.mono ?_
        rintro e w' ⟨rfl, rfl⟩
        go_wp2_with fail
        refine C2.out.mono ?_
        rintro e w' ⟨rfl, rfl⟩
        go_wp2_with fail
        refine N.out.mono ?_
        rintro e w' ⟨rfl, rfl⟩
        go_wp2_with fail
        go_ret2
        exact ⟨by rw [HG.out]; rfl, rfl⟩
    · have hd : decide ((2147483648 : Int) ≤ (a : Int)) = false := decide_eq_false (by omega)
      have hu : unrankN x = (4294967295 - a) * 4294967296 + (4294967295 - c) := by
        unfold unrankN
        rw [word_neg x (by omega), decide_eq_false (by omega)]
        simp only [Bool.false_eq_true, if_false]
        omega
      rw [hu] at N hg
      clear b1 b2 hcat hx0 hu hgg ha
      cases hn : isN ((4294967295 - a) * 4294967296 + (4294967295 - c))
      · rw [hn] at N hg
        have HG := Lib.hid hg
        clear hg hn
        rcases hq with hq | ⟨hq, hq2⟩
        · skip
          go_enter Tryd.func31, Tryd.ntmps31
          go_wp2_with fail
          refine C1.out.mono ?_
          rintro e w' ⟨rfl, rfl⟩
          go_wp2_with fail
          refine C2.out.mono ?_
          rintro e w' ⟨rfl, rfl⟩
          go_wp2_with fail
          refine N.out.mono ?_
          rintro e w' ⟨rfl, rfl⟩
          go_wp2_with fail
          go_ret2
          exact ⟨by rw [HG.out]; rfl, rfl⟩
        · skip
          go_enter Tryd.func31, Tryd.ntmps31
          go_wp2_with fail
          refine C1.out.mono ?_
          rintro e w' ⟨rfl, rfl⟩
          go_wp2_with fail
          refine C2.out.mono ?_
          rintro e w' ⟨rfl, rfl⟩
          go_wp2_with fail
          refine N.out.mono ?_
          rintro e w' ⟨rfl, rfl⟩
          go_wp2_with fail
          go_ret2
          exact ⟨by rw [HG.out]; rfl, rfl⟩
      · rw [hn] at N hg
        have HG := Lib.hid hg
        clear hg hn
        rcases hq with hq | ⟨hq, hq2⟩
        · skip
          go_enter Tryd.func31, Tryd.ntmps31
          go_wp2_with fail
          refine C1.out.mono ?_
          rintro e w' ⟨rfl, rfl⟩
          go_wp2_with fail
          refine C2.out.mono ?_
          rintro e w' ⟨rfl, rfl⟩
          go_wp2_with fail
          refine N.out.mono ?_
          rintro e w' ⟨rfl, rfl⟩
          go_wp2_with fail
          go_ret2
          exact ⟨by rw [HG.out]; rfl, rfl⟩
        · skip
          go_enter Tryd.func31, Tryd.ntmps31
          go_wp2_with fail
          refine C1.out.mono ?_
          rintro e w' ⟨rfl, rfl⟩
          go_wp2_with fail
          refine C2.out.mono ?_
          rintro e w' ⟨rfl, rfl⟩
          go_wp2_with fail
          refine N.out.mono ?_
          rintro e w' ⟨rfl, rfl⟩
          go_wp2_with fail
          go_ret2
          exact ⟨by rw [HG.out]; rfl, rfl⟩
end Go.Proofs.YtahofbnebmoopaaDoor
