/-
  Walks over package real, part 5: split, the text of a number.
-/
import Derived.Test.YtcnjjolmjpeeoaaDoorReal4
import Derived.Test.YtcnjjolmjpeeoaaDoorF64p
import Derived.Test.YtcnjjolmjpeeoaaDoorItoaPlain
import Derived.Laws.Concat
namespace Go.Proofs.YtcnjjolmjpeeoaaDoor
open Go.RowKit

/-- The digits and the power of a rung, all twos still in. -/
def rawM (r : Nat) : Nat := if r < 4503599627370496 then r else 4503599627370496 + r % 4503599627370496
def rawE (r : Nat) : Int := if r < 4503599627370496 then -1074 else (r / 4503599627370496 : Nat) - 1075
theorem rawM_lt (r : Nat) : rawM r < 9007199254740992 := by unfold rawM; split <;> omega
theorem rawM_pos (r : Nat) (h : r ≠ 0) : rawM r ≠ 0 := by unfold rawM; split <;> omega
theorem rawE_lt (r : Nat) (h : r < infR) : -1074 ≤ rawE r ∧ rawE r ≤ 971 := by
  have hc : infR = 9218868437227405312 := rfl
  unfold rawE; split <;> omega
def spM (r : Nat) : Nat := oddN (rawM r)
def spE (r : Nat) : Int := rawE r + (tzN (rawM r) : Int)

set_option maxRecDepth 100000 in
set_option maxHeartbeats 1000000 in
theorem split_any (r : Nat) (h0 : r ≠ 0) (h : r < infR) (w : World) (hT : Lib.TabIs Tryd.prog w "math/bits.deBruijn64tab" .u8 tz64L) :
    Calls Tryd.prog 77 #[.float .f64 r] w fun e w' => e = .returned (.tuple #[.int .u64 (spM r : Int), .int .i64 (spE r)]) ∧ w = w' := by
  have hfb := run_float64bits r
  have hM := rawM_lt r
  have hE := rawE_lt r h
  have C := Lib.hid (odd_any (rawM r) (rawE r) (by omega) (rawM_pos r h0) (by omega) (by omega) w hT)
  unfold spM spE
  have hc : infR = 9218868437227405312 := rfl
  clear hM hE hT
  by_cases hr : r < 4503599627370496
  · have e1 : rawM r = r % 4503599627370496 := by unfold rawM; rw [if_pos hr]; omega
    have e2 : rawE r = -1074 := by unfold rawE; rw [if_pos hr]
    rw [e1, e2] at C ⊢
    have hq : (r : Int) / 4503599627370496 = 0 := by omega
    have C := C.out
    rw [show ((r % 4503599627370496 : Nat) : Int) = (r : Int) % 4503599627370496 from by omega] at C
    have C := Lib.hid C
    clear h hc e1 e2
    go_enter Tryd.func77, Tryd.ntmps77
    go_wp2_with fail
    refine C.out.mono ?_
    rintro e w' ⟨rfl, rfl⟩
    go_wp2_with fail
    go_ret2
    exact ⟨rfl, rfl⟩
  · have e1 : (rawM r : Int) = (r : Int) % 4503599627370496 + 4503599627370496 := by unfold rawM; rw [if_neg hr]; omega
    have e2 : rawE r = -1074 + (r : Int) / 4503599627370496 - 1 := by unfold rawE; rw [if_neg hr]; omega
    obtain ⟨q, hq⟩ : ∃ q : Nat, (r : Int) / 4503599627370496 = (q : Int) := ⟨r / 4503599627370496, by omega⟩
    have hq1 : 0 < q := by omega
    have hq2 : q ≤ 2046 := by omega
    have C := C.out
    rw [e1, e2, hq] at C
    have C := Lib.hid C
    rw [e2, hq]
    clear h hc e1 e2 hr
    go_enter Tryd.func77, Tryd.ntmps77
    go_wp2_with fail
    refine C.out.mono ?_
    rintro e w' ⟨rfl, rfl⟩
    go_wp2_with fail
    go_ret2
    exact ⟨rfl, rfl⟩

/-- The text of a number without a sign. -/
def whole (r : Nat) : Bool := decide (0 ≤ spE r ∧ (Lib.bitLen (spM r) : Int) + spE r ≤ 53)
def unsN (r : Nat) : List UInt8 :=
  if r = 0 then [48] else if r = infR then [105, 110, 102] else if whole r then Lib.itoa ((spM r * 2 ^ (spE r).toNat : Nat) : Int)
  else Lib.itoa (spM r : Int) ++ 112 :: Lib.itoa (spE r)
def textN (x : Nat) : List UInt8 := if isN x then [110, 97, 110] else if isNeg x then 45 :: unsN (rung x) else unsN (rung x)

theorem unsN_zero : unsN 0 = [48] := by unfold unsN; rw [if_pos rfl]

theorem spM_lt (r : Nat) : spM r < 9007199254740992 := Nat.lt_of_le_of_lt (Nat.div_le_self _ _) (rawM_lt r)
theorem spE_lt (r : Nat) (h0 : r ≠ 0) (h : r < infR) : -1074 ≤ spE r ∧ spE r ≤ 1035 := by
  have h1 := rawE_lt r h
  have h2 : tzN (rawM r) < 64 := (Lib.lowest_bit 64 _ (rawM_pos r h0) (Nat.lt_trans (rawM_lt r) (by decide))).2
  unfold spE
  omega

theorem len_lt (m e : Nat) (hm : m < 18446744073709551616) (h : Lib.bitLen m + e ≤ 53) : m * 2 ^ e < 9007199254740992 := by
  by_cases h0 : m = 0
  · subst h0; rw [Nat.zero_mul]; decide
  · have hb := (Lib.bitLenAux_bounds 64 m hm h0).2.2
    have h1 : m * 2 ^ e < 2 ^ Lib.bitLen m * 2 ^ e := Nat.mul_lt_mul_of_pos_right hb (Nat.two_pow_pos _)
    rw [← Nat.pow_add] at h1
    exact Nat.lt_of_lt_of_le h1 (Nat.pow_le_pow_right (by decide) h)

set_option maxRecDepth 100000 in
set_option maxHeartbeats 2000000 in
theorem unsigned_whole (r : Nat) (h0 : r ≠ 0) (h : r < infR) (w : World) (hL : LaidR w) (hw : whole r = true) :
    Calls Tryd.prog 62 #[.float .f64 r] w fun e w' => e = .returned (.string ⟨(unsN r).toArray⟩) ∧ Below w.heap.size w w' := by
  have hM := spM_lt r
  have hE := spE_lt r h0 h
  have he := eql_eq r 0
  have hg := gtr_eq r 9218868437227405311
  have hc : infR = 9218868437227405312 := rfl
  rw [isN_small r (by omega), isN_small 0 (by decide), nkey_small r (by omega), nkey_small 0 (by decide), decide_eq_false (by omega)] at he
  rw [isN_small r (by omega), isN_small 9218868437227405311 (by decide), nkey_small r (by omega), nkey_small 9218868437227405311 (by decide), decide_eq_false (by omega)] at hg
  simp only [Bool.and_false] at he hg
  have hu : unsN r = Lib.itoa ((spM r * 2 ^ (spE r).toNat : Nat) : Int) := by unfold unsN; rw [if_neg h0, if_neg (by omega), if_pos hw]
  rw [hu]
  unfold whole at hw
  have hw := of_decide_eq_true hw
  have S := Lib.hid (split_any r h0 h w hL.tz64)
  have B := Lib.hid (Tryd.bits_Len64 (spM r : Int) w (by omega) (by omega))
  have B := B.out
  rw [Int.toNat_natCast] at B
  have B := Lib.hid B
  obtain ⟨e, hee⟩ := Int.eq_ofNat_of_zero_le hw.1
  rw [hee, Int.toNat_natCast]
  rw [hee] at hw hE S
  have hlt := len_lt (spM r) e (by omega) (by omega)
  have hwr : wrap64 (IntKind.u64.wrap ((spM r : Int) * 2 ^ e)) = ((spM r * 2 ^ e : Nat) : Int) := by
    have e1 : ((spM r : Int) * 2 ^ e) = ((spM r * 2 ^ e : Nat) : Int) := by push_cast; rfl
    rw [e1, wrap_u64_nat _ (by omega)]
    exact IntWalk.wrap64_in _ (by omega)
  have D := digits_any ((spM r * 2 ^ e : Nat) : Int) w (by omega) (by omega) hL.pow10
  have D : Calls Tryd.prog 9 #[.int .i64 (wrap64 (IntKind.u64.wrap ((spM r : Int) * 2 ^ e)))] w fun e' w' => e' = .returned (.string ⟨(Lib.itoa ((spM r * 2 ^ e : Nat) : Int)).toArray⟩) ∧ Below w.heap.size w w' := by
    rw [hwr]; exact D
  have D := Lib.hid D
  clear hwr
  have hl : (Lib.bitLen (spM r) : Int) + (e : Int) ≤ 53 := hw.2
  have he53 : e ≤ 53 := by omega
  have hl64 : Lib.bitLen (spM r) ≤ 53 := by omega
  generalize spM r = m at *
  generalize Lib.bitLen m = l at *
  clear h h0 hc hu hw hL hee hE
  go_enter Tryd.func62, Tryd.ntmps62
  go_wp2_with fail
  refine S.out.mono ?_
  rintro e w' ⟨rfl, rfl⟩
  go_wp2_with fail
  refine B.out.mono ?_
  rintro e w' ⟨rfl, rfl⟩
  go_wp2_with fail
  refine D.out.mono ?_
  rintro e w' ⟨rfl, hb⟩
  go_wp2_with fail
  go_ret
  exact ⟨rfl, hb⟩

theorem run_cat (a b : List UInt8) (ha : a.length ≤ 1000000) (hb : b.length ≤ 1000000) (w : World) : (Op.stringOp .add ⟨a.toArray⟩ ⟨b.toArray⟩).run Tryd.prog w = .ok (.string ⟨(a ++ b).toArray⟩) w := by
  rw [run_string_add_sum _ _ _ (by rw [size_mk, size_mk]; omega), ByteArray.mk_append_mk]

set_option maxRecDepth 100000 in
set_option maxHeartbeats 2000000 in
theorem unsigned_part (r : Nat) (h0 : r ≠ 0) (h : r < infR) (w : World) (hL : LaidR w) (hw : whole r = false) :
    Calls Tryd.prog 62 #[.float .f64 r] w fun e w' => e = .returned (.string ⟨(unsN r).toArray⟩) ∧ Below w.heap.size w w' := by
  have hM := spM_lt r
  have hE := spE_lt r h0 h
  have he := eql_eq r 0
  have hg := gtr_eq r 9218868437227405311
  have hc : infR = 9218868437227405312 := rfl
  rw [isN_small r (by omega), isN_small 0 (by decide), nkey_small r (by omega), nkey_small 0 (by decide), decide_eq_false (by omega)] at he
  rw [isN_small r (by omega), isN_small 9218868437227405311 (by decide), nkey_small r (by omega), nkey_small 9218868437227405311 (by decide), decide_eq_false (by omega)] at hg
  simp only [Bool.and_false] at he hg
  have hu : unsN r = Lib.itoa (spM r : Int) ++ 112 :: Lib.itoa (spE r) := by unfold unsN; rw [if_neg h0, if_neg (by omega), if_neg (by rw [hw]; decide)]
  rw [hu]
  unfold whole at hw
  have hw := of_decide_eq_false hw
  have S := Lib.hid (split_any r h0 h w hL.tz64)
  have B := Lib.hid (Tryd.bits_Len64 (spM r : Int) w (by omega) (by omega))
  have B := B.out
  rw [Int.toNat_natCast] at B
  have B := Lib.hid B
  have hl64 : Lib.bitLen (spM r) ≤ 53 := Lib.bitLen_le _ 53 (by omega) hM
  have D := digits_any (spM r : Int) w (by omega) (by omega) hL.pow10
  have E := fun W hb => Lib.hid (digits_any (spE r) W (by omega) (by omega) (hL.on hb).pow10)
  have hwr : wrap64 (spM r : Int) = (spM r : Int) := IntWalk.wrap64_in _ (by omega)
  have hl1 := itoa_len (spM r : Int) (by omega) (by omega)
  have hl2 := itoa_len (spE r) (by omega) (by omega)
  have hc1 := run_cat (Lib.itoa (spM r : Int)) [112] (by omega) (by decide)
  have hc2 := run_cat (Lib.itoa (spM r : Int) ++ [112]) (Lib.itoa (spE r)) (by rw [List.length_append]; simp only [List.length_cons, List.length_nil]; omega) (by omega)
  clear hl1 hl2
  generalize spM r = m at *
  generalize spE r = p at *
  generalize Lib.bitLen m = l at *
  have D := Lib.hid D
  clear h h0 hc hu hL
  by_cases hp : 0 ≤ p
  · have hgt : 53 < (l : Int) + p := by omega
    clear hw
    go_enter Tryd.func62, Tryd.ntmps62
    go_wp2_with fail
    refine S.out.mono ?_
    rintro e w' ⟨rfl, rfl⟩
    go_wp2_with fail
    refine B.out.mono ?_
    rintro e w' ⟨rfl, rfl⟩
    go_wp2_with fail
    refine D.out.mono ?_
    rintro e w1 ⟨rfl, hb⟩
    go_wp2_with fail
    refine (E w1 hb).out.mono ?_
    rintro e w2 ⟨rfl, hb2⟩
    go_wp2_with fail
    go_ret
    exact ⟨rfl, hb.trans (hb2.mono hb.size)⟩
  · clear hw
    go_enter Tryd.func62, Tryd.ntmps62
    go_wp2_with fail
    refine S.out.mono ?_
    rintro e w' ⟨rfl, rfl⟩
    go_wp2_with fail
    refine D.out.mono ?_
    rintro e w1 ⟨rfl, hb⟩
    go_wp2_with fail
    refine (E w1 hb).out.mono ?_
    rintro e w2 ⟨rfl, hb2⟩
    go_wp2_with fail
    go_ret
    exact ⟨rfl, hb.trans (hb2.mono hb.size)⟩

set_option maxRecDepth 100000 in
set_option maxHeartbeats 2000000 in
theorem unsigned_any (r : Nat) (h : r ≤ infR) (w : World) (hL : LaidR w) :
    Calls Tryd.prog 62 #[.float .f64 r] w fun e w' => e = .returned (.string ⟨(unsN r).toArray⟩) ∧ Below w.heap.size w w' := by
  have hc : infR = 9218868437227405312 := rfl
  by_cases h0 : r = 0
  · subst h0
    rw [unsN_zero]
    have he : (FloatKind.f64.format.order 0 0 == some .eq) = true := by decide
    clear hL hc h
    go_enter Tryd.func62, Tryd.ntmps62
    go_wp2_with fail
    go_ret
    exact ⟨rfl, Below.refl _ _⟩
  · by_cases hi : r = infR
    · have hu : unsN r = [105, 110, 102] := by unfold unsN; rw [if_neg h0, if_pos hi]
      rw [hu]
      subst hi
      have he : (FloatKind.f64.format.order infR 0 == some .eq) = false := by decide
      have hg : (FloatKind.f64.format.order infR 9218868437227405311 == some .gt) = true := by decide
      clear hL hc h hu h0
      go_enter Tryd.func62, Tryd.ntmps62
      go_wp2_with fail
      go_ret
      exact ⟨rfl, Below.refl _ _⟩
    · cases hw : whole r
      · exact unsigned_part r h0 (by omega) w hL hw
      · exact unsigned_whole r h0 (by omega) w hL hw

theorem unsN_len (r : Nat) (h : r ≤ infR) : (unsN r).length ≤ 100 := by
  unfold unsN
  split
  · decide
  · split
    · decide
    · rename_i h0 h1
      have hM := spM_lt r
      have hE := spE_lt r h0 (by omega)
      split
      · rename_i hw
        unfold whole at hw
        have hw := of_decide_eq_true hw
        have hlt := len_lt (spM r) (spE r).toNat (by omega) (by omega)
        have := itoa_len ((spM r * 2 ^ (spE r).toNat : Nat) : Int) (by omega) (by omega)
        omega
      · have hl1 := itoa_len (spM r : Int) (by omega) (by omega)
        have hl2 := itoa_len (spE r) (by omega) (by omega)
        simp only [List.length_append, List.length_cons, List.length_nil]
        omega

set_option maxRecDepth 100000 in
set_option maxHeartbeats 2000000 in
theorem text_any (x : Nat) (hx : x < 18446744073709551616) (w : World) (hL : LaidR w) :
    Calls Tryd.prog 28 #[.float .f64 x] w fun e w' => e = .returned (.string ⟨(textN x).toArray⟩) ∧ Below w.heap.size w w' := by
  have C := Lib.hid (isnan_any x w)
  have S := Lib.hid (signed_any x hx w)
  unfold textN
  cases hn : isN x
  · have hr : rung x ≤ infR := by simpa [isN] using hn
    have U := Lib.hid (unsigned_any (rung x) hr w hL)
    have hng := neg_word x hx
    rcases word_parts x hx with ⟨h1, h2, h3⟩ | ⟨h1, h2, h3⟩
    · rw [h1, if_pos rfl] at hng
      have hng : Op.negFloat .f64 x = rung x := by omega
      have hrun : ∀ W : World, (Op.unary .neg (.float .f64 x)).run Tryd.prog W = .ok (.float .f64 (rung x)) W := fun W => by rw [run_neg_float, hng]
      rw [hn] at C
      rw [h1] at S ⊢
      simp only [Bool.false_eq_true, if_false, if_true]
      have hcat := run_cat [45] (unsN (rung x)) (by decide) (Nat.le_trans (unsN_len _ hr) (by decide))
      clear h1 h2 h3 hr hn hL hx hng
      go_enter Tryd.func28, Tryd.ntmps28
      go_wp2_with fail
      refine C.out.mono ?_
      rintro e w' ⟨rfl, rfl⟩
      go_wp2_with fail
      refine S.out.mono ?_
      rintro e w' ⟨rfl, rfl⟩
      go_wp2_with fail
      refine U.out.mono ?_
      rintro e w' ⟨rfl, hb⟩
      go_wp2_with fail
      go_ret
      exact ⟨rfl, hb⟩
    · rw [hn] at C
      rw [h1] at S ⊢
      simp only [Bool.false_eq_true, if_false]
      rw [← h2] at U ⊢
      clear h1 h2 h3 hr hn hL hx hng
      go_enter Tryd.func28, Tryd.ntmps28
      go_wp2_with fail
      refine C.out.mono ?_
      rintro e w' ⟨rfl, rfl⟩
      go_wp2_with fail
      refine S.out.mono ?_
      rintro e w' ⟨rfl, rfl⟩
      go_wp2_with fail
      refine U.out.mono ?_
      rintro e w' ⟨rfl, hb⟩
      go_wp2_with fail
      go_ret
      exact ⟨rfl, hb⟩
  · rw [hn] at C
    clear hL
    go_enter Tryd.func28, Tryd.ntmps28
    go_wp2_with fail
    refine C.out.mono ?_
    rintro e w' ⟨rfl, rfl⟩
    go_wp2_with fail
    go_ret
    exact ⟨rfl, Below.refl _ _⟩
end Go.Proofs.YtcnjjolmjpeeoaaDoor
