/-
  RealTwo: digits and a power of two tell what Go makes of them, where it is just so.
-/
import Derived.Test.YtcnjjolmjpeeoaaDoorTwoB
namespace Go.Proofs.YtcnjjolmjpeeoaaDoor
open Go.RowKit

/-- How the tests stand, and what is told. -/
def Way (b1 b2 b3 inf : Bool) (g : Int) : Prop :=
  (b1 = true ∧ b2 = true ∧ inf = false ∧ g = 0) ∨ (b1 = true ∧ b2 = false ∧ b3 = true ∧ inf = false ∧ g = 0) ∨ (b1 = false ∧ b3 = false ∧ inf = true ∧ g = 11) ∨
    (b1 = false ∧ b3 = false ∧ inf = false ∧ g = 11) ∨ (b1 = true ∧ b2 = false ∧ b3 = false ∧ inf = false ∧ g = 11)

set_option maxRecDepth 100000 in
set_option maxHeartbeats 8000000 in
theorem two_walk (neg : Bool) (m : Nat) (e : Int) (w : World) (hL : LaidR w) (hm : m < 9007199254740992) (he0 : -2000 ≤ e) (he1 : e ≤ 2000) (F R s y a z Z fw l : Nat) (x g : Int) (b1 b2 b3 inf : Bool)
    (hF : floatOfInt .f64 (m : Int) = F) (hl : l ≤ 53) (hx : -100000 ≤ x ∧ x ≤ 100000)
    (PA : ∀ W, LaidR W → Calls Tryd.prog 10 #[.string ⟨(twoT neg m e).toArray⟩] W fun r w' => r = .returned (.tuple #[.float .f64 fw, .int .i64 g]) ∧ Below W.heap.size W w')
    (LD : Ans 11 #[.float .f64 F, .int .i64 e] (.float .f64 R)) (hs : s = if neg then Op.negFloat .f64 R else R)
    (FR : Ans 12 #[.float .f64 s] (.tuple #[.float .f64 y, .int .i64 x])) (AB : Ans 13 #[.float .f64 y] (.float .f64 a)) (L2 : Ans 11 #[.float .f64 a, .int .i64 53] (.float .f64 z))
    (BI : Ans 14 #[.int .i64 (m : Int)] (.int .i64 (l : Int))) (L3 : Ans 11 #[.float .f64 F, .int .i64 (53 - (l : Int))] (.float .f64 Z)) (IN : Ans 15 #[.float .f64 s, .int .i64 0] (.bool inf))
    (SM : g = 0 → Ans 16 #[.float .f64 fw, .float .f64 s] (.bool true))
    (h1 : (FloatKind.f64.format.order z Z == some .eq) = b1) (h2 : (x == e + (l : Int)) = b2) (h3 : ((m : Int) == 0) = b3) (hw : Way b1 b2 b3 inf g) :
    Calls Tryd.prog 3 #[.int .i64 (m : Int), .int .i64 e, .bool neg] w fun e w' => e = .returned (.bool true) ∧ Below w.heap.size w w' := by
  have HL := Lib.hid hL
  have hla := itoa_len (m : Int) (by omega) (by omega)
  have hlb := itoa_len e (by omega) (by omega)
  have D1 := Lib.hid (digits_any (m : Int) w (by omega) (by omega) hL.pow10)
  have D2 : Hid (∀ W, LaidR W → Calls Tryd.prog 9 #[.int .i64 e] W fun r w' => r = .returned (.string ⟨(Lib.itoa e).toArray⟩) ∧ Below W.heap.size W w') := fun W h => digits_any e W (by omega) (by omega) h.pow10
  have PA' := PA
  unfold twoT at PA'
  generalize Lib.itoa (m : Int) = p at *
  generalize Lib.itoa e = q at *
  have k1 := run_cat p [112] (by omega) (by decide)
  have k2 := run_cat (p ++ [112]) q (by rw [List.length_append]; simp only [List.length_cons, List.length_nil]; omega) (by omega)
  have k3 := run_cat [45] (p ++ 112 :: q) (by decide) (by rw [List.length_append, List.length_cons]; omega)
  rw [List.append_assoc] at k2
  have K1 := Lib.hid k1
  have K2 := Lib.hid k2
  have K3 := Lib.hid k3
  have HPA := Lib.hid PA'
  have HLD := Lib.hid LD
  have HFR := Lib.hid FR
  have HAB := Lib.hid AB
  have HL2 := Lib.hid L2
  have HBI := Lib.hid BI
  have HL3 := Lib.hid L3
  have HIN := Lib.hid IN
  have HSM := Lib.hid SM
  have Hs := Lib.hid hs
  have Hm := Lib.hid hm
  have t1 : decide ((m : Int) < 0) = false := decide_eq_false (by omega)
  have t2 : decide (9007199254740992 ≤ (m : Int)) = false := decide_eq_false (by omega)
  have t3 : decide (e < -2000) = false := decide_eq_false (by omega)
  have t4 : decide (2000 < e) = false := decide_eq_false (by omega)
  have HF := Lib.hid hF
  have H1 := Lib.hid h1
  have H2 := Lib.hid h2
  have H3 := Lib.hid h3
  clear hF h1 h2 h3 hm
  clear hL PA PA' LD FR AB L2 BI L3 IN SM k1 k2 k3 hs hla hlb
  rcases hw with ⟨rfl, rfl, rfl, rfl⟩ | ⟨rfl, rfl, rfl, rfl, rfl⟩ | ⟨rfl, rfl, rfl, rfl⟩ | ⟨rfl, rfl, rfl, rfl⟩ | ⟨rfl, rfl, rfl, rfl, rfl⟩
  · cases neg with
    | true =>
      have hs : s = Op.negFloat .f64 R := Hs.out
      clear Hs
      subst hs
      go_enter Tryd.func3, Tryd.ntmps3
      go_wp2_with fail
      refine D1.out.mono ?_
      rintro r w1 ⟨rfl, hb1⟩
      have k1 := K1.out
      have L1 := Lib.hid (HL.out.on hb1)
      go_wp2_with fail
      refine (D2.out w1 L1.out).mono ?_
      rintro r w2 ⟨rfl, hb2⟩
      have hh2 : Below w.heap.size w w2 := hb1.trans (hb2.mono hb1.size)
      have L2' := Lib.hid (HL.out.on hh2)
      have k2 := K2.out
      have k3 := K3.out
      go_wp2_with fail
      have PA2 : Calls Tryd.prog 10 #[.string ⟨(45 :: (p ++ 112 :: q)).toArray⟩] w2 fun r w' => r = .returned (.tuple #[.float .f64 fw, .int .i64 _]) ∧ Below w2.heap.size w2 w' := HPA.out w2 L2'.out
      refine PA2.mono ?_
      rintro r w3 ⟨rfl, hb3⟩
      have hh3 : Below w.heap.size w w3 := hh2.trans (hb3.mono hh2.size)
      have L3' := Lib.hid (HL.out.on hh3)
      have hF := HF.out
      clear PA2 k1 k2 hb1 hb2 hb3 hh2 k3
      go_wp2_with fail
      have hng := fun W : World => run_neg_float R W
      refine (HLD.out w3).mono ?_
      rintro r w' ⟨rfl, rfl⟩
      go_wp2_with fail
      refine (HFR.out w3).mono ?_
      rintro r w' ⟨rfl, rfl⟩
      go_wp2_with fail
      refine (HAB.out w3).mono ?_
      rintro r w' ⟨rfl, rfl⟩
      go_wp2_with fail
      refine (HL2.out w3).mono ?_
      rintro r w' ⟨rfl, rfl⟩
      go_wp2_with fail
      refine (HBI.out w3).mono ?_
      rintro r w' ⟨rfl, rfl⟩
      go_wp2_with fail
      refine (HL3.out w3).mono ?_
      rintro r w' ⟨rfl, rfl⟩
      have h1 := H1.out
      have h2 := H2.out
      have h3 := H3.out
      go_wp2_with fail
      refine (HBI.out w3).mono ?_
      rintro r w' ⟨rfl, rfl⟩
      go_wp2_with fail
      clear h1 h2 h3
      refine (HIN.out w3).mono ?_
      rintro r w' ⟨rfl, rfl⟩
      go_wp2_with fail
      refine (aliveR_any w3 L3'.out).mono ?_
      rintro r w4 ⟨rfl, hb4⟩
      have hh4 : Below w.heap.size w w4 := hh3.trans (hb4.mono hh3.size)
      go_wp2_with fail
      refine (HSM.out (by first | rfl | trivial) w4).mono ?_
      rintro r w' ⟨rfl, rfl⟩
      go_wp2_with fail
      go_ret
      exact ⟨rfl, hh4⟩
    | false =>
      have hs : s = R := Hs.out
      clear Hs
      subst hs
      go_enter Tryd.func3, Tryd.ntmps3
      go_wp2_with fail
      refine D1.out.mono ?_
      rintro r w1 ⟨rfl, hb1⟩
      have k1 := K1.out
      have L1 := Lib.hid (HL.out.on hb1)
      go_wp2_with fail
      refine (D2.out w1 L1.out).mono ?_
      rintro r w2 ⟨rfl, hb2⟩
      have hh2 : Below w.heap.size w w2 := hb1.trans (hb2.mono hb1.size)
      have L2' := Lib.hid (HL.out.on hh2)
      have k2 := K2.out
      go_wp2_with fail
      have PA2 : Calls Tryd.prog 10 #[.string ⟨(p ++ 112 :: q).toArray⟩] w2 fun r w' => r = .returned (.tuple #[.float .f64 fw, .int .i64 _]) ∧ Below w2.heap.size w2 w' := HPA.out w2 L2'.out
      refine PA2.mono ?_
      rintro r w3 ⟨rfl, hb3⟩
      have hh3 : Below w.heap.size w w3 := hh2.trans (hb3.mono hh2.size)
      have L3' := Lib.hid (HL.out.on hh3)
      have hF := HF.out
      clear PA2 k1 k2 hb1 hb2 hb3 hh2
      go_wp2_with fail
      refine (HLD.out w3).mono ?_
      rintro r w' ⟨rfl, rfl⟩
      go_wp2_with fail
      refine (HFR.out w3).mono ?_
      rintro r w' ⟨rfl, rfl⟩
      go_wp2_with fail
      refine (HAB.out w3).mono ?_
      rintro r w' ⟨rfl, rfl⟩
      go_wp2_with fail
      refine (HL2.out w3).mono ?_
      rintro r w' ⟨rfl, rfl⟩
      go_wp2_with fail
      refine (HBI.out w3).mono ?_
      rintro r w' ⟨rfl, rfl⟩
      go_wp2_with fail
      refine (HL3.out w3).mono ?_
      rintro r w' ⟨rfl, rfl⟩
      have h1 := H1.out
      have h2 := H2.out
      have h3 := H3.out
      go_wp2_with fail
      refine (HBI.out w3).mono ?_
      rintro r w' ⟨rfl, rfl⟩
      go_wp2_with fail
      clear h1 h2 h3
      refine (HIN.out w3).mono ?_
      rintro r w' ⟨rfl, rfl⟩
      go_wp2_with fail
      refine (aliveR_any w3 L3'.out).mono ?_
      rintro r w4 ⟨rfl, hb4⟩
      have hh4 : Below w.heap.size w w4 := hh3.trans (hb4.mono hh3.size)
      go_wp2_with fail
      refine (HSM.out (by first | rfl | trivial) w4).mono ?_
      rintro r w' ⟨rfl, rfl⟩
      go_wp2_with fail
      go_ret
      exact ⟨rfl, hh4⟩
  · cases neg with
    | true =>
      have hs : s = Op.negFloat .f64 R := Hs.out
      clear Hs
      subst hs
      go_enter Tryd.func3, Tryd.ntmps3
      go_wp2_with fail
      refine D1.out.mono ?_
      rintro r w1 ⟨rfl, hb1⟩
      have k1 := K1.out
      have L1 := Lib.hid (HL.out.on hb1)
      go_wp2_with fail
      refine (D2.out w1 L1.out).mono ?_
      rintro r w2 ⟨rfl, hb2⟩
      have hh2 : Below w.heap.size w w2 := hb1.trans (hb2.mono hb1.size)
      have L2' := Lib.hid (HL.out.on hh2)
      have k2 := K2.out
      have k3 := K3.out
      go_wp2_with fail
      have PA2 : Calls Tryd.prog 10 #[.string ⟨(45 :: (p ++ 112 :: q)).toArray⟩] w2 fun r w' => r = .returned (.tuple #[.float .f64 fw, .int .i64 _]) ∧ Below w2.heap.size w2 w' := HPA.out w2 L2'.out
      refine PA2.mono ?_
      rintro r w3 ⟨rfl, hb3⟩
      have hh3 : Below w.heap.size w w3 := hh2.trans (hb3.mono hh2.size)
      have L3' := Lib.hid (HL.out.on hh3)
      have hF := HF.out
      clear PA2 k1 k2 hb1 hb2 hb3 hh2 k3
      go_wp2_with fail
      have hng := fun W : World => run_neg_float R W
      refine (HLD.out w3).mono ?_
      rintro r w' ⟨rfl, rfl⟩
      go_wp2_with fail
      refine (HFR.out w3).mono ?_
      rintro r w' ⟨rfl, rfl⟩
      go_wp2_with fail
      refine (HAB.out w3).mono ?_
      rintro r w' ⟨rfl, rfl⟩
      go_wp2_with fail
      refine (HL2.out w3).mono ?_
      rintro r w' ⟨rfl, rfl⟩
      go_wp2_with fail
      refine (HBI.out w3).mono ?_
      rintro r w' ⟨rfl, rfl⟩
      go_wp2_with fail
      refine (HL3.out w3).mono ?_
      rintro r w' ⟨rfl, rfl⟩
      have h1 := H1.out
      have h2 := H2.out
      have h3 := H3.out
      go_wp2_with fail
      refine (HBI.out w3).mono ?_
      rintro r w' ⟨rfl, rfl⟩
      go_wp2_with fail
      clear h1 h2 h3
      refine (HIN.out w3).mono ?_
      rintro r w' ⟨rfl, rfl⟩
      go_wp2_with fail
      refine (aliveR_any w3 L3'.out).mono ?_
      rintro r w4 ⟨rfl, hb4⟩
      have hh4 : Below w.heap.size w w4 := hh3.trans (hb4.mono hh3.size)
      go_wp2_with fail
      refine (HSM.out (by first | rfl | trivial) w4).mono ?_
      rintro r w' ⟨rfl, rfl⟩
      go_wp2_with fail
      go_ret
      exact ⟨rfl, hh4⟩
    | false =>
      have hs : s = R := Hs.out
      clear Hs
      subst hs
      go_enter Tryd.func3, Tryd.ntmps3
      go_wp2_with fail
      refine D1.out.mono ?_
      rintro r w1 ⟨rfl, hb1⟩
      have k1 := K1.out
      have L1 := Lib.hid (HL.out.on hb1)
      go_wp2_with fail
      refine (D2.out w1 L1.out).mono ?_
      rintro r w2 ⟨rfl, hb2⟩
      have hh2 : Below w.heap.size w w2 := hb1.trans (hb2.mono hb1.size)
      have L2' := Lib.hid (HL.out.on hh2)
      have k2 := K2.out
      go_wp2_with fail
      have PA2 : Calls Tryd.prog 10 #[.string ⟨(p ++ 112 :: q).toArray⟩] w2 fun r w' => r = .returned (.tuple #[.float .f64 fw, .int .i64 _]) ∧ Below w2.heap.size w2 w' := HPA.out w2 L2'.out
      refine PA2.mono ?_
      rintro r w3 ⟨rfl, hb3⟩
      have hh3 : Below w.heap.size w w3 := hh2.trans (hb3.mono hh2.size)
      have L3' := Lib.hid (HL.out.on hh3)
      have hF := HF.out
      clear PA2 k1 k2 hb1 hb2 hb3 hh2
      go_wp2_with fail
      refine (HLD.out w3).mono ?_
      rintro r w' ⟨rfl, rfl⟩
      go_wp2_with fail
      refine (HFR.out w3).mono ?_
      rintro r w' ⟨rfl, rfl⟩
      go_wp2_with fail
      refine (HAB.out w3).mono ?_
      rintro r w' ⟨rfl, rfl⟩
      go_wp2_with fail
      refine (HL2.out w3).mono ?_
      rintro r w' ⟨rfl, rfl⟩
      go_wp2_with fail
      refine (HBI.out w3).mono ?_
      rintro r w' ⟨rfl, rfl⟩
      go_wp2_with fail
      refine (HL3.out w3).mono ?_
      rintro r w' ⟨rfl, rfl⟩
      have h1 := H1.out
      have h2 := H2.out
      have h3 := H3.out
      go_wp2_with fail
      refine (HBI.out w3).mono ?_
      rintro r w' ⟨rfl, rfl⟩
      go_wp2_with fail
      clear h1 h2 h3
      refine (HIN.out w3).mono ?_
      rintro r w' ⟨rfl, rfl⟩
      go_wp2_with fail
      refine (aliveR_any w3 L3'.out).mono ?_
      rintro r w4 ⟨rfl, hb4⟩
      have hh4 : Below w.heap.size w w4 := hh3.trans (hb4.mono hh3.size)
      go_wp2_with fail
      refine (HSM.out (by first | rfl | trivial) w4).mono ?_
      rintro r w' ⟨rfl, rfl⟩
      go_wp2_with fail
      go_ret
      exact ⟨rfl, hh4⟩
  · cases neg with
    | true =>
      have hs : s = Op.negFloat .f64 R := Hs.out
      clear Hs
      subst hs
      go_enter Tryd.func3, Tryd.ntmps3
      go_wp2_with fail
      refine D1.out.mono ?_
      rintro r w1 ⟨rfl, hb1⟩
      have k1 := K1.out
      have L1 := Lib.hid (HL.out.on hb1)
      go_wp2_with fail
      refine (D2.out w1 L1.out).mono ?_
      rintro r w2 ⟨rfl, hb2⟩
      have hh2 : Below w.heap.size w w2 := hb1.trans (hb2.mono hb1.size)
      have L2' := Lib.hid (HL.out.on hh2)
      have k2 := K2.out
      have k3 := K3.out
      go_wp2_with fail
      have PA2 : Calls Tryd.prog 10 #[.string ⟨(45 :: (p ++ 112 :: q)).toArray⟩] w2 fun r w' => r = .returned (.tuple #[.float .f64 fw, .int .i64 _]) ∧ Below w2.heap.size w2 w' := HPA.out w2 L2'.out
      refine PA2.mono ?_
      rintro r w3 ⟨rfl, hb3⟩
      have hh3 : Below w.heap.size w w3 := hh2.trans (hb3.mono hh2.size)
      have L3' := Lib.hid (HL.out.on hh3)
      have hF := HF.out
      clear PA2 k1 k2 hb1 hb2 hb3 hh2 k3
      go_wp2_with fail
      have hng := fun W : World => run_neg_float R W
      refine (HLD.out w3).mono ?_
      rintro r w' ⟨rfl, rfl⟩
      go_wp2_with fail
      refine (HFR.out w3).mono ?_
      rintro r w' ⟨rfl, rfl⟩
      go_wp2_with fail
      refine (HAB.out w3).mono ?_
      rintro r w' ⟨rfl, rfl⟩
      go_wp2_with fail
      refine (HL2.out w3).mono ?_
      rintro r w' ⟨rfl, rfl⟩
      go_wp2_with fail
      refine (HBI.out w3).mono ?_
      rintro r w' ⟨rfl, rfl⟩
      go_wp2_with fail
      refine (HL3.out w3).mono ?_
      rintro r w' ⟨rfl, rfl⟩
      have h1 := H1.out
      have h2 := H2.out
      have h3 := H3.out
      go_wp2_with fail
      clear h1 h2 h3
      refine (HIN.out w3).mono ?_
      rintro r w' ⟨rfl, rfl⟩
      go_wp2_with fail
      refine (aliveR_any w3 L3'.out).mono ?_
      rintro r w4 ⟨rfl, hb4⟩
      have hh4 : Below w.heap.size w w4 := hh3.trans (hb4.mono hh3.size)
      go_wp2_with fail
      go_ret
      exact ⟨rfl, hh4⟩
    | false =>
      have hs : s = R := Hs.out
      clear Hs
      subst hs
      go_enter Tryd.func3, Tryd.ntmps3
      go_wp2_with fail
      refine D1.out.mono ?_
      rintro r w1 ⟨rfl, hb1⟩
      have k1 := K1.out
      have L1 := Lib.hid (HL.out.on hb1)
      go_wp2_with fail
      refine (D2.out w1 L1.out).mono ?_
      rintro r w2 ⟨rfl, hb2⟩
      have hh2 : Below w.heap.size w w2 := hb1.trans (hb2.mono hb1.size)
      have L2' := Lib.hid (HL.out.on hh2)
      have k2 := K2.out
      go_wp2_with fail
      have PA2 : Calls Tryd.prog 10 #[.string ⟨(p ++ 112 :: q).toArray⟩] w2 fun r w' => r = .returned (.tuple #[.float .f64 fw, .int .i64 _]) ∧ Below w2.heap.size w2 w' := HPA.out w2 L2'.out
      refine PA2.mono ?_
      rintro r w3 ⟨rfl, hb3⟩
      have hh3 : Below w.heap.size w w3 := hh2.trans (hb3.mono hh2.size)
      have L3' := Lib.hid (HL.out.on hh3)
      have hF := HF.out
      clear PA2 k1 k2 hb1 hb2 hb3 hh2
      go_wp2_with fail
      refine (HLD.out w3).mono ?_
      rintro r w' ⟨rfl, rfl⟩
      go_wp2_with fail
      refine (HFR.out w3).mono ?_
      rintro r w' ⟨rfl, rfl⟩
      go_wp2_with fail
      refine (HAB.out w3).mono ?_
      rintro r w' ⟨rfl, rfl⟩
      go_wp2_with fail
      refine (HL2.out w3).mono ?_
      rintro r w' ⟨rfl, rfl⟩
      go_wp2_with fail
      refine (HBI.out w3).mono ?_
      rintro r w' ⟨rfl, rfl⟩
      go_wp2_with fail
      refine (HL3.out w3).mono ?_
      rintro r w' ⟨rfl, rfl⟩
      have h1 := H1.out
      have h2 := H2.out
      have h3 := H3.out
      go_wp2_with fail
      clear h1 h2 h3
      refine (HIN.out w3).mono ?_
      rintro r w' ⟨rfl, rfl⟩
      go_wp2_with fail
      refine (aliveR_any w3 L3'.out).mono ?_
      rintro r w4 ⟨rfl, hb4⟩
      have hh4 : Below w.heap.size w w4 := hh3.trans (hb4.mono hh3.size)
      go_wp2_with fail
      go_ret
      exact ⟨rfl, hh4⟩
  · cases neg with
    | true =>
      have hs : s = Op.negFloat .f64 R := Hs.out
      clear Hs
      subst hs
      go_enter Tryd.func3, Tryd.ntmps3
      go_wp2_with fail
      refine D1.out.mono ?_
      rintro r w1 ⟨rfl, hb1⟩
      have k1 := K1.out
      have L1 := Lib.hid (HL.out.on hb1)
      go_wp2_with fail
      refine (D2.out w1 L1.out).mono ?_
      rintro r w2 ⟨rfl, hb2⟩
      have hh2 : Below w.heap.size w w2 := hb1.trans (hb2.mono hb1.size)
      have L2' := Lib.hid (HL.out.on hh2)
      have k2 := K2.out
      have k3 := K3.out
      go_wp2_with fail
      have PA2 : Calls Tryd.prog 10 #[.string ⟨(45 :: (p ++ 112 :: q)).toArray⟩] w2 fun r w' => r = .returned (.tuple #[.float .f64 fw, .int .i64 _]) ∧ Below w2.heap.size w2 w' := HPA.out w2 L2'.out
      refine PA2.mono ?_
      rintro r w3 ⟨rfl, hb3⟩
      have hh3 : Below w.heap.size w w3 := hh2.trans (hb3.mono hh2.size)
      have L3' := Lib.hid (HL.out.on hh3)
      have hF := HF.out
      clear PA2 k1 k2 hb1 hb2 hb3 hh2 k3
      go_wp2_with fail
      have hng := fun W : World => run_neg_float R W
      refine (HLD.out w3).mono ?_
      rintro r w' ⟨rfl, rfl⟩
      go_wp2_with fail
      refine (HFR.out w3).mono ?_
      rintro r w' ⟨rfl, rfl⟩
      go_wp2_with fail
      refine (HAB.out w3).mono ?_
      rintro r w' ⟨rfl, rfl⟩
      go_wp2_with fail
      refine (HL2.out w3).mono ?_
      rintro r w' ⟨rfl, rfl⟩
      go_wp2_with fail
      refine (HBI.out w3).mono ?_
      rintro r w' ⟨rfl, rfl⟩
      go_wp2_with fail
      refine (HL3.out w3).mono ?_
      rintro r w' ⟨rfl, rfl⟩
      have h1 := H1.out
      have h2 := H2.out
      have h3 := H3.out
      go_wp2_with fail
      clear h1 h2 h3
      refine (HIN.out w3).mono ?_
      rintro r w' ⟨rfl, rfl⟩
      go_wp2_with fail
      refine (aliveR_any w3 L3'.out).mono ?_
      rintro r w4 ⟨rfl, hb4⟩
      have hh4 : Below w.heap.size w w4 := hh3.trans (hb4.mono hh3.size)
      go_wp2_with fail
      go_ret
      exact ⟨rfl, hh4⟩
    | false =>
      have hs : s = R := Hs.out
      clear Hs
      subst hs
      go_enter Tryd.func3, Tryd.ntmps3
      go_wp2_with fail
      refine D1.out.mono ?_
      rintro r w1 ⟨rfl, hb1⟩
      have k1 := K1.out
      have L1 := Lib.hid (HL.out.on hb1)
      go_wp2_with fail
      refine (D2.out w1 L1.out).mono ?_
      rintro r w2 ⟨rfl, hb2⟩
      have hh2 : Below w.heap.size w w2 := hb1.trans (hb2.mono hb1.size)
      have L2' := Lib.hid (HL.out.on hh2)
      have k2 := K2.out
      go_wp2_with fail
      have PA2 : Calls Tryd.prog 10 #[.string ⟨(p ++ 112 :: q).toArray⟩] w2 fun r w' => r = .returned (.tuple #[.float .f64 fw, .int .i64 _]) ∧ Below w2.heap.size w2 w' := HPA.out w2 L2'.out
      refine PA2.mono ?_
      rintro r w3 ⟨rfl, hb3⟩
      have hh3 : Below w.heap.size w w3 := hh2.trans (hb3.mono hh2.size)
      have L3' := Lib.hid (HL.out.on hh3)
      have hF := HF.out
      clear PA2 k1 k2 hb1 hb2 hb3 hh2
      go_wp2_with fail
      refine (HLD.out w3).mono ?_
      rintro r w' ⟨rfl, rfl⟩
      go_wp2_with fail
      refine (HFR.out w3).mono ?_
      rintro r w' ⟨rfl, rfl⟩
      go_wp2_with fail
      refine (HAB.out w3).mono ?_
      rintro r w' ⟨rfl, rfl⟩
      go_wp2_with fail
      refine (HL2.out w3).mono ?_
      rintro r w' ⟨rfl, rfl⟩
      go_wp2_with fail
      refine (HBI.out w3).mono ?_
      rintro r w' ⟨rfl, rfl⟩
      go_wp2_with fail
      refine (HL3.out w3).mono ?_
      rintro r w' ⟨rfl, rfl⟩
      have h1 := H1.out
      have h2 := H2.out
      have h3 := H3.out
      go_wp2_with fail
      clear h1 h2 h3
      refine (HIN.out w3).mono ?_
      rintro r w' ⟨rfl, rfl⟩
      go_wp2_with fail
      refine (aliveR_any w3 L3'.out).mono ?_
      rintro r w4 ⟨rfl, hb4⟩
      have hh4 : Below w.heap.size w w4 := hh3.trans (hb4.mono hh3.size)
      go_wp2_with fail
      go_ret
      exact ⟨rfl, hh4⟩
  · cases neg with
    | true =>
      have hs : s = Op.negFloat .f64 R := Hs.out
      clear Hs
      subst hs
      go_enter Tryd.func3, Tryd.ntmps3
      go_wp2_with fail
      refine D1.out.mono ?_
      rintro r w1 ⟨rfl, hb1⟩
      have k1 := K1.out
      have L1 := Lib.hid (HL.out.on hb1)
      go_wp2_with fail
      refine (D2.out w1 L1.out).mono ?_
      rintro r w2 ⟨rfl, hb2⟩
      have hh2 : Below w.heap.size w w2 := hb1.trans (hb2.mono hb1.size)
      have L2' := Lib.hid (HL.out.on hh2)
      have k2 := K2.out
      have k3 := K3.out
      go_wp2_with fail
      have PA2 : Calls Tryd.prog 10 #[.string ⟨(45 :: (p ++ 112 :: q)).toArray⟩] w2 fun r w' => r = .returned (.tuple #[.float .f64 fw, .int .i64 _]) ∧ Below w2.heap.size w2 w' := HPA.out w2 L2'.out
      refine PA2.mono ?_
      rintro r w3 ⟨rfl, hb3⟩
      have hh3 : Below w.heap.size w w3 := hh2.trans (hb3.mono hh2.size)
      have L3' := Lib.hid (HL.out.on hh3)
      have hF := HF.out
      clear PA2 k1 k2 hb1 hb2 hb3 hh2 k3
      go_wp2_with fail
      have hng := fun W : World => run_neg_float R W
      refine (HLD.out w3).mono ?_
      rintro r w' ⟨rfl, rfl⟩
      go_wp2_with fail
      refine (HFR.out w3).mono ?_
      rintro r w' ⟨rfl, rfl⟩
      go_wp2_with fail
      refine (HAB.out w3).mono ?_
      rintro r w' ⟨rfl, rfl⟩
      go_wp2_with fail
      refine (HL2.out w3).mono ?_
      rintro r w' ⟨rfl, rfl⟩
      go_wp2_with fail
      refine (HBI.out w3).mono ?_
      rintro r w' ⟨rfl, rfl⟩
      go_wp2_with fail
      refine (HL3.out w3).mono ?_
      rintro r w' ⟨rfl, rfl⟩
      have h1 := H1.out
      have h2 := H2.out
      have h3 := H3.out
      go_wp2_with fail
      refine (HBI.out w3).mono ?_
      rintro r w' ⟨rfl, rfl⟩
      go_wp2_with fail
      clear h1 h2 h3
      refine (HIN.out w3).mono ?_
      rintro r w' ⟨rfl, rfl⟩
      go_wp2_with fail
      refine (aliveR_any w3 L3'.out).mono ?_
      rintro r w4 ⟨rfl, hb4⟩
      have hh4 : Below w.heap.size w w4 := hh3.trans (hb4.mono hh3.size)
      go_wp2_with fail
      go_ret
      exact ⟨rfl, hh4⟩
    | false =>
      have hs : s = R := Hs.out
      clear Hs
      subst hs
      go_enter Tryd.func3, Tryd.ntmps3
      go_wp2_with fail
      refine D1.out.mono ?_
      rintro r w1 ⟨rfl, hb1⟩
      have k1 := K1.out
      have L1 := Lib.hid (HL.out.on hb1)
      go_wp2_with fail
      refine (D2.out w1 L1.out).mono ?_
      rintro r w2 ⟨rfl, hb2⟩
      have hh2 : Below w.heap.size w w2 := hb1.trans (hb2.mono hb1.size)
      have L2' := Lib.hid (HL.out.on hh2)
      have k2 := K2.out
      go_wp2_with fail
      have PA2 : Calls Tryd.prog 10 #[.string ⟨(p ++ 112 :: q).toArray⟩] w2 fun r w' => r = .returned (.tuple #[.float .f64 fw, .int .i64 _]) ∧ Below w2.heap.size w2 w' := HPA.out w2 L2'.out
      refine PA2.mono ?_
      rintro r w3 ⟨rfl, hb3⟩
      have hh3 : Below w.heap.size w w3 := hh2.trans (hb3.mono hh2.size)
      have L3' := Lib.hid (HL.out.on hh3)
      have hF := HF.out
      clear PA2 k1 k2 hb1 hb2 hb3 hh2
      go_wp2_with fail
      refine (HLD.out w3).mono ?_
      rintro r w' ⟨rfl, rfl⟩
      go_wp2_with fail
      refine (HFR.out w3).mono ?_
      rintro r w' ⟨rfl, rfl⟩
      go_wp2_with fail
      refine (HAB.out w3).mono ?_
      rintro r w' ⟨rfl, rfl⟩
      go_wp2_with fail
      refine (HL2.out w3).mono ?_
      rintro r w' ⟨rfl, rfl⟩
      go_wp2_with fail
      refine (HBI.out w3).mono ?_
      rintro r w' ⟨rfl, rfl⟩
      go_wp2_with fail
      refine (HL3.out w3).mono ?_
      rintro r w' ⟨rfl, rfl⟩
      have h1 := H1.out
      have h2 := H2.out
      have h3 := H3.out
      go_wp2_with fail
      refine (HBI.out w3).mono ?_
      rintro r w' ⟨rfl, rfl⟩
      go_wp2_with fail
      clear h1 h2 h3
      refine (HIN.out w3).mono ?_
      rintro r w' ⟨rfl, rfl⟩
      go_wp2_with fail
      refine (aliveR_any w3 L3'.out).mono ?_
      rintro r w4 ⟨rfl, hb4⟩
      have hh4 : Below w.heap.size w w4 := hh3.trans (hb4.mono hh3.size)
      go_wp2_with fail
      go_ret
      exact ⟨rfl, hh4⟩

set_option maxRecDepth 100000 in
theorem two_out (m e : Int) (neg : Bool) (w : World) (hL : LaidR w) (h : m < 0 ∨ 9007199254740992 ≤ m ∨ e < -2000 ∨ 2000 < e) :
    Calls Tryd.prog 3 #[.int .i64 m, .int .i64 e, .bool neg] w fun e w' => e = .returned (.bool true) ∧ Below w.heap.size w w' := by
  have Al := Lib.hid (aliveR_any w hL)
  have way : decide (m < 0) = true ∨ (decide (m < 0) = false ∧ decide (9007199254740992 ≤ m) = true) ∨ (decide (m < 0) = false ∧ decide (9007199254740992 ≤ m) = false ∧ decide (e < -2000) = true) ∨
      (decide (m < 0) = false ∧ decide (9007199254740992 ≤ m) = false ∧ decide (e < -2000) = false ∧ decide (2000 < e) = true) := by
    simp only [decide_eq_true_eq, decide_eq_false_iff_not]
    omega
  clear h hL
  rcases way with t1 | ⟨t1, t2⟩ | ⟨t1, t2, t3⟩ | ⟨t1, t2, t3, t4⟩
  all_goals
    go_enter Tryd.func3, Tryd.ntmps3
    go_wp2_with fail
    refine Al.out.mono ?_
    rintro e w1 ⟨rfl, hb1⟩
    go_wp2_with fail
    go_ret
    exact ⟨rfl, hb1⟩

theorem two_in (m : Nat) (e : Int) (neg : Bool) (w : World) (hL : LaidR w) (hm : m < 9007199254740992) (he0 : -2000 ≤ e) (he1 : e ≤ 2000) :
    Calls Tryd.prog 3 #[.int .i64 (m : Int), .int .i64 e, .bool neg] w fun e w' => e = .returned (.bool true) ∧ Below w.heap.size w w' := by
  have hc : infR = 9218868437227405312 := rfl
  have hlen := twoT_len neg m e hm he0 he1
  have PA : ∀ W, LaidR W → Calls Tryd.prog 10 #[.string ⟨(twoT neg m e).toArray⟩] W fun r w' => r = .returned (.tuple #[.float .f64 (madeN neg (some (m, e))).1, .int .i64 (madeN neg (some (m, e))).2]) ∧ Below W.heap.size W w' := by
    intro W hW
    have := parse_any ⟨(twoT neg m e).toArray⟩ W hW (by rw [size_mk]; omega)
    rw [show (⟨(twoT neg m e).toArray⟩ : ByteArray).data.toList = twoT neg m e from by simp, parse_two neg m e hm he0 he1] at this
    exact this
  have sw : ∀ R, (if neg then Op.negFloat .f64 R else R) = sgnW neg R := fun R => rfl
  by_cases h0 : m = 0
  · subst h0
    obtain ⟨g1, g2⟩ := sgn_facts neg 0 (by omega)
    rw [made_zero] at PA
    refine two_walk neg 0 e w hL hm he0 he1 0 0 (sgnW neg 0) (sgnW neg 0) 0 0 0 (sgnW neg 0) 0 0 0 true (0 == e + 0) true false (floatOfInt_nat 0 (by omega)) (by omega) (by omega) PA
      (fun W => ldexpW_of 0 e 0 W (ldexp_zero e W)) (sw 0).symm (fun W => frexpW_of _ _ 0 W (frexp_zero _ g1 g2 W)) (fun W => ?_) (fun W => ldexpW_of 0 53 0 W (ldexp_zero 53 W)) (fun W => bits_any 0 W (by omega))
      (fun W => ldexpW_of 0 _ 0 W (ldexp_zero _ W)) (fun W => ?_) (fun _ W => ?_) (by rw [order_words 0 0 (by omega) (by omega)]; rfl) rfl rfl ?_
    · have := abs_any _ g1 W
      rwa [g2] at this
    · have := isinf_any _ g1 W
      rwa [g2, decide_eq_false (by omega)] at this
    · have := fsame_any _ _ g1 g1 W
      rwa [same_true rfl] at this
    · cases hb : ((0 : Int) == e + 0) with
      | true => exact Or.inl ⟨rfl, rfl, rfl, rfl⟩
      | false => exact Or.inr (Or.inl ⟨rfl, rfl, rfl, rfl, rfl⟩)
  · obtain ⟨f, hfw, hfl, hf⟩ := flt_field m h0 hm
    obtain ⟨l1, l2, l3, l4⟩ := bitLen_facts m h0 hm
    have hkey := two_key m e f h0 hm hf hfl
    have hR : ldN m e ≤ infR := Nat.min_le_right _ _
    obtain ⟨g1, g2⟩ := sgn_facts neg (ldN m e) hR
    obtain ⟨y, a, z, x, FR, AB, L2, hx, hb, hbi⟩ := two_back (sgnW neg (ldN m e)) (ldN m e) g1 g2 hR f (e + (Lib.bitLen m : Int)) hfl
    have L3 : Ans 11 #[.float .f64 (fltR m), .int .i64 (53 - (Lib.bitLen m : Int))] (.float .f64 (1075 * 4503599627370496 + f)) := by
      intro W
      have := ldexpW_any m (53 - (Lib.bitLen m : Int)) W h0 hm (by omega) (by omega)
      rw [ld_norm m _ f h0 hm hf (by omega) (by omega)] at this
      rwa [show (53 - (Lib.bitLen m : Int) + (Lib.bitLen m : Int) + 1022).toNat = 1075 from by omega] at this
    have IN : Ans 15 #[.float .f64 (sgnW neg (ldN m e)), .int .i64 0] (.bool (decide (ldN m e = infR))) := by
      intro W
      have := isinf_any _ g1 W
      rwa [g2] at this
    have hz0 : ((m : Int) == 0) = false := beq_eq_false_iff_ne.2 (by omega)
    have LD : Ans 11 #[.float .f64 (fltR m), .int .i64 e] (.float .f64 (ldN m e)) := fun W => ldexpW_any m e W h0 hm (by omega) (by omega)
    rw [made_join, hkey] at PA
    by_cases hok : ldN m e ≠ 0 ∧ ldN m e ≠ infR ∧ fieldN (ldN m e) = f ∧ expN (ldN m e) = e + (Lib.bitLen m : Int)
    · rw [if_pos hok] at PA
      rw [decide_eq_true hok, Bool.and_eq_true] at hb
      refine two_walk neg m e w hL hm he0 he1 (fltR m) (ldN m e) (sgnW neg (ldN m e)) y a z (1075 * 4503599627370496 + f) (sgnW neg (ldN m e)) (Lib.bitLen m) x 0 _ _ _ _ (floatOfInt_nat m (by omega)) l2 hx PA LD (sw _).symm FR AB L2
        (fun W => bits_any m W hm) L3 IN (fun _ W => ?_) hb.1 hb.2 hz0 (Or.inl ⟨rfl, rfl, decide_eq_false hok.2.1, rfl⟩)
      have := fsame_any _ _ g1 g1 W
      rwa [same_true rfl] at this
    · rw [if_neg hok] at PA
      rw [decide_eq_false hok, Bool.and_eq_false_iff] at hb
      refine two_walk neg m e w hL hm he0 he1 (fltR m) (ldN m e) (sgnW neg (ldN m e)) y a z (1075 * 4503599627370496 + f) 0 (Lib.bitLen m) x 11 _ _ _ _ (floatOfInt_nat m (by omega)) l2 hx PA LD (sw _).symm FR AB L2
        (fun W => bits_any m W hm) L3 IN (fun h => absurd h (by decide)) rfl rfl hz0 ?_
      by_cases hi : ldN m e = infR
      · exact Or.inr (Or.inr (Or.inl ⟨hbi hi, rfl, decide_eq_true hi, rfl⟩))
      · have hd : decide (ldN m e = infR) = false := decide_eq_false hi
        cases k1 : (FloatKind.f64.format.order z (1075 * 4503599627370496 + f) == some .eq) with
        | false => exact Or.inr (Or.inr (Or.inr (Or.inl ⟨rfl, rfl, hd, rfl⟩)))
        | true =>
          have k2 : (x == e + (Lib.bitLen m : Int)) = false := by
            rcases hb with h | h
            · rw [k1] at h; cases h
            · exact h
          exact Or.inr (Or.inr (Or.inr (Or.inr ⟨rfl, k2, rfl, hd, rfl⟩)))

theorem lawRealTwo (m : Int) (hm : (Lit.int .i64 m).wf = true) (e : Int) (he : (Lit.int .i64 e).wf = true) (neg : Bool) (w : World) (hL : LaidR w) :
    Calls Tryd.prog 3 #[.int .i64 m, .int .i64 e, .bool neg] w fun e w' => e = .returned (.bool true) ∧ Below w.heap.size w w' := by
  by_cases h : m < 0 ∨ 9007199254740992 ≤ m ∨ e < -2000 ∨ 2000 < e
  · exact two_out m e neg w hL h
  · obtain ⟨m, rfl⟩ := Int.eq_ofNat_of_zero_le (show 0 ≤ m by omega)
    exact two_in m e neg w hL (by omega) (by omega) (by omega)
end Go.Proofs.YtcnjjolmjpeeoaaDoor
