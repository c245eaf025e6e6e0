/-
  NetNone: of a nil and of a zero net.
-/
import Derived.Test.YtlogdbbaefpapaaNet12
namespace Go.Proofs.Ytlogdbbaefpapaa
open Go.RowKit Go.Maps

/-- A world behind w, with a zero net behind p. -/
structure Kz (w : World) (p : Nat) (W : World) : Prop where
  below : Below w.heap.size w W
  blk : Blk W p 47 #[.int .i64 0, .map none, .slice none 0 0, .int .i64 0]
theorem Kz.grown {w W W' : World} {p : Nat} (h : Kz w p W) (g : W.grownBy W' none) : Kz w p W' :=
  ⟨h.below.trans ⟨g.os, g.tape, g.output, g.size, fun k hk => g.block k (Nat.lt_of_lt_of_le hk h.below.size) (by simp)⟩, h.blk.grown g (by simp)⟩
theorem Kz.on {w W W' : World} {p : Nat} (h : Kz w p W) (g : Below W.heap.size W W') : Kz w p W' :=
  ⟨h.below.trans (g.mono h.below.size), h.blk.below g h.blk.lt⟩
theorem Kz.same {w W W' : World} {p : Nat} (h : Kz w p W) (g : W' = W) : Kz w p W' := g ▸ h

set_option maxRecDepth 100000 in
set_option maxHeartbeats 4000000 in
theorem lawNetNone (a : Int) (ha : (Lit.int .i64 a).wf = true) (b : Int) (hb : (Lit.int .i64 b).wf = true) (i : Int) (_hi : (Lit.int .i64 i).wf = true) (s : ByteArray) (_hs : s.size ≤ 140737488351232) (w : World) :
    Calls Try.prog 4 #[.int .i64 a, .int .i64 b, .int .i64 i, .string s] w fun e w' => e = .returned (.bool true) ∧ Below w.heap.size w w' := by
  have K0 : Hid (Kz w w.heap.size (w.alloc (.cells #[.int .i64 0, .map none, .slice none 0 0, .int .i64 0] 47))) := ⟨(Below.refl _ _).alloc (Nat.le_refl _) _, Blk.new _ _ _⟩
  have c1 := fun W (K : Kz w w.heap.size W) => Lib.hid ((peek_gen (.pointer none) i 1 none W (by decide) (Or.inr rfl) (fun W' _ => (number_nil i W').mono fun e w' h => ⟨Or.inr ⟨rfl, h.1⟩, h.2⟩)).mono fun e w' h => (⟨h.1, K.grown h.2⟩ : e = .returned (.tuple #[.int .i64 0, .int .i64 0, .string ⟨#[]⟩, .int .i64 1]) ∧ Kz w w.heap.size w'))
  have c2 := fun W (K : Kz w w.heap.size W) => Lib.hid ((deliver_no (.pointer (some ⟨w.heap.size, 0, none⟩)) i 1 W (by decide) (Or.inl ⟨_, rfl⟩) (fun W' h => number_zero _ i W' ((K.blk.grown h (by simp)).cell 0))).mono fun e w' h => (⟨h.1, K.grown h.2⟩ : e = .returned (.tuple #[.int .i64 0, .int .i64 0, .string ⟨#[]⟩, .int .i64 1]) ∧ Kz w w.heap.size w'))
  have c3 := fun W (K : Kz w w.heap.size W) => Lib.hid ((alive8_any W).mono fun e w' h => (⟨h.1, K.on h.2⟩ : e = .returned (.bool true) ∧ Kz w w.heap.size w'))
  have c4 := fun W (K : Kz w w.heap.size W) => Lib.hid ((send_no (.pointer none) a b s W (Or.inr rfl) (fun W' _ => between_nil a b W')).mono fun e w' h => (⟨h.1, K.grown h.2⟩ : e = .returned (.int .i64 1) ∧ Kz w w.heap.size w'))
  have hz : ∀ W W', Kz w w.heap.size W → W.grownBy W' none → Calls Try.prog 28 #[.pointer (some ⟨w.heap.size, 0, none⟩), .int .i64 a, .int .i64 b] W' fun e w' => e = gaveUp 1 ∧ W'.grownBy w' none := fun W W' K h => (between_any _ 0 a b W' ((K.blk.grown h (by simp)).cell 0)).mono fun e w' hh => ⟨hh.1.elim (fun h1 => by
      have := h1.1
      simp only [wayB, Bool.and_eq_true, decide_eq_true_eq] at this
      omega) (fun h1 => h1.2), hh.2⟩
  have c5 := fun W (K : Kz w w.heap.size W) => Lib.hid ((send_no (.pointer (some ⟨w.heap.size, 0, none⟩)) a b s W (Or.inl ⟨_, rfl⟩) (fun W' h => hz W W' K h)).mono fun e w' h => (⟨h.1, K.grown h.2⟩ : e = .returned (.int .i64 1) ∧ Kz w w.heap.size w'))
  have c6 := fun W (K : Kz w w.heap.size W) => Lib.hid ((drop_no (.pointer none) i 1 W (by decide) (Or.inr rfl) (fun W' _ => number_nil i W')).mono fun e w' h => (⟨h.1, K.grown h.2⟩ : e = .returned (.int .i64 1) ∧ Kz w w.heap.size w'))
  have c7 := fun W (K : Kz w w.heap.size W) => Lib.hid ((twice_no (.pointer (some ⟨w.heap.size, 0, none⟩)) i 1 W (by decide) (Or.inl ⟨_, rfl⟩) (fun W' h => number_zero _ i W' ((K.blk.grown h (by simp)).cell 0))).mono fun e w' h => (⟨h.1, K.grown h.2⟩ : e = .returned (.int .i64 1) ∧ Kz w w.heap.size w'))
  have c8 := fun W (K : Kz w w.heap.size W) => Lib.hid ((cut_no (.pointer none) a b true W (Or.inr rfl) (fun W' _ => between_nil a b W')).mono fun e w' h => (⟨h.1, K.grown h.2⟩ : e = .returned (.int .i64 1) ∧ Kz w w.heap.size w'))
  have c9 := fun W (K : Kz w w.heap.size W) => Lib.hid ((iscut_nil a b W).mono fun e w' h => (⟨h.1, K.same h.2⟩ : e = .returned (.bool false) ∧ Kz w w.heap.size w'))
  have c10 := fun W (K : Kz w w.heap.size W) => Lib.hid ((iscut_zero w.heap.size a b W (K.blk.cell 1) ha hb).mono fun e w' h => (⟨h.1, K.grown h.2⟩ : e = .returned (.bool false) ∧ Kz w w.heap.size w'))
  have c11 := fun W (K : Kz w w.heap.size W) => Lib.hid ((len_nil W).mono fun e w' h => (⟨h.1, K.same h.2⟩ : e = .returned (.int .i64 0) ∧ Kz w w.heap.size w'))
  have c12 := fun W (K : Kz w w.heap.size W) => Lib.hid ((len_at w.heap.size none 0 0 W (K.blk.cell 2)).mono fun e w' h => (⟨h.1, K.same h.2⟩ : e = .returned (.int .i64 0) ∧ Kz w w.heap.size w'))
  have c13 := fun W (K : Kz w w.heap.size W) => Lib.hid ((lost_nil W).mono fun e w' h => (⟨h.1, K.same h.2⟩ : e = .returned (.int .i64 0) ∧ Kz w w.heap.size w'))
  have c14 := fun W (K : Kz w w.heap.size W) => Lib.hid ((lost_at w.heap.size 0 W (K.blk.cell 3)).mono fun e w' h => (⟨h.1, K.same h.2⟩ : e = .returned (.int .i64 0) ∧ Kz w w.heap.size w'))
  clear hz ha hb
  go_enter Try.func4, Try.ntmps4
  go_wp2_with fail
  refine (c1 _ K0.out).out.mono ?_
  rintro e w1 ⟨rfl, h⟩
  have K1 := Lib.hid h
  clear h c1
  go_wp2_with fail
  refine (c2 _ K1.out).out.mono ?_
  rintro e w2 ⟨rfl, h⟩
  have K2 := Lib.hid h
  clear h c2
  go_wp2_with fail
  refine (c3 _ K2.out).out.mono ?_
  rintro e w3 ⟨rfl, h⟩
  have K3 := Lib.hid h
  clear h c3
  go_wp2_with fail
  refine (c4 _ K3.out).out.mono ?_
  rintro e w4 ⟨rfl, h⟩
  have K4 := Lib.hid h
  clear h c4
  go_wp2_with fail
  refine (c5 _ K4.out).out.mono ?_
  rintro e w5 ⟨rfl, h⟩
  have K5 := Lib.hid h
  clear h c5
  go_wp2_with fail
  refine (c6 _ K5.out).out.mono ?_
  rintro e w6 ⟨rfl, h⟩
  have K6 := Lib.hid h
  clear h c6
  go_wp2_with fail
  refine (c7 _ K6.out).out.mono ?_
  rintro e w7 ⟨rfl, h⟩
  have K7 := Lib.hid h
  clear h c7
  go_wp2_with fail
  refine (c8 _ K7.out).out.mono ?_
  rintro e w8 ⟨rfl, h⟩
  have K8 := Lib.hid h
  clear h c8
  go_wp2_with fail
  refine (c9 _ K8.out).out.mono ?_
  rintro e w9 ⟨rfl, h⟩
  have K9 := Lib.hid h
  clear h c9
  go_wp2_with fail
  refine (c10 _ K9.out).out.mono ?_
  rintro e w10 ⟨rfl, h⟩
  have K10 := Lib.hid h
  clear h c10
  go_wp2_with fail
  refine (c11 _ K10.out).out.mono ?_
  rintro e w11 ⟨rfl, h⟩
  have K11 := Lib.hid h
  clear h c11
  go_wp2_with fail
  refine (c12 _ K11.out).out.mono ?_
  rintro e w12 ⟨rfl, h⟩
  have K12 := Lib.hid h
  clear h c12
  go_wp2_with fail
  refine (c13 _ K12.out).out.mono ?_
  rintro e w13 ⟨rfl, h⟩
  have K13 := Lib.hid h
  clear h c13
  go_wp2_with fail
  refine (c14 _ K13.out).out.mono ?_
  rintro e w14 ⟨rfl, h⟩
  have K14 := Lib.hid h
  clear h c14
  go_wp2_with fail
  go_ret
  exact ⟨rfl, K14.out.below⟩
end Go.Proofs.Ytlogdbbaefpapaa
