/-
  Several texts in one: The landed package op: what its reader tells of bytes.
  The landed package op: Get.
  The document's own answer to chapter 6: what a key has behind an act.
  A number's text is read as the number (plain lists).
-/
import Derived.Test.YthacdegaeokgnaaDoorM4
import Derived.Test.YthacdegaeokgnaaDoorM3
import Derived.Test.YthacdegaeokgnaaDoorM2
import Derived.Test.YthacdegaeokgnaaDoorM1
namespace Go.Proofs.YthacdegaeokgnaaDoor
open Go.RowKit

/-! ### Whose bytes they are -/
theorem put_num {t : List UInt8} {x : Nat} (h8 : t.length = 8) (hx : rankN x = getL t) : putAL (a6 0 x 0 ⟨#[]⟩) = 0 :: 110 :: t := by
  unfold putAL a6
  simp only [if_pos, hx]
  rw [be_of h8]
  rfl
theorem put_most2 {t : List UInt8} {x : Nat} (h8 : t.length = 8) (hx : rankN x = getL t) : putAL (a6 2 x 0 ⟨#[]⟩) = 2 :: t := by
  unfold putAL a6
  simp only [hx]
  rw [be_of h8]
  rfl
theorem put_most3 {t : List UInt8} {x : Nat} (h8 : t.length = 8) (hx : rankN x = getL t) : putAL (a6 3 x 0 ⟨#[]⟩) = 3 :: t := by
  unfold putAL a6
  simp only [hx]
  rw [be_of h8]
  rfl
theorem put_int {t : List UInt8} (h8 : t.length = 8) : putAL (a6 1 0 (wrap64 (getL t)) ⟨#[]⟩) = 1 :: t := by
  have hlt := getL_lt t
  rw [h8] at hlt
  unfold putAL a6
  rw [eight_wrap _ (by simpa using hlt)]
  rw [be_of h8]
  rfl
theorem put_text {tx : ByteArray} (h : tx.data.toList ≠ []) : putAL (a6 0 0 0 tx) = 0 :: 116 :: tx.data.toList := by
  unfold putAL a6
  simp only [if_pos, if_neg h]
  rfl
theorem put_clear : putAL (a6 4 0 0 ⟨#[]⟩) = [4] := rfl

/-- What stands between two steps: the reader's rest, the result's cells, the act's cells, what is left as it was. -/
structure Rd6 (w W : World) (p q : Nat) (r : ByteArray) (kd : Int) (nu : Nat) (it : Int) (tx : ByteArray) : Prop where
  rd : ORd W p r
  res : Blk W w.heap.size 24 (actC 0 0 0 ⟨#[]⟩)
  act : Blk W q 24 (actC kd nu it tx)
  gr : w.grownBy W (some p)
  lt : p < w.heap.size
  lq : w.heap.size < q
section
variable {w W W' : World} {p q : Nat} {r r' : ByteArray} {kd : Int} {nu : Nat} {it : Int} {tx : ByteArray}
theorem Rd6.step (h : Rd6 w W p q r kd nu it tx) (B : ORd W' p r') (g : W.grownBy W' (some p)) : Rd6 w W' p q r' kd nu it tx :=
  ⟨B, kblk_by h.res g (by have := h.lt; omega), kblk_by h.act g (by have := h.lt; have := h.lq; omega), kgrow_trans h.gr g, h.lt, h.lq⟩
theorem Rd6.far (h : Rd6 w W p q r kd nu it tx) (j : Nat) (v : Value) : ORd (W.setCell ⟨q, j, none⟩ v) p r ∧ Blk (W.setCell ⟨q, j, none⟩ v) w.heap.size 24 (actC 0 0 0 ⟨#[]⟩) ∧ w.grownBy (W.setCell ⟨q, j, none⟩ v) (some p) :=
  ⟨h.rd.far (by have := h.lt; have := h.lq; dsimp only; omega) _, h.res.far (by have := h.lq; dsimp only; omega) _, only_setCell h.gr (Or.inr (by have := h.lq; dsimp only; omega)) _⟩
theorem Rd6.num (h : Rd6 w W p q r kd nu it tx) (x : Nat) : Rd6 w (W.setCell ⟨q, 1, none⟩ (.float .f64 x)) p q r kd x it tx :=
  ⟨(h.far 1 _).1, (h.far 1 _).2.1, by simpa [actC] using h.act.set_ 1 (.float .f64 x), (h.far 1 _).2.2, h.lt, h.lq⟩
theorem Rd6.int (h : Rd6 w W p q r kd nu it tx) (x : Int) : Rd6 w (W.setCell ⟨q, 2, none⟩ (.int .i64 x)) p q r kd nu x tx :=
  ⟨(h.far 2 _).1, (h.far 2 _).2.1, by simpa [actC] using h.act.set_ 2 (.int .i64 x), (h.far 2 _).2.2, h.lt, h.lq⟩
theorem Rd6.text (h : Rd6 w W p q r kd nu it tx) (x : ByteArray) : Rd6 w (W.setCell ⟨q, 3, none⟩ (.string x)) p q r kd nu it x :=
  ⟨(h.far 3 _).1, (h.far 3 _).2.1, by simpa [actC] using h.act.set_ 3 (.string x), (h.far 3 _).2.2, h.lt, h.lq⟩
theorem Rd6.below (h : Rd6 w W p q r kd nu it tx) (hb : Below W.heap.size W W') : Rd6 w W' p q r kd nu it tx :=
  ⟨h.rd.below hb h.rd.lt, h.res.below hb h.res.lt, h.act.below hb h.act.lt, kgrow_below h.gr hb, h.lt, h.lq⟩
end
theorem ext_str1 (s : ByteArray) (hk : 0 < s.size) : (s.extract 0 1).toList = [s[0]] := by
  rw [Lib.toList_data, cut_list]
  obtain ⟨l, hl⟩ := list_first s hk
  rw [hl]
  rfl
theorem nil_of_size {r : ByteArray} (h : r.size = 0) : (r.toList == []) = true := by
  rw [str_nil, decide_eq_true]
  have : r.data.toList.length = r.size := (str_size r).symm
  exact List.eq_nil_of_length_eq_zero (by omega)
theorem ne_of_size {r : ByteArray} (h : ¬ r.size = 0) : (r.toList == []) = false := by
  rw [str_nil, decide_eq_false]
  intro h0
  have : r.data.toList.length = r.size := (str_size r).symm
  rw [h0] at this
  simp at this
  omega

set_option maxRecDepth 100000 in
set_option maxHeartbeats 2000000 in
theorem oset_nil (w W : World) (p q : Nat) (s : ByteArray) (S : Rd6 w W p q s 0 0 0 ⟨#[]⟩) (_hs : s.size ≤ 140737488351232) (h0 : s.size = 0) :
    Calls Tryd.prog 67 #[.pointer (some ⟨p, 0, none⟩), .pointer (some ⟨q, 0, none⟩)] W fun e w' => e = oGave ∧ w.grownBy w' (some p) := by
  have T := Lib.hid (otake_short p s 1 W S.rd (by omega))
  go_enter Tryd.func67, Tryd.ntmps67
  go_wp2_with fail
  refine T.out.mono ?_
  rintro e w1 ⟨rfl, rfl⟩
  go_wp2_with fail
  exact ⟨rfl, rfl, S.gr⟩

set_option maxRecDepth 100000 in
set_option maxHeartbeats 2000000 in
theorem oset_other (w W : World) (p q : Nat) (s : ByteArray) (S : Rd6 w W p q s 0 0 0 ⟨#[]⟩) (hs : s.size ≤ 140737488351232) (hp : 0 < s.size) (c : UInt8) (h1 : s[0] = c) (h2 : c ≠ 110) (h3 : c ≠ 116) :
    Calls Tryd.prog 67 #[.pointer (some ⟨p, 0, none⟩), .pointer (some ⟨q, 0, none⟩)] W fun e w' => e = oGave ∧ w.grownBy w' (some p) := by
  have T := Lib.hid (otake_ok p s 1 W S.rd (by omega) hs)
  have hu := ext_str1 s hp
  rw [h1] at hu
  obtain ⟨u, hu0⟩ : ∃ u, s.extract 0 1 = u := ⟨_, rfl⟩
  simp only [hu0] at T hu
  have t1 : (u.toList == [110]) = false := by rw [hu]; rw [beq_eq_false_iff_ne]; intro h; exact h2 (List.cons.inj h).1
  have t2 : (u.toList == [116]) = false := by rw [hu]; rw [beq_eq_false_iff_ne]; intro h; exact h3 (List.cons.inj h).1
  obtain ⟨r, hr⟩ : ∃ r, s.extract 1 s.size = r := ⟨_, rfl⟩
  have hz := ext_size s 1 (by omega)
  simp only [hr] at *
  have hrs : r.size ≤ 140737488351232 := by omega
  clear hu hu0 hr
  go_enter Tryd.func67, Tryd.ntmps67
  go_wp2_with fail
  refine T.out.mono ?_
  rintro e w1 ⟨rfl, B1, g1⟩
  have S1 := Lib.hid (S.step B1 g1)
  clear B1 g1 T
  go_wp2_with fail
  exact ⟨rfl, rfl, S1.out.gr⟩

set_option maxRecDepth 100000 in
set_option maxHeartbeats 2000000 in
theorem oset_text0 (w W : World) (p q : Nat) (s : ByteArray) (S : Rd6 w W p q s 0 0 0 ⟨#[]⟩) (hs : s.size ≤ 140737488351232) (hp : 0 < s.size) (h1 : s[0] = 116) (h2 : (s.extract 1 s.size).size = 0) :
    Calls Tryd.prog 67 #[.pointer (some ⟨p, 0, none⟩), .pointer (some ⟨q, 0, none⟩)] W fun e w' => e = oGave ∧ w.grownBy w' (some p) := by
  have T := Lib.hid (otake_ok p s 1 W S.rd (by omega) hs)
  have hu := ext_str1 s hp
  rw [h1] at hu
  obtain ⟨u, hu0⟩ : ∃ u, s.extract 0 1 = u := ⟨_, rfl⟩
  simp only [hu0] at T hu
  have t1 : (u.toList == [110]) = false := by rw [hu]; decide
  have t2 : (u.toList == [116]) = true := by rw [hu]; rfl
  obtain ⟨r, hr⟩ : ∃ r, s.extract 1 s.size = r := ⟨_, rfl⟩
  have hz := ext_size s 1 (by omega)
  simp only [hr] at *
  have hrs : r.size ≤ 140737488351232 := by omega
  clear hu hu0 hr
  go_enter Tryd.func67, Tryd.ntmps67
  go_wp2_with fail
  refine T.out.mono ?_
  rintro e w1 ⟨rfl, B1, g1⟩
  have S1 := Lib.hid (S.step B1 g1)
  clear B1 g1 T
  have T := Lib.hid (otext_short p r w1 S1.out.rd h2)
  go_wp2_with fail
  refine T.out.mono ?_
  rintro e w2 ⟨rfl, rfl⟩
  go_wp2_with fail
  exact ⟨rfl, rfl, S1.out.gr⟩

set_option maxRecDepth 100000 in
set_option maxHeartbeats 2000000 in
theorem oset_text (w W : World) (p q : Nat) (s : ByteArray) (S : Rd6 w W p q s 0 0 0 ⟨#[]⟩) (hs : s.size ≤ 140737488351232) (hp : 0 < s.size) (h1 : s[0] = 116) (h2 : 0 < (s.extract 1 s.size).size) :
    Calls Tryd.prog 67 #[.pointer (some ⟨p, 0, none⟩), .pointer (some ⟨q, 0, none⟩)] W fun e w' => e = .returned (.tuple #[]) ∧ Rd6 w w' p q ⟨#[]⟩ 0 0 0 (s.extract 1 s.size) := by
  have T := Lib.hid (otake_ok p s 1 W S.rd (by omega) hs)
  have hu := ext_str1 s hp
  rw [h1] at hu
  obtain ⟨u, hu0⟩ : ∃ u, s.extract 0 1 = u := ⟨_, rfl⟩
  simp only [hu0] at T hu
  have t1 : (u.toList == [110]) = false := by rw [hu]; decide
  have t2 : (u.toList == [116]) = true := by rw [hu]; rfl
  obtain ⟨r, hr⟩ : ∃ r, s.extract 1 s.size = r := ⟨_, rfl⟩
  have hz := ext_size s 1 (by omega)
  simp only [hr] at *
  have hrs : r.size ≤ 140737488351232 := by omega
  clear hu hu0 hr
  go_enter Tryd.func67, Tryd.ntmps67
  go_wp2_with fail
  refine T.out.mono ?_
  rintro e w1 ⟨rfl, B1, g1⟩
  have S1 := Lib.hid (S.step B1 g1)
  clear B1 g1 T
  have T := Lib.hid (otext_ok p r w1 S1.out.rd h2 hrs)
  go_wp2_with fail
  refine T.out.mono ?_
  rintro e w2 ⟨rfl, B2, g2⟩
  have S2 := Lib.hid (S1.out.step B2 g2)
  clear B2 g2 T S1
  have z3 := S2.out.act.frozen 3
  obtain ⟨a0, a1, a2, a3⟩ := act_cells S2.out.act
  go_wp2_with fail
  go_end0
  exact ⟨rfl, S2.out.text r⟩

set_option maxRecDepth 100000 in
set_option maxHeartbeats 2000000 in
theorem oset_num8 (w W : World) (p q : Nat) (s : ByteArray) (S : Rd6 w W p q s 0 0 0 ⟨#[]⟩) (hs : s.size ≤ 140737488351232) (hp : 0 < s.size) (h1 : s[0] = 110) (h2 : (s.extract 1 s.size).size < 8) :
    Calls Tryd.prog 67 #[.pointer (some ⟨p, 0, none⟩), .pointer (some ⟨q, 0, none⟩)] W fun e w' => e = oGave ∧ w.grownBy w' (some p) := by
  have T := Lib.hid (otake_ok p s 1 W S.rd (by omega) hs)
  have hu := ext_str1 s hp
  rw [h1] at hu
  obtain ⟨u, hu0⟩ : ∃ u, s.extract 0 1 = u := ⟨_, rfl⟩
  simp only [hu0] at T hu
  have t1 : (u.toList == [110]) = true := by rw [hu]; rfl
  have t2 : (u.toList == [116]) = false := by rw [hu]; decide
  obtain ⟨r, hr⟩ : ∃ r, s.extract 1 s.size = r := ⟨_, rfl⟩
  have hz := ext_size s 1 (by omega)
  simp only [hr] at *
  have hrs : r.size ≤ 140737488351232 := by omega
  clear hu hu0 hr
  go_enter Tryd.func67, Tryd.ntmps67
  go_wp2_with fail
  refine T.out.mono ?_
  rintro e w1 ⟨rfl, B1, g1⟩
  have S1 := Lib.hid (S.step B1 g1)
  clear B1 g1 T
  have T := Lib.hid (onum_short p r w1 S1.out.rd h2)
  go_wp2_with fail
  refine T.out.mono ?_
  rintro e w2 ⟨rfl, rfl⟩
  go_wp2_with fail
  exact ⟨rfl, rfl, S1.out.gr⟩

/-- What the number of the first eight bytes is, and whether there is one. -/
theorem onum_get (s : ByteArray) (hk : 8 ≤ s.size) (hs : s.size ≤ 140737488351232) : ∃ x er, NumAt (getL (s.data.toList.take 8)) x er ∧
    (er = 0 → ∀ (p : Nat) (w : World), ORd w p s → Calls Tryd.prog 69 #[.pointer (some ⟨p, 0, none⟩)] w fun e w' => e = .returned (.float .f64 x) ∧ ORd w' p (s.extract 8 s.size) ∧ w.grownBy w' (some p)) ∧
    (er = 4 → ∀ (p : Nat) (w : World), ORd w p s → Calls Tryd.prog 69 #[.pointer (some ⟨p, 0, none⟩)] w fun e w' => e = oGave ∧ w.grownBy w' (some p)) := by
  obtain ⟨x, er, G, hN⟩ := fnum_any (s.extract 0 8) (by simp [ByteArray.size_extract]; omega)
  rw [str_take] at hN
  refine ⟨x, er, hN, ?_, ?_⟩
  · rintro rfl p w B
    exact onum_ok p s x w B hk hs (fun W => (G W).out)
  · rintro rfl p w B
    exact onum_bad p s x w B hk hs (fun W => (G W).out)

set_option maxRecDepth 100000 in
set_option maxHeartbeats 2000000 in
theorem oset_num_ok (w W : World) (p q : Nat) (s : ByteArray) (S : Rd6 w W p q s 0 0 0 ⟨#[]⟩) (hs : s.size ≤ 140737488351232) (hp : 0 < s.size) (h1 : s[0] = 110) (x : Nat) (NC : ∀ (p : Nat) (w : World), ORd w p (s.extract 1 s.size) → Calls Tryd.prog 69 #[.pointer (some ⟨p, 0, none⟩)] w fun e w' => e = .returned (.float .f64 x) ∧ ORd w' p ((s.extract 1 s.size).extract 8 (s.extract 1 s.size).size) ∧ w.grownBy w' (some p)) :
    Calls Tryd.prog 67 #[.pointer (some ⟨p, 0, none⟩), .pointer (some ⟨q, 0, none⟩)] W fun e w' => e = .returned (.tuple #[]) ∧ Rd6 w w' p q ((s.extract 1 s.size).extract 8 (s.extract 1 s.size).size) 0 x 0 ⟨#[]⟩ := by
  have T := Lib.hid (otake_ok p s 1 W S.rd (by omega) hs)
  have hu := ext_str1 s hp
  rw [h1] at hu
  obtain ⟨u, hu0⟩ : ∃ u, s.extract 0 1 = u := ⟨_, rfl⟩
  simp only [hu0] at T hu
  have t1 : (u.toList == [110]) = true := by rw [hu]; rfl
  have t2 : (u.toList == [116]) = false := by rw [hu]; decide
  obtain ⟨r, hr⟩ : ∃ r, s.extract 1 s.size = r := ⟨_, rfl⟩
  have hz := ext_size s 1 (by omega)
  simp only [hr] at *
  have hrs : r.size ≤ 140737488351232 := by omega
  clear hu hu0 hr
  have hst := run_sto_f64
  obtain ⟨r2, hr2⟩ : ∃ r2, r.extract 8 r.size = r2 := ⟨_, rfl⟩
  simp only [hr2] at *
  go_enter Tryd.func67, Tryd.ntmps67
  go_wp2_with fail
  refine T.out.mono ?_
  rintro e w1 ⟨rfl, B1, g1⟩
  have S1 := Lib.hid (S.step B1 g1)
  clear B1 g1 T
  have T := Lib.hid (NC p w1 S1.out.rd)
  go_wp2_with fail
  refine T.out.mono ?_
  rintro e w2 ⟨rfl, B2, g2⟩
  have S2 := Lib.hid (S1.out.step B2 g2)
  clear B2 g2 T S1
  have z1 := S2.out.act.frozen 1
  obtain ⟨a0, a1, a2, a3⟩ := act_cells S2.out.act
  go_wp2_with fail
  go_end0
  exact ⟨rfl, S2.out.num x⟩

set_option maxRecDepth 100000 in
set_option maxHeartbeats 2000000 in
theorem oset_num_bad (w W : World) (p q : Nat) (s : ByteArray) (S : Rd6 w W p q s 0 0 0 ⟨#[]⟩) (hs : s.size ≤ 140737488351232) (hp : 0 < s.size) (h1 : s[0] = 110) (NC : ∀ (p : Nat) (w : World), ORd w p (s.extract 1 s.size) → Calls Tryd.prog 69 #[.pointer (some ⟨p, 0, none⟩)] w fun e w' => e = oGave ∧ w.grownBy w' (some p)) :
    Calls Tryd.prog 67 #[.pointer (some ⟨p, 0, none⟩), .pointer (some ⟨q, 0, none⟩)] W fun e w' => e = oGave ∧ w.grownBy w' (some p) := by
  have T := Lib.hid (otake_ok p s 1 W S.rd (by omega) hs)
  have hu := ext_str1 s hp
  rw [h1] at hu
  obtain ⟨u, hu0⟩ : ∃ u, s.extract 0 1 = u := ⟨_, rfl⟩
  simp only [hu0] at T hu
  have t1 : (u.toList == [110]) = true := by rw [hu]; rfl
  have t2 : (u.toList == [116]) = false := by rw [hu]; decide
  obtain ⟨r, hr⟩ : ∃ r, s.extract 1 s.size = r := ⟨_, rfl⟩
  have hz := ext_size s 1 (by omega)
  simp only [hr] at *
  have hrs : r.size ≤ 140737488351232 := by omega
  clear hu hu0 hr
  go_enter Tryd.func67, Tryd.ntmps67
  go_wp2_with fail
  refine T.out.mono ?_
  rintro e w1 ⟨rfl, B1, g1⟩
  have S1 := Lib.hid (S.step B1 g1)
  clear B1 g1 T
  have T := Lib.hid (NC p w1 S1.out.rd)
  go_wp2_with fail
  refine T.out.mono ?_
  rintro e w2 ⟨rfl, g2⟩
  go_wp2_with fail
  exact ⟨rfl, rfl, kgrow_trans S1.out.gr g2⟩

/-- What comes of bytes: an act, or none. -/
def ActIs (e : Ending) (l : List UInt8) : Prop :=
  (∃ kd nu it tx, e = .returned (actV kd nu it tx) ∧ ActIn kd nu it tx ∧ GotA l (a6 kd nu it tx) 0) ∨ (e = oGave ∧ GotA l ⟨0, zr, 0, []⟩ 4)
theorem GotA.none {b : List UInt8} (h : NoOther b ⟨0, zr, 0, []⟩ 4) : GotA b ⟨0, zr, 0, []⟩ 4 := GotA.no h (fun e => absurd e.1 (by decide))
theorem oact_end {w : World} {p : Nat} {t : Array Value} {R : Ending → World → Prop} {kd : Int} {nu : Nat} {it : Int} {tx : ByteArray} (B : Blk w p 24 (actC kd nu it tx)) (h2 : t[2]?.getD undef = .pointer (some ⟨p, 0, none⟩)) (h : R (.returned (actV kd nu it tx)) w) :
    bodyPost Tryd.prog Tryd.f42 R .ret { tmps := t, defers := [] } w := by
  obtain ⟨c0, c1, c2, c3⟩ := act_cells B
  refine bodyPost_ret (v := actV kd nu it tx) ?_ rfl h
  simp [results, Tryd.results42, go_sem, c0, c1, c2, c3, h2, actV]
theorem grow_set4 {a w : World} {p q : Nat} (h : a.grownBy w (some q)) (hp : a.heap.size ≤ p) (v0 v1 v2 v3 : Value) :
    a.grownBy ((((w.setCell ⟨p, 0, none⟩ v0).setCell ⟨p, 1, none⟩ v1).setCell ⟨p, 2, none⟩ v2).setCell ⟨p, 3, none⟩ v3) (some q) :=
  only_setCell (only_setCell (only_setCell (only_setCell h (Or.inr hp) _) (Or.inr hp) _) (Or.inr hp) _) (Or.inr hp) _

set_option maxRecDepth 100000 in
set_option maxHeartbeats 2000000 in
theorem oact_nil (p : Nat) (s : ByteArray) (w : World) (B : ORd w p s) (h0 : s.size = 0) :
    Calls Tryd.prog 42 #[.pointer (some ⟨p, 0, none⟩)] w fun e w' => ActIs e s.data.toList ∧ w.grownBy w' (some p) := by
  have hl : s.data.toList = [] := List.eq_nil_of_length_eq_zero (by rw [← str_size]; exact h0)
  have T := Lib.hid (onext_short p s (w.alloc (.cells #[.int .i64 0, .float .f64 0, .int .i64 0, .string ⟨#[]⟩] 24)) (B.alloc _) h0)
  have G := Lib.hid (only_alloc (kgrow_refl w (some p)) (.cells #[.int .i64 0, .float .f64 0, .int .i64 0, .string ⟨#[]⟩] 24))
  rw [hl]
  go_enter Tryd.func42, Tryd.ntmps42
  go_wp2_with fail
  refine T.out.mono ?_
  rintro e w1 ⟨rfl, rfl⟩
  go_wp2_with fail
  exact ⟨rfl, Or.inr ⟨rfl, GotA.none (no_nil _ _)⟩, G.out⟩

set_option maxRecDepth 100000 in
set_option maxHeartbeats 2000000 in
theorem oact_0nil (p : Nat) (s : ByteArray) (w : World) (B : ORd w p s) (hs : s.size ≤ 140737488351232) (hp : 0 < s.size) (r : ByteArray) (hr : s.extract 1 s.size = r) (h0 : s[0] = 0) (h1 : r.size = 0) :
    Calls Tryd.prog 42 #[.pointer (some ⟨p, 0, none⟩)] w fun e w' => ActIs e s.data.toList ∧ w.grownBy w' (some p) := by
  have hl := list_rest1 s hp
  have T := onext_ok p s (w.alloc (.cells #[.int .i64 0, .float .f64 0, .int .i64 0, .string ⟨#[]⟩] 24)) (B.alloc _) hp hs
  rw [h0, hr] at T hl
  have hz := ext_size s 1 (by omega)
  rw [hr] at hz
  have hrs : r.size ≤ 140737488351232 := by omega
  obtain ⟨K, hK⟩ : ∃ K : Int, (0 : UInt8).toNat = K := ⟨_, rfl⟩
  rw [hK] at T
  have T := Lib.hid T
  have hK' : K = 0 := hK.symm
  subst hK'
  have HL := Lib.hid hl
  have X1 := Lib.hid (B.alloc (.cells #[.int .i64 0, .float .f64 0, .int .i64 0, .string ⟨#[]⟩] 24))
  have X2 := Lib.hid (Blk.new w 24 #[.int .i64 0, .float .f64 0, .int .i64 0, .string ⟨#[]⟩])
  have X3 := Lib.hid (only_alloc (kgrow_refl w (some p)) (.cells #[.int .i64 0, .float .f64 0, .int .i64 0, .string ⟨#[]⟩] 24))
  have hlt := B.lt
  have hst := run_sto_f64
  clear hl hr B
  go_enter Tryd.func42, Tryd.ntmps42
  go_wp2_with fail
  generalize w.alloc (.cells #[.int .i64 0, .float .f64 0, .int .i64 0, .string ⟨#[]⟩] 24) = w0 at *
  refine T.out.mono ?_
  rintro e w1 ⟨rfl, B1, g1⟩
  have hsz1 : w.heap.size < w1.heap.size := by have := X2.out.lt; have := g1.size; omega
  have S0 : Hid (Rd6 w (w1.alloc (.cells #[.int .i64 0, .float .f64 0, .int .i64 0, .string ⟨#[]⟩] 24)) p w1.heap.size r 0 0 0 ⟨#[]⟩) :=
    ⟨Blk.alloc B1 _, (kblk_by X2.out g1 (by omega)).alloc _, Blk.new w1 _ _, only_alloc (kgrow_trans X3.out g1) _, hlt, hsz1⟩
  clear B1 g1 T X1 X2 X3
  have G : Hid (ActIs oGave s.data.toList) := Or.inr ⟨rfl, GotA.none (by rw [HL.out]; exact by rw [show r.data.toList = [] from List.eq_nil_of_length_eq_zero (by rw [← str_size]; exact h1)]; exact no_set _ _ (fun t h => by cases h) (fun t h => by cases h))⟩
  have Q := Lib.hid (oset_nil w (w1.alloc (.cells #[.int .i64 0, .float .f64 0, .int .i64 0, .string ⟨#[]⟩] 24)) p w1.heap.size r S0.out hrs h1)
  go_wp2_with fail
  refine Q.out.mono ?_
  rintro e w2 ⟨rfl, g2⟩
  go_wp2_with fail
  exact ⟨rfl, G.out, g2⟩

set_option maxRecDepth 100000 in
set_option maxHeartbeats 2000000 in
theorem oact_0other (p : Nat) (s : ByteArray) (w : World) (B : ORd w p s) (hs : s.size ≤ 140737488351232) (hp : 0 < s.size) (r : ByteArray) (hr : s.extract 1 s.size = r) (h0 : s[0] = 0) (hp2 : 0 < r.size) (c : UInt8) (h1 : r[0] = c) (h2 : c ≠ 110) (h3 : c ≠ 116) :
    Calls Tryd.prog 42 #[.pointer (some ⟨p, 0, none⟩)] w fun e w' => ActIs e s.data.toList ∧ w.grownBy w' (some p) := by
  have hl := list_rest1 s hp
  have T := onext_ok p s (w.alloc (.cells #[.int .i64 0, .float .f64 0, .int .i64 0, .string ⟨#[]⟩] 24)) (B.alloc _) hp hs
  rw [h0, hr] at T hl
  have hz := ext_size s 1 (by omega)
  rw [hr] at hz
  have hrs : r.size ≤ 140737488351232 := by omega
  obtain ⟨K, hK⟩ : ∃ K : Int, (0 : UInt8).toNat = K := ⟨_, rfl⟩
  rw [hK] at T
  have T := Lib.hid T
  have hK' : K = 0 := hK.symm
  subst hK'
  have HL := Lib.hid hl
  have X1 := Lib.hid (B.alloc (.cells #[.int .i64 0, .float .f64 0, .int .i64 0, .string ⟨#[]⟩] 24))
  have X2 := Lib.hid (Blk.new w 24 #[.int .i64 0, .float .f64 0, .int .i64 0, .string ⟨#[]⟩])
  have X3 := Lib.hid (only_alloc (kgrow_refl w (some p)) (.cells #[.int .i64 0, .float .f64 0, .int .i64 0, .string ⟨#[]⟩] 24))
  have hlt := B.lt
  have hst := run_sto_f64
  clear hl hr B
  go_enter Tryd.func42, Tryd.ntmps42
  go_wp2_with fail
  generalize w.alloc (.cells #[.int .i64 0, .float .f64 0, .int .i64 0, .string ⟨#[]⟩] 24) = w0 at *
  refine T.out.mono ?_
  rintro e w1 ⟨rfl, B1, g1⟩
  have hsz1 : w.heap.size < w1.heap.size := by have := X2.out.lt; have := g1.size; omega
  have S0 : Hid (Rd6 w (w1.alloc (.cells #[.int .i64 0, .float .f64 0, .int .i64 0, .string ⟨#[]⟩] 24)) p w1.heap.size r 0 0 0 ⟨#[]⟩) :=
    ⟨Blk.alloc B1 _, (kblk_by X2.out g1 (by omega)).alloc _, Blk.new w1 _ _, only_alloc (kgrow_trans X3.out g1) _, hlt, hsz1⟩
  clear B1 g1 T X1 X2 X3
  have hl2 := list_rest1 r hp2
  rw [h1] at hl2
  have G : Hid (ActIs oGave s.data.toList) := Or.inr ⟨rfl, GotA.none (by rw [HL.out]; exact by rw [hl2]; exact no_set _ _ (fun t h => absurd (List.cons.inj h).1 h3) (fun t h => h2 (List.cons.inj h).1))⟩
  have Q := Lib.hid (oset_other w (w1.alloc (.cells #[.int .i64 0, .float .f64 0, .int .i64 0, .string ⟨#[]⟩] 24)) p w1.heap.size r S0.out hrs hp2 c h1 h2 h3)
  go_wp2_with fail
  refine Q.out.mono ?_
  rintro e w2 ⟨rfl, g2⟩
  go_wp2_with fail
  exact ⟨rfl, G.out, g2⟩

set_option maxRecDepth 100000 in
set_option maxHeartbeats 2000000 in
theorem oact_0text0 (p : Nat) (s : ByteArray) (w : World) (B : ORd w p s) (hs : s.size ≤ 140737488351232) (hp : 0 < s.size) (r : ByteArray) (hr : s.extract 1 s.size = r) (h0 : s[0] = 0) (hp2 : 0 < r.size) (h1 : r[0] = 116) (t : ByteArray) (ht : r.extract 1 r.size = t) (h2 : t.size = 0) :
    Calls Tryd.prog 42 #[.pointer (some ⟨p, 0, none⟩)] w fun e w' => ActIs e s.data.toList ∧ w.grownBy w' (some p) := by
  have hl := list_rest1 s hp
  have T := onext_ok p s (w.alloc (.cells #[.int .i64 0, .float .f64 0, .int .i64 0, .string ⟨#[]⟩] 24)) (B.alloc _) hp hs
  rw [h0, hr] at T hl
  have hz := ext_size s 1 (by omega)
  rw [hr] at hz
  have hrs : r.size ≤ 140737488351232 := by omega
  obtain ⟨K, hK⟩ : ∃ K : Int, (0 : UInt8).toNat = K := ⟨_, rfl⟩
  rw [hK] at T
  have T := Lib.hid T
  have hK' : K = 0 := hK.symm
  subst hK'
  have HL := Lib.hid hl
  have X1 := Lib.hid (B.alloc (.cells #[.int .i64 0, .float .f64 0, .int .i64 0, .string ⟨#[]⟩] 24))
  have X2 := Lib.hid (Blk.new w 24 #[.int .i64 0, .float .f64 0, .int .i64 0, .string ⟨#[]⟩])
  have X3 := Lib.hid (only_alloc (kgrow_refl w (some p)) (.cells #[.int .i64 0, .float .f64 0, .int .i64 0, .string ⟨#[]⟩] 24))
  have hlt := B.lt
  have hst := run_sto_f64
  clear hl hr B
  go_enter Tryd.func42, Tryd.ntmps42
  go_wp2_with fail
  generalize w.alloc (.cells #[.int .i64 0, .float .f64 0, .int .i64 0, .string ⟨#[]⟩] 24) = w0 at *
  refine T.out.mono ?_
  rintro e w1 ⟨rfl, B1, g1⟩
  have hsz1 : w.heap.size < w1.heap.size := by have := X2.out.lt; have := g1.size; omega
  have S0 : Hid (Rd6 w (w1.alloc (.cells #[.int .i64 0, .float .f64 0, .int .i64 0, .string ⟨#[]⟩] 24)) p w1.heap.size r 0 0 0 ⟨#[]⟩) :=
    ⟨Blk.alloc B1 _, (kblk_by X2.out g1 (by omega)).alloc _, Blk.new w1 _ _, only_alloc (kgrow_trans X3.out g1) _, hlt, hsz1⟩
  clear B1 g1 T X1 X2 X3
  have hl2 := list_rest1 r hp2
  rw [h1, ht] at hl2
  have hn : t.data.toList = [] := List.eq_nil_of_length_eq_zero (by rw [← str_size]; exact h2)
  have G : Hid (ActIs oGave s.data.toList) := Or.inr ⟨rfl, GotA.none (by rw [HL.out]; exact by rw [hl2, hn]; exact no_set _ _ (fun t h => (List.cons.inj h).2.symm) (fun t h => absurd (List.cons.inj h).1 (by decide)))⟩
  have Q := Lib.hid (oset_text0 w (w1.alloc (.cells #[.int .i64 0, .float .f64 0, .int .i64 0, .string ⟨#[]⟩] 24)) p w1.heap.size r S0.out hrs hp2 h1 (by rw [ht]; exact h2))
  go_wp2_with fail
  refine Q.out.mono ?_
  rintro e w2 ⟨rfl, g2⟩
  go_wp2_with fail
  exact ⟨rfl, G.out, g2⟩

set_option maxRecDepth 100000 in
set_option maxHeartbeats 2000000 in
theorem oact_0text (p : Nat) (s : ByteArray) (w : World) (B : ORd w p s) (hs : s.size ≤ 140737488351232) (hp : 0 < s.size) (r : ByteArray) (hr : s.extract 1 s.size = r) (h0 : s[0] = 0) (hp2 : 0 < r.size) (h1 : r[0] = 116) (t : ByteArray) (ht : r.extract 1 r.size = t) (h2 : 0 < t.size) :
    Calls Tryd.prog 42 #[.pointer (some ⟨p, 0, none⟩)] w fun e w' => ActIs e s.data.toList ∧ w.grownBy w' (some p) := by
  have hl := list_rest1 s hp
  have T := onext_ok p s (w.alloc (.cells #[.int .i64 0, .float .f64 0, .int .i64 0, .string ⟨#[]⟩] 24)) (B.alloc _) hp hs
  rw [h0, hr] at T hl
  have hz := ext_size s 1 (by omega)
  rw [hr] at hz
  have hrs : r.size ≤ 140737488351232 := by omega
  obtain ⟨K, hK⟩ : ∃ K : Int, (0 : UInt8).toNat = K := ⟨_, rfl⟩
  rw [hK] at T
  have T := Lib.hid T
  have hK' : K = 0 := hK.symm
  subst hK'
  have HL := Lib.hid hl
  have X1 := Lib.hid (B.alloc (.cells #[.int .i64 0, .float .f64 0, .int .i64 0, .string ⟨#[]⟩] 24))
  have X2 := Lib.hid (Blk.new w 24 #[.int .i64 0, .float .f64 0, .int .i64 0, .string ⟨#[]⟩])
  have X3 := Lib.hid (only_alloc (kgrow_refl w (some p)) (.cells #[.int .i64 0, .float .f64 0, .int .i64 0, .string ⟨#[]⟩] 24))
  have hlt := B.lt
  have hst := run_sto_f64
  clear hl hr B
  go_enter Tryd.func42, Tryd.ntmps42
  go_wp2_with fail
  generalize w.alloc (.cells #[.int .i64 0, .float .f64 0, .int .i64 0, .string ⟨#[]⟩] 24) = w0 at *
  refine T.out.mono ?_
  rintro e w1 ⟨rfl, B1, g1⟩
  have hsz1 : w.heap.size < w1.heap.size := by have := X2.out.lt; have := g1.size; omega
  have S0 : Hid (Rd6 w (w1.alloc (.cells #[.int .i64 0, .float .f64 0, .int .i64 0, .string ⟨#[]⟩] 24)) p w1.heap.size r 0 0 0 ⟨#[]⟩) :=
    ⟨Blk.alloc B1 _, (kblk_by X2.out g1 (by omega)).alloc _, Blk.new w1 _ _, only_alloc (kgrow_trans X3.out g1) _, hlt, hsz1⟩
  clear B1 g1 T X1 X2 X3
  have hl2 := list_rest1 r hp2
  rw [h1, ht] at hl2
  have HL2 := Lib.hid (HL.out.trans (by rw [hl2]))
  clear hl2
  have Q := (oset_text w (w1.alloc (.cells #[.int .i64 0, .float .f64 0, .int .i64 0, .string ⟨#[]⟩] 24)) p w1.heap.size r S0.out hrs hp2 h1 (by rw [ht]; exact h2))
  rw [ht] at Q
  have Q := Lib.hid Q
  go_wp2_with fail
  refine Q.out.mono ?_
  rintro e w2 ⟨rfl, S2⟩
  have S2 := Lib.hid S2
  have hts : t.size ≤ 9223372036854775807 := by have := ext_size r 1 (by omega); rw [ht] at this; omega
  obtain ⟨tx, htx⟩ : ∃ tx, t = tx := ⟨_, rfl⟩
  subst htx
  have hne : t.data.toList ≠ [] := fun h => by have h0 := str_size t; rw [h, List.length_nil] at h0; omega
  obtain ⟨r2, hr0⟩ : ∃ r2, (⟨#[]⟩ : ByteArray) = r2 := ⟨_, rfl⟩
  have S2 : Hid (Rd6 w w2 p w1.heap.size r2 0 0 0 t) := by rw [← hr0]; exact S2.out
  have hr00 : r2.size = 0 := by rw [← hr0]; rfl
  clear hr0
  obtain ⟨a0, a1, a2, a3⟩ := act_cells S2.out.act
  have c0 : _ = some (Value.string r2) := S2.out.rd.cell 0
  have z0 := S2.out.res.frozen 0
  have z1 := S2.out.res.frozen 1
  have z2 := S2.out.res.frozen 2
  have z3 := S2.out.res.frozen 3
  obtain ⟨y0, y1, y2, y3⟩ := act_cells S2.out.res
  have hst := run_sto_f64
  have I : Hid (ActIn 0 0 0 t) := ⟨by decide, by decide, by decide, hts⟩
  by_cases hr2 : r2.size = 0
  · have n1 := nil_of_size hr2
    have NO : Hid (NoOther s.data.toList (a6 0 0 0 t) 0) := (by rw [HL2.out]; unfold a6; rw [rank_zero]; exact no_text hne)
    have PU : Hid (rightA (a6 0 0 0 t) = true → putAL (a6 0 0 0 t) = s.data.toList) := fun hq => (by rw [HL2.out]; exact put_text hne)
    have R := fun W => Lib.hid (lright_any 0 0 0 t I.out W)
    obtain ⟨qq, hq⟩ : ∃ qq, rightA (a6 0 0 0 t) = qq := ⟨_, rfl⟩
    rw [hq] at R
    simp only [actV] at R
    cases qq
    · have G : Hid (ActIs oGave s.data.toList) := Or.inr ⟨rfl, GotA.no NO.out (fun h => by have h2 := h.2.1; rw [hq] at h2; cases h2)⟩
      clear hq y0 y1 y2 y3 z0 z1 z2 z3
      go_wp2_with fail
      refine (R _).out.mono ?_
      rintro e w5 ⟨rfl, g5⟩
      go_wp2_with fail
      exact ⟨rfl, G.out, (S2.out.below g5).gr⟩
    · have G := Lib.hid (GotA.ok hq (PU.out hq))
      clear hq y0 y1 y2 y3 z0 z1 z2 z3
      go_wp2_with fail
      refine (R _).out.mono ?_
      rintro e w5 ⟨rfl, g5⟩
      have S5 := Lib.hid (S2.out.below g5)
      clear g5 a0 a1 a2 a3 c0
      obtain ⟨a0, a1, a2, a3⟩ := act_cells S5.out.act
      obtain ⟨y0, y1, y2, y3⟩ := act_cells S5.out.res
      have z0 := S5.out.res.frozen 0
      have z1 := S5.out.res.frozen 1
      have z2 := S5.out.res.frozen 2
      have z3 := S5.out.res.frozen 3
      go_wp2_with fail
      try simp only [Exit.inBlock, Exit.then]
      exact oact_end (blk_set4 S5.out.res (.int .i64 0) (.float .f64 0) (.int .i64 0) (.string t)) rfl ⟨Or.inl ⟨_, _, _, _, rfl, I.out, G.out⟩, grow_set4 S5.out.gr (Nat.le_refl _) _ _ _ _⟩
  · exact absurd hr00 hr2

set_option maxRecDepth 100000 in
set_option maxHeartbeats 2000000 in
theorem oact_0num8 (p : Nat) (s : ByteArray) (w : World) (B : ORd w p s) (hs : s.size ≤ 140737488351232) (hp : 0 < s.size) (r : ByteArray) (hr : s.extract 1 s.size = r) (h0 : s[0] = 0) (hp2 : 0 < r.size) (h1 : r[0] = 110) (t : ByteArray) (ht : r.extract 1 r.size = t) (h2 : t.size < 8) :
    Calls Tryd.prog 42 #[.pointer (some ⟨p, 0, none⟩)] w fun e w' => ActIs e s.data.toList ∧ w.grownBy w' (some p) := by
  have hl := list_rest1 s hp
  have T := onext_ok p s (w.alloc (.cells #[.int .i64 0, .float .f64 0, .int .i64 0, .string ⟨#[]⟩] 24)) (B.alloc _) hp hs
  rw [h0, hr] at T hl
  have hz := ext_size s 1 (by omega)
  rw [hr] at hz
  have hrs : r.size ≤ 140737488351232 := by omega
  obtain ⟨K, hK⟩ : ∃ K : Int, (0 : UInt8).toNat = K := ⟨_, rfl⟩
  rw [hK] at T
  have T := Lib.hid T
  have hK' : K = 0 := hK.symm
  subst hK'
  have HL := Lib.hid hl
  have X1 := Lib.hid (B.alloc (.cells #[.int .i64 0, .float .f64 0, .int .i64 0, .string ⟨#[]⟩] 24))
  have X2 := Lib.hid (Blk.new w 24 #[.int .i64 0, .float .f64 0, .int .i64 0, .string ⟨#[]⟩])
  have X3 := Lib.hid (only_alloc (kgrow_refl w (some p)) (.cells #[.int .i64 0, .float .f64 0, .int .i64 0, .string ⟨#[]⟩] 24))
  have hlt := B.lt
  have hst := run_sto_f64
  clear hl hr B
  go_enter Tryd.func42, Tryd.ntmps42
  go_wp2_with fail
  generalize w.alloc (.cells #[.int .i64 0, .float .f64 0, .int .i64 0, .string ⟨#[]⟩] 24) = w0 at *
  refine T.out.mono ?_
  rintro e w1 ⟨rfl, B1, g1⟩
  have hsz1 : w.heap.size < w1.heap.size := by have := X2.out.lt; have := g1.size; omega
  have S0 : Hid (Rd6 w (w1.alloc (.cells #[.int .i64 0, .float .f64 0, .int .i64 0, .string ⟨#[]⟩] 24)) p w1.heap.size r 0 0 0 ⟨#[]⟩) :=
    ⟨Blk.alloc B1 _, (kblk_by X2.out g1 (by omega)).alloc _, Blk.new w1 _ _, only_alloc (kgrow_trans X3.out g1) _, hlt, hsz1⟩
  clear B1 g1 T X1 X2 X3
  have hl2 := list_rest1 r hp2
  rw [h1, ht] at hl2
  have G : Hid (ActIs oGave s.data.toList) := Or.inr ⟨rfl, GotA.none (by rw [HL.out]; exact by rw [hl2]; exact no_num8 _ _ (by rw [← str_size]; omega))⟩
  have Q := Lib.hid (oset_num8 w (w1.alloc (.cells #[.int .i64 0, .float .f64 0, .int .i64 0, .string ⟨#[]⟩] 24)) p w1.heap.size r S0.out hrs hp2 h1 (by rw [ht]; exact h2))
  go_wp2_with fail
  refine Q.out.mono ?_
  rintro e w2 ⟨rfl, g2⟩
  go_wp2_with fail
  exact ⟨rfl, G.out, g2⟩

set_option maxRecDepth 100000 in
set_option maxHeartbeats 2000000 in
theorem oact_0numbad (p : Nat) (s : ByteArray) (w : World) (B : ORd w p s) (hs : s.size ≤ 140737488351232) (hp : 0 < s.size) (r : ByteArray) (hr : s.extract 1 s.size = r) (h0 : s[0] = 0) (hp2 : 0 < r.size) (h1 : r[0] = 110) (t : ByteArray) (ht : r.extract 1 r.size = t) (x : Nat) (hN : NumAt (getL ((t).data.toList.take 8)) x 4) (_h2 : 8 ≤ (t).size) (NC : ∀ (p : Nat) (w : World), ORd w p (t) → Calls Tryd.prog 69 #[.pointer (some ⟨p, 0, none⟩)] w fun e w' => e = oGave ∧ w.grownBy w' (some p)) :
    Calls Tryd.prog 42 #[.pointer (some ⟨p, 0, none⟩)] w fun e w' => ActIs e s.data.toList ∧ w.grownBy w' (some p) := by
  have hl := list_rest1 s hp
  have T := onext_ok p s (w.alloc (.cells #[.int .i64 0, .float .f64 0, .int .i64 0, .string ⟨#[]⟩] 24)) (B.alloc _) hp hs
  rw [h0, hr] at T hl
  have hz := ext_size s 1 (by omega)
  rw [hr] at hz
  have hrs : r.size ≤ 140737488351232 := by omega
  obtain ⟨K, hK⟩ : ∃ K : Int, (0 : UInt8).toNat = K := ⟨_, rfl⟩
  rw [hK] at T
  have T := Lib.hid T
  have hK' : K = 0 := hK.symm
  subst hK'
  have HL := Lib.hid hl
  have X1 := Lib.hid (B.alloc (.cells #[.int .i64 0, .float .f64 0, .int .i64 0, .string ⟨#[]⟩] 24))
  have X2 := Lib.hid (Blk.new w 24 #[.int .i64 0, .float .f64 0, .int .i64 0, .string ⟨#[]⟩])
  have X3 := Lib.hid (only_alloc (kgrow_refl w (some p)) (.cells #[.int .i64 0, .float .f64 0, .int .i64 0, .string ⟨#[]⟩] 24))
  have hlt := B.lt
  have hst := run_sto_f64
  clear hl hr B
  go_enter Tryd.func42, Tryd.ntmps42
  go_wp2_with fail
  generalize w.alloc (.cells #[.int .i64 0, .float .f64 0, .int .i64 0, .string ⟨#[]⟩] 24) = w0 at *
  refine T.out.mono ?_
  rintro e w1 ⟨rfl, B1, g1⟩
  have hsz1 : w.heap.size < w1.heap.size := by have := X2.out.lt; have := g1.size; omega
  have S0 : Hid (Rd6 w (w1.alloc (.cells #[.int .i64 0, .float .f64 0, .int .i64 0, .string ⟨#[]⟩] 24)) p w1.heap.size r 0 0 0 ⟨#[]⟩) :=
    ⟨Blk.alloc B1 _, (kblk_by X2.out g1 (by omega)).alloc _, Blk.new w1 _ _, only_alloc (kgrow_trans X3.out g1) _, hlt, hsz1⟩
  clear B1 g1 T X1 X2 X3
  have hl2 := list_rest1 r hp2
  rw [h1, ht] at hl2
  have G : Hid (ActIs oGave s.data.toList) := Or.inr ⟨rfl, by
    by_cases h8 : t.size = 8
    · have hln : t.data.toList.length = 8 := by rw [← str_size]; exact h8
      rw [List.take_of_length_le (Nat.le_of_eq hln)] at hN
      rw [HL.out, hl2]
      exact GotA.no (no_num hln hN) (fun h => absurd h.1 (by decide))
    · rw [HL.out, hl2]
      exact GotA.none (no_num8 _ _ (by rw [← str_size]; exact h8))⟩
  have Q := Lib.hid (oset_num_bad w (w1.alloc (.cells #[.int .i64 0, .float .f64 0, .int .i64 0, .string ⟨#[]⟩] 24)) p w1.heap.size r S0.out hrs hp2 h1 (by rw [ht]; exact NC))
  go_wp2_with fail
  refine Q.out.mono ?_
  rintro e w2 ⟨rfl, g2⟩
  go_wp2_with fail
  exact ⟨rfl, G.out, g2⟩

set_option maxRecDepth 100000 in
set_option maxHeartbeats 2000000 in
theorem oact_0num (p : Nat) (s : ByteArray) (w : World) (B : ORd w p s) (hs : s.size ≤ 140737488351232) (hp : 0 < s.size) (r : ByteArray) (hr : s.extract 1 s.size = r) (h0 : s[0] = 0) (hp2 : 0 < r.size) (h1 : r[0] = 110) (t : ByteArray) (ht : r.extract 1 r.size = t) (x : Nat) (hN : NumAt (getL ((t).data.toList.take 8)) x 0) (h2 : 8 ≤ (t).size) (NC : ∀ (p : Nat) (w : World), ORd w p (t) → Calls Tryd.prog 69 #[.pointer (some ⟨p, 0, none⟩)] w fun e w' => e = .returned (.float .f64 x) ∧ ORd w' p ((t).extract 8 (t).size) ∧ w.grownBy w' (some p)) :
    Calls Tryd.prog 42 #[.pointer (some ⟨p, 0, none⟩)] w fun e w' => ActIs e s.data.toList ∧ w.grownBy w' (some p) := by
  have hl := list_rest1 s hp
  have T := onext_ok p s (w.alloc (.cells #[.int .i64 0, .float .f64 0, .int .i64 0, .string ⟨#[]⟩] 24)) (B.alloc _) hp hs
  rw [h0, hr] at T hl
  have hz := ext_size s 1 (by omega)
  rw [hr] at hz
  have hrs : r.size ≤ 140737488351232 := by omega
  obtain ⟨K, hK⟩ : ∃ K : Int, (0 : UInt8).toNat = K := ⟨_, rfl⟩
  rw [hK] at T
  have T := Lib.hid T
  have hK' : K = 0 := hK.symm
  subst hK'
  have HL := Lib.hid hl
  have X1 := Lib.hid (B.alloc (.cells #[.int .i64 0, .float .f64 0, .int .i64 0, .string ⟨#[]⟩] 24))
  have X2 := Lib.hid (Blk.new w 24 #[.int .i64 0, .float .f64 0, .int .i64 0, .string ⟨#[]⟩])
  have X3 := Lib.hid (only_alloc (kgrow_refl w (some p)) (.cells #[.int .i64 0, .float .f64 0, .int .i64 0, .string ⟨#[]⟩] 24))
  have hlt := B.lt
  have hst := run_sto_f64
  clear hl hr B
  go_enter Tryd.func42, Tryd.ntmps42
  go_wp2_with fail
  generalize w.alloc (.cells #[.int .i64 0, .float .f64 0, .int .i64 0, .string ⟨#[]⟩] 24) = w0 at *
  refine T.out.mono ?_
  rintro e w1 ⟨rfl, B1, g1⟩
  have hsz1 : w.heap.size < w1.heap.size := by have := X2.out.lt; have := g1.size; omega
  have S0 : Hid (Rd6 w (w1.alloc (.cells #[.int .i64 0, .float .f64 0, .int .i64 0, .string ⟨#[]⟩] 24)) p w1.heap.size r 0 0 0 ⟨#[]⟩) :=
    ⟨Blk.alloc B1 _, (kblk_by X2.out g1 (by omega)).alloc _, Blk.new w1 _ _, only_alloc (kgrow_trans X3.out g1) _, hlt, hsz1⟩
  clear B1 g1 T X1 X2 X3
  have hl2 := list_rest1 r hp2
  rw [h1, ht] at hl2
  have HL2 := Lib.hid (HL.out.trans (by rw [hl2]))
  clear hl2
  have Q := (oset_num_ok w (w1.alloc (.cells #[.int .i64 0, .float .f64 0, .int .i64 0, .string ⟨#[]⟩] 24)) p w1.heap.size r S0.out hrs hp2 h1 x (by rw [ht]; exact NC))
  rw [ht] at Q
  have Q := Lib.hid Q
  go_wp2_with fail
  refine Q.out.mono ?_
  rintro e w2 ⟨rfl, S2⟩
  have S2 := Lib.hid S2
  have hz2 := ext_size t 8 h2
  obtain ⟨r2, hr0⟩ : ∃ r2, t.extract 8 t.size = r2 := ⟨_, rfl⟩
  simp only [hr0] at *
  clear hr0 NC
  have hln : t.data.toList.length = t.size := (str_size t).symm
  have HT : Hid (t.size = 8 → rankN x = getL t.data.toList ∧ NumAt (getL t.data.toList) x 0) := by
    intro h8
    rw [List.take_of_length_le (by omega)] at hN
    rcases hN.2 with h | h
    · exact ⟨h.2, hN⟩
    · exact absurd h.1 (by decide)
  have hx := hN.1
  clear hN
  obtain ⟨a0, a1, a2, a3⟩ := act_cells S2.out.act
  have c0 : _ = some (Value.string r2) := S2.out.rd.cell 0
  have z0 := S2.out.res.frozen 0
  have z1 := S2.out.res.frozen 1
  have z2 := S2.out.res.frozen 2
  have z3 := S2.out.res.frozen 3
  obtain ⟨y0, y1, y2, y3⟩ := act_cells S2.out.res
  have hst := run_sto_f64
  have I : Hid (ActIn 0 x 0 ⟨#[]⟩) := ⟨hx, by decide, by decide, by decide⟩
  by_cases hr2 : r2.size = 0
  · have n1 := nil_of_size hr2
    have NO : Hid (NoOther s.data.toList (a6 0 x 0 ⟨#[]⟩) 0) := (by rw [HL2.out]; exact no_num (by omega) (HT.out (by omega)).2)
    have PU : Hid (rightA (a6 0 x 0 ⟨#[]⟩) = true → putAL (a6 0 x 0 ⟨#[]⟩) = s.data.toList) := fun hq => (by rw [HL2.out]; exact put_num (by omega) (HT.out (by omega)).1)
    have R := fun W => Lib.hid (lright_any 0 x 0 ⟨#[]⟩ I.out W)
    obtain ⟨qq, hq⟩ : ∃ qq, rightA (a6 0 x 0 ⟨#[]⟩) = qq := ⟨_, rfl⟩
    rw [hq] at R
    simp only [actV] at R
    cases qq
    · have G : Hid (ActIs oGave s.data.toList) := Or.inr ⟨rfl, GotA.no NO.out (fun h => by have h2 := h.2.1; rw [hq] at h2; cases h2)⟩
      clear hq y0 y1 y2 y3 z0 z1 z2 z3
      go_wp2_with fail
      refine (R _).out.mono ?_
      rintro e w5 ⟨rfl, g5⟩
      go_wp2_with fail
      exact ⟨rfl, G.out, (S2.out.below g5).gr⟩
    · have G := Lib.hid (GotA.ok hq (PU.out hq))
      clear hq y0 y1 y2 y3 z0 z1 z2 z3
      go_wp2_with fail
      refine (R _).out.mono ?_
      rintro e w5 ⟨rfl, g5⟩
      have S5 := Lib.hid (S2.out.below g5)
      clear g5 a0 a1 a2 a3 c0
      obtain ⟨a0, a1, a2, a3⟩ := act_cells S5.out.act
      obtain ⟨y0, y1, y2, y3⟩ := act_cells S5.out.res
      have z0 := S5.out.res.frozen 0
      have z1 := S5.out.res.frozen 1
      have z2 := S5.out.res.frozen 2
      have z3 := S5.out.res.frozen 3
      go_wp2_with fail
      try simp only [Exit.inBlock, Exit.then]
      exact oact_end (blk_set4 S5.out.res (.int .i64 0) (.float .f64 x) (.int .i64 0) (.string ⟨#[]⟩)) rfl ⟨Or.inl ⟨_, _, _, _, rfl, I.out, G.out⟩, grow_set4 S5.out.gr (Nat.le_refl _) _ _ _ _⟩
  · have n1 := ne_of_size hr2
    have G : Hid (ActIs oGave s.data.toList) := Or.inr ⟨rfl, by rw [HL2.out]; exact GotA.none (no_num8 _ _ (by omega))⟩
    clear y0 y1 y2 y3 z0 z1 z2 z3
    go_wp2_with fail
    exact ⟨rfl, G.out, S2.out.gr⟩

set_option maxRecDepth 100000 in
set_option maxHeartbeats 2000000 in
theorem oact_2num8 (p : Nat) (s : ByteArray) (w : World) (B : ORd w p s) (hs : s.size ≤ 140737488351232) (hp : 0 < s.size) (r : ByteArray) (hr : s.extract 1 s.size = r) (h0 : s[0] = 2) (h2 : r.size < 8) :
    Calls Tryd.prog 42 #[.pointer (some ⟨p, 0, none⟩)] w fun e w' => ActIs e s.data.toList ∧ w.grownBy w' (some p) := by
  have hl := list_rest1 s hp
  have T := onext_ok p s (w.alloc (.cells #[.int .i64 0, .float .f64 0, .int .i64 0, .string ⟨#[]⟩] 24)) (B.alloc _) hp hs
  rw [h0, hr] at T hl
  have hz := ext_size s 1 (by omega)
  rw [hr] at hz
  have hrs : r.size ≤ 140737488351232 := by omega
  obtain ⟨K, hK⟩ : ∃ K : Int, (2 : UInt8).toNat = K := ⟨_, rfl⟩
  rw [hK] at T
  have T := Lib.hid T
  have hK' : K = 2 := hK.symm
  subst hK'
  have HL := Lib.hid hl
  have X1 := Lib.hid (B.alloc (.cells #[.int .i64 0, .float .f64 0, .int .i64 0, .string ⟨#[]⟩] 24))
  have X2 := Lib.hid (Blk.new w 24 #[.int .i64 0, .float .f64 0, .int .i64 0, .string ⟨#[]⟩])
  have X3 := Lib.hid (only_alloc (kgrow_refl w (some p)) (.cells #[.int .i64 0, .float .f64 0, .int .i64 0, .string ⟨#[]⟩] 24))
  have hlt := B.lt
  have hst := run_sto_f64
  clear hl hr B
  go_enter Tryd.func42, Tryd.ntmps42
  go_wp2_with fail
  generalize w.alloc (.cells #[.int .i64 0, .float .f64 0, .int .i64 0, .string ⟨#[]⟩] 24) = w0 at *
  refine T.out.mono ?_
  rintro e w1 ⟨rfl, B1, g1⟩
  have hsz1 : w.heap.size < w1.heap.size := by have := X2.out.lt; have := g1.size; omega
  have S0 : Hid (Rd6 w (w1.alloc (.cells #[.int .i64 2, .float .f64 0, .int .i64 0, .string ⟨#[]⟩] 24)) p w1.heap.size r 2 0 0 ⟨#[]⟩) :=
    ⟨Blk.alloc B1 _, (kblk_by X2.out g1 (by omega)).alloc _, Blk.new w1 _ _, only_alloc (kgrow_trans X3.out g1) _, hlt, hsz1⟩
  clear B1 g1 T X1 X2 X3
  have G : Hid (ActIs oGave s.data.toList) := Or.inr ⟨rfl, GotA.none (by rw [HL.out]; exact no_most8 _ _ (by decide) (by rw [← str_size]; omega))⟩
  have Q := Lib.hid (onum_short p r _ S0.out.rd h2)
  go_wp2_with fail
  refine Q.out.mono ?_
  rintro e w2 ⟨rfl, rfl⟩
  go_wp2_with fail
  exact ⟨rfl, G.out, S0.out.gr⟩

set_option maxRecDepth 100000 in
set_option maxHeartbeats 2000000 in
theorem oact_2numbad (p : Nat) (s : ByteArray) (w : World) (B : ORd w p s) (hs : s.size ≤ 140737488351232) (hp : 0 < s.size) (r : ByteArray) (hr : s.extract 1 s.size = r) (h0 : s[0] = 2) (x : Nat) (hN : NumAt (getL ((r).data.toList.take 8)) x 4) (_h2 : 8 ≤ (r).size) (NC : ∀ (p : Nat) (w : World), ORd w p (r) → Calls Tryd.prog 69 #[.pointer (some ⟨p, 0, none⟩)] w fun e w' => e = oGave ∧ w.grownBy w' (some p)) :
    Calls Tryd.prog 42 #[.pointer (some ⟨p, 0, none⟩)] w fun e w' => ActIs e s.data.toList ∧ w.grownBy w' (some p) := by
  have hl := list_rest1 s hp
  have T := onext_ok p s (w.alloc (.cells #[.int .i64 0, .float .f64 0, .int .i64 0, .string ⟨#[]⟩] 24)) (B.alloc _) hp hs
  rw [h0, hr] at T hl
  have hz := ext_size s 1 (by omega)
  rw [hr] at hz
  have hrs : r.size ≤ 140737488351232 := by omega
  obtain ⟨K, hK⟩ : ∃ K : Int, (2 : UInt8).toNat = K := ⟨_, rfl⟩
  rw [hK] at T
  have T := Lib.hid T
  have hK' : K = 2 := hK.symm
  subst hK'
  have HL := Lib.hid hl
  have X1 := Lib.hid (B.alloc (.cells #[.int .i64 0, .float .f64 0, .int .i64 0, .string ⟨#[]⟩] 24))
  have X2 := Lib.hid (Blk.new w 24 #[.int .i64 0, .float .f64 0, .int .i64 0, .string ⟨#[]⟩])
  have X3 := Lib.hid (only_alloc (kgrow_refl w (some p)) (.cells #[.int .i64 0, .float .f64 0, .int .i64 0, .string ⟨#[]⟩] 24))
  have hlt := B.lt
  have hst := run_sto_f64
  clear hl hr B
  go_enter Tryd.func42, Tryd.ntmps42
  go_wp2_with fail
  generalize w.alloc (.cells #[.int .i64 0, .float .f64 0, .int .i64 0, .string ⟨#[]⟩] 24) = w0 at *
  refine T.out.mono ?_
  rintro e w1 ⟨rfl, B1, g1⟩
  have hsz1 : w.heap.size < w1.heap.size := by have := X2.out.lt; have := g1.size; omega
  have S0 : Hid (Rd6 w (w1.alloc (.cells #[.int .i64 2, .float .f64 0, .int .i64 0, .string ⟨#[]⟩] 24)) p w1.heap.size r 2 0 0 ⟨#[]⟩) :=
    ⟨Blk.alloc B1 _, (kblk_by X2.out g1 (by omega)).alloc _, Blk.new w1 _ _, only_alloc (kgrow_trans X3.out g1) _, hlt, hsz1⟩
  clear B1 g1 T X1 X2 X3
  have G : Hid (ActIs oGave s.data.toList) := Or.inr ⟨rfl, by
    by_cases h8 : r.size = 8
    · have hln : r.data.toList.length = 8 := by rw [← str_size]; exact h8
      rw [List.take_of_length_le (Nat.le_of_eq hln)] at hN
      rw [HL.out]
      exact GotA.no (no_most (by decide) hln hN) (fun h => absurd h.1 (by decide))
    · rw [HL.out]
      exact GotA.none (no_most8 _ _ (by decide) (by rw [← str_size]; exact h8))⟩
  have Q := Lib.hid (NC p _ S0.out.rd)
  go_wp2_with fail
  refine Q.out.mono ?_
  rintro e w2 ⟨rfl, g2⟩
  go_wp2_with fail
  exact ⟨rfl, G.out, kgrow_trans S0.out.gr g2⟩

set_option maxRecDepth 100000 in
set_option maxHeartbeats 2000000 in
theorem oact_2num (p : Nat) (s : ByteArray) (w : World) (B : ORd w p s) (hs : s.size ≤ 140737488351232) (hp : 0 < s.size) (r : ByteArray) (hr : s.extract 1 s.size = r) (h0 : s[0] = 2) (x : Nat) (hN : NumAt (getL ((r).data.toList.take 8)) x 0) (h2 : 8 ≤ (r).size) (NC : ∀ (p : Nat) (w : World), ORd w p (r) → Calls Tryd.prog 69 #[.pointer (some ⟨p, 0, none⟩)] w fun e w' => e = .returned (.float .f64 x) ∧ ORd w' p ((r).extract 8 (r).size) ∧ w.grownBy w' (some p)) :
    Calls Tryd.prog 42 #[.pointer (some ⟨p, 0, none⟩)] w fun e w' => ActIs e s.data.toList ∧ w.grownBy w' (some p) := by
  have hl := list_rest1 s hp
  have T := onext_ok p s (w.alloc (.cells #[.int .i64 0, .float .f64 0, .int .i64 0, .string ⟨#[]⟩] 24)) (B.alloc _) hp hs
  rw [h0, hr] at T hl
  have hz := ext_size s 1 (by omega)
  rw [hr] at hz
  have hrs : r.size ≤ 140737488351232 := by omega
  obtain ⟨K, hK⟩ : ∃ K : Int, (2 : UInt8).toNat = K := ⟨_, rfl⟩
  rw [hK] at T
  have T := Lib.hid T
  have hK' : K = 2 := hK.symm
  subst hK'
  have HL := Lib.hid hl
  have X1 := Lib.hid (B.alloc (.cells #[.int .i64 0, .float .f64 0, .int .i64 0, .string ⟨#[]⟩] 24))
  have X2 := Lib.hid (Blk.new w 24 #[.int .i64 0, .float .f64 0, .int .i64 0, .string ⟨#[]⟩])
  have X3 := Lib.hid (only_alloc (kgrow_refl w (some p)) (.cells #[.int .i64 0, .float .f64 0, .int .i64 0, .string ⟨#[]⟩] 24))
  have hlt := B.lt
  have hst := run_sto_f64
  clear hl hr B
  go_enter Tryd.func42, Tryd.ntmps42
  go_wp2_with fail
  generalize w.alloc (.cells #[.int .i64 0, .float .f64 0, .int .i64 0, .string ⟨#[]⟩] 24) = w0 at *
  refine T.out.mono ?_
  rintro e w1 ⟨rfl, B1, g1⟩
  have hsz1 : w.heap.size < w1.heap.size := by have := X2.out.lt; have := g1.size; omega
  have S0 : Hid (Rd6 w (w1.alloc (.cells #[.int .i64 2, .float .f64 0, .int .i64 0, .string ⟨#[]⟩] 24)) p w1.heap.size r 2 0 0 ⟨#[]⟩) :=
    ⟨Blk.alloc B1 _, (kblk_by X2.out g1 (by omega)).alloc _, Blk.new w1 _ _, only_alloc (kgrow_trans X3.out g1) _, hlt, hsz1⟩
  clear B1 g1 T X1 X2 X3
  have Q := Lib.hid (NC p _ S0.out.rd)
  go_wp2_with fail
  refine Q.out.mono ?_
  rintro e w2 ⟨rfl, B2, g2⟩
  have S2 := Lib.hid (S0.out.step B2 g2)
  clear B2 g2 Q
  have hz2 := ext_size r 8 h2
  obtain ⟨r2, hr0⟩ : ∃ r2, r.extract 8 r.size = r2 := ⟨_, rfl⟩
  simp only [hr0] at *
  clear hr0 NC
  have z1 := S2.out.act.frozen 1
  obtain ⟨a0, a1, a2, a3⟩ := act_cells S2.out.act
  have S3 := Lib.hid (S2.out.num x)
  have hst := run_sto_f64
  have hln : r.data.toList.length = r.size := (str_size r).symm
  have HT : Hid (r.size = 8 → rankN x = getL r.data.toList ∧ NumAt (getL r.data.toList) x 0) := by
    intro h8
    rw [List.take_of_length_le (by omega)] at hN
    rcases hN.2 with h | h
    · exact ⟨h.2, hN⟩
    · exact absurd h.1 (by decide)
  have hx := hN.1
  clear hN
  obtain ⟨b0, b1, b2, b3⟩ := act_cells S3.out.act
  have c0 : _ = some (Value.string r2) := S3.out.rd.cell 0
  have z0 := S3.out.res.frozen 0
  have z1 := S3.out.res.frozen 1
  have z2 := S3.out.res.frozen 2
  have z3 := S3.out.res.frozen 3
  obtain ⟨y0, y1, y2, y3⟩ := act_cells S3.out.res
  have hst := run_sto_f64
  have I : Hid (ActIn 2 x 0 ⟨#[]⟩) := ⟨hx, by decide, by decide, by decide⟩
  by_cases hr2 : r2.size = 0
  · have n1 := nil_of_size hr2
    have NO : Hid (NoOther s.data.toList (a6 2 x 0 ⟨#[]⟩) 0) := (by rw [HL.out]; exact no_most (k := 2) (by decide) (by omega) (HT.out (by omega)).2)
    have PU : Hid (rightA (a6 2 x 0 ⟨#[]⟩) = true → putAL (a6 2 x 0 ⟨#[]⟩) = s.data.toList) := fun hq => (by rw [HL.out]; exact put_most2 (by omega) (HT.out (by omega)).1)
    have R := fun W => Lib.hid (lright_any 2 x 0 ⟨#[]⟩ I.out W)
    obtain ⟨qq, hq⟩ : ∃ qq, rightA (a6 2 x 0 ⟨#[]⟩) = qq := ⟨_, rfl⟩
    rw [hq] at R
    simp only [actV] at R
    cases qq
    · have G : Hid (ActIs oGave s.data.toList) := Or.inr ⟨rfl, GotA.no NO.out (fun h => by have h2 := h.2.1; rw [hq] at h2; cases h2)⟩
      clear hq y0 y1 y2 y3 z0 z1 z2 z3
      go_wp2_with fail
      refine (R _).out.mono ?_
      rintro e w5 ⟨rfl, g5⟩
      go_wp2_with fail
      exact ⟨rfl, G.out, (S3.out.below g5).gr⟩
    · have G := Lib.hid (GotA.ok hq (PU.out hq))
      clear hq y0 y1 y2 y3 z0 z1 z2 z3
      go_wp2_with fail
      refine (R _).out.mono ?_
      rintro e w5 ⟨rfl, g5⟩
      have S5 := Lib.hid (S3.out.below g5)
      clear g5 a0 a1 a2 a3 c0
      obtain ⟨a0, a1, a2, a3⟩ := act_cells S5.out.act
      obtain ⟨y0, y1, y2, y3⟩ := act_cells S5.out.res
      have z0 := S5.out.res.frozen 0
      have z1 := S5.out.res.frozen 1
      have z2 := S5.out.res.frozen 2
      have z3 := S5.out.res.frozen 3
      go_wp2_with fail
      try simp only [Exit.inBlock, Exit.then]
      exact oact_end (blk_set4 S5.out.res (.int .i64 2) (.float .f64 x) (.int .i64 0) (.string ⟨#[]⟩)) rfl ⟨Or.inl ⟨_, _, _, _, rfl, I.out, G.out⟩, grow_set4 S5.out.gr (Nat.le_refl _) _ _ _ _⟩
  · have n1 := ne_of_size hr2
    have G : Hid (ActIs oGave s.data.toList) := Or.inr ⟨rfl, by rw [HL.out]; exact GotA.none (no_most8 _ _ (by decide) (by omega))⟩
    clear y0 y1 y2 y3 z0 z1 z2 z3
    go_wp2_with fail
    exact ⟨rfl, G.out, S3.out.gr⟩

set_option maxRecDepth 100000 in
set_option maxHeartbeats 2000000 in
theorem oact_3num8 (p : Nat) (s : ByteArray) (w : World) (B : ORd w p s) (hs : s.size ≤ 140737488351232) (hp : 0 < s.size) (r : ByteArray) (hr : s.extract 1 s.size = r) (h0 : s[0] = 3) (h2 : r.size < 8) :
    Calls Tryd.prog 42 #[.pointer (some ⟨p, 0, none⟩)] w fun e w' => ActIs e s.data.toList ∧ w.grownBy w' (some p) := by
  have hl := list_rest1 s hp
  have T := onext_ok p s (w.alloc (.cells #[.int .i64 0, .float .f64 0, .int .i64 0, .string ⟨#[]⟩] 24)) (B.alloc _) hp hs
  rw [h0, hr] at T hl
  have hz := ext_size s 1 (by omega)
  rw [hr] at hz
  have hrs : r.size ≤ 140737488351232 := by omega
  obtain ⟨K, hK⟩ : ∃ K : Int, (3 : UInt8).toNat = K := ⟨_, rfl⟩
  rw [hK] at T
  have T := Lib.hid T
  have hK' : K = 3 := hK.symm
  subst hK'
  have HL := Lib.hid hl
  have X1 := Lib.hid (B.alloc (.cells #[.int .i64 0, .float .f64 0, .int .i64 0, .string ⟨#[]⟩] 24))
  have X2 := Lib.hid (Blk.new w 24 #[.int .i64 0, .float .f64 0, .int .i64 0, .string ⟨#[]⟩])
  have X3 := Lib.hid (only_alloc (kgrow_refl w (some p)) (.cells #[.int .i64 0, .float .f64 0, .int .i64 0, .string ⟨#[]⟩] 24))
  have hlt := B.lt
  have hst := run_sto_f64
  clear hl hr B
  go_enter Tryd.func42, Tryd.ntmps42
  go_wp2_with fail
  generalize w.alloc (.cells #[.int .i64 0, .float .f64 0, .int .i64 0, .string ⟨#[]⟩] 24) = w0 at *
  refine T.out.mono ?_
  rintro e w1 ⟨rfl, B1, g1⟩
  have hsz1 : w.heap.size < w1.heap.size := by have := X2.out.lt; have := g1.size; omega
  have S0 : Hid (Rd6 w (w1.alloc (.cells #[.int .i64 3, .float .f64 0, .int .i64 0, .string ⟨#[]⟩] 24)) p w1.heap.size r 3 0 0 ⟨#[]⟩) :=
    ⟨Blk.alloc B1 _, (kblk_by X2.out g1 (by omega)).alloc _, Blk.new w1 _ _, only_alloc (kgrow_trans X3.out g1) _, hlt, hsz1⟩
  clear B1 g1 T X1 X2 X3
  have G : Hid (ActIs oGave s.data.toList) := Or.inr ⟨rfl, GotA.none (by rw [HL.out]; exact no_most8 _ _ (by decide) (by rw [← str_size]; omega))⟩
  have Q := Lib.hid (onum_short p r _ S0.out.rd h2)
  go_wp2_with fail
  refine Q.out.mono ?_
  rintro e w2 ⟨rfl, rfl⟩
  go_wp2_with fail
  exact ⟨rfl, G.out, S0.out.gr⟩

set_option maxRecDepth 100000 in
set_option maxHeartbeats 2000000 in
theorem oact_3numbad (p : Nat) (s : ByteArray) (w : World) (B : ORd w p s) (hs : s.size ≤ 140737488351232) (hp : 0 < s.size) (r : ByteArray) (hr : s.extract 1 s.size = r) (h0 : s[0] = 3) (x : Nat) (hN : NumAt (getL ((r).data.toList.take 8)) x 4) (_h2 : 8 ≤ (r).size) (NC : ∀ (p : Nat) (w : World), ORd w p (r) → Calls Tryd.prog 69 #[.pointer (some ⟨p, 0, none⟩)] w fun e w' => e = oGave ∧ w.grownBy w' (some p)) :
    Calls Tryd.prog 42 #[.pointer (some ⟨p, 0, none⟩)] w fun e w' => ActIs e s.data.toList ∧ w.grownBy w' (some p) := by
  have hl := list_rest1 s hp
  have T := onext_ok p s (w.alloc (.cells #[.int .i64 0, .float .f64 0, .int .i64 0, .string ⟨#[]⟩] 24)) (B.alloc _) hp hs
  rw [h0, hr] at T hl
  have hz := ext_size s 1 (by omega)
  rw [hr] at hz
  have hrs : r.size ≤ 140737488351232 := by omega
  obtain ⟨K, hK⟩ : ∃ K : Int, (3 : UInt8).toNat = K := ⟨_, rfl⟩
  rw [hK] at T
  have T := Lib.hid T
  have hK' : K = 3 := hK.symm
  subst hK'
  have HL := Lib.hid hl
  have X1 := Lib.hid (B.alloc (.cells #[.int .i64 0, .float .f64 0, .int .i64 0, .string ⟨#[]⟩] 24))
  have X2 := Lib.hid (Blk.new w 24 #[.int .i64 0, .float .f64 0, .int .i64 0, .string ⟨#[]⟩])
  have X3 := Lib.hid (only_alloc (kgrow_refl w (some p)) (.cells #[.int .i64 0, .float .f64 0, .int .i64 0, .string ⟨#[]⟩] 24))
  have hlt := B.lt
  have hst := run_sto_f64
  clear hl hr B
  go_enter Tryd.func42, Tryd.ntmps42
  go_wp2_with fail
  generalize w.alloc (.cells #[.int .i64 0, .float .f64 0, .int .i64 0, .string ⟨#[]⟩] 24) = w0 at *
  refine T.out.mono ?_
  rintro e w1 ⟨rfl, B1, g1⟩
  have hsz1 : w.heap.size < w1.heap.size := by have := X2.out.lt; have := g1.size; omega
  have S0 : Hid (Rd6 w (w1.alloc (.cells #[.int .i64 3, .float .f64 0, .int .i64 0, .string ⟨#[]⟩] 24)) p w1.heap.size r 3 0 0 ⟨#[]⟩) :=
    ⟨Blk.alloc B1 _, (kblk_by X2.out g1 (by omega)).alloc _, Blk.new w1 _ _, only_alloc (kgrow_trans X3.out g1) _, hlt, hsz1⟩
  clear B1 g1 T X1 X2 X3
  have G : Hid (ActIs oGave s.data.toList) := Or.inr ⟨rfl, by
    by_cases h8 : r.size = 8
    · have hln : r.data.toList.length = 8 := by rw [← str_size]; exact h8
      rw [List.take_of_length_le (Nat.le_of_eq hln)] at hN
      rw [HL.out]
      exact GotA.no (no_most (by decide) hln hN) (fun h => absurd h.1 (by decide))
    · rw [HL.out]
      exact GotA.none (no_most8 _ _ (by decide) (by rw [← str_size]; exact h8))⟩
  have Q := Lib.hid (NC p _ S0.out.rd)
  go_wp2_with fail
  refine Q.out.mono ?_
  rintro e w2 ⟨rfl, g2⟩
  go_wp2_with fail
  exact ⟨rfl, G.out, kgrow_trans S0.out.gr g2⟩

set_option maxRecDepth 100000 in
set_option maxHeartbeats 2000000 in
theorem oact_3num (p : Nat) (s : ByteArray) (w : World) (B : ORd w p s) (hs : s.size ≤ 140737488351232) (hp : 0 < s.size) (r : ByteArray) (hr : s.extract 1 s.size = r) (h0 : s[0] = 3) (x : Nat) (hN : NumAt (getL ((r).data.toList.take 8)) x 0) (h2 : 8 ≤ (r).size) (NC : ∀ (p : Nat) (w : World), ORd w p (r) → Calls Tryd.prog 69 #[.pointer (some ⟨p, 0, none⟩)] w fun e w' => e = .returned (.float .f64 x) ∧ ORd w' p ((r).extract 8 (r).size) ∧ w.grownBy w' (some p)) :
    Calls Tryd.prog 42 #[.pointer (some ⟨p, 0, none⟩)] w fun e w' => ActIs e s.data.toList ∧ w.grownBy w' (some p) := by
  have hl := list_rest1 s hp
  have T := onext_ok p s (w.alloc (.cells #[.int .i64 0, .float .f64 0, .int .i64 0, .string ⟨#[]⟩] 24)) (B.alloc _) hp hs
  rw [h0, hr] at T hl
  have hz := ext_size s 1 (by omega)
  rw [hr] at hz
  have hrs : r.size ≤ 140737488351232 := by omega
  obtain ⟨K, hK⟩ : ∃ K : Int, (3 : UInt8).toNat = K := ⟨_, rfl⟩
  rw [hK] at T
  have T := Lib.hid T
  have hK' : K = 3 := hK.symm
  subst hK'
  have HL := Lib.hid hl
  have X1 := Lib.hid (B.alloc (.cells #[.int .i64 0, .float .f64 0, .int .i64 0, .string ⟨#[]⟩] 24))
  have X2 := Lib.hid (Blk.new w 24 #[.int .i64 0, .float .f64 0, .int .i64 0, .string ⟨#[]⟩])
  have X3 := Lib.hid (only_alloc (kgrow_refl w (some p)) (.cells #[.int .i64 0, .float .f64 0, .int .i64 0, .string ⟨#[]⟩] 24))
  have hlt := B.lt
  have hst := run_sto_f64
  clear hl hr B
  go_enter Tryd.func42, Tryd.ntmps42
  go_wp2_with fail
  generalize w.alloc (.cells #[.int .i64 0, .float .f64 0, .int .i64 0, .string ⟨#[]⟩] 24) = w0 at *
  refine T.out.mono ?_
  rintro e w1 ⟨rfl, B1, g1⟩
  have hsz1 : w.heap.size < w1.heap.size := by have := X2.out.lt; have := g1.size; omega
  have S0 : Hid (Rd6 w (w1.alloc (.cells #[.int .i64 3, .float .f64 0, .int .i64 0, .string ⟨#[]⟩] 24)) p w1.heap.size r 3 0 0 ⟨#[]⟩) :=
    ⟨Blk.alloc B1 _, (kblk_by X2.out g1 (by omega)).alloc _, Blk.new w1 _ _, only_alloc (kgrow_trans X3.out g1) _, hlt, hsz1⟩
  clear B1 g1 T X1 X2 X3
  have Q := Lib.hid (NC p _ S0.out.rd)
  go_wp2_with fail
  refine Q.out.mono ?_
  rintro e w2 ⟨rfl, B2, g2⟩
  have S2 := Lib.hid (S0.out.step B2 g2)
  clear B2 g2 Q
  have hz2 := ext_size r 8 h2
  obtain ⟨r2, hr0⟩ : ∃ r2, r.extract 8 r.size = r2 := ⟨_, rfl⟩
  simp only [hr0] at *
  clear hr0 NC
  have z1 := S2.out.act.frozen 1
  obtain ⟨a0, a1, a2, a3⟩ := act_cells S2.out.act
  have S3 := Lib.hid (S2.out.num x)
  have hst := run_sto_f64
  have hln : r.data.toList.length = r.size := (str_size r).symm
  have HT : Hid (r.size = 8 → rankN x = getL r.data.toList ∧ NumAt (getL r.data.toList) x 0) := by
    intro h8
    rw [List.take_of_length_le (by omega)] at hN
    rcases hN.2 with h | h
    · exact ⟨h.2, hN⟩
    · exact absurd h.1 (by decide)
  have hx := hN.1
  clear hN
  obtain ⟨b0, b1, b2, b3⟩ := act_cells S3.out.act
  have c0 : _ = some (Value.string r2) := S3.out.rd.cell 0
  have z0 := S3.out.res.frozen 0
  have z1 := S3.out.res.frozen 1
  have z2 := S3.out.res.frozen 2
  have z3 := S3.out.res.frozen 3
  obtain ⟨y0, y1, y2, y3⟩ := act_cells S3.out.res
  have hst := run_sto_f64
  have I : Hid (ActIn 3 x 0 ⟨#[]⟩) := ⟨hx, by decide, by decide, by decide⟩
  by_cases hr2 : r2.size = 0
  · have n1 := nil_of_size hr2
    have NO : Hid (NoOther s.data.toList (a6 3 x 0 ⟨#[]⟩) 0) := (by rw [HL.out]; exact no_most (k := 3) (by decide) (by omega) (HT.out (by omega)).2)
    have PU : Hid (rightA (a6 3 x 0 ⟨#[]⟩) = true → putAL (a6 3 x 0 ⟨#[]⟩) = s.data.toList) := fun hq => (by rw [HL.out]; exact put_most3 (by omega) (HT.out (by omega)).1)
    have R := fun W => Lib.hid (lright_any 3 x 0 ⟨#[]⟩ I.out W)
    obtain ⟨qq, hq⟩ : ∃ qq, rightA (a6 3 x 0 ⟨#[]⟩) = qq := ⟨_, rfl⟩
    rw [hq] at R
    simp only [actV] at R
    cases qq
    · have G : Hid (ActIs oGave s.data.toList) := Or.inr ⟨rfl, GotA.no NO.out (fun h => by have h2 := h.2.1; rw [hq] at h2; cases h2)⟩
      clear hq y0 y1 y2 y3 z0 z1 z2 z3
      go_wp2_with fail
      refine (R _).out.mono ?_
      rintro e w5 ⟨rfl, g5⟩
      go_wp2_with fail
      exact ⟨rfl, G.out, (S3.out.below g5).gr⟩
    · have G := Lib.hid (GotA.ok hq (PU.out hq))
      clear hq y0 y1 y2 y3 z0 z1 z2 z3
      go_wp2_with fail
      refine (R _).out.mono ?_
      rintro e w5 ⟨rfl, g5⟩
      have S5 := Lib.hid (S3.out.below g5)
      clear g5 a0 a1 a2 a3 c0
      obtain ⟨a0, a1, a2, a3⟩ := act_cells S5.out.act
      obtain ⟨y0, y1, y2, y3⟩ := act_cells S5.out.res
      have z0 := S5.out.res.frozen 0
      have z1 := S5.out.res.frozen 1
      have z2 := S5.out.res.frozen 2
      have z3 := S5.out.res.frozen 3
      go_wp2_with fail
      try simp only [Exit.inBlock, Exit.then]
      exact oact_end (blk_set4 S5.out.res (.int .i64 3) (.float .f64 x) (.int .i64 0) (.string ⟨#[]⟩)) rfl ⟨Or.inl ⟨_, _, _, _, rfl, I.out, G.out⟩, grow_set4 S5.out.gr (Nat.le_refl _) _ _ _ _⟩
  · have n1 := ne_of_size hr2
    have G : Hid (ActIs oGave s.data.toList) := Or.inr ⟨rfl, by rw [HL.out]; exact GotA.none (no_most8 _ _ (by decide) (by omega))⟩
    clear y0 y1 y2 y3 z0 z1 z2 z3
    go_wp2_with fail
    exact ⟨rfl, G.out, S3.out.gr⟩

set_option maxRecDepth 100000 in
set_option maxHeartbeats 2000000 in
theorem oact_1short (p : Nat) (s : ByteArray) (w : World) (B : ORd w p s) (hs : s.size ≤ 140737488351232) (hp : 0 < s.size) (r : ByteArray) (hr : s.extract 1 s.size = r) (h0 : s[0] = 1) (h2 : r.size < 8) :
    Calls Tryd.prog 42 #[.pointer (some ⟨p, 0, none⟩)] w fun e w' => ActIs e s.data.toList ∧ w.grownBy w' (some p) := by
  have hl := list_rest1 s hp
  have T := onext_ok p s (w.alloc (.cells #[.int .i64 0, .float .f64 0, .int .i64 0, .string ⟨#[]⟩] 24)) (B.alloc _) hp hs
  rw [h0, hr] at T hl
  have hz := ext_size s 1 (by omega)
  rw [hr] at hz
  have hrs : r.size ≤ 140737488351232 := by omega
  obtain ⟨K, hK⟩ : ∃ K : Int, (1 : UInt8).toNat = K := ⟨_, rfl⟩
  rw [hK] at T
  have T := Lib.hid T
  have hK' : K = 1 := hK.symm
  subst hK'
  have HL := Lib.hid hl
  have X1 := Lib.hid (B.alloc (.cells #[.int .i64 0, .float .f64 0, .int .i64 0, .string ⟨#[]⟩] 24))
  have X2 := Lib.hid (Blk.new w 24 #[.int .i64 0, .float .f64 0, .int .i64 0, .string ⟨#[]⟩])
  have X3 := Lib.hid (only_alloc (kgrow_refl w (some p)) (.cells #[.int .i64 0, .float .f64 0, .int .i64 0, .string ⟨#[]⟩] 24))
  have hlt := B.lt
  have hst := run_sto_f64
  clear hl hr B
  go_enter Tryd.func42, Tryd.ntmps42
  go_wp2_with fail
  generalize w.alloc (.cells #[.int .i64 0, .float .f64 0, .int .i64 0, .string ⟨#[]⟩] 24) = w0 at *
  refine T.out.mono ?_
  rintro e w1 ⟨rfl, B1, g1⟩
  have hsz1 : w.heap.size < w1.heap.size := by have := X2.out.lt; have := g1.size; omega
  have S0 : Hid (Rd6 w (w1.alloc (.cells #[.int .i64 1, .float .f64 0, .int .i64 0, .string ⟨#[]⟩] 24)) p w1.heap.size r 1 0 0 ⟨#[]⟩) :=
    ⟨Blk.alloc B1 _, (kblk_by X2.out g1 (by omega)).alloc _, Blk.new w1 _ _, only_alloc (kgrow_trans X3.out g1) _, hlt, hsz1⟩
  clear B1 g1 T X1 X2 X3
  have G : Hid (ActIs oGave s.data.toList) := Or.inr ⟨rfl, GotA.none (by rw [HL.out]; exact no_int8 _ _ (by rw [← str_size]; omega))⟩
  have Q := Lib.hid (owhole_short p r _ S0.out.rd h2 hrs)
  go_wp2_with fail
  refine Q.out.mono ?_
  rintro e w2 ⟨rfl, g2⟩
  go_wp2_with fail
  exact ⟨rfl, G.out, kgrow_trans S0.out.gr g2⟩

set_option maxRecDepth 100000 in
set_option maxHeartbeats 2000000 in
theorem oact_1 (p : Nat) (s : ByteArray) (w : World) (B : ORd w p s) (hs : s.size ≤ 140737488351232) (hp : 0 < s.size) (r : ByteArray) (hr : s.extract 1 s.size = r) (h0 : s[0] = 1) (h2 : 8 ≤ r.size) :
    Calls Tryd.prog 42 #[.pointer (some ⟨p, 0, none⟩)] w fun e w' => ActIs e s.data.toList ∧ w.grownBy w' (some p) := by
  have hl := list_rest1 s hp
  have T := onext_ok p s (w.alloc (.cells #[.int .i64 0, .float .f64 0, .int .i64 0, .string ⟨#[]⟩] 24)) (B.alloc _) hp hs
  rw [h0, hr] at T hl
  have hz := ext_size s 1 (by omega)
  rw [hr] at hz
  have hrs : r.size ≤ 140737488351232 := by omega
  obtain ⟨K, hK⟩ : ∃ K : Int, (1 : UInt8).toNat = K := ⟨_, rfl⟩
  rw [hK] at T
  have T := Lib.hid T
  have hK' : K = 1 := hK.symm
  subst hK'
  have HL := Lib.hid hl
  have X1 := Lib.hid (B.alloc (.cells #[.int .i64 0, .float .f64 0, .int .i64 0, .string ⟨#[]⟩] 24))
  have X2 := Lib.hid (Blk.new w 24 #[.int .i64 0, .float .f64 0, .int .i64 0, .string ⟨#[]⟩])
  have X3 := Lib.hid (only_alloc (kgrow_refl w (some p)) (.cells #[.int .i64 0, .float .f64 0, .int .i64 0, .string ⟨#[]⟩] 24))
  have hlt := B.lt
  have hst := run_sto_f64
  clear hl hr B
  go_enter Tryd.func42, Tryd.ntmps42
  go_wp2_with fail
  generalize w.alloc (.cells #[.int .i64 0, .float .f64 0, .int .i64 0, .string ⟨#[]⟩] 24) = w0 at *
  refine T.out.mono ?_
  rintro e w1 ⟨rfl, B1, g1⟩
  have hsz1 : w.heap.size < w1.heap.size := by have := X2.out.lt; have := g1.size; omega
  have S0 : Hid (Rd6 w (w1.alloc (.cells #[.int .i64 1, .float .f64 0, .int .i64 0, .string ⟨#[]⟩] 24)) p w1.heap.size r 1 0 0 ⟨#[]⟩) :=
    ⟨Blk.alloc B1 _, (kblk_by X2.out g1 (by omega)).alloc _, Blk.new w1 _ _, only_alloc (kgrow_trans X3.out g1) _, hlt, hsz1⟩
  clear B1 g1 T X1 X2 X3
  have Q := Lib.hid (owhole_ok p r _ S0.out.rd h2 hrs)
  go_wp2_with fail
  refine Q.out.mono ?_
  rintro e w2 ⟨rfl, B2, g2⟩
  have S2 := Lib.hid (S0.out.step B2 g2)
  clear B2 g2 Q
  have hz2 := ext_size r 8 h2
  obtain ⟨r2, hr0⟩ : ∃ r2, r.extract 8 r.size = r2 := ⟨_, rfl⟩
  simp only [hr0] at *
  clear hr0
  have z2 := S2.out.act.frozen 2
  obtain ⟨a0, a1, a2, a3⟩ := act_cells S2.out.act
  have hln : r.data.toList.length = r.size := (str_size r).symm
  have HT : Hid (r.size = 8 → sofar0 r 8 = wrap64 (getL r.data.toList)) := by
    intro h8
    unfold sofar0
    rw [List.take_of_length_le (by omega)]
  have HW := Lib.hid (wrap_wf (getL (r.data.toList.take 8)))
  have HW : Hid ((Lit.int .i64 (sofar0 r 8)).wf = true) := HW.out
  generalize sofar0 r 8 = V at *
  have S3 := Lib.hid (S2.out.int V)
  obtain ⟨b0, b1, b2, b3⟩ := act_cells S3.out.act
  have c0 : _ = some (Value.string r2) := S3.out.rd.cell 0
  have z0 := S3.out.res.frozen 0
  have z1 := S3.out.res.frozen 1
  have z2 := S3.out.res.frozen 2
  have z3 := S3.out.res.frozen 3
  obtain ⟨y0, y1, y2, y3⟩ := act_cells S3.out.res
  have hst := run_sto_f64
  have I : Hid (ActIn 1 0 V ⟨#[]⟩) := ⟨by decide, by decide, HW.out, by decide⟩
  by_cases hr2 : r2.size = 0
  · have n1 := nil_of_size hr2
    have NO : Hid (NoOther s.data.toList (a6 1 0 V ⟨#[]⟩) 0) := (by rw [HL.out, HT.out (by omega)]; unfold a6; rw [rank_zero]; exact no_int (by omega))
    have PU : Hid (rightA (a6 1 0 V ⟨#[]⟩) = true → putAL (a6 1 0 V ⟨#[]⟩) = s.data.toList) := fun hq => (by rw [HL.out, HT.out (by omega)]; exact put_int (by omega))
    have R := fun W => Lib.hid (lright_any 1 0 V ⟨#[]⟩ I.out W)
    obtain ⟨qq, hq⟩ : ∃ qq, rightA (a6 1 0 V ⟨#[]⟩) = qq := ⟨_, rfl⟩
    rw [hq] at R
    simp only [actV] at R
    cases qq
    · have G : Hid (ActIs oGave s.data.toList) := Or.inr ⟨rfl, GotA.no NO.out (fun h => by have h2 := h.2.1; rw [hq] at h2; cases h2)⟩
      clear hq y0 y1 y2 y3 z0 z1 z2 z3
      go_wp2_with fail
      refine (R _).out.mono ?_
      rintro e w5 ⟨rfl, g5⟩
      go_wp2_with fail
      exact ⟨rfl, G.out, (S3.out.below g5).gr⟩
    · have G := Lib.hid (GotA.ok hq (PU.out hq))
      clear hq y0 y1 y2 y3 z0 z1 z2 z3
      go_wp2_with fail
      refine (R _).out.mono ?_
      rintro e w5 ⟨rfl, g5⟩
      have S5 := Lib.hid (S3.out.below g5)
      clear g5 a0 a1 a2 a3 c0
      obtain ⟨a0, a1, a2, a3⟩ := act_cells S5.out.act
      obtain ⟨y0, y1, y2, y3⟩ := act_cells S5.out.res
      have z0 := S5.out.res.frozen 0
      have z1 := S5.out.res.frozen 1
      have z2 := S5.out.res.frozen 2
      have z3 := S5.out.res.frozen 3
      go_wp2_with fail
      try simp only [Exit.inBlock, Exit.then]
      exact oact_end (blk_set4 S5.out.res (.int .i64 1) (.float .f64 0) (.int .i64 V) (.string ⟨#[]⟩)) rfl ⟨Or.inl ⟨_, _, _, _, rfl, I.out, G.out⟩, grow_set4 S5.out.gr (Nat.le_refl _) _ _ _ _⟩
  · have n1 := ne_of_size hr2
    have G : Hid (ActIs oGave s.data.toList) := Or.inr ⟨rfl, by rw [HL.out]; exact GotA.none (no_int8 _ _ (by omega))⟩
    clear y0 y1 y2 y3 z0 z1 z2 z3
    go_wp2_with fail
    exact ⟨rfl, G.out, S3.out.gr⟩

set_option maxRecDepth 100000 in
set_option maxHeartbeats 2000000 in
theorem oact_4 (p : Nat) (s : ByteArray) (w : World) (B : ORd w p s) (hs : s.size ≤ 140737488351232) (hp : 0 < s.size) (r : ByteArray) (hr : s.extract 1 s.size = r) (h0 : s[0] = 4) :
    Calls Tryd.prog 42 #[.pointer (some ⟨p, 0, none⟩)] w fun e w' => ActIs e s.data.toList ∧ w.grownBy w' (some p) := by
  have hl := list_rest1 s hp
  have T := onext_ok p s (w.alloc (.cells #[.int .i64 0, .float .f64 0, .int .i64 0, .string ⟨#[]⟩] 24)) (B.alloc _) hp hs
  rw [h0, hr] at T hl
  have hz := ext_size s 1 (by omega)
  rw [hr] at hz
  have hrs : r.size ≤ 140737488351232 := by omega
  obtain ⟨K, hK⟩ : ∃ K : Int, (4 : UInt8).toNat = K := ⟨_, rfl⟩
  rw [hK] at T
  have T := Lib.hid T
  have hK' : K = 4 := hK.symm
  subst hK'
  have HL := Lib.hid hl
  have X1 := Lib.hid (B.alloc (.cells #[.int .i64 0, .float .f64 0, .int .i64 0, .string ⟨#[]⟩] 24))
  have X2 := Lib.hid (Blk.new w 24 #[.int .i64 0, .float .f64 0, .int .i64 0, .string ⟨#[]⟩])
  have X3 := Lib.hid (only_alloc (kgrow_refl w (some p)) (.cells #[.int .i64 0, .float .f64 0, .int .i64 0, .string ⟨#[]⟩] 24))
  have hlt := B.lt
  have hst := run_sto_f64
  clear hl hr B
  go_enter Tryd.func42, Tryd.ntmps42
  go_wp2_with fail
  generalize w.alloc (.cells #[.int .i64 0, .float .f64 0, .int .i64 0, .string ⟨#[]⟩] 24) = w0 at *
  refine T.out.mono ?_
  rintro e w1 ⟨rfl, B1, g1⟩
  have hsz1 : w.heap.size < w1.heap.size := by have := X2.out.lt; have := g1.size; omega
  have S0 : Hid (Rd6 w (w1.alloc (.cells #[.int .i64 4, .float .f64 0, .int .i64 0, .string ⟨#[]⟩] 24)) p w1.heap.size r 4 0 0 ⟨#[]⟩) :=
    ⟨Blk.alloc B1 _, (kblk_by X2.out g1 (by omega)).alloc _, Blk.new w1 _ _, only_alloc (kgrow_trans X3.out g1) _, hlt, hsz1⟩
  clear B1 g1 T X1 X2 X3
  obtain ⟨r2, hr0⟩ : ∃ r2, r = r2 := ⟨_, rfl⟩
  simp only [hr0] at *
  have S2 := S0
  clear S0
  have hln : r2.data.toList.length = r2.size := (str_size r2).symm
  obtain ⟨a0, a1, a2, a3⟩ := act_cells S2.out.act
  have c0 : _ = some (Value.string r2) := S2.out.rd.cell 0
  have z0 := S2.out.res.frozen 0
  have z1 := S2.out.res.frozen 1
  have z2 := S2.out.res.frozen 2
  have z3 := S2.out.res.frozen 3
  obtain ⟨y0, y1, y2, y3⟩ := act_cells S2.out.res
  have hst := run_sto_f64
  have I : Hid (ActIn 4 0 0 ⟨#[]⟩) := ⟨by decide, by decide, by decide, by decide⟩
  by_cases hr2 : r2.size = 0
  · have n1 := nil_of_size hr2
    have NO : Hid (NoOther s.data.toList (a6 4 0 0 ⟨#[]⟩) 0) := (by rw [HL.out]; unfold a6; rw [rank_zero]; exact no_clear _)
    have PU : Hid (rightA (a6 4 0 0 ⟨#[]⟩) = true → putAL (a6 4 0 0 ⟨#[]⟩) = s.data.toList) := fun hq => (by rw [HL.out, List.eq_nil_of_length_eq_zero (hln.trans hr2)]; exact put_clear)
    have R := fun W => Lib.hid (lright_any 4 0 0 ⟨#[]⟩ I.out W)
    obtain ⟨qq, hq⟩ : ∃ qq, rightA (a6 4 0 0 ⟨#[]⟩) = qq := ⟨_, rfl⟩
    rw [hq] at R
    simp only [actV] at R
    cases qq
    · have G : Hid (ActIs oGave s.data.toList) := Or.inr ⟨rfl, GotA.no NO.out (fun h => by have h2 := h.2.1; rw [hq] at h2; cases h2)⟩
      clear hq y0 y1 y2 y3 z0 z1 z2 z3
      go_wp2_with fail
      refine (R _).out.mono ?_
      rintro e w5 ⟨rfl, g5⟩
      go_wp2_with fail
      exact ⟨rfl, G.out, (S2.out.below g5).gr⟩
    · have G := Lib.hid (GotA.ok hq (PU.out hq))
      clear hq y0 y1 y2 y3 z0 z1 z2 z3
      go_wp2_with fail
      refine (R _).out.mono ?_
      rintro e w5 ⟨rfl, g5⟩
      have S5 := Lib.hid (S2.out.below g5)
      clear g5 a0 a1 a2 a3 c0
      obtain ⟨a0, a1, a2, a3⟩ := act_cells S5.out.act
      obtain ⟨y0, y1, y2, y3⟩ := act_cells S5.out.res
      have z0 := S5.out.res.frozen 0
      have z1 := S5.out.res.frozen 1
      have z2 := S5.out.res.frozen 2
      have z3 := S5.out.res.frozen 3
      go_wp2_with fail
      try simp only [Exit.inBlock, Exit.then]
      exact oact_end (blk_set4 S5.out.res (.int .i64 4) (.float .f64 0) (.int .i64 0) (.string ⟨#[]⟩)) rfl ⟨Or.inl ⟨_, _, _, _, rfl, I.out, G.out⟩, grow_set4 S5.out.gr (Nat.le_refl _) _ _ _ _⟩
  · have n1 := ne_of_size hr2
    have G : Hid (ActIs oGave s.data.toList) := Or.inr ⟨rfl, by rw [HL.out]; exact GotA.no (no_clear _) (fun h => by have h2 := h.2.2; have h3 : ([4] : List UInt8) = 4 :: r2.data.toList := h2; have h4 := (List.cons.inj h3).2; rw [← h4, List.length_nil] at hln; omega)⟩
    clear y0 y1 y2 y3 z0 z1 z2 z3
    go_wp2_with fail
    exact ⟨rfl, G.out, S2.out.gr⟩

set_option maxRecDepth 100000 in
set_option maxHeartbeats 2000000 in
theorem oact_big (p : Nat) (s : ByteArray) (w : World) (B : ORd w p s) (hs : s.size ≤ 140737488351232) (hp : 0 < s.size) (r : ByteArray) (hr : s.extract 1 s.size = r) (c : UInt8) (h0 : s[0] = c) (hc : 4 < c.toNat) :
    Calls Tryd.prog 42 #[.pointer (some ⟨p, 0, none⟩)] w fun e w' => ActIs e s.data.toList ∧ w.grownBy w' (some p) := by
  have hl := list_rest1 s hp
  have T := onext_ok p s (w.alloc (.cells #[.int .i64 0, .float .f64 0, .int .i64 0, .string ⟨#[]⟩] 24)) (B.alloc _) hp hs
  rw [h0, hr] at T hl
  have hz := ext_size s 1 (by omega)
  rw [hr] at hz
  have hrs : r.size ≤ 140737488351232 := by omega
  obtain ⟨K, hK⟩ : ∃ K : Int, (c).toNat = K := ⟨_, rfl⟩
  rw [hK] at T
  have T := Lib.hid T
  have hw : wrap64 K = K := by have := UInt8.toNat_lt c; unfold wrap64; omega
  have hw2 : IntKind.i64.wrap K = K := IntWalk.i64_in _ (by have := UInt8.toNat_lt c; omega)
  have e0 : (K == 0) = false := by rw [beq_eq_false_iff_ne]; omega
  have e1 : (K == 1) = false := by rw [beq_eq_false_iff_ne]; omega
  have e2 : (K == 2) = false := by rw [beq_eq_false_iff_ne]; omega
  have e3 : (K == 3) = false := by rw [beq_eq_false_iff_ne]; omega
  have HL := Lib.hid hl
  have X1 := Lib.hid (B.alloc (.cells #[.int .i64 0, .float .f64 0, .int .i64 0, .string ⟨#[]⟩] 24))
  have X2 := Lib.hid (Blk.new w 24 #[.int .i64 0, .float .f64 0, .int .i64 0, .string ⟨#[]⟩])
  have X3 := Lib.hid (only_alloc (kgrow_refl w (some p)) (.cells #[.int .i64 0, .float .f64 0, .int .i64 0, .string ⟨#[]⟩] 24))
  have hlt := B.lt
  have hst := run_sto_f64
  clear hl hr B
  go_enter Tryd.func42, Tryd.ntmps42
  go_wp2_with fail
  generalize w.alloc (.cells #[.int .i64 0, .float .f64 0, .int .i64 0, .string ⟨#[]⟩] 24) = w0 at *
  refine T.out.mono ?_
  rintro e w1 ⟨rfl, B1, g1⟩
  have hsz1 : w.heap.size < w1.heap.size := by have := X2.out.lt; have := g1.size; omega
  have S0 : Hid (Rd6 w (w1.alloc (.cells #[.int .i64 K, .float .f64 0, .int .i64 0, .string ⟨#[]⟩] 24)) p w1.heap.size r K 0 0 ⟨#[]⟩) :=
    ⟨Blk.alloc B1 _, (kblk_by X2.out g1 (by omega)).alloc _, Blk.new w1 _ _, only_alloc (kgrow_trans X3.out g1) _, hlt, hsz1⟩
  clear B1 g1 T X1 X2 X3
  obtain ⟨r2, hr0⟩ : ∃ r2, r = r2 := ⟨_, rfl⟩
  simp only [hr0] at *
  have S2 := S0
  clear S0
  have kwf : (Lit.int .i64 K).wf = true := WalkArith.wf_i64 (by have := UInt8.toNat_lt c; omega)
  obtain ⟨a0, a1, a2, a3⟩ := act_cells S2.out.act
  have c0 : _ = some (Value.string r2) := S2.out.rd.cell 0
  have z0 := S2.out.res.frozen 0
  have z1 := S2.out.res.frozen 1
  have z2 := S2.out.res.frozen 2
  have z3 := S2.out.res.frozen 3
  obtain ⟨y0, y1, y2, y3⟩ := act_cells S2.out.res
  have hst := run_sto_f64
  have I : Hid (ActIn K 0 0 ⟨#[]⟩) := ⟨by decide, kwf, by decide, by decide⟩
  by_cases hr2 : r2.size = 0
  · have n1 := nil_of_size hr2
    have NO : Hid (NoOther s.data.toList (a6 K 0 0 ⟨#[]⟩) 0) := (by rw [HL.out]; exact no_big _ _ hc)
    have PU : Hid (rightA (a6 K 0 0 ⟨#[]⟩) = true → putAL (a6 K 0 0 ⟨#[]⟩) = s.data.toList) := fun hq => (absurd (right_kind hq).2 (by show ¬ K ≤ 4; omega))
    have R := fun W => Lib.hid (lright_any K 0 0 ⟨#[]⟩ I.out W)
    obtain ⟨qq, hq⟩ : ∃ qq, rightA (a6 K 0 0 ⟨#[]⟩) = qq := ⟨_, rfl⟩
    rw [hq] at R
    simp only [actV] at R
    cases qq
    · have G : Hid (ActIs oGave s.data.toList) := Or.inr ⟨rfl, GotA.no NO.out (fun h => by have h2 := h.2.1; rw [hq] at h2; cases h2)⟩
      clear hq y0 y1 y2 y3 z0 z1 z2 z3
      go_wp2_with fail
      refine (R _).out.mono ?_
      rintro e w5 ⟨rfl, g5⟩
      go_wp2_with fail
      exact ⟨rfl, G.out, (S2.out.below g5).gr⟩
    · have G := Lib.hid (GotA.ok hq (PU.out hq))
      clear hq y0 y1 y2 y3 z0 z1 z2 z3
      go_wp2_with fail
      refine (R _).out.mono ?_
      rintro e w5 ⟨rfl, g5⟩
      have S5 := Lib.hid (S2.out.below g5)
      clear g5 a0 a1 a2 a3 c0
      obtain ⟨a0, a1, a2, a3⟩ := act_cells S5.out.act
      obtain ⟨y0, y1, y2, y3⟩ := act_cells S5.out.res
      have z0 := S5.out.res.frozen 0
      have z1 := S5.out.res.frozen 1
      have z2 := S5.out.res.frozen 2
      have z3 := S5.out.res.frozen 3
      go_wp2_with fail
      try simp only [Exit.inBlock, Exit.then]
      exact oact_end (blk_set4 S5.out.res (.int .i64 K) (.float .f64 0) (.int .i64 0) (.string ⟨#[]⟩)) rfl ⟨Or.inl ⟨_, _, _, _, rfl, I.out, G.out⟩, grow_set4 S5.out.gr (Nat.le_refl _) _ _ _ _⟩
  · have n1 := ne_of_size hr2
    have G : Hid (ActIs oGave s.data.toList) := Or.inr ⟨rfl, by rw [HL.out]; exact GotA.none (no_big _ _ hc)⟩
    clear y0 y1 y2 y3 z0 z1 z2 z3
    go_wp2_with fail
    exact ⟨rfl, G.out, S2.out.gr⟩

theorem oact_any (p : Nat) (s : ByteArray) (w : World) (B : ORd w p s) (hs : s.size ≤ 140737488351232) :
    Calls Tryd.prog 42 #[.pointer (some ⟨p, 0, none⟩)] w fun e w' => ActIs e s.data.toList ∧ w.grownBy w' (some p) := by
  by_cases hp : s.size = 0
  · exact oact_nil p s w B hp
  · have hp : 0 < s.size := by omega
    have hz := ext_size s 1 (by omega)
    obtain ⟨c, hc⟩ : ∃ c, s[0] = c := ⟨_, rfl⟩
    by_cases k0 : c = 0
    · subst k0
      by_cases hp2 : (s.extract 1 s.size).size = 0
      · exact oact_0nil p s w B hs hp _ rfl hc hp2
      · have hp2 : 0 < (s.extract 1 s.size).size := by omega
        have hz2 := ext_size (s.extract 1 s.size) 1 (by omega)
        obtain ⟨d, hd⟩ : ∃ d, (s.extract 1 s.size)[0] = d := ⟨_, rfl⟩
        by_cases g1 : d = 110
        · subst g1
          by_cases h8 : ((s.extract 1 s.size).extract 1 (s.extract 1 s.size).size).size < 8
          · exact oact_0num8 p s w B hs hp _ rfl hc hp2 hd _ rfl h8
          · obtain ⟨x, er, hN, h1, h2⟩ := onum_get ((s.extract 1 s.size).extract 1 (s.extract 1 s.size).size) (by omega) (by omega)
            have her : er = 0 ∨ er = 4 := by
              rcases hN.2 with h | h
              · exact Or.inl h.1
              · exact Or.inr h.1
            rcases her with rfl | rfl
            · exact oact_0num p s w B hs hp _ rfl hc hp2 hd _ rfl x hN (by omega) (h1 rfl)
            · exact oact_0numbad p s w B hs hp _ rfl hc hp2 hd _ rfl x hN (by omega) (h2 rfl)
        · by_cases g2 : d = 116
          · subst g2
            by_cases h8 : ((s.extract 1 s.size).extract 1 (s.extract 1 s.size).size).size = 0
            · exact oact_0text0 p s w B hs hp _ rfl hc hp2 hd _ rfl h8
            · exact oact_0text p s w B hs hp _ rfl hc hp2 hd _ rfl (by omega)
          · exact oact_0other p s w B hs hp _ rfl hc hp2 d hd g1 g2
    · by_cases k1 : c = 1
      · subst k1
        by_cases h8 : (s.extract 1 s.size).size < 8
        · exact oact_1short p s w B hs hp _ rfl hc h8
        · exact oact_1 p s w B hs hp _ rfl hc (by omega)
      · by_cases k4 : c = 4
        · subst k4
          exact oact_4 p s w B hs hp _ rfl hc
        · have kk : ∀ k : UInt8, k = 2 ∨ k = 3 → c = k → Calls Tryd.prog 42 #[.pointer (some ⟨p, 0, none⟩)] w fun e w' => ActIs e s.data.toList ∧ w.grownBy w' (some p) := by
            intro k hk hck
            subst hck
            by_cases h8 : (s.extract 1 s.size).size < 8
            · rcases hk with rfl | rfl
              · exact oact_2num8 p s w B hs hp _ rfl hc h8
              · exact oact_3num8 p s w B hs hp _ rfl hc h8
            · obtain ⟨x, er, hN, h1, h2⟩ := onum_get (s.extract 1 s.size) (by omega) (by omega)
              have her : er = 0 ∨ er = 4 := by
                rcases hN.2 with h | h
                · exact Or.inl h.1
                · exact Or.inr h.1
              rcases her with rfl | rfl
              · rcases hk with rfl | rfl
                · exact oact_2num p s w B hs hp _ rfl hc x hN (by omega) (h1 rfl)
                · exact oact_3num p s w B hs hp _ rfl hc x hN (by omega) (h1 rfl)
              · rcases hk with rfl | rfl
                · exact oact_2numbad p s w B hs hp _ rfl hc x hN (by omega) (h2 rfl)
                · exact oact_3numbad p s w B hs hp _ rfl hc x hN (by omega) (h2 rfl)
          by_cases k2 : c = 2
          · exact kk 2 (Or.inl rfl) k2
          · by_cases k3 : c = 3
            · exact kk 3 (Or.inr rfl) k3
            · refine oact_big p s w B hs hp _ rfl c hc ?_
              rcases Nat.lt_or_ge 4 c.toNat with h | h
              · exact h
              · exfalso
                have : c.toNat = 0 ∨ c.toNat = 1 ∨ c.toNat = 2 ∨ c.toNat = 3 ∨ c.toNat = 4 := by omega
                rcases this with h | h | h | h | h
                · exact k0 (UInt8.toNat_inj.1 h)
                · exact k1 (UInt8.toNat_inj.1 h)
                · exact k2 (UInt8.toNat_inj.1 h)
                · exact k3 (UInt8.toNat_inj.1 h)
                · exact k4 (UInt8.toNat_inj.1 h)

end Go.Proofs.YthacdegaeokgnaaDoor

namespace Go.Proofs.YthacdegaeokgnaaDoor
open Go.RowKit

/-- A world in which the act in block a is none any more, and the error in block b is er. -/
def freshA (w : World) (a b : Nat) (er : Int) : World :=
  ((((w.setCell ⟨a, 0, none⟩ (.int .i64 0)).setCell ⟨a, 1, none⟩ (.float .f64 0)).setCell ⟨a, 2, none⟩ (.int .i64 0)).setCell ⟨a, 3, none⟩ (.string ⟨#[]⟩)).setCell ⟨b, 0, none⟩ (.int .i64 er)

set_option maxHeartbeats 2000000 in
theorem oget_catch (a b : Nat) (er y : Int) (older : List PanicEntry) (w : World) (kd : Int) (nu : Nat) (it : Int) (tx : ByteArray) (Ba : Blk w a 24 (actC kd nu it tx)) (Bb : Blk w b 28 #[.int .i64 y]) (hab : a ≠ b) :
    CallsD Tryd.prog 40 #[.pointer (some ⟨a, 0, none⟩), .pointer (some ⟨b, 0, none⟩)] (.panicking ({ v := .iface 28 (.int .i64 er), recovered := false } :: older)) w fun e u' w' =>
      e = .returned (.tuple #[]) ∧ u' = .panicking ({ v := .iface 28 (.int .i64 er), recovered := true } :: older) ∧ w' = freshA w a b er := by
  obtain ⟨c0, c1, c2, c3⟩ := act_cells Ba
  have z0 := Ba.frozen 0
  have z1 := Ba.frozen 1
  have z2 := Ba.frozen 2
  have z3 := Ba.frozen 3
  have d0 : w.cell? ⟨b, 0, none⟩ = some (.int .i64 y) := Bb.cell 0
  have y0 := Bb.frozen 0
  have hst := run_sto_f64
  refine callsD_of_wpS Tryd.func40 rfl fun c₀ cs hu => ?_
  apply wpS_seq
  apply wpS_region
  simp [wpOpsS, go_sem, recoverD, hu, Tryd.ntmps40, Exit.thenS]
  refine wpS_of_wp ?_
  simp [Array.replicate]
  go_wp2_with fail
  refine (told_errno _ _).mono ?_
  rintro e w' ⟨rfl, rfl⟩
  go_wp2
  simp [bodyPostS, results, Tryd.results40, freshA]

set_option maxHeartbeats 400000 in
theorem oget_idle (a b : Value) (w : World) :
    CallsD Tryd.prog 40 #[a, b] .returning w fun e u' w' => e = .returned (.tuple #[]) ∧ u' = .returning ∧ w' = w := by
  refine callsD_of_wpS Tryd.func40 rfl fun c₀ cs hu => ?_
  apply wpS_seq
  apply wpS_region
  simp [wpOpsS, go_sem, recoverD, hu, Tryd.ntmps40, Exit.thenS]
  refine wpS_of_wp ?_
  simp [Array.replicate]
  go_wp2
  cases c₀
  simp_all [bodyPostS, results, Tryd.results40]

theorem freshA_blk {w : World} {a b : Nat} (er y : Int) {kd : Int} {nu : Nat} {it : Int} {tx : ByteArray} (Ba : Blk w a 24 (actC kd nu it tx)) (Bb : Blk w b 28 #[.int .i64 y]) (hab : a ≠ b) :
    Blk (freshA w a b er) a 24 (actC 0 0 0 ⟨#[]⟩) ∧ Blk (freshA w a b er) b 28 #[.int .i64 er] := by
  constructor
  · exact (blk_set4 Ba (.int .i64 0) (.float .f64 0) (.int .i64 0) (.string ⟨#[]⟩)).far (p := ⟨b, 0, none⟩) hab _
  · have hb : b ≠ a := fun h => hab h.symm
    exact (blk_far4 Bb hb (.int .i64 0) (.float .f64 0) (.int .i64 0) (.string ⟨#[]⟩)).set_ 0 (.int .i64 er)
theorem freshA_below {w0 w : World} {a b B : Nat} (er : Int) (h : Below B w0 w) (ha : B ≤ a) (hb : B ≤ b) : Below B w0 (freshA w a b er) :=
  below_setCell (below_set4 h ha _ _ _ _) hb _

/-- What gave up is recovered: the results are set anew. -/
theorem oend_err (w2 : World) (p : Nat) (t : Array Value) (er y : Int) {kd : Int} {nu : Nat} {it : Int} {tx : ByteArray} {R : Ending → World → Prop} (Ba : Blk w2 p 24 (actC kd nu it tx)) (Bb : Blk w2 (p + 1) 28 #[.int .i64 y])
    (t2 : t[2]?.getD undef = .pointer (some ⟨p, 0, none⟩)) (t3 : t[3]?.getD undef = .pointer (some ⟨p + 1, 0, none⟩)) (h : R (.returned (.tuple #[actV 0 0 0 ⟨#[]⟩, .int .i64 er])) (freshA w2 p (p + 1) er)) :
    bodyPostD Tryd.prog Tryd.f14 R (Exit.panic [{ v := .iface 28 (.int .i64 er), recovered := false }])
      { tmps := t, defers := [{ target := Target.fn (Fn.func 40) #[.pointer (some ⟨p, 0, none⟩), .pointer (some ⟨p + 1, 0, none⟩)], args := #[] }] } w2 := by
  obtain ⟨E0, E1⟩ := freshA_blk er y Ba Bb (by omega)
  refine leaves_cons (f := 40) (args := #[.pointer (some ⟨p, 0, none⟩), .pointer (some ⟨p + 1, 0, none⟩)]) (by simp) (by simp [go_sem]) ?_
  refine (oget_catch p (p + 1) er y [] _ _ _ _ _ Ba Bb (by omega)).mono ?_
  rintro e u' w'' ⟨rfl, rfl, rfl⟩
  generalize freshA w2 p (p + 1) er = w3 at *
  obtain ⟨c0, c1, c2, c3⟩ := act_cells E0
  have e1 : w3.cell? ⟨p + 1, 0, none⟩ = some (.int .i64 er) := E1.cell 0
  simp [Leaves, settle, results, Tryd.results14, go_sem, c0, c1, c2, c3, e1, t2, t3]
  exact h
/-- What is got stands in the results. -/
theorem oend_ok (w2 : World) (p : Nat) (t : Array Value) {kd : Int} {nu : Nat} {it : Int} {tx : ByteArray} {R : Ending → World → Prop} (Ba : Blk w2 p 24 (actC kd nu it tx)) (Bb : Blk w2 (p + 1) 28 #[.int .i64 0])
    (t2 : t[2]?.getD undef = .pointer (some ⟨p, 0, none⟩)) (t3 : t[3]?.getD undef = .pointer (some ⟨p + 1, 0, none⟩)) (h : R (.returned (.tuple #[actV kd nu it tx, .int .i64 0])) w2) :
    bodyPostD Tryd.prog Tryd.f14 R Exit.ret
      { tmps := t, defers := [{ target := Target.fn (Fn.func 40) #[.pointer (some ⟨p, 0, none⟩), .pointer (some ⟨p + 1, 0, none⟩)], args := #[] }] } w2 := by
  obtain ⟨c0, c1, c2, c3⟩ := act_cells Ba
  have e1 : w2.cell? ⟨p + 1, 0, none⟩ = some (.int .i64 0) := Bb.cell 0
  refine leaves_cons (f := 40) (args := #[.pointer (some ⟨p, 0, none⟩), .pointer (some ⟨p + 1, 0, none⟩)]) (by simp) (by simp [go_sem]) ?_
  refine (oget_idle _ _ _).mono ?_
  rintro e u' w'' ⟨rfl, rfl, rfl⟩
  simp [Leaves, settle, results, Tryd.results14, go_sem, c0, c1, c2, c3, e1, t2, t3]
  exact h

set_option maxRecDepth 100000 in
set_option maxHeartbeats 4000000 in
theorem oget_any (s : ByteArray) (hs : s.size ≤ 140737488351232) (w : World) :
    Calls Tryd.prog 14 #[.string s] w fun e w' => RetG e s.data.toList ∧ Below w.heap.size w w' := by
  have hmf : ∀ (fn : Fn) (first cap : Array Value) (w : World), (Instr.makeFunc fn first cap).run Tryd.prog w = .ok (.func fn first cap) w := fun _ _ _ _ => rfl
  have P0 : Hid (Blk (((w.alloc (.cells #[.int .i64 0, .float .f64 0, .int .i64 0, .string ⟨#[]⟩] 24)).alloc (.cells #[.int .i64 0] 28)).alloc (.cells #[.string s] 64)) w.heap.size 24 (actC 0 0 0 ⟨#[]⟩)) := ((Blk.new _ _ _).alloc _).alloc _
  have E0 : Hid (Blk (((w.alloc (.cells #[.int .i64 0, .float .f64 0, .int .i64 0, .string ⟨#[]⟩] 24)).alloc (.cells #[.int .i64 0] 28)).alloc (.cells #[.string s] 64)) (w.heap.size + 1) 28 #[.int .i64 0]) := (Blk.new' (by simp) _ _).alloc _
  have R0 : Hid (ORd (((w.alloc (.cells #[.int .i64 0, .float .f64 0, .int .i64 0, .string ⟨#[]⟩] 24)).alloc (.cells #[.int .i64 0] 28)).alloc (.cells #[.string s] 64)) (w.heap.size + 2) s) := Blk.new' (by simp) _ _
  have hb0 : Hid (Below w.heap.size w (((w.alloc (.cells #[.int .i64 0, .float .f64 0, .int .i64 0, .string ⟨#[]⟩] 24)).alloc (.cells #[.int .i64 0] 28)).alloc (.cells #[.string s] 64))) := below_alloc (below_alloc (below_alloc (Below.refl _ _) (Nat.le_refl _) _) (Nat.le_refl _) _) (Nat.le_refl _) _
  go_enter_defers Tryd.func14, Tryd.ntmps14
  go_wp2_with fail
  generalize (((w.alloc (.cells #[.int .i64 0, .float .f64 0, .int .i64 0, .string ⟨#[]⟩] 24)).alloc (.cells #[.int .i64 0] 28)).alloc (.cells #[.string s] 64)) = w0 at *
  refine (oact_any (w.heap.size + 2) s w0 R0.out hs).mono ?_
  rintro e w1 ⟨h, g⟩
  have P1 := Lib.hid (kblk_by P0.out g (by omega))
  have E1 := Lib.hid (kblk_by E0.out g (by omega))
  have hb1 := Lib.hid (kbelow_by hb0.out g (Nat.le_refl _) (by omega))
  clear P0 E0 hb0 R0 g
  rcases h with ⟨kd, nu, it, tx, rfl, hI, hG⟩ | ⟨rfl, hG⟩
  · unfold actV
    have HI := Lib.hid hI
    have HG := Lib.hid hG
    obtain ⟨c0, c1, c2, c3⟩ := act_cells P1.out
    have z0 := P1.out.frozen 0
    have z1 := P1.out.frozen 1
    have z2 := P1.out.frozen 2
    have z3 := P1.out.frozen 3
    have d0 : w1.cell? ⟨w.heap.size + 1, 0, none⟩ = some (.int .i64 0) := E1.out.cell 0
    have y0 := E1.out.frozen 0
    have hst := run_sto_f64
    clear hI hG
    go_wp2_with fail
    have hn : w.heap.size + 1 ≠ w.heap.size := by omega
    exact oend_ok _ w.heap.size _ ((blk_set4 P1.out (.int .i64 kd) (.float .f64 nu) (.int .i64 it) (.string tx)).far (p := ⟨w.heap.size + 1, 0, none⟩) (by dsimp only; omega) _)
      ((blk_far4 E1.out hn (.int .i64 kd) (.float .f64 nu) (.int .i64 it) (.string tx)).set_ 0 (.int .i64 0)) rfl rfl
      ⟨⟨kd, nu, it, tx, 0, rfl, HI.out, HG.out⟩, below_setCell (below_set4 hb1.out (Nat.le_refl _) _ _ _ _) (by dsimp only; omega) _⟩
  · have HG := Lib.hid hG
    clear hG
    unfold oGave
    go_wp2_with fail
    exact oend_err w1 w.heap.size _ 4 0 P1.out E1.out rfl rfl ⟨⟨0, 0, 0, ⟨#[]⟩, 4, rfl, ActIn.zero, by rw [a6_zero]; exact HG.out⟩, freshA_below 4 hb1.out (Nat.le_refl _) (by omega)⟩
end Go.Proofs.YthacdegaeokgnaaDoor

namespace Go.Proofs.YthacdegaeokgnaaDoor
open Go.RowKit

theorem rafter_end {w : World} {p : Nat} {t : Array Value} {R : Ending → World → Prop} {th : Bool} {nu : Nat} {it : Int} {tx : ByteArray} (B : Blk w p 26 (valC th nu it tx)) (h6 : t[6]?.getD undef = .pointer (some ⟨p, 0, none⟩)) (h : R (.returned (valV th nu it tx)) w) :
    bodyPost Tryd.prog Tryd.f23 R .ret { tmps := t, defers := [] } w := by
  obtain ⟨c0, c1, c2, c3⟩ := val_cells B
  refine bodyPost_ret (v := valV th nu it tx) ?_ rfl h
  simp [results, Tryd.results23, go_sem, c0, c1, c2, c3, h6, valV]

set_option maxRecDepth 100000 in
set_option maxHeartbeats 8000000 in
theorem rafter_any (key : ByteArray) (hk : key.size ≤ 9223372036854775807) (th : Bool) (vn : Nat) (vi : Int) (vt : ByteArray) (IV : ValIn vn vi vt) (kd : Int) (nu : Nat) (it : Int) (tx : ByteArray) (I : ActIn kd nu it tx) (w : World) :
    Calls Tryd.prog 23 #[.string key, valV th vn vi vt, actV kd nu it tx] w fun e w' => RetV e (afterA key.data.toList (v6 th vn vi vt) (a6 kd nu it tx)) ∧ Below w.heap.size w w' := by
  have R := fun W => Lib.hid (rfits_any key hk kd nu it tx I W)
  have CM := fun W => Lib.hid (qmax_any vn nu IV.nu I.nu W)
  have CN := fun W => Lib.hid (qmin_any vn nu IV.nu I.nu W)
  simp only [actV] at R
  unfold actV valV
  have hb0 : Hid (Below w.heap.size w (((w.alloc (.cells #[.bool th, .float .f64 vn, .int .i64 vi, .string vt] 26)).alloc (.cells #[.int .i64 kd, .float .f64 nu, .int .i64 it, .string tx] 24)).alloc (.cells #[.bool false, .float .f64 0, .int .i64 0, .string ⟨#[]⟩] 26))) := (((Below.refl _ w).alloc (Nat.le_refl _) _).alloc (by simp) _).alloc (by simp; omega) _
  have BV : Hid (Blk (((w.alloc (.cells #[.bool th, .float .f64 vn, .int .i64 vi, .string vt] 26)).alloc (.cells #[.int .i64 kd, .float .f64 nu, .int .i64 it, .string tx] 24)).alloc (.cells #[.bool false, .float .f64 0, .int .i64 0, .string ⟨#[]⟩] 26)) w.heap.size 26 (valC th vn vi vt)) := ((Blk.new w _ _).alloc _).alloc _
  have BA : Hid (Blk (((w.alloc (.cells #[.bool th, .float .f64 vn, .int .i64 vi, .string vt] 26)).alloc (.cells #[.int .i64 kd, .float .f64 nu, .int .i64 it, .string tx] 24)).alloc (.cells #[.bool false, .float .f64 0, .int .i64 0, .string ⟨#[]⟩] 26)) (w.heap.size + 1) 24 (actC kd nu it tx)) := (Blk.new' (by simp) _ _).alloc _
  have BR : Hid (Blk (((w.alloc (.cells #[.bool th, .float .f64 vn, .int .i64 vi, .string vt] 26)).alloc (.cells #[.int .i64 kd, .float .f64 nu, .int .i64 it, .string tx] 24)).alloc (.cells #[.bool false, .float .f64 0, .int .i64 0, .string ⟨#[]⟩] 26)) (w.heap.size + 1 + 1) 26 (valC false 0 0 ⟨#[]⟩)) := Blk.new' (by simp) _ _
  have hst := run_sto_f64
  obtain ⟨q1, h1⟩ : ∃ q, fitsA key.data.toList (a6 kd nu it tx) = q := ⟨_, rfl⟩
  obtain ⟨D, hD⟩ : ∃ D, Hid (doneA (v6 th vn vi vt) (a6 kd nu it tx) = D) := ⟨_, rfl⟩
  have hA : afterA key.data.toList (v6 th vn vi vt) (a6 kd nu it tx) = if q1 then D else v6 th vn vi vt := by unfold afterA; rw [h1, hD.out]
  rw [hA]
  rw [h1] at R
  clear hA
  have IV := Lib.hid IV
  have I := Lib.hid I
  have H1 := Lib.hid h1
  clear h1
  go_enter Tryd.func23, Tryd.ntmps23
  go_wp2_with fail
  generalize ((w.alloc (.cells #[.bool th, .float .f64 vn, .int .i64 vi, .string vt] 26)).alloc (.cells #[.int .i64 kd, .float .f64 nu, .int .i64 it, .string tx] 24)).alloc (.cells #[.bool false, .float .f64 0, .int .i64 0, .string ⟨#[]⟩] 26) = w0 at hb0 BV BA BR ⊢
  refine (R _).out.mono ?_
  rintro e w2 ⟨rfl, h2⟩
  have hb2 := Lib.hid (hb0.out.trans (h2.mono hb0.out.size))
  have BV2 := Lib.hid (BV.out.below h2 BV.out.lt)
  have BA2 := Lib.hid (BA.out.below h2 BA.out.lt)
  have BR2 := Lib.hid (BR.out.below h2 BR.out.lt)
  clear hb0 BV BA BR h2 R
  obtain ⟨v0, v1, v2, v3⟩ := val_cells BV2.out
  obtain ⟨a0, a1, a2, a3⟩ := act_cells BA2.out
  obtain ⟨r0, r1, r2, r3⟩ := val_cells BR2.out
  have z0 := BR2.out.frozen 0
  have z1 := BR2.out.frozen 1
  have z2 := BR2.out.frozen 2
  have z3 := BR2.out.frozen 3
  cases q1
  · skip
    go_wp2_with fail
    try simp only [Exit.inBlock, Exit.then]
    exact rafter_end (blk_set4 BR2.out (.bool th) (.float .f64 vn) (.int .i64 vi) (.string vt)) rfl ⟨⟨th, vn, vi, vt, rfl, ⟨IV.out.nu, IV.out.it, IV.out.tx⟩, rfl⟩, below_set4 hb2.out (by omega) _ _ _ _⟩
  · have hk5 := fits_kind H1.out
    simp only [a6] at hk5
    clear H1
    rcases hk5 with k | k | k | k | k
    · skip
      have e0 : (kd == 0) = false := by rw [beq_eq_false_iff_ne]; omega
      have e1 : (kd == 1) = false := by rw [beq_eq_false_iff_ne]; omega
      have e2 : (kd == 2) = false := by rw [beq_eq_false_iff_ne]; omega
      have e3 : (kd == 3) = false := by rw [beq_eq_false_iff_ne]; omega
      have e4 : (kd == 4) = true := by rw [beq_iff_eq]; omega
      have hE := hD.out
      unfold doneA a6 at hE
      simp only [k] at hE
      have HE := Lib.hid hE
      clear hE k hD
      go_wp2_with fail
      try simp only [Exit.inBlock, Exit.then]
      exact rafter_end (blk_set4 BR2.out (.bool false) (.float .f64 0) (.int .i64 0) (.string ⟨#[]⟩)) rfl ⟨⟨false, 0, 0, ⟨#[]⟩, rfl, ⟨by decide, by decide, by decide⟩, by rw [← HE.out]; unfold v6 V6.zero; simp [rank_zero]⟩, below_set4 hb2.out (by omega) _ _ _ _⟩
    · skip
      have e0 : (kd == 0) = true := by rw [beq_iff_eq]; omega
      have e1 : (kd == 1) = false := by rw [beq_eq_false_iff_ne]; omega
      have e2 : (kd == 2) = false := by rw [beq_eq_false_iff_ne]; omega
      have e3 : (kd == 3) = false := by rw [beq_eq_false_iff_ne]; omega
      have e4 : (kd == 4) = false := by rw [beq_eq_false_iff_ne]; omega
      have hE := hD.out
      unfold doneA a6 at hE
      simp only [k] at hE
      have HE := Lib.hid hE
      clear hE k hD
      go_wp2_with fail
      try simp only [Exit.inBlock, Exit.then]
      exact rafter_end (blk_set4 BR2.out (.bool true) (.float .f64 nu) (.int .i64 0) (.string tx)) rfl ⟨⟨true, nu, 0, tx, rfl, ⟨I.out.nu, by decide, I.out.tx⟩, by rw [← HE.out]; unfold v6; simp⟩, below_set4 hb2.out (by omega) _ _ _ _⟩
    · skip
      have e0 : (kd == 0) = false := by rw [beq_eq_false_iff_ne]; omega
      have e1 : (kd == 1) = true := by rw [beq_iff_eq]; omega
      have e2 : (kd == 2) = false := by rw [beq_eq_false_iff_ne]; omega
      have e3 : (kd == 3) = false := by rw [beq_eq_false_iff_ne]; omega
      have e4 : (kd == 4) = false := by rw [beq_eq_false_iff_ne]; omega
      have hE := hD.out
      unfold doneA a6 at hE
      simp only [k] at hE
      have HE := Lib.hid hE
      clear hE k hD
      cases th
      · skip
        go_wp2_with fail
        try simp only [Exit.inBlock, Exit.then]
        exact rafter_end (blk_set4 BR2.out (.bool true) (.float .f64 0) (.int .i64 it) (.string ⟨#[]⟩)) rfl ⟨⟨true, 0, it, ⟨#[]⟩, rfl, ⟨by decide, I.out.it, by decide⟩, by rw [← HE.out]; unfold v6; simp [rank_zero]⟩, below_set4 hb2.out (by omega) _ _ _ _⟩
      · skip
        go_wp2_with fail
        try simp only [Exit.inBlock, Exit.then]
        exact rafter_end (blk_set4 BR2.out (.bool true) (.float .f64 0) (.int .i64 (wrap64 (vi + it))) (.string ⟨#[]⟩)) rfl ⟨⟨true, 0, (wrap64 (vi + it)), ⟨#[]⟩, rfl, ⟨by decide, wrap_wf _, by decide⟩, by rw [← HE.out]; unfold v6; simp [rank_zero]⟩, below_set4 hb2.out (by omega) _ _ _ _⟩
    · skip
      have e0 : (kd == 0) = false := by rw [beq_eq_false_iff_ne]; omega
      have e1 : (kd == 1) = false := by rw [beq_eq_false_iff_ne]; omega
      have e2 : (kd == 2) = true := by rw [beq_iff_eq]; omega
      have e3 : (kd == 3) = false := by rw [beq_eq_false_iff_ne]; omega
      have e4 : (kd == 4) = false := by rw [beq_eq_false_iff_ne]; omega
      have hE := hD.out
      unfold doneA a6 at hE
      simp only [k] at hE
      have HE := Lib.hid hE
      clear hE k hD
      cases th
      · skip
        go_wp2_with fail
        try simp only [Exit.inBlock, Exit.then]
        exact rafter_end (blk_set4 BR2.out (.bool true) (.float .f64 nu) (.int .i64 0) (.string ⟨#[]⟩)) rfl ⟨⟨true, nu, 0, ⟨#[]⟩, rfl, ⟨I.out.nu, by decide, by decide⟩, by rw [← HE.out]; unfold v6; simp⟩, below_set4 hb2.out (by omega) _ _ _ _⟩
      · skip
        go_wp2_with fail
        refine (CM _).out.mono ?_
        rintro e w3 ⟨rfl, rfl⟩
        go_wp2_with fail
        try simp only [Exit.inBlock, Exit.then]
        exact rafter_end (blk_set4 BR2.out (.bool true) (.float .f64 (maxN vn nu)) (.int .i64 0) (.string ⟨#[]⟩)) rfl ⟨⟨true, (maxN vn nu), 0, ⟨#[]⟩, rfl, ⟨maxN_lt IV.out.nu I.out.nu, by decide, by decide⟩, by rw [← HE.out]; unfold v6; simp [maxN_rank]⟩, below_set4 hb2.out (by omega) _ _ _ _⟩
    · skip
      have e0 : (kd == 0) = false := by rw [beq_eq_false_iff_ne]; omega
      have e1 : (kd == 1) = false := by rw [beq_eq_false_iff_ne]; omega
      have e2 : (kd == 2) = false := by rw [beq_eq_false_iff_ne]; omega
      have e3 : (kd == 3) = true := by rw [beq_iff_eq]; omega
      have e4 : (kd == 4) = false := by rw [beq_eq_false_iff_ne]; omega
      have hE := hD.out
      unfold doneA a6 at hE
      simp only [k] at hE
      have HE := Lib.hid hE
      clear hE k hD
      cases th
      · skip
        go_wp2_with fail
        try simp only [Exit.inBlock, Exit.then]
        exact rafter_end (blk_set4 BR2.out (.bool true) (.float .f64 nu) (.int .i64 0) (.string ⟨#[]⟩)) rfl ⟨⟨true, nu, 0, ⟨#[]⟩, rfl, ⟨I.out.nu, by decide, by decide⟩, by rw [← HE.out]; unfold v6; simp⟩, below_set4 hb2.out (by omega) _ _ _ _⟩
      · skip
        go_wp2_with fail
        refine (CN _).out.mono ?_
        rintro e w3 ⟨rfl, rfl⟩
        go_wp2_with fail
        try simp only [Exit.inBlock, Exit.then]
        exact rafter_end (blk_set4 BR2.out (.bool true) (.float .f64 (minN vn nu)) (.int .i64 0) (.string ⟨#[]⟩)) rfl ⟨⟨true, (minN vn nu), 0, ⟨#[]⟩, rfl, ⟨minN_lt IV.out.nu I.out.nu, by decide, by decide⟩, by rw [← HE.out]; unfold v6; simp [minN_rank]⟩, below_set4 hb2.out (by omega) _ _ _ _⟩
end Go.Proofs.YthacdegaeokgnaaDoor

namespace Go.Proofs.YthacdegaeokgnaaDoor
open Go.RowKit

/-! ### Odd digits -/
theorem ctzFrom_mul : ∀ (e f m : Nat), m % 2 = 1 → e < f → Lib.ctzFrom f (m * 2 ^ e) = e
  | 0, f, m, hm, hf => by
    obtain ⟨f, rfl⟩ : ∃ g, f = g + 1 := ⟨f - 1, by omega⟩
    rw [Nat.pow_zero, Nat.mul_one]
    unfold Lib.ctzFrom
    rw [if_pos hm]
  | e + 1, f, m, hm, hf => by
    obtain ⟨f, rfl⟩ : ∃ g, f = g + 1 := ⟨f - 1, by omega⟩
    have h2 : m * 2 ^ (e + 1) = 2 * (m * 2 ^ e) := by rw [Nat.pow_succ]; rw [← Nat.mul_assoc]; omega
    unfold Lib.ctzFrom
    rw [h2, if_neg (by omega), show 2 * (m * 2 ^ e) / 2 = m * 2 ^ e from by omega, ctzFrom_mul e f m hm (by omega)]
    omega
theorem tzN_mul (m e : Nat) (hm : m % 2 = 1) (he : e < 64) : tzN (m * 2 ^ e) = e := by
  unfold tzN Lib.ctz
  rw [if_neg (Nat.mul_ne_zero (by omega) (Nat.ne_of_gt (Nat.two_pow_pos e))), ctzFrom_mul e 64 m hm he]
theorem oddN_mul (m e : Nat) (hm : m % 2 = 1) (he : e < 64) : oddN (m * 2 ^ e) = m := by
  unfold oddN
  rw [tzN_mul m e hm he]
  exact Nat.mul_div_cancel m (Nat.two_pow_pos e)
theorem odd_parts (m : Nat) (h0 : m ≠ 0) (hm : m < 18446744073709551616) : oddN m % 2 = 1 ∧ m = oddN m * 2 ^ tzN m ∧ tzN m < 64 := by
  obtain ⟨k, hk, hlt⟩ := Lib.ctzFrom_spec 64 m (by omega) hm
  have e : tzN m = Lib.ctzFrom 64 m := by unfold tzN Lib.ctz; rw [if_neg h0]
  rw [← e] at hk hlt
  have h1 : oddN m = 2 * k + 1 := Nat.div_eq_of_eq_mul_right (Nat.two_pow_pos _) hk
  rw [h1]
  refine ⟨by omega, ?_, hlt⟩
  rw [Nat.mul_comm]
  exact hk

/-- What split answers is packed as it was. -/
theorem pack_split (r : Nat) (h0 : r ≠ 0) (h : r < infR) :
    packN (spM r) (spE r) = r ∧ spM r % 2 = 1 ∧ spM r < 9007199254740992 ∧ -1074 ≤ spE r ∧ (Lib.bitLen (spM r) : Int) + spE r ≤ 1024 := by
  have hc : infR = 9218868437227405312 := rfl
  have hM := rawM_lt r
  have hM0 := rawM_pos r h0
  obtain ⟨o1, o2, o3⟩ := odd_parts (rawM r) hM0 (by omega)
  have hs := spM_lt r
  have hE : rawE r + 1074 = ((if r < 4503599627370496 then 0 else r / 4503599627370496 - 1 : Nat) : Int) ∧ rawM r = (if r < 4503599627370496 then r else 4503599627370496 + r % 4503599627370496) := by
    unfold rawE rawM
    split <;> exact ⟨by omega, rfl⟩
  unfold spE at *
  unfold spM at *
  generalize tzN (rawM r) = k at *
  generalize oddN (rawM r) = m at *
  obtain ⟨l1, l2, l3, l4⟩ := bitLen_facts m (by omega) hs
  have hlo : 2 ^ (Lib.bitLen m - 1 + k) ≤ rawM r := by
    rw [Nat.pow_add, o2]
    exact Nat.mul_le_mul_right _ l4
  have hhi : rawM r < 2 ^ (Lib.bitLen m + k) := by
    rw [Nat.pow_add, o2]
    exact Nat.mul_lt_mul_of_pos_right l3 (Nat.two_pow_pos _)
  have up : ∀ j, rawM r < 2 ^ j → Lib.bitLen m + k ≤ j := fun j hj => by
    rcases Nat.lt_or_ge j (Lib.bitLen m + k) with h1 | h1
    · have : 2 ^ j ≤ 2 ^ (Lib.bitLen m - 1 + k) := Nat.pow_le_pow_right (by decide) (by omega)
      omega
    · exact h1
  have hle := up 53 hM
  have hleft : leftN m (rawE r + (k : Int)) = (k : Int) := by
    unfold leftN
    by_cases hr : r < 4503599627370496
    · rw [if_pos hr, if_pos hr] at hE
      have := up 52 (by rw [hE.2]; exact hr)
      rw [if_neg (by omega)]
      omega
    · rw [if_neg hr, if_neg hr] at hE
      have hge : 53 ≤ Lib.bitLen m + k := by
        rcases Nat.lt_or_ge (Lib.bitLen m + k) 53 with h1 | h1
        · have : 2 ^ (Lib.bitLen m + k) ≤ 2 ^ 52 := Nat.pow_le_pow_right (by decide) (by omega)
          omega
        · exact h1
      rw [if_pos (by omega)]
      omega
  refine ⟨?_, o1, hs, by split at hE <;> omega, by split at hE <;> omega⟩
  unfold packN
  rw [hleft, Int.toNat_natCast, ← o2, show rawE r + (k : Int) - (k : Int) + 1074 = rawE r + 1074 from by omega, hE.1, hE.2, Int.toNat_natCast]
  split <;> omega

theorem join_odd (m e : Nat) (p : Int) (hm : m % 2 = 1) (hs : m * 2 ^ e < 9007199254740992) (he : e < 64) (h1 : -1074 ≤ p + (e : Int)) (h2 : (Lib.bitLen m : Int) + (p + (e : Int)) ≤ 1024) :
    joinN (m * 2 ^ e) p = some (packN m (p + (e : Int))) := by
  unfold joinN
  rw [if_neg (by omega), if_neg (Nat.mul_ne_zero (by omega) (Nat.ne_of_gt (Nat.two_pow_pos e))), tzN_mul m e hm he, oddN_mul m e hm he, if_neg (by omega)]

/-! ### Digits and 'p' -/
theorem cutP_plain : ∀ a : List UInt8, (∀ c ∈ a, c ≠ 112) → cutP a = (a, none)
  | [], _ => rfl
  | c :: a, h => by
    unfold cutP
    rw [if_neg (h c (by simp)), cutP_plain a (fun d hd => h d (by simp [hd]))]
theorem cutP_cat : ∀ a b : List UInt8, (∀ c ∈ a, c ≠ 112) → cutP (a ++ 112 :: b) = (a, some b)
  | [], b, _ => by simp [cutP]
  | c :: a, b, h => by
    rw [List.cons_append]
    unfold cutP
    rw [if_neg (h c (by simp)), cutP_cat a b (fun d hd => h d (by simp [hd]))]
theorem dec_no_p (u : Nat) : ∀ c ∈ Lib.decDigits u, c ≠ 112 := by
  intro c hc h
  have := dec_digit u c hc
  subst h
  revert this
  decide
theorem dec_cons (u : Nat) : ∃ c r, Lib.decDigits u = c :: r ∧ 48 ≤ c.toNat ∧ c.toNat ≤ 57 := by
  cases h : Lib.decDigits u with
  | nil => exact absurd h (dec_ne u)
  | cons c r =>
    have := dec_digit u c (by rw [h]; simp)
    exact ⟨c, r, rfl, this.1, this.2⟩
theorem pre_digit (c : UInt8) (r : List UInt8) (h : 48 ≤ c.toNat) : Lib.hasPrefix (c :: r) [45] = false := by
  simp only [Lib.hasPrefix, List.isPrefixOf, Bool.and_true, beq_eq_false_iff_ne]
  rintro rfl
  revert h
  decide
theorem nd_le (u k : Nat) (h : u < 10 ^ k) (hk : 1 ≤ k) : (Lib.decDigits u).length ≤ k := by
  rw [Lib.decDigits_length]
  rcases Nat.eq_zero_or_pos u with h0 | h0
  · subst h0; rw [Lib.nDigits_small (by decide)]; exact hk
  · rcases Nat.lt_or_ge k (Lib.nDigits u) with hl | hl
    · have := pow_le_nDigits u (by omega)
      have : 10 ^ k ≤ 10 ^ (Lib.nDigits u - 1) := Nat.pow_le_pow_right (by decide) (by omega)
      omega
    · exact hl
theorem itoa_nat (u : Nat) : Lib.itoa (u : Int) = Lib.decDigits u := by
  unfold Lib.itoa
  rw [if_neg (by omega), Int.toNat_natCast]
theorem itoa_le5 (p : Int) (h0 : -9999 ≤ p) (h1 : p ≤ 9999) : (Lib.itoa p).length ≤ 5 := by
  unfold Lib.itoa
  split
  · have := nd_le p.natAbs 4 (by omega) (by decide)
    simp; omega
  · have := nd_le p.toNat 4 (by omega) (by decide)
    omega

/-- The text of a number without a sign is read. -/
theorem prod_uns (r : Nat) (h : r < infR) : ∃ m p c u, prodL (unsN r) = some (m, p) ∧ joinN m p = some r ∧ unsN r = c :: u ∧ 48 ≤ c.toNat ∧ c.toNat ≤ 57 := by
  by_cases h0 : r = 0
  · subst h0
    exact ⟨0, 0, 48, [], by decide +kernel, by decide +kernel, unsN_zero, by decide, by decide⟩
  · obtain ⟨p1, p2, p3, p4, p5⟩ := pack_split r h0 h
    have hE := spE_lt r h0 h
    cases hw : whole r
    · have hu : unsN r = Lib.itoa (spM r : Int) ++ 112 :: Lib.itoa (spE r) := by unfold unsN; rw [if_neg h0, if_neg (by omega), if_neg (by rw [hw]; decide)]
      rw [itoa_nat] at hu
      obtain ⟨c, t, hc, g1, g2⟩ := dec_cons (spM r)
      have hn1 : numL (Lib.decDigits (spM r)) = some (spM r : Int) := by
        have := numL_itoa (spM r : Int)
        rw [itoa_nat, if_pos ⟨by omega, by omega⟩] at this
        exact this
      have hn2 : numL (Lib.itoa (spE r)) = some (spE r) := by
        have := numL_itoa (spE r)
        rw [if_pos ⟨by omega, by omega⟩] at this
        exact this
      refine ⟨spM r, spE r, c, t ++ 112 :: Lib.itoa (spE r), ?_, ?_, by rw [hu, hc, List.cons_append], g1, g2⟩
      · unfold prodL
        rw [hu, cutP_cat _ _ (dec_no_p _)]
        dsimp only
        rw [show Lib.hasPrefix (Lib.decDigits (spM r)) [45] = false from by rw [hc]; exact pre_digit c t g1, hn1]
        simp only [Bool.false_eq_true, if_false, Option.getD_some, hn2, Int.toNat_natCast]
        rw [if_neg (by have := itoa_le5 (spE r) (by omega) (by omega); omega)]
      · have := join_odd (spM r) 0 (spE r) p2 (by rw [Nat.pow_zero, Nat.mul_one]; exact p3) (by decide) (by simpa using p4) (by simpa using p5)
        rw [Nat.pow_zero, Nat.mul_one] at this
        rw [this, show spE r + ((0 : Nat) : Int) = spE r from by omega, p1]
    · have hu : unsN r = Lib.itoa ((spM r * 2 ^ (spE r).toNat : Nat) : Int) := by unfold unsN; rw [if_neg h0, if_neg (by omega), if_pos hw]
      rw [itoa_nat] at hu
      unfold whole at hw
      have hw := of_decide_eq_true hw
      have hlt := len_lt (spM r) (spE r).toNat (by omega) (by omega)
      obtain ⟨c, t, hc, g1, g2⟩ := dec_cons (spM r * 2 ^ (spE r).toNat)
      have hn1 : numL (Lib.decDigits (spM r * 2 ^ (spE r).toNat)) = some ((spM r * 2 ^ (spE r).toNat : Nat) : Int) := by
        have := numL_itoa ((spM r * 2 ^ (spE r).toNat : Nat) : Int)
        rw [itoa_nat, if_pos ⟨by omega, by omega⟩] at this
        exact this
      refine ⟨spM r * 2 ^ (spE r).toNat, 0, c, t, ?_, ?_, by rw [hu, hc], g1, g2⟩
      · unfold prodL
        rw [hu, cutP_plain _ (dec_no_p _)]
        dsimp only
        rw [show Lib.hasPrefix (Lib.decDigits (spM r * 2 ^ (spE r).toNat)) [45] = false from by rw [hc]; exact pre_digit c t g1, hn1]
        simp only [Bool.false_eq_true, if_false, Option.getD_none, List.length_nil, Int.toNat_natCast]
        rw [if_neg (by omega)]
      · have hl1 := (bitLen_facts (spM r) (by omega) p3).1
        have := join_odd (spM r) (spE r).toNat 0 p2 hlt (by omega) (by omega) (by omega)
        rw [this, show (0 : Int) + ((spE r).toNat : Int) = spE r from by omega, p1]

/-- **A number's text is read as the number.** -/
theorem parse_text (x : Nat) (hx : x < 18446744073709551616) (hn : isN x = false) : parseN (textN x) = (x, 0) := by
  have hi : rung x ≤ infR := by simpa [isN] using hn
  have hc : infR = 9218868437227405312 := rfl
  unfold textN
  rw [hn]
  simp only [Bool.false_eq_true, if_false]
  by_cases hr : rung x = infR
  · have hu : unsN infR = [105, 110, 102] := by decide
    rcases word_parts x hx with ⟨h1, h2, h3⟩ | ⟨h1, h2, h3⟩
    · rw [h1, if_pos rfl, hr, hu]
      have : x = 18442240474082181120 := by omega
      rw [this]
      decide
    · rw [h1, hr, hu]
      have : x = 9218868437227405312 := by omega
      rw [this]
      decide
  · obtain ⟨m, p, c, u, hP, hJ, hu, g1, g2⟩ := prod_uns (rung x) (by omega)
    have hc1 : c ≠ 110 := by rintro rfl; revert g2; decide
    have hc2 : c ≠ 105 := by rintro rfl; revert g2; decide
    have hc3 : c ≠ 45 := by rintro rfl; revert g1; decide
    rcases word_parts x hx with ⟨h1, h2, h3⟩ | ⟨h1, h2, h3⟩
    · rw [h1]
      simp only [if_true]
      have ht : Lib.trimPrefix (45 :: unsN (rung x)) [45] = unsN (rung x) := by
        unfold Lib.trimPrefix
        rw [if_pos (by simp [Lib.hasPrefix])]
        rfl
      have hh : Lib.hasPrefix (45 :: unsN (rung x)) [45] = true := by simp [Lib.hasPrefix]
      have hng : Op.negFloat .f64 (rung x) = x := by
        rw [neg_word _ (by omega), (small_parts (rung x) h3).1]
        simp only [Bool.false_eq_true, if_false]
        omega
      unfold parseN
      rw [ht, hh, hP]
      dsimp only
      rw [hJ]
      dsimp only
      rw [if_neg (by rw [hu]; simp), if_neg (by rw [hu]; simp), if_neg (by rw [hu]; simp [hc2]), if_pos rfl, hng]
    · rw [h1]
      simp only [Bool.false_eq_true, if_false]
      have hh : Lib.hasPrefix (unsN (rung x)) [45] = false := by rw [hu]; exact pre_digit c u g1
      have ht : Lib.trimPrefix (unsN (rung x)) [45] = unsN (rung x) := by
        unfold Lib.trimPrefix
        rw [if_neg (by rw [hh]; decide)]
      unfold parseN
      rw [ht, hh, hP]
      dsimp only
      rw [hJ]
      dsimp only
      rw [if_neg (by rw [hu]; simp [hc1]), if_neg (by rw [hu]; simp [hc2]), if_neg (by rw [hu]; simp [hc3])]
      simp only [Bool.false_eq_true, if_false]
      rw [← h2]
end Go.Proofs.YthacdegaeokgnaaDoor
