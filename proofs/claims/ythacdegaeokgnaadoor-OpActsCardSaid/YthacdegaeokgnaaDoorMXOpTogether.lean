/-
  OpTogether: of keys whose acts add up two acts as one do what they do one behind the other, in whatever grouping and order.
-/
import Derived.Test.YthacdegaeokgnaaDoorMXOpTexts
import Derived.Test.YthacdegaeokgnaaDoorM7
namespace Go.Proofs.YthacdegaeokgnaaDoor
open Go.RowKit

/-- An act known by its place alone. -/
def SlotA {T : World → World → Prop} (x : A6) : Slot T := Slot.sort fun v => ∃ kd nu it tx, v = actV kd nu it tx ∧ ActIn kd nu it tx ∧ a6 kd nu it tx = x
/-- Three acts and a value in blocks of their own, and all that was there. -/
structure Tog6 (w : World) (kd1 : Int) (nu1 : Nat) (it1 : Int) (tx1 : ByteArray) (kd2 : Int) (nu2 : Nat) (it2 : Int) (tx2 : ByteArray) (kd3 : Int) (nu3 : Nat) (it3 : Int) (tx3 : ByteArray) (th : Bool) (vn : Nat) (vi : Int) (vt : ByteArray) (W : World) : Prop where
  a : Blk W w.heap.size 24 (actC kd1 nu1 it1 tx1)
  b : Blk W (w.heap.size + 1) 24 (actC kd2 nu2 it2 tx2)
  c : Blk W (w.heap.size + 1 + 1) 24 (actC kd3 nu3 it3 tx3)
  v : Blk W (w.heap.size + 1 + 1 + 1) 26 (valC th vn vi vt)
  below : Below w.heap.size w W
section
variable {w W W' : World} {kd1 : Int} {nu1 : Nat} {it1 : Int} {tx1 : ByteArray} {kd2 : Int} {nu2 : Nat} {it2 : Int} {tx2 : ByteArray} {kd3 : Int} {nu3 : Nat} {it3 : Int} {tx3 : ByteArray} {th : Bool} {vn : Nat} {vi : Int} {vt : ByteArray}
theorem Tog6.on (h : Tog6 w kd1 nu1 it1 tx1 kd2 nu2 it2 tx2 kd3 nu3 it3 tx3 th vn vi vt W) (hb : Below W.heap.size W W') : Tog6 w kd1 nu1 it1 tx1 kd2 nu2 it2 tx2 kd3 nu3 it3 tx3 th vn vi vt W' := ⟨h.a.below hb h.a.lt, h.b.below hb h.b.lt, h.c.below hb h.c.lt, h.v.below hb h.v.lt, h.below.trans (hb.mono h.below.size)⟩
theorem Tog6.alloc (h : Tog6 w kd1 nu1 it1 tx1 kd2 nu2 it2 tx2 kd3 nu3 it3 tx3 th vn vi vt W) (o : Obj) : Tog6 w kd1 nu1 it1 tx1 kd2 nu2 it2 tx2 kd3 nu3 it3 tx3 th vn vi vt (W.alloc o) := h.on ((Below.refl _ W).alloc (Nat.le_refl _) _)
theorem Tog6.drew (h : Tog6 w kd1 nu1 it1 tx1 kd2 nu2 it2 tx2 kd3 nu3 it3 tx3 th vn vi vt W) : Tog6 w kd1 nu1 it1 tx1 kd2 nu2 it2 tx2 kd3 nu3 it3 tx3 th vn vi vt W.drew := ⟨h.a, h.b, h.c, h.v, h.below.drew⟩
theorem Tog6.put4 (h : Tog6 w kd1 nu1 it1 tx1 kd2 nu2 it2 tx2 kd3 nu3 it3 tx3 th vn vi vt W) {p : Nat} (hp : w.heap.size + 4 ≤ p) (v0 v1 v2 v3 : Value) :
    Tog6 w kd1 nu1 it1 tx1 kd2 nu2 it2 tx2 kd3 nu3 it3 tx3 th vn vi vt ((((W.setCell ⟨p, 0, none⟩ v0).setCell ⟨p, 1, none⟩ v1).setCell ⟨p, 2, none⟩ v2).setCell ⟨p, 3, none⟩ v3) :=
  ⟨blk_far4 h.a (by omega) _ _ _ _, blk_far4 h.b (by omega) _ _ _ _, blk_far4 h.c (by omega) _ _ _ _, blk_far4 h.v (by omega) _ _ _ _, below_set4 h.below (by omega) _ _ _ _⟩
end
theorem after_reg {key : List UInt8} {c : A6} (hc : fitsA key c = true) (hk : key.headD 0 = 114 ∨ key.headD 0 = 116) (v u : V6) : afterA key v c = afterA key u c := by
  unfold afterA
  rw [hc, if_pos rfl, if_pos rfl]
  unfold doneA
  rcases fits_cases hc with ⟨_, h | h⟩ | ⟨_, h | h⟩ | ⟨h, _⟩ | ⟨h, _⟩ | ⟨h, _⟩
  · simp [h.1]
  · simp [h.1]
  · simp [h.1]
  · simp [h.1]
  all_goals (rcases hk with hk | hk <;> (rw [hk] at h; exact absurd h (by decide)))

set_option maxRecDepth 100000 in
set_option maxHeartbeats 4000000 in
theorem optog_1 (key : ByteArray) (hk : key.size ≤ 9223372036854775807) (kd1 : Int) (nu1 : Nat) (it1 : Int) (tx1 : ByteArray) (I1 : ActIn kd1 nu1 it1 tx1) (kd2 : Int) (nu2 : Nat) (it2 : Int) (tx2 : ByteArray) (I2 : ActIn kd2 nu2 it2 tx2) (kd3 : Int) (nu3 : Nat) (it3 : Int) (tx3 : ByteArray) (I3 : ActIn kd3 nu3 it3 tx3) (th : Bool) (vn : Nat) (vi : Int) (vt : ByteArray) (IV : ValIn vn vi vt) (w : World) (hL : LaidO w) (h1 : fitsA key.data.toList (a6 kd1 nu1 it1 tx1) = false) :
    Calls Tryd.prog 9 #[.string key, actV kd1 nu1 it1 tx1, actV kd2 nu2 it2 tx2, actV kd3 nu3 it3 tx3, valV th vn vi vt] w fun e w' => e = .returned (.bool true) ∧ Below w.heap.size w w' := by
  have F1 := fun W => Lib.hid (ofits_any key hk kd1 nu1 it1 tx1 I1 W)
  have F2 := fun W => Lib.hid (ofits_any key hk kd2 nu2 it2 tx2 I2 W)
  have F3 := fun W => Lib.hid (ofits_any key hk kd3 nu3 it3 tx3 I3 W)
  rw [h1] at F1
  simp only [actV] at F1 F2 F3
  unfold actV valV
  have S0 : Tog6 w kd1 nu1 it1 tx1 kd2 nu2 it2 tx2 kd3 nu3 it3 tx3 th vn vi vt ((((w.alloc (.cells #[.int .i64 kd1, .float .f64 nu1, .int .i64 it1, .string tx1] 24)).alloc (.cells #[.int .i64 kd2, .float .f64 nu2, .int .i64 it2, .string tx2] 24)).alloc (.cells #[.int .i64 kd3, .float .f64 nu3, .int .i64 it3, .string tx3] 24)).alloc (.cells #[.bool th, .float .f64 vn, .int .i64 vi, .string vt] 26)) := ⟨(((Blk.new w _ _).alloc _).alloc _).alloc _, ((Blk.new' (by simp) _ _).alloc _).alloc _, (Blk.new' (by simp) _ _).alloc _, Blk.new' (by simp) _ _, ((((Below.refl _ w).alloc (Nat.le_refl _) _).alloc (by simp) _).alloc (by simp; omega) _).alloc (by simp; omega) _⟩
  have hst := run_sto_f64
  have hvt := IV.tx
  go_enter Tryd.func9, Tryd.ntmps9
  go_wp2_with fail
  generalize (((w.alloc (.cells #[.int .i64 kd1, .float .f64 nu1, .int .i64 it1, .string tx1] 24)).alloc (.cells #[.int .i64 kd2, .float .f64 nu2, .int .i64 it2, .string tx2] 24)).alloc (.cells #[.int .i64 kd3, .float .f64 nu3, .int .i64 it3, .string tx3] 24)).alloc (.cells #[.bool th, .float .f64 vn, .int .i64 vi, .string vt] 26) = w0 at S0 ⊢
  refine (F1 _).out.mono ?_
  rintro e w1 ⟨rfl, g⟩
  have S1 := S0.on g
  clear g
  obtain ⟨a0, a1, a2, a3⟩ := act_cells S1.a
  obtain ⟨b0, b1, b2, b3⟩ := act_cells S1.b
  obtain ⟨c0, c1, c2, c3⟩ := act_cells S1.c
  obtain ⟨d0, d1, d2, d3⟩ := val_cells S1.v
  have S1 := Lib.hid S1
  go_wp2_with fail
  refine (oalive_any _ (hL.on S1.out.below)).mono ?_
  rintro e w9 ⟨rfl, g⟩
  have S9 := Lib.hid (S1.out.on g)
  go_wp2_with fail
  go_ret
  exact ⟨rfl, S9.out.below⟩

set_option maxRecDepth 100000 in
set_option maxHeartbeats 4000000 in
theorem optog_2 (key : ByteArray) (hk : key.size ≤ 9223372036854775807) (kd1 : Int) (nu1 : Nat) (it1 : Int) (tx1 : ByteArray) (I1 : ActIn kd1 nu1 it1 tx1) (kd2 : Int) (nu2 : Nat) (it2 : Int) (tx2 : ByteArray) (I2 : ActIn kd2 nu2 it2 tx2) (kd3 : Int) (nu3 : Nat) (it3 : Int) (tx3 : ByteArray) (I3 : ActIn kd3 nu3 it3 tx3) (th : Bool) (vn : Nat) (vi : Int) (vt : ByteArray) (IV : ValIn vn vi vt) (w : World) (hL : LaidO w) (h1 : fitsA key.data.toList (a6 kd1 nu1 it1 tx1) = true) (h2 : fitsA key.data.toList (a6 kd2 nu2 it2 tx2) = false) :
    Calls Tryd.prog 9 #[.string key, actV kd1 nu1 it1 tx1, actV kd2 nu2 it2 tx2, actV kd3 nu3 it3 tx3, valV th vn vi vt] w fun e w' => e = .returned (.bool true) ∧ Below w.heap.size w w' := by
  have F1 := fun W => Lib.hid (ofits_any key hk kd1 nu1 it1 tx1 I1 W)
  have F2 := fun W => Lib.hid (ofits_any key hk kd2 nu2 it2 tx2 I2 W)
  have F3 := fun W => Lib.hid (ofits_any key hk kd3 nu3 it3 tx3 I3 W)
  rw [h1] at F1
  rw [h2] at F2
  simp only [actV] at F1 F2 F3
  unfold actV valV
  have S0 : Tog6 w kd1 nu1 it1 tx1 kd2 nu2 it2 tx2 kd3 nu3 it3 tx3 th vn vi vt ((((w.alloc (.cells #[.int .i64 kd1, .float .f64 nu1, .int .i64 it1, .string tx1] 24)).alloc (.cells #[.int .i64 kd2, .float .f64 nu2, .int .i64 it2, .string tx2] 24)).alloc (.cells #[.int .i64 kd3, .float .f64 nu3, .int .i64 it3, .string tx3] 24)).alloc (.cells #[.bool th, .float .f64 vn, .int .i64 vi, .string vt] 26)) := ⟨(((Blk.new w _ _).alloc _).alloc _).alloc _, ((Blk.new' (by simp) _ _).alloc _).alloc _, (Blk.new' (by simp) _ _).alloc _, Blk.new' (by simp) _ _, ((((Below.refl _ w).alloc (Nat.le_refl _) _).alloc (by simp) _).alloc (by simp; omega) _).alloc (by simp; omega) _⟩
  have hst := run_sto_f64
  have hvt := IV.tx
  go_enter Tryd.func9, Tryd.ntmps9
  go_wp2_with fail
  generalize (((w.alloc (.cells #[.int .i64 kd1, .float .f64 nu1, .int .i64 it1, .string tx1] 24)).alloc (.cells #[.int .i64 kd2, .float .f64 nu2, .int .i64 it2, .string tx2] 24)).alloc (.cells #[.int .i64 kd3, .float .f64 nu3, .int .i64 it3, .string tx3] 24)).alloc (.cells #[.bool th, .float .f64 vn, .int .i64 vi, .string vt] 26) = w0 at S0 ⊢
  refine (F1 _).out.mono ?_
  rintro e w1 ⟨rfl, g⟩
  have S1 := S0.on g
  clear g
  obtain ⟨a0, a1, a2, a3⟩ := act_cells S1.a
  obtain ⟨b0, b1, b2, b3⟩ := act_cells S1.b
  obtain ⟨c0, c1, c2, c3⟩ := act_cells S1.c
  obtain ⟨d0, d1, d2, d3⟩ := val_cells S1.v
  have S1 := Lib.hid S1
  go_wp2_with fail
  refine (F2 _).out.mono ?_
  rintro e w2 ⟨rfl, g⟩
  have S2 := S1.out.on g
  clear g
  clear a0 a1 a2 a3 b0 b1 b2 b3 c0 c1 c2 c3 d0 d1 d2 d3
  obtain ⟨a0, a1, a2, a3⟩ := act_cells S2.a
  obtain ⟨b0, b1, b2, b3⟩ := act_cells S2.b
  obtain ⟨c0, c1, c2, c3⟩ := act_cells S2.c
  obtain ⟨d0, d1, d2, d3⟩ := val_cells S2.v
  have S2 := Lib.hid S2
  go_wp2_with fail
  refine (oalive_any _ (hL.on S2.out.below)).mono ?_
  rintro e w9 ⟨rfl, g⟩
  have S9 := Lib.hid (S2.out.on g)
  go_wp2_with fail
  go_ret
  exact ⟨rfl, S9.out.below⟩

set_option maxRecDepth 100000 in
set_option maxHeartbeats 4000000 in
theorem optog_3 (key : ByteArray) (hk : key.size ≤ 9223372036854775807) (kd1 : Int) (nu1 : Nat) (it1 : Int) (tx1 : ByteArray) (I1 : ActIn kd1 nu1 it1 tx1) (kd2 : Int) (nu2 : Nat) (it2 : Int) (tx2 : ByteArray) (I2 : ActIn kd2 nu2 it2 tx2) (kd3 : Int) (nu3 : Nat) (it3 : Int) (tx3 : ByteArray) (I3 : ActIn kd3 nu3 it3 tx3) (th : Bool) (vn : Nat) (vi : Int) (vt : ByteArray) (IV : ValIn vn vi vt) (w : World) (hL : LaidO w) (h1 : fitsA key.data.toList (a6 kd1 nu1 it1 tx1) = true) (h2 : fitsA key.data.toList (a6 kd2 nu2 it2 tx2) = true) (h3 : fitsA key.data.toList (a6 kd3 nu3 it3 tx3) = false) :
    Calls Tryd.prog 9 #[.string key, actV kd1 nu1 it1 tx1, actV kd2 nu2 it2 tx2, actV kd3 nu3 it3 tx3, valV th vn vi vt] w fun e w' => e = .returned (.bool true) ∧ Below w.heap.size w w' := by
  have F1 := fun W => Lib.hid (ofits_any key hk kd1 nu1 it1 tx1 I1 W)
  have F2 := fun W => Lib.hid (ofits_any key hk kd2 nu2 it2 tx2 I2 W)
  have F3 := fun W => Lib.hid (ofits_any key hk kd3 nu3 it3 tx3 I3 W)
  rw [h1] at F1
  rw [h2] at F2
  rw [h3] at F3
  simp only [actV] at F1 F2 F3
  unfold actV valV
  have S0 : Tog6 w kd1 nu1 it1 tx1 kd2 nu2 it2 tx2 kd3 nu3 it3 tx3 th vn vi vt ((((w.alloc (.cells #[.int .i64 kd1, .float .f64 nu1, .int .i64 it1, .string tx1] 24)).alloc (.cells #[.int .i64 kd2, .float .f64 nu2, .int .i64 it2, .string tx2] 24)).alloc (.cells #[.int .i64 kd3, .float .f64 nu3, .int .i64 it3, .string tx3] 24)).alloc (.cells #[.bool th, .float .f64 vn, .int .i64 vi, .string vt] 26)) := ⟨(((Blk.new w _ _).alloc _).alloc _).alloc _, ((Blk.new' (by simp) _ _).alloc _).alloc _, (Blk.new' (by simp) _ _).alloc _, Blk.new' (by simp) _ _, ((((Below.refl _ w).alloc (Nat.le_refl _) _).alloc (by simp) _).alloc (by simp; omega) _).alloc (by simp; omega) _⟩
  have hst := run_sto_f64
  have hvt := IV.tx
  go_enter Tryd.func9, Tryd.ntmps9
  go_wp2_with fail
  generalize (((w.alloc (.cells #[.int .i64 kd1, .float .f64 nu1, .int .i64 it1, .string tx1] 24)).alloc (.cells #[.int .i64 kd2, .float .f64 nu2, .int .i64 it2, .string tx2] 24)).alloc (.cells #[.int .i64 kd3, .float .f64 nu3, .int .i64 it3, .string tx3] 24)).alloc (.cells #[.bool th, .float .f64 vn, .int .i64 vi, .string vt] 26) = w0 at S0 ⊢
  refine (F1 _).out.mono ?_
  rintro e w1 ⟨rfl, g⟩
  have S1 := S0.on g
  clear g
  obtain ⟨a0, a1, a2, a3⟩ := act_cells S1.a
  obtain ⟨b0, b1, b2, b3⟩ := act_cells S1.b
  obtain ⟨c0, c1, c2, c3⟩ := act_cells S1.c
  obtain ⟨d0, d1, d2, d3⟩ := val_cells S1.v
  have S1 := Lib.hid S1
  go_wp2_with fail
  refine (F2 _).out.mono ?_
  rintro e w2 ⟨rfl, g⟩
  have S2 := S1.out.on g
  clear g
  clear a0 a1 a2 a3 b0 b1 b2 b3 c0 c1 c2 c3 d0 d1 d2 d3
  obtain ⟨a0, a1, a2, a3⟩ := act_cells S2.a
  obtain ⟨b0, b1, b2, b3⟩ := act_cells S2.b
  obtain ⟨c0, c1, c2, c3⟩ := act_cells S2.c
  obtain ⟨d0, d1, d2, d3⟩ := val_cells S2.v
  have S2 := Lib.hid S2
  go_wp2_with fail
  refine (F3 _).out.mono ?_
  rintro e w3 ⟨rfl, g⟩
  have S3 := S2.out.on g
  clear g
  clear a0 a1 a2 a3 b0 b1 b2 b3 c0 c1 c2 c3 d0 d1 d2 d3
  obtain ⟨a0, a1, a2, a3⟩ := act_cells S3.a
  obtain ⟨b0, b1, b2, b3⟩ := act_cells S3.b
  obtain ⟨c0, c1, c2, c3⟩ := act_cells S3.c
  obtain ⟨d0, d1, d2, d3⟩ := val_cells S3.v
  have S3 := Lib.hid S3
  go_wp2_with fail
  refine (oalive_any _ (hL.on S3.out.below)).mono ?_
  rintro e w9 ⟨rfl, g⟩
  have S9 := Lib.hid (S3.out.on g)
  go_wp2_with fail
  go_ret
  exact ⟨rfl, S9.out.below⟩

set_option maxRecDepth 100000 in
set_option maxHeartbeats 4000000 in
theorem optog_long (key : ByteArray) (hk : key.size ≤ 9223372036854775807) (kd1 : Int) (nu1 : Nat) (it1 : Int) (tx1 : ByteArray) (I1 : ActIn kd1 nu1 it1 tx1) (kd2 : Int) (nu2 : Nat) (it2 : Int) (tx2 : ByteArray) (I2 : ActIn kd2 nu2 it2 tx2) (kd3 : Int) (nu3 : Nat) (it3 : Int) (tx3 : ByteArray) (I3 : ActIn kd3 nu3 it3 tx3) (th : Bool) (vn : Nat) (vi : Int) (vt : ByteArray) (IV : ValIn vn vi vt) (w : World) (hL : LaidO w) (h1 : fitsA key.data.toList (a6 kd1 nu1 it1 tx1) = true) (h2 : fitsA key.data.toList (a6 kd2 nu2 it2 tx2) = true) (h3 : fitsA key.data.toList (a6 kd3 nu3 it3 tx3) = true) (hl : 3000 < vt.size) :
    Calls Tryd.prog 9 #[.string key, actV kd1 nu1 it1 tx1, actV kd2 nu2 it2 tx2, actV kd3 nu3 it3 tx3, valV th vn vi vt] w fun e w' => e = .returned (.bool true) ∧ Below w.heap.size w w' := by
  have hl0 : (3000 : Int) < (vt.size : Int) := by omega
  have F1 := fun W => Lib.hid (ofits_any key hk kd1 nu1 it1 tx1 I1 W)
  have F2 := fun W => Lib.hid (ofits_any key hk kd2 nu2 it2 tx2 I2 W)
  have F3 := fun W => Lib.hid (ofits_any key hk kd3 nu3 it3 tx3 I3 W)
  rw [h1] at F1
  rw [h2] at F2
  rw [h3] at F3
  simp only [actV] at F1 F2 F3
  unfold actV valV
  have S0 : Tog6 w kd1 nu1 it1 tx1 kd2 nu2 it2 tx2 kd3 nu3 it3 tx3 th vn vi vt ((((w.alloc (.cells #[.int .i64 kd1, .float .f64 nu1, .int .i64 it1, .string tx1] 24)).alloc (.cells #[.int .i64 kd2, .float .f64 nu2, .int .i64 it2, .string tx2] 24)).alloc (.cells #[.int .i64 kd3, .float .f64 nu3, .int .i64 it3, .string tx3] 24)).alloc (.cells #[.bool th, .float .f64 vn, .int .i64 vi, .string vt] 26)) := ⟨(((Blk.new w _ _).alloc _).alloc _).alloc _, ((Blk.new' (by simp) _ _).alloc _).alloc _, (Blk.new' (by simp) _ _).alloc _, Blk.new' (by simp) _ _, ((((Below.refl _ w).alloc (Nat.le_refl _) _).alloc (by simp) _).alloc (by simp; omega) _).alloc (by simp; omega) _⟩
  have hst := run_sto_f64
  have hvt := IV.tx
  go_enter Tryd.func9, Tryd.ntmps9
  go_wp2_with fail
  generalize (((w.alloc (.cells #[.int .i64 kd1, .float .f64 nu1, .int .i64 it1, .string tx1] 24)).alloc (.cells #[.int .i64 kd2, .float .f64 nu2, .int .i64 it2, .string tx2] 24)).alloc (.cells #[.int .i64 kd3, .float .f64 nu3, .int .i64 it3, .string tx3] 24)).alloc (.cells #[.bool th, .float .f64 vn, .int .i64 vi, .string vt] 26) = w0 at S0 ⊢
  refine (F1 _).out.mono ?_
  rintro e w1 ⟨rfl, g⟩
  have S1 := S0.on g
  clear g
  obtain ⟨a0, a1, a2, a3⟩ := act_cells S1.a
  obtain ⟨b0, b1, b2, b3⟩ := act_cells S1.b
  obtain ⟨c0, c1, c2, c3⟩ := act_cells S1.c
  obtain ⟨d0, d1, d2, d3⟩ := val_cells S1.v
  have S1 := Lib.hid S1
  go_wp2_with fail
  refine (F2 _).out.mono ?_
  rintro e w2 ⟨rfl, g⟩
  have S2 := S1.out.on g
  clear g
  clear a0 a1 a2 a3 b0 b1 b2 b3 c0 c1 c2 c3 d0 d1 d2 d3
  obtain ⟨a0, a1, a2, a3⟩ := act_cells S2.a
  obtain ⟨b0, b1, b2, b3⟩ := act_cells S2.b
  obtain ⟨c0, c1, c2, c3⟩ := act_cells S2.c
  obtain ⟨d0, d1, d2, d3⟩ := val_cells S2.v
  have S2 := Lib.hid S2
  go_wp2_with fail
  refine (F3 _).out.mono ?_
  rintro e w3 ⟨rfl, g⟩
  have S3 := S2.out.on g
  clear g
  clear a0 a1 a2 a3 b0 b1 b2 b3 c0 c1 c2 c3 d0 d1 d2 d3
  obtain ⟨a0, a1, a2, a3⟩ := act_cells S3.a
  obtain ⟨b0, b1, b2, b3⟩ := act_cells S3.b
  obtain ⟨c0, c1, c2, c3⟩ := act_cells S3.c
  obtain ⟨d0, d1, d2, d3⟩ := val_cells S3.v
  have S3 := Lib.hid S3
  go_wp2_with fail
  refine (oalive_any _ (hL.on S3.out.below)).mono ?_
  rintro e w9 ⟨rfl, g⟩
  have S9 := Lib.hid (S3.out.on g)
  go_wp2_with fail
  go_ret
  exact ⟨rfl, S9.out.below⟩

theorem tog_1 {key : List UInt8} {a b c : A6} (v : V6) (ha : fitsA key a = true) (hb : fitsA key b = true) (hc : fitsA key c = true) : afterA key (afterA key (afterA key v a) b) c = afterA key v (bothA key (bothA key a b) c) := by
  rw [after_both v (both_fits ha hb) hc, after_both v ha hb]
theorem tog_2 {key : List UInt8} {a b c : A6} (v : V6) (ha : fitsA key a = true) (hb : fitsA key b = true) (hc : fitsA key c = true) : afterA key (afterA key (afterA key v a) b) c = afterA key v (bothA key a (bothA key b c)) := by
  rw [after_both v ha (both_fits hb hc), after_both _ hb hc]
theorem tog_4 {key : List UInt8} (hr : key.headD 0 ≠ 114) (ht : key.headD 0 ≠ 116) (v : V6) (a b c : A6) : afterA key (afterA key (afterA key v a) b) c = afterA key (afterA key (afterA key v c) a) b := by
  rw [after_comm hr ht v c a, after_comm hr ht _ c b]

set_option maxRecDepth 100000 in
set_option maxHeartbeats 4000000 in
theorem optog_all (key : ByteArray) (hk : key.size ≤ 9223372036854775807) (kd1 : Int) (nu1 : Nat) (it1 : Int) (tx1 : ByteArray) (I1 : ActIn kd1 nu1 it1 tx1) (kd2 : Int) (nu2 : Nat) (it2 : Int) (tx2 : ByteArray) (I2 : ActIn kd2 nu2 it2 tx2) (kd3 : Int) (nu3 : Nat) (it3 : Int) (tx3 : ByteArray) (I3 : ActIn kd3 nu3 it3 tx3) (th : Bool) (vn : Nat) (vi : Int) (vt : ByteArray) (IV : ValIn vn vi vt) (w : World) (hL : LaidO w) (h1 : fitsA key.data.toList (a6 kd1 nu1 it1 tx1) = true) (h2 : fitsA key.data.toList (a6 kd2 nu2 it2 tx2) = true) (h3 : fitsA key.data.toList (a6 kd3 nu3 it3 tx3) = true) (hl : ¬ 3000 < vt.size) :
    Calls Tryd.prog 9 #[.string key, actV kd1 nu1 it1 tx1, actV kd2 nu2 it2 tx2, actV kd3 nu3 it3 tx3, valV th vn vi vt] w fun e w' => e = .returned (.bool true) ∧ Below w.heap.size w w' := by
  have hl0 : ¬ (3000 : Int) < (vt.size : Int) := by omega
  have P1 := Lib.hid (tog_1 (v6 th vn vi vt) h1 h2 h3)
  have P2 := Lib.hid (tog_2 (v6 th vn vi vt) h1 h2 h3)
  have P5 := Lib.hid (both_fits h1 h2)
  obtain ⟨hlt, ch, hc, hd, g5⟩ := key_first (fitsA_key h1).1
  have HR := fun h => Lib.hid (after_reg (key := key.data.toList) h3 h (afterA key.data.toList (afterA key.data.toList (v6 th vn vi vt) (a6 kd1 nu1 it1 tx1)) (a6 kd2 nu2 it2 tx2)) (v6 false 0 0 ⟨#[]⟩))
  have HN := fun x y => Lib.hid (tog_4 (key := key.data.toList) x y (v6 th vn vi vt) (a6 kd1 nu1 it1 tx1) (a6 kd2 nu2 it2 tx2) (a6 kd3 nu3 it3 tx3))
  rw [hd] at HR HN
  have HC := Lib.hid hc
  have q1 : ((ch.toNat : Int) == 114) = decide (ch = 114) := byte_eq ch 114
  have q2 : ((ch.toNat : Int) == 116) = decide (ch = 116) := byte_eq ch 116
  clear hc hd g5
  have F1 := fun W => Lib.hid (ofits_any key hk kd1 nu1 it1 tx1 I1 W)
  have F2 := fun W => Lib.hid (ofits_any key hk kd2 nu2 it2 tx2 I2 W)
  have F3 := fun W => Lib.hid (ofits_any key hk kd3 nu3 it3 tx3 I3 W)
  rw [h1] at F1
  rw [h2] at F2
  rw [h3] at F3
  simp only [actV] at F1 F2 F3
  unfold actV valV
  have S0 : Tog6 w kd1 nu1 it1 tx1 kd2 nu2 it2 tx2 kd3 nu3 it3 tx3 th vn vi vt ((((w.alloc (.cells #[.int .i64 kd1, .float .f64 nu1, .int .i64 it1, .string tx1] 24)).alloc (.cells #[.int .i64 kd2, .float .f64 nu2, .int .i64 it2, .string tx2] 24)).alloc (.cells #[.int .i64 kd3, .float .f64 nu3, .int .i64 it3, .string tx3] 24)).alloc (.cells #[.bool th, .float .f64 vn, .int .i64 vi, .string vt] 26)) := ⟨(((Blk.new w _ _).alloc _).alloc _).alloc _, ((Blk.new' (by simp) _ _).alloc _).alloc _, (Blk.new' (by simp) _ _).alloc _, Blk.new' (by simp) _ _, ((((Below.refl _ w).alloc (Nat.le_refl _) _).alloc (by simp) _).alloc (by simp; omega) _).alloc (by simp; omega) _⟩
  have hst := run_sto_f64
  have hvt := IV.tx
  go_enter Tryd.func9, Tryd.ntmps9
  go_wp2_with fail
  generalize (((w.alloc (.cells #[.int .i64 kd1, .float .f64 nu1, .int .i64 it1, .string tx1] 24)).alloc (.cells #[.int .i64 kd2, .float .f64 nu2, .int .i64 it2, .string tx2] 24)).alloc (.cells #[.int .i64 kd3, .float .f64 nu3, .int .i64 it3, .string tx3] 24)).alloc (.cells #[.bool th, .float .f64 vn, .int .i64 vi, .string vt] 26) = w0 at S0 ⊢
  refine (F1 _).out.mono ?_
  rintro e w1 ⟨rfl, g⟩
  have S1 := S0.on g
  clear g
  obtain ⟨a0, a1, a2, a3⟩ := act_cells S1.a
  obtain ⟨b0, b1, b2, b3⟩ := act_cells S1.b
  obtain ⟨c0, c1, c2, c3⟩ := act_cells S1.c
  obtain ⟨d0, d1, d2, d3⟩ := val_cells S1.v
  have S1 := Lib.hid S1
  go_wp2_with fail
  refine (F2 _).out.mono ?_
  rintro e w2 ⟨rfl, g⟩
  have S2 := S1.out.on g
  clear g
  clear a0 a1 a2 a3 b0 b1 b2 b3 c0 c1 c2 c3 d0 d1 d2 d3
  obtain ⟨a0, a1, a2, a3⟩ := act_cells S2.a
  obtain ⟨b0, b1, b2, b3⟩ := act_cells S2.b
  obtain ⟨c0, c1, c2, c3⟩ := act_cells S2.c
  obtain ⟨d0, d1, d2, d3⟩ := val_cells S2.v
  have S2 := Lib.hid S2
  go_wp2_with fail
  refine (F3 _).out.mono ?_
  rintro e w3 ⟨rfl, g⟩
  have S3 := S2.out.on g
  clear g
  clear a0 a1 a2 a3 b0 b1 b2 b3 c0 c1 c2 c3 d0 d1 d2 d3
  obtain ⟨a0, a1, a2, a3⟩ := act_cells S3.a
  obtain ⟨b0, b1, b2, b3⟩ := act_cells S3.b
  obtain ⟨c0, c1, c2, c3⟩ := act_cells S3.c
  obtain ⟨d0, d1, d2, d3⟩ := val_cells S3.v
  have S3 := Lib.hid S3
  go_wp2_with fail
  clear a0 a1 a2 a3 b0 b1 b2 b3 c0 c1 c2 c3 d0 d1 d2 d3
  refine wp_region_ord (fun W => Tog6 w kd1 nu1 it1 tx1 kd2 nu2 it2 tx2 kd3 nu3 it3 tx3 th vn vi vt W) (fun w w' => Below w.heap.size w w') [Slot.is (.string key), Slot.is (.string key), Slot.is (.string key), Slot.is (.agg #[.bool th, .float .f64 vn, .int .i64 vi, .string vt]), Slot.is (.agg #[.int .i64 kd1, .float .f64 nu1, .int .i64 it1, .string tx1]), SlotV (afterA key.data.toList (v6 th vn vi vt) (a6 kd1 nu1 it1 tx1)), Slot.is (.agg #[.int .i64 kd2, .float .f64 nu2, .int .i64 it2, .string tx2]), SlotV (afterA key.data.toList (afterA key.data.toList (v6 th vn vi vt) (a6 kd1 nu1 it1 tx1)) (a6 kd2 nu2 it2 tx2)), Slot.is (.agg #[.int .i64 kd3, .float .f64 nu3, .int .i64 it3, .string tx3]), SlotV (afterA key.data.toList (afterA key.data.toList (afterA key.data.toList (v6 th vn vi vt) (a6 kd1 nu1 it1 tx1)) (a6 kd2 nu2 it2 tx2)) (a6 kd3 nu3 it3 tx3)), SlotN (w.heap.size + 4)] 11 1 (by kernel_rfl) (fun _ _ h => Below.size h) (by kernel_rfl) (by kernel_rfl) (by kernel_rfl) rfl (by decide) S3.out.drew (fun i hi => ?_) (fun a w3 J => ?_)
  · clear hst
    rcases i with _ | _ | _ | _ | _ | _ | _ | _ | _ | _ | _ | i
    · refine ordOb_at (o := _) rfl rfl (fun a W hC hF hD => ?_)
      have g0 : a.tmps[0]? = some (.string key) := hF 0 _ (by kernel_rfl) rfl
      unfold frees
      go_simp
      exact ⟨hC, Below.refl _ _, rfl, fun h => by cases h⟩
    · refine ordOb_at (o := _) rfl rfl (fun a W hC hF hD => ?_)
      have g0 : a.tmps[0]? = some (.string key) := hF 0 _ (by kernel_rfl) rfl
      unfold frees
      go_simp
      exact ⟨hC, Below.refl _ _, rfl, fun h => by cases h⟩
    · refine ordOb_at (o := _) rfl rfl (fun a W hC hF hD => ?_)
      have g0 : a.tmps[0]? = some (.string key) := hF 0 _ (by kernel_rfl) rfl
      unfold frees
      go_simp
      exact ⟨hC, Below.refl _ _, rfl, fun h => by cases h⟩
    · refine ordOb_at (o := _) rfl rfl (fun a W hC hF hD => ?_)
      have g9 : a.tmps[9]? = some (.pointer (some ⟨w.heap.size + 1 + 1 + 1, 0, none⟩)) := hF 9 _ (by kernel_rfl) rfl
      obtain ⟨c0, c1, c2, c3⟩ := val_cells (Tog6.v hC)
      unfold frees
      go_simp
      exact ⟨hC, Below.refl _ _, rfl, fun h => by cases h⟩
    · refine ordOb_at (o := _) rfl rfl (fun a W hC hF hD => ?_)
      have g6 : a.tmps[6]? = some (.pointer (some ⟨w.heap.size, 0, none⟩)) := hF 6 _ (by kernel_rfl) rfl
      obtain ⟨c0, c1, c2, c3⟩ := act_cells (Tog6.a hC)
      unfold frees
      go_simp
      exact ⟨hC, Below.refl _ _, rfl, fun h => by cases h⟩
    · refine ordOb_at (o := _) rfl rfl (fun a W hC hF hD => ?_)
      have g37 : a.tmps[37]? = some (.string key) := by
        obtain ⟨v, h1, h2⟩ := hD 2 37 (by kernel_rfl) (by kernel_rfl)
        rw [h1]
        exact congrArg some h2
      have g38 : a.tmps[38]? = some (.agg #[.bool th, .float .f64 vn, .int .i64 vi, .string vt]) := by
        obtain ⟨v, h1, h2⟩ := hD 3 38 (by kernel_rfl) (by kernel_rfl)
        rw [h1]
        exact congrArg some h2
      have g39 : a.tmps[39]? = some (.agg #[.int .i64 kd1, .float .f64 nu1, .int .i64 it1, .string tx1]) := by
        obtain ⟨v, h1, h2⟩ := hD 4 39 (by kernel_rfl) (by kernel_rfl)
        rw [h1]
        exact congrArg some h2
      unfold frees
      go_simp
      have CC := oafter_any key hk th vn vi vt IV kd1 nu1 it1 tx1 I1 W
      simp only [actV, valV] at CC
      refine ⟨rfl, CC.mono ?_⟩
      rintro e W2 ⟨⟨th, vn, vi, vt, rfl, hv, hx⟩, g⟩
      exact ⟨_, rfl, Tog6.on hC g, g, th, vn, vi, vt, rfl, hv, hx⟩
    · refine ordOb_at (o := _) rfl rfl (fun a W hC hF hD => ?_)
      have g7 : a.tmps[7]? = some (.pointer (some ⟨w.heap.size + 1, 0, none⟩)) := hF 7 _ (by kernel_rfl) rfl
      obtain ⟨c0, c1, c2, c3⟩ := act_cells (Tog6.b hC)
      unfold frees
      go_simp
      exact ⟨hC, Below.refl _ _, rfl, fun h => by cases h⟩
    · refine ordOb_at (o := _) rfl rfl (fun a W hC hF hD => ?_)
      have g36 : a.tmps[36]? = some (.string key) := by
        obtain ⟨v, h1, h2⟩ := hD 1 36 (by kernel_rfl) (by kernel_rfl)
        rw [h1]
        exact congrArg some h2
      obtain ⟨_, g40, th5, nu5, it5, tx5, rfl, IV5, hx5⟩ := hD 5 40 (by kernel_rfl) (by kernel_rfl)
      simp only [valV] at g40
      have g41 : a.tmps[41]? = some (.agg #[.int .i64 kd2, .float .f64 nu2, .int .i64 it2, .string tx2]) := by
        obtain ⟨v, h1, h2⟩ := hD 6 41 (by kernel_rfl) (by kernel_rfl)
        rw [h1]
        exact congrArg some h2
      unfold frees
      go_simp
      have CC := oafter_any key hk th5 nu5 it5 tx5 IV5 kd2 nu2 it2 tx2 I2 W
      rw [hx5] at CC
      simp only [actV, valV] at CC
      refine ⟨rfl, CC.mono ?_⟩
      rintro e W2 ⟨⟨th, vn, vi, vt, rfl, hv, hx⟩, g⟩
      exact ⟨_, rfl, Tog6.on hC g, g, th, vn, vi, vt, rfl, hv, hx⟩
    · refine ordOb_at (o := _) rfl rfl (fun a W hC hF hD => ?_)
      have g8 : a.tmps[8]? = some (.pointer (some ⟨w.heap.size + 1 + 1, 0, none⟩)) := hF 8 _ (by kernel_rfl) rfl
      obtain ⟨c0, c1, c2, c3⟩ := act_cells (Tog6.c hC)
      unfold frees
      go_simp
      exact ⟨hC, Below.refl _ _, rfl, fun h => by cases h⟩
    · refine ordOb_at (o := _) rfl rfl (fun a W hC hF hD => ?_)
      have g35 : a.tmps[35]? = some (.string key) := by
        obtain ⟨v, h1, h2⟩ := hD 0 35 (by kernel_rfl) (by kernel_rfl)
        rw [h1]
        exact congrArg some h2
      obtain ⟨_, g42, th7, nu7, it7, tx7, rfl, IV7, hx7⟩ := hD 7 42 (by kernel_rfl) (by kernel_rfl)
      simp only [valV] at g42
      have g43 : a.tmps[43]? = some (.agg #[.int .i64 kd3, .float .f64 nu3, .int .i64 it3, .string tx3]) := by
        obtain ⟨v, h1, h2⟩ := hD 8 43 (by kernel_rfl) (by kernel_rfl)
        rw [h1]
        exact congrArg some h2
      unfold frees
      go_simp
      have CC := oafter_any key hk th7 nu7 it7 tx7 IV7 kd3 nu3 it3 tx3 I3 W
      rw [hx7] at CC
      simp only [actV, valV] at CC
      refine ⟨rfl, CC.mono ?_⟩
      rintro e W2 ⟨⟨th, vn, vi, vt, rfl, hv, hx⟩, g⟩
      exact ⟨_, rfl, Tog6.on hC g, g, th, vn, vi, vt, rfl, hv, hx⟩
    · refine ordOb_at (o := _) rfl rfl (fun a W hC hF hD => ?_)
      unfold frees
      go_simp
      exact ⟨Tog6.alloc hC _, (Below.refl _ _).alloc (Nat.le_refl _) _, ⟨_, rfl, Tog6.v hC |>.lt, Blk.new W _ _⟩, fun _ => ⟨_, rfl, Nat.le_refl _, by simp⟩⟩
    · exact absurd hi (by omega)
  obtain ⟨vs, hln, rfl, hC, hS, hap⟩ := J.all_ (by kernel_rfl) (ds := [some 35, some 36, some 37, some 38, some 39, some 40, some 41, some 42, some 43, some 44, some 11]) (by kernel_rfl)
  clear J
  obtain ⟨y0, vs, rfl⟩ := List.exists_cons_of_length_eq_add_one hln
  replace hln := Nat.succ.inj hln
  obtain ⟨y1, vs, rfl⟩ := List.exists_cons_of_length_eq_add_one hln
  replace hln := Nat.succ.inj hln
  obtain ⟨y2, vs, rfl⟩ := List.exists_cons_of_length_eq_add_one hln
  replace hln := Nat.succ.inj hln
  obtain ⟨y3, vs, rfl⟩ := List.exists_cons_of_length_eq_add_one hln
  replace hln := Nat.succ.inj hln
  obtain ⟨y4, vs, rfl⟩ := List.exists_cons_of_length_eq_add_one hln
  replace hln := Nat.succ.inj hln
  obtain ⟨y5, vs, rfl⟩ := List.exists_cons_of_length_eq_add_one hln
  replace hln := Nat.succ.inj hln
  obtain ⟨y6, vs, rfl⟩ := List.exists_cons_of_length_eq_add_one hln
  replace hln := Nat.succ.inj hln
  obtain ⟨y7, vs, rfl⟩ := List.exists_cons_of_length_eq_add_one hln
  replace hln := Nat.succ.inj hln
  obtain ⟨y8, vs, rfl⟩ := List.exists_cons_of_length_eq_add_one hln
  replace hln := Nat.succ.inj hln
  obtain ⟨y9, vs, rfl⟩ := List.exists_cons_of_length_eq_add_one hln
  replace hln := Nat.succ.inj hln
  obtain ⟨y10, vs, rfl⟩ := List.exists_cons_of_length_eq_add_one hln
  replace hln := Nat.succ.inj hln
  obtain rfl := List.eq_nil_of_length_eq_zero hln
  have q0 : y0 = .string key := hS 0 (by decide)
  have q1 : y1 = .string key := hS 1 (by decide)
  have q2 : y2 = .string key := hS 2 (by decide)
  have q3 : y3 = .agg #[.bool th, .float .f64 vn, .int .i64 vi, .string vt] := hS 3 (by decide)
  have q4 : y4 = .agg #[.int .i64 kd1, .float .f64 nu1, .int .i64 it1, .string tx1] := hS 4 (by decide)
  obtain ⟨th5, nu5, it5, tx5, q5, IV5, hx5⟩ := hS 5 (by decide)
  have q5 : y5 = valV th5 nu5 it5 tx5 := q5
  have q6 : y6 = .agg #[.int .i64 kd2, .float .f64 nu2, .int .i64 it2, .string tx2] := hS 6 (by decide)
  obtain ⟨th7, nu7, it7, tx7, q7, IV7, hx7⟩ := hS 7 (by decide)
  have q7 : y7 = valV th7 nu7 it7 tx7 := q7
  have q8 : y8 = .agg #[.int .i64 kd3, .float .f64 nu3, .int .i64 it3, .string tx3] := hS 8 (by decide)
  obtain ⟨th9, nu9, it9, tx9, q9, IV9, hx9⟩ := hS 9 (by decide)
  have q9 : y9 = valV th9 nu9 it9 tx9 := q9
  obtain ⟨p10, q10, hp10, B10⟩ := hS 10 (by decide)
  have q10 : y10 = .pointer (some ⟨p10, 0, none⟩) := q10
  subst q0 q1 q2 q3 q4 q5 q6 q7 q8 q9 q10
  clear hS hap
  simp only [fillT, List.setIfInBounds_toArray, List.set_cons_zero, List.set_cons_succ]
  simp only [valV]
  obtain ⟨e0, e1, e2, e3⟩ := val_cells B10
  have z0 := B10.frozen 0
  have z1 := B10.frozen 1
  have z2 := B10.frozen 2
  have z3 := B10.frozen 3
  refine wpAny_ready (rs := [11]) (by kernel_rfl) (by simp) ?_
  refine AllReady.cons rfl (fun K hK => ?_) AllReady.nil
  go_simp
  refine hK _ _ ?_
  clear hK K
  have S4 := Tog6.put4 hC (p := p10) (by omega) (.bool th9) (.float .f64 nu9) (.int .i64 it9) (.string tx9)
  have E4 := blk_set4 B10 (.bool th9) (.float .f64 nu9) (.int .i64 it9) (.string tx9)
  clear e0 e1 e2 e3 z0 z1 z2 z3 hC B10
  generalize World.setCell (World.setCell (World.setCell (World.setCell _ _ _) _ _) _ _) _ _ = w4 at S4 E4 ⊢
  refine wpAny_done (by kernel_rfl) ?_ _
  simp only [Exit.then]
  clear IV5 IV7 hx5 hx7
  have C4 : Tog6 w kd1 nu1 it1 tx1 kd2 nu2 it2 tx2 kd3 nu3 it3 tx3 th vn vi vt w4 ∧ Below w4.heap.size w4 w4 := ⟨S4, Below.refl _ _⟩
  clear S4
  go_wp2_with fail
  refine wp_region_ord (fun W => Tog6 w kd1 nu1 it1 tx1 kd2 nu2 it2 tx2 kd3 nu3 it3 tx3 th vn vi vt W ∧ Below w4.heap.size w4 W) (fun w w' => Below w.heap.size w w') [Slot.is (.agg #[.bool th9, .float .f64 nu9, .int .i64 it9, .string tx9]), Slot.is (.string key), Slot.is (.agg #[.bool th, .float .f64 vn, .int .i64 vi, .string vt]), Slot.is (.string key), Slot.is (.string key), Slot.is (.agg #[.int .i64 kd1, .float .f64 nu1, .int .i64 it1, .string tx1]), Slot.is (.agg #[.int .i64 kd2, .float .f64 nu2, .int .i64 it2, .string tx2]), SlotA ((bothA key.data.toList (a6 kd1 nu1 it1 tx1) (a6 kd2 nu2 it2 tx2))), Slot.is (.agg #[.int .i64 kd3, .float .f64 nu3, .int .i64 it3, .string tx3]), SlotA ((bothA key.data.toList (bothA key.data.toList (a6 kd1 nu1 it1 tx1) (a6 kd2 nu2 it2 tx2)) (a6 kd3 nu3 it3 tx3))), SlotV (afterA key.data.toList (v6 th vn vi vt) (bothA key.data.toList (bothA key.data.toList (a6 kd1 nu1 it1 tx1) (a6 kd2 nu2 it2 tx2)) (a6 kd3 nu3 it3 tx3))), Slot.is (.bool true), Slot.is (.bool false), Slot.is (.bool false), Slot.is (.agg #[.bool th9, .float .f64 nu9, .int .i64 it9, .string tx9]), Slot.is (.string key), Slot.is (.agg #[.bool th, .float .f64 vn, .int .i64 vi, .string vt]), Slot.is (.string key), Slot.is (.agg #[.int .i64 kd1, .float .f64 nu1, .int .i64 it1, .string tx1]), Slot.is (.string key), Slot.is (.agg #[.int .i64 kd2, .float .f64 nu2, .int .i64 it2, .string tx2]), Slot.is (.agg #[.int .i64 kd3, .float .f64 nu3, .int .i64 it3, .string tx3]), SlotA ((bothA key.data.toList (a6 kd2 nu2 it2 tx2) (a6 kd3 nu3 it3 tx3))), SlotA ((bothA key.data.toList (a6 kd1 nu1 it1 tx1) (bothA key.data.toList (a6 kd2 nu2 it2 tx2) (a6 kd3 nu3 it3 tx3)))), SlotV (afterA key.data.toList (v6 th vn vi vt) (bothA key.data.toList (a6 kd1 nu1 it1 tx1) (bothA key.data.toList (a6 kd2 nu2 it2 tx2) (a6 kd3 nu3 it3 tx3)))), Slot.is (.bool true), Slot.is (.bool false)] 27 1 (by kernel_rfl) (fun _ _ h => Below.size h) (by kernel_rfl) (by kernel_rfl) (by kernel_rfl) rfl (by decide) ⟨C4.1.drew, C4.2.drew⟩ (fun i hi => ?_) (fun a w5 J => ?_)
  · clear hst
    rcases i with _ | _ | _ | _ | _ | _ | _ | _ | _ | _ | _ | _ | _ | _ | _ | _ | _ | _ | _ | _ | _ | _ | _ | _ | _ | _ | _ | i
    · refine ordOb_at (o := _) rfl rfl (fun a W hC hF hD => ?_)
      have g11 : a.tmps[11]? = some (.pointer (some ⟨p10, 0, none⟩)) := hF 11 _ (by kernel_rfl) rfl
      obtain ⟨c0, c1, c2, c3⟩ := val_cells (E4.below hC.2 E4.lt)
      unfold frees
      go_simp
      exact ⟨hC, Below.refl _ _, rfl, fun h => by cases h⟩
    · refine ordOb_at (o := _) rfl rfl (fun a W hC hF hD => ?_)
      have g0 : a.tmps[0]? = some (.string key) := hF 0 _ (by kernel_rfl) rfl
      unfold frees
      go_simp
      exact ⟨hC, Below.refl _ _, rfl, fun h => by cases h⟩
    · refine ordOb_at (o := _) rfl rfl (fun a W hC hF hD => ?_)
      have g9 : a.tmps[9]? = some (.pointer (some ⟨w.heap.size + 1 + 1 + 1, 0, none⟩)) := hF 9 _ (by kernel_rfl) rfl
      obtain ⟨c0, c1, c2, c3⟩ := val_cells (Tog6.v hC.1)
      unfold frees
      go_simp
      exact ⟨hC, Below.refl _ _, rfl, fun h => by cases h⟩
    · refine ordOb_at (o := _) rfl rfl (fun a W hC hF hD => ?_)
      have g0 : a.tmps[0]? = some (.string key) := hF 0 _ (by kernel_rfl) rfl
      unfold frees
      go_simp
      exact ⟨hC, Below.refl _ _, rfl, fun h => by cases h⟩
    · refine ordOb_at (o := _) rfl rfl (fun a W hC hF hD => ?_)
      have g0 : a.tmps[0]? = some (.string key) := hF 0 _ (by kernel_rfl) rfl
      unfold frees
      go_simp
      exact ⟨hC, Below.refl _ _, rfl, fun h => by cases h⟩
    · refine ordOb_at (o := _) rfl rfl (fun a W hC hF hD => ?_)
      have g6 : a.tmps[6]? = some (.pointer (some ⟨w.heap.size, 0, none⟩)) := hF 6 _ (by kernel_rfl) rfl
      obtain ⟨c0, c1, c2, c3⟩ := act_cells (Tog6.a hC.1)
      unfold frees
      go_simp
      exact ⟨hC, Below.refl _ _, rfl, fun h => by cases h⟩
    · refine ordOb_at (o := _) rfl rfl (fun a W hC hF hD => ?_)
      have g7 : a.tmps[7]? = some (.pointer (some ⟨w.heap.size + 1, 0, none⟩)) := hF 7 _ (by kernel_rfl) rfl
      obtain ⟨c0, c1, c2, c3⟩ := act_cells (Tog6.b hC.1)
      unfold frees
      go_simp
      exact ⟨hC, Below.refl _ _, rfl, fun h => by cases h⟩
    · refine ordOb_at (o := _) rfl rfl (fun a W hC hF hD => ?_)
      have g49 : a.tmps[49]? = some (.string key) := by
        obtain ⟨v, h1, h2⟩ := hD 4 49 (by kernel_rfl) (by kernel_rfl)
        rw [h1]
        exact congrArg some h2
      have g50 : a.tmps[50]? = some (.agg #[.int .i64 kd1, .float .f64 nu1, .int .i64 it1, .string tx1]) := by
        obtain ⟨v, h1, h2⟩ := hD 5 50 (by kernel_rfl) (by kernel_rfl)
        rw [h1]
        exact congrArg some h2
      have g51 : a.tmps[51]? = some (.agg #[.int .i64 kd2, .float .f64 nu2, .int .i64 it2, .string tx2]) := by
        obtain ⟨v, h1, h2⟩ := hD 6 51 (by kernel_rfl) (by kernel_rfl)
        rw [h1]
        exact congrArg some h2
      unfold frees
      go_simp
      have CC := oboth_any key hk kd1 nu1 it1 tx1 I1 kd2 nu2 it2 tx2 I2 W
      simp only [actV] at CC
      refine ⟨rfl, CC.mono ?_⟩
      rintro e W2 ⟨⟨kd, nu, it, tx, rfl, hv, hx⟩, g⟩
      exact ⟨_, rfl, ⟨Tog6.on hC.1 g, hC.2.trans (g.mono hC.2.size)⟩, g, kd, nu, it, tx, rfl, hv, hx⟩
    · refine ordOb_at (o := _) rfl rfl (fun a W hC hF hD => ?_)
      have g8 : a.tmps[8]? = some (.pointer (some ⟨w.heap.size + 1 + 1, 0, none⟩)) := hF 8 _ (by kernel_rfl) rfl
      obtain ⟨c0, c1, c2, c3⟩ := act_cells (Tog6.c hC.1)
      unfold frees
      go_simp
      exact ⟨hC, Below.refl _ _, rfl, fun h => by cases h⟩
    · refine ordOb_at (o := _) rfl rfl (fun a W hC hF hD => ?_)
      have g48 : a.tmps[48]? = some (.string key) := by
        obtain ⟨v, h1, h2⟩ := hD 3 48 (by kernel_rfl) (by kernel_rfl)
        rw [h1]
        exact congrArg some h2
      obtain ⟨_, g52, kd7r, nu7r, it7r, tx7r, rfl, IV7r, hx7r⟩ := hD 7 52 (by kernel_rfl) (by kernel_rfl)
      simp only [actV] at g52
      have g53 : a.tmps[53]? = some (.agg #[.int .i64 kd3, .float .f64 nu3, .int .i64 it3, .string tx3]) := by
        obtain ⟨v, h1, h2⟩ := hD 8 53 (by kernel_rfl) (by kernel_rfl)
        rw [h1]
        exact congrArg some h2
      unfold frees
      go_simp
      have CC := oboth_any key hk kd7r nu7r it7r tx7r IV7r kd3 nu3 it3 tx3 I3 W
      rw [hx7r] at CC
      simp only [actV] at CC
      refine ⟨rfl, CC.mono ?_⟩
      rintro e W2 ⟨⟨kd, nu, it, tx, rfl, hv, hx⟩, g⟩
      exact ⟨_, rfl, ⟨Tog6.on hC.1 g, hC.2.trans (g.mono hC.2.size)⟩, g, kd, nu, it, tx, rfl, hv, hx⟩
    · refine ordOb_at (o := _) rfl rfl (fun a W hC hF hD => ?_)
      have g46 : a.tmps[46]? = some (.string key) := by
        obtain ⟨v, h1, h2⟩ := hD 1 46 (by kernel_rfl) (by kernel_rfl)
        rw [h1]
        exact congrArg some h2
      have g47 : a.tmps[47]? = some (.agg #[.bool th, .float .f64 vn, .int .i64 vi, .string vt]) := by
        obtain ⟨v, h1, h2⟩ := hD 2 47 (by kernel_rfl) (by kernel_rfl)
        rw [h1]
        exact congrArg some h2
      obtain ⟨_, g54, kd9r, nu9r, it9r, tx9r, rfl, IV9r, hx9r⟩ := hD 9 54 (by kernel_rfl) (by kernel_rfl)
      simp only [actV] at g54
      unfold frees
      go_simp
      have CC := oafter_any key hk th vn vi vt IV kd9r nu9r it9r tx9r IV9r W
      rw [hx9r] at CC
      simp only [actV, valV] at CC
      refine ⟨rfl, CC.mono ?_⟩
      rintro e W2 ⟨⟨th, vn, vi, vt, rfl, hv, hx⟩, g⟩
      exact ⟨_, rfl, ⟨Tog6.on hC.1 g, hC.2.trans (g.mono hC.2.size)⟩, g, th, vn, vi, vt, rfl, hv, hx⟩
    · refine ordOb_at (o := _) rfl rfl (fun a W hC hF hD => ?_)
      have g45 : a.tmps[45]? = some (.agg #[.bool th9, .float .f64 nu9, .int .i64 it9, .string tx9]) := by
        obtain ⟨v, h1, h2⟩ := hD 0 45 (by kernel_rfl) (by kernel_rfl)
        rw [h1]
        exact congrArg some h2
      obtain ⟨_, g55, th10r, nu10r, it10r, tx10r, rfl, IV10r, hx10r⟩ := hD 10 55 (by kernel_rfl) (by kernel_rfl)
      simp only [valV] at g55
      unfold frees
      go_simp
      have CC := osameval_any th9 nu9 it9 tx9 IV9 th10r nu10r it10r tx10r IV10r W
      simp only [valV] at CC
      refine ⟨rfl, CC.mono ?_⟩
      rintro e W2 ⟨rfl, g⟩
      exact ⟨_, rfl, ⟨Tog6.on hC.1 g, hC.2.trans (g.mono hC.2.size)⟩, g, congrArg Value.bool ((V6.same_iff _ _).2 (by rw [hx9, hx10r]; exact P1.out))⟩
    · refine ordOb_at (o := _) rfl rfl (fun a W hC hF hD => ?_)
      have g56 : a.tmps[56]? = some (.bool true) := by
        obtain ⟨v, h1, h2⟩ := hD 11 56 (by kernel_rfl) (by kernel_rfl)
        rw [h1]
        exact congrArg some h2
      unfold frees
      go_simp
      exact ⟨hC, Below.refl _ _, rfl, fun h => by cases h⟩
    · refine ordOb_at (o := _) rfl rfl (fun a W hC hF hD => ?_)
      have g57 : a.tmps[57]? = some (.bool false) := by
        obtain ⟨v, h1, h2⟩ := hD 12 57 (by kernel_rfl) (by kernel_rfl)
        rw [h1]
        exact congrArg some h2
      unfold frees
      go_simp
      exact ⟨hC, Below.refl _ _, rfl, fun h => by cases h⟩
    · refine ordOb_on (o := _) (b := false) (k := 58) rfl rfl (by kernel_rfl) (by kernel_rfl) (fun v w h => h) (fun a W hC hF hD => ?_)
      have g11 : a.tmps[11]? = some (.pointer (some ⟨p10, 0, none⟩)) := hF 11 _ (by kernel_rfl) rfl
      obtain ⟨c0, c1, c2, c3⟩ := val_cells (E4.below hC.2 E4.lt)
      unfold frees
      go_simp
      exact ⟨hC, Below.refl _ _, rfl, fun h => by cases h⟩
    · refine ordOb_on (o := _) (b := false) (k := 58) rfl rfl (by kernel_rfl) (by kernel_rfl) (fun v w h => h) (fun a W hC hF hD => ?_)
      have g0 : a.tmps[0]? = some (.string key) := hF 0 _ (by kernel_rfl) rfl
      unfold frees
      go_simp
      exact ⟨hC, Below.refl _ _, rfl, fun h => by cases h⟩
    · refine ordOb_on (o := _) (b := false) (k := 58) rfl rfl (by kernel_rfl) (by kernel_rfl) (fun v w h => h) (fun a W hC hF hD => ?_)
      have g9 : a.tmps[9]? = some (.pointer (some ⟨w.heap.size + 1 + 1 + 1, 0, none⟩)) := hF 9 _ (by kernel_rfl) rfl
      obtain ⟨c0, c1, c2, c3⟩ := val_cells (Tog6.v hC.1)
      unfold frees
      go_simp
      exact ⟨hC, Below.refl _ _, rfl, fun h => by cases h⟩
    · refine ordOb_on (o := _) (b := false) (k := 58) rfl rfl (by kernel_rfl) (by kernel_rfl) (fun v w h => h) (fun a W hC hF hD => ?_)
      have g0 : a.tmps[0]? = some (.string key) := hF 0 _ (by kernel_rfl) rfl
      unfold frees
      go_simp
      exact ⟨hC, Below.refl _ _, rfl, fun h => by cases h⟩
    · refine ordOb_on (o := _) (b := false) (k := 58) rfl rfl (by kernel_rfl) (by kernel_rfl) (fun v w h => h) (fun a W hC hF hD => ?_)
      have g6 : a.tmps[6]? = some (.pointer (some ⟨w.heap.size, 0, none⟩)) := hF 6 _ (by kernel_rfl) rfl
      obtain ⟨c0, c1, c2, c3⟩ := act_cells (Tog6.a hC.1)
      unfold frees
      go_simp
      exact ⟨hC, Below.refl _ _, rfl, fun h => by cases h⟩
    · refine ordOb_on (o := _) (b := false) (k := 58) rfl rfl (by kernel_rfl) (by kernel_rfl) (fun v w h => h) (fun a W hC hF hD => ?_)
      have g0 : a.tmps[0]? = some (.string key) := hF 0 _ (by kernel_rfl) rfl
      unfold frees
      go_simp
      exact ⟨hC, Below.refl _ _, rfl, fun h => by cases h⟩
    · refine ordOb_on (o := _) (b := false) (k := 58) rfl rfl (by kernel_rfl) (by kernel_rfl) (fun v w h => h) (fun a W hC hF hD => ?_)
      have g7 : a.tmps[7]? = some (.pointer (some ⟨w.heap.size + 1, 0, none⟩)) := hF 7 _ (by kernel_rfl) rfl
      obtain ⟨c0, c1, c2, c3⟩ := act_cells (Tog6.b hC.1)
      unfold frees
      go_simp
      exact ⟨hC, Below.refl _ _, rfl, fun h => by cases h⟩
    · refine ordOb_on (o := _) (b := false) (k := 58) rfl rfl (by kernel_rfl) (by kernel_rfl) (fun v w h => h) (fun a W hC hF hD => ?_)
      have g8 : a.tmps[8]? = some (.pointer (some ⟨w.heap.size + 1 + 1, 0, none⟩)) := hF 8 _ (by kernel_rfl) rfl
      obtain ⟨c0, c1, c2, c3⟩ := act_cells (Tog6.c hC.1)
      unfold frees
      go_simp
      exact ⟨hC, Below.refl _ _, rfl, fun h => by cases h⟩
    · refine ordOb_on (o := _) (b := false) (k := 58) rfl rfl (by kernel_rfl) (by kernel_rfl) (fun v w h => h) (fun a W hC hF hD => ?_)
      have g64 : a.tmps[64]? = some (.string key) := by
        obtain ⟨v, h1, h2⟩ := hD 19 64 (by kernel_rfl) (by kernel_rfl)
        rw [h1]
        exact congrArg some h2
      have g65 : a.tmps[65]? = some (.agg #[.int .i64 kd2, .float .f64 nu2, .int .i64 it2, .string tx2]) := by
        obtain ⟨v, h1, h2⟩ := hD 20 65 (by kernel_rfl) (by kernel_rfl)
        rw [h1]
        exact congrArg some h2
      have g66 : a.tmps[66]? = some (.agg #[.int .i64 kd3, .float .f64 nu3, .int .i64 it3, .string tx3]) := by
        obtain ⟨v, h1, h2⟩ := hD 21 66 (by kernel_rfl) (by kernel_rfl)
        rw [h1]
        exact congrArg some h2
      unfold frees
      go_simp
      have CC := oboth_any key hk kd2 nu2 it2 tx2 I2 kd3 nu3 it3 tx3 I3 W
      simp only [actV] at CC
      refine ⟨rfl, CC.mono ?_⟩
      rintro e W2 ⟨⟨kd, nu, it, tx, rfl, hv, hx⟩, g⟩
      exact ⟨_, rfl, ⟨Tog6.on hC.1 g, hC.2.trans (g.mono hC.2.size)⟩, g, kd, nu, it, tx, rfl, hv, hx⟩
    · refine ordOb_on (o := _) (b := false) (k := 58) rfl rfl (by kernel_rfl) (by kernel_rfl) (fun v w h => h) (fun a W hC hF hD => ?_)
      have g62 : a.tmps[62]? = some (.string key) := by
        obtain ⟨v, h1, h2⟩ := hD 17 62 (by kernel_rfl) (by kernel_rfl)
        rw [h1]
        exact congrArg some h2
      have g63 : a.tmps[63]? = some (.agg #[.int .i64 kd1, .float .f64 nu1, .int .i64 it1, .string tx1]) := by
        obtain ⟨v, h1, h2⟩ := hD 18 63 (by kernel_rfl) (by kernel_rfl)
        rw [h1]
        exact congrArg some h2
      obtain ⟨_, g67, kd22r, nu22r, it22r, tx22r, rfl, IV22r, hx22r⟩ := hD 22 67 (by kernel_rfl) (by kernel_rfl)
      simp only [actV] at g67
      unfold frees
      go_simp
      have CC := oboth_any key hk kd1 nu1 it1 tx1 I1 kd22r nu22r it22r tx22r IV22r W
      rw [hx22r] at CC
      simp only [actV] at CC
      refine ⟨rfl, CC.mono ?_⟩
      rintro e W2 ⟨⟨kd, nu, it, tx, rfl, hv, hx⟩, g⟩
      exact ⟨_, rfl, ⟨Tog6.on hC.1 g, hC.2.trans (g.mono hC.2.size)⟩, g, kd, nu, it, tx, rfl, hv, hx⟩
    · refine ordOb_on (o := _) (b := false) (k := 58) rfl rfl (by kernel_rfl) (by kernel_rfl) (fun v w h => h) (fun a W hC hF hD => ?_)
      have g60 : a.tmps[60]? = some (.string key) := by
        obtain ⟨v, h1, h2⟩ := hD 15 60 (by kernel_rfl) (by kernel_rfl)
        rw [h1]
        exact congrArg some h2
      have g61 : a.tmps[61]? = some (.agg #[.bool th, .float .f64 vn, .int .i64 vi, .string vt]) := by
        obtain ⟨v, h1, h2⟩ := hD 16 61 (by kernel_rfl) (by kernel_rfl)
        rw [h1]
        exact congrArg some h2
      obtain ⟨_, g68, kd23r, nu23r, it23r, tx23r, rfl, IV23r, hx23r⟩ := hD 23 68 (by kernel_rfl) (by kernel_rfl)
      simp only [actV] at g68
      unfold frees
      go_simp
      have CC := oafter_any key hk th vn vi vt IV kd23r nu23r it23r tx23r IV23r W
      rw [hx23r] at CC
      simp only [actV, valV] at CC
      refine ⟨rfl, CC.mono ?_⟩
      rintro e W2 ⟨⟨th, vn, vi, vt, rfl, hv, hx⟩, g⟩
      exact ⟨_, rfl, ⟨Tog6.on hC.1 g, hC.2.trans (g.mono hC.2.size)⟩, g, th, vn, vi, vt, rfl, hv, hx⟩
    · refine ordOb_on (o := _) (b := false) (k := 58) rfl rfl (by kernel_rfl) (by kernel_rfl) (fun v w h => h) (fun a W hC hF hD => ?_)
      have g59 : a.tmps[59]? = some (.agg #[.bool th9, .float .f64 nu9, .int .i64 it9, .string tx9]) := by
        obtain ⟨v, h1, h2⟩ := hD 14 59 (by kernel_rfl) (by kernel_rfl)
        rw [h1]
        exact congrArg some h2
      obtain ⟨_, g69, th24r, nu24r, it24r, tx24r, rfl, IV24r, hx24r⟩ := hD 24 69 (by kernel_rfl) (by kernel_rfl)
      simp only [valV] at g69
      unfold frees
      go_simp
      have CC := osameval_any th9 nu9 it9 tx9 IV9 th24r nu24r it24r tx24r IV24r W
      simp only [valV] at CC
      refine ⟨rfl, CC.mono ?_⟩
      rintro e W2 ⟨rfl, g⟩
      exact ⟨_, rfl, ⟨Tog6.on hC.1 g, hC.2.trans (g.mono hC.2.size)⟩, g, congrArg Value.bool ((V6.same_iff _ _).2 (by rw [hx9, hx24r]; exact P2.out))⟩
    · refine ordOb_on (o := _) (b := false) (k := 58) rfl rfl (by kernel_rfl) (by kernel_rfl) (fun v w h => h) (fun a W hC hF hD => ?_)
      have g70 : a.tmps[70]? = some (.bool true) := by
        obtain ⟨v, h1, h2⟩ := hD 25 70 (by kernel_rfl) (by kernel_rfl)
        rw [h1]
        exact congrArg some h2
      unfold frees
      go_simp
      exact ⟨hC, Below.refl _ _, rfl, fun h => by cases h⟩
    · exact absurd hi (by omega)
  obtain ⟨vs, hln, rfl, hC, hS, hap⟩ := J.all_ (by kernel_rfl) (ds := [some 45, some 46, some 47, some 48, some 49, some 50, some 51, some 52, some 53, some 54, some 55, some 56, some 57, some 58, some 59, some 60, some 61, some 62, some 63, some 64, some 65, some 66, some 67, some 68, some 69, some 70, some 71]) (by kernel_rfl)
  clear J
  obtain ⟨y0, vs, rfl⟩ := List.exists_cons_of_length_eq_add_one hln
  replace hln := Nat.succ.inj hln
  obtain ⟨y1, vs, rfl⟩ := List.exists_cons_of_length_eq_add_one hln
  replace hln := Nat.succ.inj hln
  obtain ⟨y2, vs, rfl⟩ := List.exists_cons_of_length_eq_add_one hln
  replace hln := Nat.succ.inj hln
  obtain ⟨y3, vs, rfl⟩ := List.exists_cons_of_length_eq_add_one hln
  replace hln := Nat.succ.inj hln
  obtain ⟨y4, vs, rfl⟩ := List.exists_cons_of_length_eq_add_one hln
  replace hln := Nat.succ.inj hln
  obtain ⟨y5, vs, rfl⟩ := List.exists_cons_of_length_eq_add_one hln
  replace hln := Nat.succ.inj hln
  obtain ⟨y6, vs, rfl⟩ := List.exists_cons_of_length_eq_add_one hln
  replace hln := Nat.succ.inj hln
  obtain ⟨y7, vs, rfl⟩ := List.exists_cons_of_length_eq_add_one hln
  replace hln := Nat.succ.inj hln
  obtain ⟨y8, vs, rfl⟩ := List.exists_cons_of_length_eq_add_one hln
  replace hln := Nat.succ.inj hln
  obtain ⟨y9, vs, rfl⟩ := List.exists_cons_of_length_eq_add_one hln
  replace hln := Nat.succ.inj hln
  obtain ⟨y10, vs, rfl⟩ := List.exists_cons_of_length_eq_add_one hln
  replace hln := Nat.succ.inj hln
  obtain ⟨y11, vs, rfl⟩ := List.exists_cons_of_length_eq_add_one hln
  replace hln := Nat.succ.inj hln
  obtain ⟨y12, vs, rfl⟩ := List.exists_cons_of_length_eq_add_one hln
  replace hln := Nat.succ.inj hln
  obtain ⟨y13, vs, rfl⟩ := List.exists_cons_of_length_eq_add_one hln
  replace hln := Nat.succ.inj hln
  obtain ⟨y14, vs, rfl⟩ := List.exists_cons_of_length_eq_add_one hln
  replace hln := Nat.succ.inj hln
  obtain ⟨y15, vs, rfl⟩ := List.exists_cons_of_length_eq_add_one hln
  replace hln := Nat.succ.inj hln
  obtain ⟨y16, vs, rfl⟩ := List.exists_cons_of_length_eq_add_one hln
  replace hln := Nat.succ.inj hln
  obtain ⟨y17, vs, rfl⟩ := List.exists_cons_of_length_eq_add_one hln
  replace hln := Nat.succ.inj hln
  obtain ⟨y18, vs, rfl⟩ := List.exists_cons_of_length_eq_add_one hln
  replace hln := Nat.succ.inj hln
  obtain ⟨y19, vs, rfl⟩ := List.exists_cons_of_length_eq_add_one hln
  replace hln := Nat.succ.inj hln
  obtain ⟨y20, vs, rfl⟩ := List.exists_cons_of_length_eq_add_one hln
  replace hln := Nat.succ.inj hln
  obtain ⟨y21, vs, rfl⟩ := List.exists_cons_of_length_eq_add_one hln
  replace hln := Nat.succ.inj hln
  obtain ⟨y22, vs, rfl⟩ := List.exists_cons_of_length_eq_add_one hln
  replace hln := Nat.succ.inj hln
  obtain ⟨y23, vs, rfl⟩ := List.exists_cons_of_length_eq_add_one hln
  replace hln := Nat.succ.inj hln
  obtain ⟨y24, vs, rfl⟩ := List.exists_cons_of_length_eq_add_one hln
  replace hln := Nat.succ.inj hln
  obtain ⟨y25, vs, rfl⟩ := List.exists_cons_of_length_eq_add_one hln
  replace hln := Nat.succ.inj hln
  obtain ⟨y26, vs, rfl⟩ := List.exists_cons_of_length_eq_add_one hln
  replace hln := Nat.succ.inj hln
  obtain rfl := List.eq_nil_of_length_eq_zero hln
  have q0 : y0 = .agg #[.bool th9, .float .f64 nu9, .int .i64 it9, .string tx9] := hS 0 (by decide)
  have q1 : y1 = .string key := hS 1 (by decide)
  have q2 : y2 = .agg #[.bool th, .float .f64 vn, .int .i64 vi, .string vt] := hS 2 (by decide)
  have q3 : y3 = .string key := hS 3 (by decide)
  have q4 : y4 = .string key := hS 4 (by decide)
  have q5 : y5 = .agg #[.int .i64 kd1, .float .f64 nu1, .int .i64 it1, .string tx1] := hS 5 (by decide)
  have q6 : y6 = .agg #[.int .i64 kd2, .float .f64 nu2, .int .i64 it2, .string tx2] := hS 6 (by decide)
  obtain ⟨kd7r, nu7r, it7r, tx7r, q7, IV7r, hx7r⟩ := hS 7 (by decide)
  have q7 : y7 = actV kd7r nu7r it7r tx7r := q7
  have q8 : y8 = .agg #[.int .i64 kd3, .float .f64 nu3, .int .i64 it3, .string tx3] := hS 8 (by decide)
  obtain ⟨kd9r, nu9r, it9r, tx9r, q9, IV9r, hx9r⟩ := hS 9 (by decide)
  have q9 : y9 = actV kd9r nu9r it9r tx9r := q9
  obtain ⟨th10r, nu10r, it10r, tx10r, q10, IV10r, hx10r⟩ := hS 10 (by decide)
  have q10 : y10 = valV th10r nu10r it10r tx10r := q10
  have q11 : y11 = .bool true := hS 11 (by decide)
  have q12 : y12 = .bool false := hS 12 (by decide)
  have q13 : y13 = .bool false := hS 13 (by decide)
  have q14 : y14 = .agg #[.bool th9, .float .f64 nu9, .int .i64 it9, .string tx9] := hS 14 (by decide)
  have q15 : y15 = .string key := hS 15 (by decide)
  have q16 : y16 = .agg #[.bool th, .float .f64 vn, .int .i64 vi, .string vt] := hS 16 (by decide)
  have q17 : y17 = .string key := hS 17 (by decide)
  have q18 : y18 = .agg #[.int .i64 kd1, .float .f64 nu1, .int .i64 it1, .string tx1] := hS 18 (by decide)
  have q19 : y19 = .string key := hS 19 (by decide)
  have q20 : y20 = .agg #[.int .i64 kd2, .float .f64 nu2, .int .i64 it2, .string tx2] := hS 20 (by decide)
  have q21 : y21 = .agg #[.int .i64 kd3, .float .f64 nu3, .int .i64 it3, .string tx3] := hS 21 (by decide)
  obtain ⟨kd22r, nu22r, it22r, tx22r, q22, IV22r, hx22r⟩ := hS 22 (by decide)
  have q22 : y22 = actV kd22r nu22r it22r tx22r := q22
  obtain ⟨kd23r, nu23r, it23r, tx23r, q23, IV23r, hx23r⟩ := hS 23 (by decide)
  have q23 : y23 = actV kd23r nu23r it23r tx23r := q23
  obtain ⟨th24r, nu24r, it24r, tx24r, q24, IV24r, hx24r⟩ := hS 24 (by decide)
  have q24 : y24 = valV th24r nu24r it24r tx24r := q24
  have q25 : y25 = .bool true := hS 25 (by decide)
  have q26 : y26 = .bool false := hS 26 (by decide)
  subst q0 q1 q2 q3 q4 q5 q6 q7 q8 q9 q10 q11 q12 q13 q14 q15 q16 q17 q18 q19 q20 q21 q22 q23 q24 q25 q26
  clear hS hap
  simp only [fillT, List.setIfInBounds_toArray, List.set_cons_zero, List.set_cons_succ]
  refine wpAny_ready (rs := [27]) (by kernel_rfl) (by simp) ?_
  refine AllReady.cons rfl (fun K hK => ?_) AllReady.nil
  go_simp
  refine hK _ _ ?_
  clear hK K
  refine wpAny_done (by kernel_rfl) ?_ _
  simp only [Exit.then]
  clear IV7r IV9r IV10r IV22r IV23r IV24r hx7r hx9r hx10r hx22r hx23r hx24r
  have C6 := hC
  clear hC C4
  have hc := HC.out
  by_cases z1 : ch = 114
  · have P3 := HR (Or.inl z1)
    rw [decide_eq_true z1] at q1
    clear z1 HR HN q2
    go_wp2_with fail
    clear hc
    refine wp_region_ord (fun W => Tog6 w kd1 nu1 it1 tx1 kd2 nu2 it2 tx2 kd3 nu3 it3 tx3 th vn vi vt W ∧ Below w4.heap.size w4 W) (fun w w' => Below w.heap.size w w') [Slot.is (.bool true), Slot.is (.bool true), Slot.is (.agg #[.bool th9, .float .f64 nu9, .int .i64 it9, .string tx9]), Slot.is (.string key), Slot.is (.agg #[.bool false, .float .f64 0, .int .i64 0, .string ⟨#[]⟩]), Slot.is (.agg #[.int .i64 kd3, .float .f64 nu3, .int .i64 it3, .string tx3]), SlotV (afterA key.data.toList (v6 false 0 0 ⟨#[]⟩) (a6 kd3 nu3 it3 tx3)), Slot.is (.bool true), Slot.is (.bool true)] 9 1 (by kernel_rfl) (fun _ _ h => Below.size h) (by kernel_rfl) (by kernel_rfl) (by kernel_rfl) rfl (by decide) ⟨C6.1.drew, C6.2.drew⟩ (fun i hi => ?_) (fun a w7 J => ?_)
    · clear hst
      rcases i with _ | _ | _ | _ | _ | _ | _ | _ | _ | i
      · refine ordOb_at (o := _) rfl rfl (fun a W hC hF hD => ?_)
        unfold frees
        go_simp
        refine ⟨rfl, (oalive_any W (hL.on hC.1.below)).mono ?_⟩
        rintro e W2 ⟨rfl, g⟩
        exact ⟨_, rfl, ⟨Tog6.on hC.1 g, hC.2.trans (g.mono hC.2.size)⟩, g, rfl⟩
      · refine ordOb_at (o := _) rfl rfl (fun a W hC hF hD => ?_)
        have g81 : a.tmps[81]? = some (.bool true) := by
          obtain ⟨v, h1, h2⟩ := hD 0 81 (by kernel_rfl) (by kernel_rfl)
          rw [h1]
          exact congrArg some h2
        unfold frees
        go_simp
        exact ⟨hC, Below.refl _ _, rfl, fun h => by cases h⟩
      · refine ordOb_on (o := _) (b := true) (k := 82) rfl rfl (by kernel_rfl) (by kernel_rfl) (fun v w h => h) (fun a W hC hF hD => ?_)
        have g11 : a.tmps[11]? = some (.pointer (some ⟨p10, 0, none⟩)) := hF 11 _ (by kernel_rfl) rfl
        obtain ⟨c0, c1, c2, c3⟩ := val_cells (E4.below hC.2 E4.lt)
        unfold frees
        go_simp
        exact ⟨hC, Below.refl _ _, rfl, fun h => by cases h⟩
      · refine ordOb_on (o := _) (b := true) (k := 82) rfl rfl (by kernel_rfl) (by kernel_rfl) (fun v w h => h) (fun a W hC hF hD => ?_)
        have g0 : a.tmps[0]? = some (.string key) := hF 0 _ (by kernel_rfl) rfl
        unfold frees
        go_simp
        exact ⟨hC, Below.refl _ _, rfl, fun h => by cases h⟩
      · refine ordOb_on (o := _) (b := true) (k := 82) rfl rfl (by kernel_rfl) (by kernel_rfl) (fun v w h => h) (fun a W hC hF hD => ?_)
        unfold frees
        go_simp
        exact ⟨hC, Below.refl _ _, rfl, fun h => by cases h⟩
      · refine ordOb_on (o := _) (b := true) (k := 82) rfl rfl (by kernel_rfl) (by kernel_rfl) (fun v w h => h) (fun a W hC hF hD => ?_)
        have g8 : a.tmps[8]? = some (.pointer (some ⟨w.heap.size + 1 + 1, 0, none⟩)) := hF 8 _ (by kernel_rfl) rfl
        obtain ⟨c0, c1, c2, c3⟩ := act_cells (Tog6.c hC.1)
        unfold frees
        go_simp
        exact ⟨hC, Below.refl _ _, rfl, fun h => by cases h⟩
      · refine ordOb_on (o := _) (b := true) (k := 82) rfl rfl (by kernel_rfl) (by kernel_rfl) (fun v w h => h) (fun a W hC hF hD => ?_)
        have g84 : a.tmps[84]? = some (.string key) := by
          obtain ⟨v, h1, h2⟩ := hD 3 84 (by kernel_rfl) (by kernel_rfl)
          rw [h1]
          exact congrArg some h2
        have g85 : a.tmps[85]? = some (.agg #[.bool false, .float .f64 0, .int .i64 0, .string ⟨#[]⟩]) := by
          obtain ⟨v, h1, h2⟩ := hD 4 85 (by kernel_rfl) (by kernel_rfl)
          rw [h1]
          exact congrArg some h2
        have g86 : a.tmps[86]? = some (.agg #[.int .i64 kd3, .float .f64 nu3, .int .i64 it3, .string tx3]) := by
          obtain ⟨v, h1, h2⟩ := hD 5 86 (by kernel_rfl) (by kernel_rfl)
          rw [h1]
          exact congrArg some h2
        unfold frees
        go_simp
        have CC := oafter_any key hk false 0 0 ⟨#[]⟩ ValIn.zero kd3 nu3 it3 tx3 I3 W
        simp only [actV, valV] at CC
        refine ⟨rfl, CC.mono ?_⟩
        rintro e W2 ⟨⟨th, vn, vi, vt, rfl, hv, hx⟩, g⟩
        exact ⟨_, rfl, ⟨Tog6.on hC.1 g, hC.2.trans (g.mono hC.2.size)⟩, g, th, vn, vi, vt, rfl, hv, hx⟩
      · refine ordOb_on (o := _) (b := true) (k := 82) rfl rfl (by kernel_rfl) (by kernel_rfl) (fun v w h => h) (fun a W hC hF hD => ?_)
        have g83 : a.tmps[83]? = some (.agg #[.bool th9, .float .f64 nu9, .int .i64 it9, .string tx9]) := by
          obtain ⟨v, h1, h2⟩ := hD 2 83 (by kernel_rfl) (by kernel_rfl)
          rw [h1]
          exact congrArg some h2
        obtain ⟨_, g87, th6r, nu6r, it6r, tx6r, rfl, IV6r, hx6r⟩ := hD 6 87 (by kernel_rfl) (by kernel_rfl)
        simp only [valV] at g87
        unfold frees
        go_simp
        have CC := osameval_any th9 nu9 it9 tx9 IV9 th6r nu6r it6r tx6r IV6r W
        simp only [valV] at CC
        refine ⟨rfl, CC.mono ?_⟩
        rintro e W2 ⟨rfl, g⟩
        exact ⟨_, rfl, ⟨Tog6.on hC.1 g, hC.2.trans (g.mono hC.2.size)⟩, g, congrArg Value.bool ((V6.same_iff _ _).2 (by rw [hx9, hx6r]; exact P3.out))⟩
      · refine ordOb_at (o := _) rfl rfl (fun a W hC hF hD => ?_)
        have g82 : a.tmps[82]? = some (.bool true) := by
          obtain ⟨v, h1, h2⟩ := hD 1 82 (by kernel_rfl) (by kernel_rfl)
          rw [h1]
          exact congrArg some h2
        have g88 : a.tmps[88]? = some (.bool true) := by
          obtain ⟨v, h1, h2⟩ := hD 7 88 (by kernel_rfl) (by kernel_rfl)
          rw [h1]
          exact congrArg some h2
        unfold frees
        go_simp
        exact ⟨hC, Below.refl _ _, rfl, fun h => by cases h⟩
      · exact absurd hi (by omega)
    obtain ⟨vs, hln, rfl, hC, hS, hap⟩ := J.all_ (by kernel_rfl) (ds := [some 81, some 82, some 83, some 84, some 85, some 86, some 87, some 88, some 89]) (by kernel_rfl)
    clear J
    obtain ⟨y0, vs, rfl⟩ := List.exists_cons_of_length_eq_add_one hln
    replace hln := Nat.succ.inj hln
    obtain ⟨y1, vs, rfl⟩ := List.exists_cons_of_length_eq_add_one hln
    replace hln := Nat.succ.inj hln
    obtain ⟨y2, vs, rfl⟩ := List.exists_cons_of_length_eq_add_one hln
    replace hln := Nat.succ.inj hln
    obtain ⟨y3, vs, rfl⟩ := List.exists_cons_of_length_eq_add_one hln
    replace hln := Nat.succ.inj hln
    obtain ⟨y4, vs, rfl⟩ := List.exists_cons_of_length_eq_add_one hln
    replace hln := Nat.succ.inj hln
    obtain ⟨y5, vs, rfl⟩ := List.exists_cons_of_length_eq_add_one hln
    replace hln := Nat.succ.inj hln
    obtain ⟨y6, vs, rfl⟩ := List.exists_cons_of_length_eq_add_one hln
    replace hln := Nat.succ.inj hln
    obtain ⟨y7, vs, rfl⟩ := List.exists_cons_of_length_eq_add_one hln
    replace hln := Nat.succ.inj hln
    obtain ⟨y8, vs, rfl⟩ := List.exists_cons_of_length_eq_add_one hln
    replace hln := Nat.succ.inj hln
    obtain rfl := List.eq_nil_of_length_eq_zero hln
    have q0 : y0 = .bool true := hS 0 (by decide)
    have q1 : y1 = .bool true := hS 1 (by decide)
    have q2 : y2 = .agg #[.bool th9, .float .f64 nu9, .int .i64 it9, .string tx9] := hS 2 (by decide)
    have q3 : y3 = .string key := hS 3 (by decide)
    have q4 : y4 = .agg #[.bool false, .float .f64 0, .int .i64 0, .string ⟨#[]⟩] := hS 4 (by decide)
    have q5 : y5 = .agg #[.int .i64 kd3, .float .f64 nu3, .int .i64 it3, .string tx3] := hS 5 (by decide)
    obtain ⟨th6r, nu6r, it6r, tx6r, q6, IV6r, hx6r⟩ := hS 6 (by decide)
    have q6 : y6 = valV th6r nu6r it6r tx6r := q6
    have q7 : y7 = .bool true := hS 7 (by decide)
    have q8 : y8 = .bool true := hS 8 (by decide)
    subst q0 q1 q2 q3 q4 q5 q6 q7 q8
    clear hS hap
    simp only [fillT, List.setIfInBounds_toArray, List.set_cons_zero, List.set_cons_succ]
    refine wpAny_ready (rs := [9]) (by kernel_rfl) (by simp) ?_
    refine AllReady.cons rfl (fun K hK => ?_) AllReady.nil
    go_simp
    refine hK _ _ ?_
    clear hK K
    refine wpAny_done (by kernel_rfl) ?_ _
    simp only [Exit.then]
    go_wp2_with fail
    go_ret
    exact ⟨rfl, hC.1.below⟩
  · rw [decide_eq_false z1] at q1
    by_cases z2 : ch = 116
    · have P3 := HR (Or.inr z2)
      rw [decide_eq_true z2] at q2
      clear z1 z2 HR HN
      go_wp2_with fail
      clear hc
      refine wp_region_ord (fun W => Tog6 w kd1 nu1 it1 tx1 kd2 nu2 it2 tx2 kd3 nu3 it3 tx3 th vn vi vt W ∧ Below w4.heap.size w4 W) (fun w w' => Below w.heap.size w w') [Slot.is (.bool true), Slot.is (.bool true), Slot.is (.agg #[.bool th9, .float .f64 nu9, .int .i64 it9, .string tx9]), Slot.is (.string key), Slot.is (.agg #[.bool false, .float .f64 0, .int .i64 0, .string ⟨#[]⟩]), Slot.is (.agg #[.int .i64 kd3, .float .f64 nu3, .int .i64 it3, .string tx3]), SlotV (afterA key.data.toList (v6 false 0 0 ⟨#[]⟩) (a6 kd3 nu3 it3 tx3)), Slot.is (.bool true), Slot.is (.bool true)] 9 1 (by kernel_rfl) (fun _ _ h => Below.size h) (by kernel_rfl) (by kernel_rfl) (by kernel_rfl) rfl (by decide) ⟨C6.1.drew, C6.2.drew⟩ (fun i hi => ?_) (fun a w7 J => ?_)
      · clear hst
        rcases i with _ | _ | _ | _ | _ | _ | _ | _ | _ | i
        · refine ordOb_at (o := _) rfl rfl (fun a W hC hF hD => ?_)
          unfold frees
          go_simp
          refine ⟨rfl, (oalive_any W (hL.on hC.1.below)).mono ?_⟩
          rintro e W2 ⟨rfl, g⟩
          exact ⟨_, rfl, ⟨Tog6.on hC.1 g, hC.2.trans (g.mono hC.2.size)⟩, g, rfl⟩
        · refine ordOb_at (o := _) rfl rfl (fun a W hC hF hD => ?_)
          have g81 : a.tmps[81]? = some (.bool true) := by
            obtain ⟨v, h1, h2⟩ := hD 0 81 (by kernel_rfl) (by kernel_rfl)
            rw [h1]
            exact congrArg some h2
          unfold frees
          go_simp
          exact ⟨hC, Below.refl _ _, rfl, fun h => by cases h⟩
        · refine ordOb_on (o := _) (b := true) (k := 82) rfl rfl (by kernel_rfl) (by kernel_rfl) (fun v w h => h) (fun a W hC hF hD => ?_)
          have g11 : a.tmps[11]? = some (.pointer (some ⟨p10, 0, none⟩)) := hF 11 _ (by kernel_rfl) rfl
          obtain ⟨c0, c1, c2, c3⟩ := val_cells (E4.below hC.2 E4.lt)
          unfold frees
          go_simp
          exact ⟨hC, Below.refl _ _, rfl, fun h => by cases h⟩
        · refine ordOb_on (o := _) (b := true) (k := 82) rfl rfl (by kernel_rfl) (by kernel_rfl) (fun v w h => h) (fun a W hC hF hD => ?_)
          have g0 : a.tmps[0]? = some (.string key) := hF 0 _ (by kernel_rfl) rfl
          unfold frees
          go_simp
          exact ⟨hC, Below.refl _ _, rfl, fun h => by cases h⟩
        · refine ordOb_on (o := _) (b := true) (k := 82) rfl rfl (by kernel_rfl) (by kernel_rfl) (fun v w h => h) (fun a W hC hF hD => ?_)
          unfold frees
          go_simp
          exact ⟨hC, Below.refl _ _, rfl, fun h => by cases h⟩
        · refine ordOb_on (o := _) (b := true) (k := 82) rfl rfl (by kernel_rfl) (by kernel_rfl) (fun v w h => h) (fun a W hC hF hD => ?_)
          have g8 : a.tmps[8]? = some (.pointer (some ⟨w.heap.size + 1 + 1, 0, none⟩)) := hF 8 _ (by kernel_rfl) rfl
          obtain ⟨c0, c1, c2, c3⟩ := act_cells (Tog6.c hC.1)
          unfold frees
          go_simp
          exact ⟨hC, Below.refl _ _, rfl, fun h => by cases h⟩
        · refine ordOb_on (o := _) (b := true) (k := 82) rfl rfl (by kernel_rfl) (by kernel_rfl) (fun v w h => h) (fun a W hC hF hD => ?_)
          have g84 : a.tmps[84]? = some (.string key) := by
            obtain ⟨v, h1, h2⟩ := hD 3 84 (by kernel_rfl) (by kernel_rfl)
            rw [h1]
            exact congrArg some h2
          have g85 : a.tmps[85]? = some (.agg #[.bool false, .float .f64 0, .int .i64 0, .string ⟨#[]⟩]) := by
            obtain ⟨v, h1, h2⟩ := hD 4 85 (by kernel_rfl) (by kernel_rfl)
            rw [h1]
            exact congrArg some h2
          have g86 : a.tmps[86]? = some (.agg #[.int .i64 kd3, .float .f64 nu3, .int .i64 it3, .string tx3]) := by
            obtain ⟨v, h1, h2⟩ := hD 5 86 (by kernel_rfl) (by kernel_rfl)
            rw [h1]
            exact congrArg some h2
          unfold frees
          go_simp
          have CC := oafter_any key hk false 0 0 ⟨#[]⟩ ValIn.zero kd3 nu3 it3 tx3 I3 W
          simp only [actV, valV] at CC
          refine ⟨rfl, CC.mono ?_⟩
          rintro e W2 ⟨⟨th, vn, vi, vt, rfl, hv, hx⟩, g⟩
          exact ⟨_, rfl, ⟨Tog6.on hC.1 g, hC.2.trans (g.mono hC.2.size)⟩, g, th, vn, vi, vt, rfl, hv, hx⟩
        · refine ordOb_on (o := _) (b := true) (k := 82) rfl rfl (by kernel_rfl) (by kernel_rfl) (fun v w h => h) (fun a W hC hF hD => ?_)
          have g83 : a.tmps[83]? = some (.agg #[.bool th9, .float .f64 nu9, .int .i64 it9, .string tx9]) := by
            obtain ⟨v, h1, h2⟩ := hD 2 83 (by kernel_rfl) (by kernel_rfl)
            rw [h1]
            exact congrArg some h2
          obtain ⟨_, g87, th6r, nu6r, it6r, tx6r, rfl, IV6r, hx6r⟩ := hD 6 87 (by kernel_rfl) (by kernel_rfl)
          simp only [valV] at g87
          unfold frees
          go_simp
          have CC := osameval_any th9 nu9 it9 tx9 IV9 th6r nu6r it6r tx6r IV6r W
          simp only [valV] at CC
          refine ⟨rfl, CC.mono ?_⟩
          rintro e W2 ⟨rfl, g⟩
          exact ⟨_, rfl, ⟨Tog6.on hC.1 g, hC.2.trans (g.mono hC.2.size)⟩, g, congrArg Value.bool ((V6.same_iff _ _).2 (by rw [hx9, hx6r]; exact P3.out))⟩
        · refine ordOb_at (o := _) rfl rfl (fun a W hC hF hD => ?_)
          have g82 : a.tmps[82]? = some (.bool true) := by
            obtain ⟨v, h1, h2⟩ := hD 1 82 (by kernel_rfl) (by kernel_rfl)
            rw [h1]
            exact congrArg some h2
          have g88 : a.tmps[88]? = some (.bool true) := by
            obtain ⟨v, h1, h2⟩ := hD 7 88 (by kernel_rfl) (by kernel_rfl)
            rw [h1]
            exact congrArg some h2
          unfold frees
          go_simp
          exact ⟨hC, Below.refl _ _, rfl, fun h => by cases h⟩
        · exact absurd hi (by omega)
      obtain ⟨vs, hln, rfl, hC, hS, hap⟩ := J.all_ (by kernel_rfl) (ds := [some 81, some 82, some 83, some 84, some 85, some 86, some 87, some 88, some 89]) (by kernel_rfl)
      clear J
      obtain ⟨y0, vs, rfl⟩ := List.exists_cons_of_length_eq_add_one hln
      replace hln := Nat.succ.inj hln
      obtain ⟨y1, vs, rfl⟩ := List.exists_cons_of_length_eq_add_one hln
      replace hln := Nat.succ.inj hln
      obtain ⟨y2, vs, rfl⟩ := List.exists_cons_of_length_eq_add_one hln
      replace hln := Nat.succ.inj hln
      obtain ⟨y3, vs, rfl⟩ := List.exists_cons_of_length_eq_add_one hln
      replace hln := Nat.succ.inj hln
      obtain ⟨y4, vs, rfl⟩ := List.exists_cons_of_length_eq_add_one hln
      replace hln := Nat.succ.inj hln
      obtain ⟨y5, vs, rfl⟩ := List.exists_cons_of_length_eq_add_one hln
      replace hln := Nat.succ.inj hln
      obtain ⟨y6, vs, rfl⟩ := List.exists_cons_of_length_eq_add_one hln
      replace hln := Nat.succ.inj hln
      obtain ⟨y7, vs, rfl⟩ := List.exists_cons_of_length_eq_add_one hln
      replace hln := Nat.succ.inj hln
      obtain ⟨y8, vs, rfl⟩ := List.exists_cons_of_length_eq_add_one hln
      replace hln := Nat.succ.inj hln
      obtain rfl := List.eq_nil_of_length_eq_zero hln
      have q0 : y0 = .bool true := hS 0 (by decide)
      have q1 : y1 = .bool true := hS 1 (by decide)
      have q2 : y2 = .agg #[.bool th9, .float .f64 nu9, .int .i64 it9, .string tx9] := hS 2 (by decide)
      have q3 : y3 = .string key := hS 3 (by decide)
      have q4 : y4 = .agg #[.bool false, .float .f64 0, .int .i64 0, .string ⟨#[]⟩] := hS 4 (by decide)
      have q5 : y5 = .agg #[.int .i64 kd3, .float .f64 nu3, .int .i64 it3, .string tx3] := hS 5 (by decide)
      obtain ⟨th6r, nu6r, it6r, tx6r, q6, IV6r, hx6r⟩ := hS 6 (by decide)
      have q6 : y6 = valV th6r nu6r it6r tx6r := q6
      have q7 : y7 = .bool true := hS 7 (by decide)
      have q8 : y8 = .bool true := hS 8 (by decide)
      subst q0 q1 q2 q3 q4 q5 q6 q7 q8
      clear hS hap
      simp only [fillT, List.setIfInBounds_toArray, List.set_cons_zero, List.set_cons_succ]
      refine wpAny_ready (rs := [9]) (by kernel_rfl) (by simp) ?_
      refine AllReady.cons rfl (fun K hK => ?_) AllReady.nil
      go_simp
      refine hK _ _ ?_
      clear hK K
      refine wpAny_done (by kernel_rfl) ?_ _
      simp only [Exit.then]
      go_wp2_with fail
      go_ret
      exact ⟨rfl, hC.1.below⟩
    · have P4 := HN z1 z2
      rw [decide_eq_false z2] at q2
      clear z1 z2 HR HN
      go_wp2_with fail
      clear hc
      refine wp_region_ord (fun W => Tog6 w kd1 nu1 it1 tx1 kd2 nu2 it2 tx2 kd3 nu3 it3 tx3 th vn vi vt W ∧ Below w4.heap.size w4 W) (fun w w' => Below w.heap.size w w') [Slot.is (.bool true), Slot.is (.bool true), Slot.is (.agg #[.bool th9, .float .f64 nu9, .int .i64 it9, .string tx9]), Slot.is (.string key), Slot.is (.string key), Slot.is (.string key), Slot.is (.agg #[.bool th, .float .f64 vn, .int .i64 vi, .string vt]), Slot.is (.agg #[.int .i64 kd3, .float .f64 nu3, .int .i64 it3, .string tx3]), SlotV (afterA key.data.toList (v6 th vn vi vt) (a6 kd3 nu3 it3 tx3)), Slot.is (.agg #[.int .i64 kd1, .float .f64 nu1, .int .i64 it1, .string tx1]), SlotV (afterA key.data.toList (afterA key.data.toList (v6 th vn vi vt) (a6 kd3 nu3 it3 tx3)) (a6 kd1 nu1 it1 tx1)), Slot.is (.agg #[.int .i64 kd2, .float .f64 nu2, .int .i64 it2, .string tx2]), SlotV (afterA key.data.toList (afterA key.data.toList (afterA key.data.toList (v6 th vn vi vt) (a6 kd3 nu3 it3 tx3)) (a6 kd1 nu1 it1 tx1)) (a6 kd2 nu2 it2 tx2)), Slot.is (.bool true), Slot.is (.bool true), Slot.is (.bool true), Slot.is (.string key), Slot.is (.string key), Slot.is (.agg #[.int .i64 kd1, .float .f64 nu1, .int .i64 it1, .string tx1]), Slot.is (.agg #[.int .i64 kd2, .float .f64 nu2, .int .i64 it2, .string tx2]), SlotA ((bothA key.data.toList (a6 kd1 nu1 it1 tx1) (a6 kd2 nu2 it2 tx2))), Slot.is (.bool true), Slot.is (.bool true)] 23 1 (by kernel_rfl) (fun _ _ h => Below.size h) (by kernel_rfl) (by kernel_rfl) (by kernel_rfl) rfl (by decide) ⟨C6.1.drew, C6.2.drew⟩ (fun i hi => ?_) (fun a w7 J => ?_)
      · clear hst
        rcases i with _ | _ | _ | _ | _ | _ | _ | _ | _ | _ | _ | _ | _ | _ | _ | _ | _ | _ | _ | _ | _ | _ | _ | i
        · refine ordOb_at (o := _) rfl rfl (fun a W hC hF hD => ?_)
          unfold frees
          go_simp
          refine ⟨rfl, (oalive_any W (hL.on hC.1.below)).mono ?_⟩
          rintro e W2 ⟨rfl, g⟩
          exact ⟨_, rfl, ⟨Tog6.on hC.1 g, hC.2.trans (g.mono hC.2.size)⟩, g, rfl⟩
        · refine ordOb_at (o := _) rfl rfl (fun a W hC hF hD => ?_)
          have g90 : a.tmps[90]? = some (.bool true) := by
            obtain ⟨v, h1, h2⟩ := hD 0 90 (by kernel_rfl) (by kernel_rfl)
            rw [h1]
            exact congrArg some h2
          unfold frees
          go_simp
          exact ⟨hC, Below.refl _ _, rfl, fun h => by cases h⟩
        · refine ordOb_on (o := _) (b := true) (k := 91) rfl rfl (by kernel_rfl) (by kernel_rfl) (fun v w h => h) (fun a W hC hF hD => ?_)
          have g11 : a.tmps[11]? = some (.pointer (some ⟨p10, 0, none⟩)) := hF 11 _ (by kernel_rfl) rfl
          obtain ⟨c0, c1, c2, c3⟩ := val_cells (E4.below hC.2 E4.lt)
          unfold frees
          go_simp
          exact ⟨hC, Below.refl _ _, rfl, fun h => by cases h⟩
        · refine ordOb_on (o := _) (b := true) (k := 91) rfl rfl (by kernel_rfl) (by kernel_rfl) (fun v w h => h) (fun a W hC hF hD => ?_)
          have g0 : a.tmps[0]? = some (.string key) := hF 0 _ (by kernel_rfl) rfl
          unfold frees
          go_simp
          exact ⟨hC, Below.refl _ _, rfl, fun h => by cases h⟩
        · refine ordOb_on (o := _) (b := true) (k := 91) rfl rfl (by kernel_rfl) (by kernel_rfl) (fun v w h => h) (fun a W hC hF hD => ?_)
          have g0 : a.tmps[0]? = some (.string key) := hF 0 _ (by kernel_rfl) rfl
          unfold frees
          go_simp
          exact ⟨hC, Below.refl _ _, rfl, fun h => by cases h⟩
        · refine ordOb_on (o := _) (b := true) (k := 91) rfl rfl (by kernel_rfl) (by kernel_rfl) (fun v w h => h) (fun a W hC hF hD => ?_)
          have g0 : a.tmps[0]? = some (.string key) := hF 0 _ (by kernel_rfl) rfl
          unfold frees
          go_simp
          exact ⟨hC, Below.refl _ _, rfl, fun h => by cases h⟩
        · refine ordOb_on (o := _) (b := true) (k := 91) rfl rfl (by kernel_rfl) (by kernel_rfl) (fun v w h => h) (fun a W hC hF hD => ?_)
          have g9 : a.tmps[9]? = some (.pointer (some ⟨w.heap.size + 1 + 1 + 1, 0, none⟩)) := hF 9 _ (by kernel_rfl) rfl
          obtain ⟨c0, c1, c2, c3⟩ := val_cells (Tog6.v hC.1)
          unfold frees
          go_simp
          exact ⟨hC, Below.refl _ _, rfl, fun h => by cases h⟩
        · refine ordOb_on (o := _) (b := true) (k := 91) rfl rfl (by kernel_rfl) (by kernel_rfl) (fun v w h => h) (fun a W hC hF hD => ?_)
          have g8 : a.tmps[8]? = some (.pointer (some ⟨w.heap.size + 1 + 1, 0, none⟩)) := hF 8 _ (by kernel_rfl) rfl
          obtain ⟨c0, c1, c2, c3⟩ := act_cells (Tog6.c hC.1)
          unfold frees
          go_simp
          exact ⟨hC, Below.refl _ _, rfl, fun h => by cases h⟩
        · refine ordOb_on (o := _) (b := true) (k := 91) rfl rfl (by kernel_rfl) (by kernel_rfl) (fun v w h => h) (fun a W hC hF hD => ?_)
          have g95 : a.tmps[95]? = some (.string key) := by
            obtain ⟨v, h1, h2⟩ := hD 5 95 (by kernel_rfl) (by kernel_rfl)
            rw [h1]
            exact congrArg some h2
          have g96 : a.tmps[96]? = some (.agg #[.bool th, .float .f64 vn, .int .i64 vi, .string vt]) := by
            obtain ⟨v, h1, h2⟩ := hD 6 96 (by kernel_rfl) (by kernel_rfl)
            rw [h1]
            exact congrArg some h2
          have g97 : a.tmps[97]? = some (.agg #[.int .i64 kd3, .float .f64 nu3, .int .i64 it3, .string tx3]) := by
            obtain ⟨v, h1, h2⟩ := hD 7 97 (by kernel_rfl) (by kernel_rfl)
            rw [h1]
            exact congrArg some h2
          unfold frees
          go_simp
          have CC := oafter_any key hk th vn vi vt IV kd3 nu3 it3 tx3 I3 W
          simp only [actV, valV] at CC
          refine ⟨rfl, CC.mono ?_⟩
          rintro e W2 ⟨⟨th, vn, vi, vt, rfl, hv, hx⟩, g⟩
          exact ⟨_, rfl, ⟨Tog6.on hC.1 g, hC.2.trans (g.mono hC.2.size)⟩, g, th, vn, vi, vt, rfl, hv, hx⟩
        · refine ordOb_on (o := _) (b := true) (k := 91) rfl rfl (by kernel_rfl) (by kernel_rfl) (fun v w h => h) (fun a W hC hF hD => ?_)
          have g6 : a.tmps[6]? = some (.pointer (some ⟨w.heap.size, 0, none⟩)) := hF 6 _ (by kernel_rfl) rfl
          obtain ⟨c0, c1, c2, c3⟩ := act_cells (Tog6.a hC.1)
          unfold frees
          go_simp
          exact ⟨hC, Below.refl _ _, rfl, fun h => by cases h⟩
        · refine ordOb_on (o := _) (b := true) (k := 91) rfl rfl (by kernel_rfl) (by kernel_rfl) (fun v w h => h) (fun a W hC hF hD => ?_)
          have g94 : a.tmps[94]? = some (.string key) := by
            obtain ⟨v, h1, h2⟩ := hD 4 94 (by kernel_rfl) (by kernel_rfl)
            rw [h1]
            exact congrArg some h2
          obtain ⟨_, g98, th8r, nu8r, it8r, tx8r, rfl, IV8r, hx8r⟩ := hD 8 98 (by kernel_rfl) (by kernel_rfl)
          simp only [valV] at g98
          have g99 : a.tmps[99]? = some (.agg #[.int .i64 kd1, .float .f64 nu1, .int .i64 it1, .string tx1]) := by
            obtain ⟨v, h1, h2⟩ := hD 9 99 (by kernel_rfl) (by kernel_rfl)
            rw [h1]
            exact congrArg some h2
          unfold frees
          go_simp
          have CC := oafter_any key hk th8r nu8r it8r tx8r IV8r kd1 nu1 it1 tx1 I1 W
          rw [hx8r] at CC
          simp only [actV, valV] at CC
          refine ⟨rfl, CC.mono ?_⟩
          rintro e W2 ⟨⟨th, vn, vi, vt, rfl, hv, hx⟩, g⟩
          exact ⟨_, rfl, ⟨Tog6.on hC.1 g, hC.2.trans (g.mono hC.2.size)⟩, g, th, vn, vi, vt, rfl, hv, hx⟩
        · refine ordOb_on (o := _) (b := true) (k := 91) rfl rfl (by kernel_rfl) (by kernel_rfl) (fun v w h => h) (fun a W hC hF hD => ?_)
          have g7 : a.tmps[7]? = some (.pointer (some ⟨w.heap.size + 1, 0, none⟩)) := hF 7 _ (by kernel_rfl) rfl
          obtain ⟨c0, c1, c2, c3⟩ := act_cells (Tog6.b hC.1)
          unfold frees
          go_simp
          exact ⟨hC, Below.refl _ _, rfl, fun h => by cases h⟩
        · refine ordOb_on (o := _) (b := true) (k := 91) rfl rfl (by kernel_rfl) (by kernel_rfl) (fun v w h => h) (fun a W hC hF hD => ?_)
          have g93 : a.tmps[93]? = some (.string key) := by
            obtain ⟨v, h1, h2⟩ := hD 3 93 (by kernel_rfl) (by kernel_rfl)
            rw [h1]
            exact congrArg some h2
          obtain ⟨_, g100, th10r, nu10r, it10r, tx10r, rfl, IV10r, hx10r⟩ := hD 10 100 (by kernel_rfl) (by kernel_rfl)
          simp only [valV] at g100
          have g101 : a.tmps[101]? = some (.agg #[.int .i64 kd2, .float .f64 nu2, .int .i64 it2, .string tx2]) := by
            obtain ⟨v, h1, h2⟩ := hD 11 101 (by kernel_rfl) (by kernel_rfl)
            rw [h1]
            exact congrArg some h2
          unfold frees
          go_simp
          have CC := oafter_any key hk th10r nu10r it10r tx10r IV10r kd2 nu2 it2 tx2 I2 W
          rw [hx10r] at CC
          simp only [actV, valV] at CC
          refine ⟨rfl, CC.mono ?_⟩
          rintro e W2 ⟨⟨th, vn, vi, vt, rfl, hv, hx⟩, g⟩
          exact ⟨_, rfl, ⟨Tog6.on hC.1 g, hC.2.trans (g.mono hC.2.size)⟩, g, th, vn, vi, vt, rfl, hv, hx⟩
        · refine ordOb_on (o := _) (b := true) (k := 91) rfl rfl (by kernel_rfl) (by kernel_rfl) (fun v w h => h) (fun a W hC hF hD => ?_)
          have g92 : a.tmps[92]? = some (.agg #[.bool th9, .float .f64 nu9, .int .i64 it9, .string tx9]) := by
            obtain ⟨v, h1, h2⟩ := hD 2 92 (by kernel_rfl) (by kernel_rfl)
            rw [h1]
            exact congrArg some h2
          obtain ⟨_, g102, th12r, nu12r, it12r, tx12r, rfl, IV12r, hx12r⟩ := hD 12 102 (by kernel_rfl) (by kernel_rfl)
          simp only [valV] at g102
          unfold frees
          go_simp
          have CC := osameval_any th9 nu9 it9 tx9 IV9 th12r nu12r it12r tx12r IV12r W
          simp only [valV] at CC
          refine ⟨rfl, CC.mono ?_⟩
          rintro e W2 ⟨rfl, g⟩
          exact ⟨_, rfl, ⟨Tog6.on hC.1 g, hC.2.trans (g.mono hC.2.size)⟩, g, congrArg Value.bool ((V6.same_iff _ _).2 (by rw [hx9, hx12r]; exact P4.out))⟩
        · refine ordOb_at (o := _) rfl rfl (fun a W hC hF hD => ?_)
          have g91 : a.tmps[91]? = some (.bool true) := by
            obtain ⟨v, h1, h2⟩ := hD 1 91 (by kernel_rfl) (by kernel_rfl)
            rw [h1]
            exact congrArg some h2
          have g103 : a.tmps[103]? = some (.bool true) := by
            obtain ⟨v, h1, h2⟩ := hD 13 103 (by kernel_rfl) (by kernel_rfl)
            rw [h1]
            exact congrArg some h2
          unfold frees
          go_simp
          exact ⟨hC, Below.refl _ _, rfl, fun h => by cases h⟩
        · refine ordOb_at (o := _) rfl rfl (fun a W hC hF hD => ?_)
          have g104 : a.tmps[104]? = some (.bool true) := by
            obtain ⟨v, h1, h2⟩ := hD 14 104 (by kernel_rfl) (by kernel_rfl)
            rw [h1]
            exact congrArg some h2
          unfold frees
          go_simp
          exact ⟨hC, Below.refl _ _, rfl, fun h => by cases h⟩
        · refine ordOb_on (o := _) (b := true) (k := 105) rfl rfl (by kernel_rfl) (by kernel_rfl) (fun v w h => h) (fun a W hC hF hD => ?_)
          have g0 : a.tmps[0]? = some (.string key) := hF 0 _ (by kernel_rfl) rfl
          unfold frees
          go_simp
          exact ⟨hC, Below.refl _ _, rfl, fun h => by cases h⟩
        · refine ordOb_on (o := _) (b := true) (k := 105) rfl rfl (by kernel_rfl) (by kernel_rfl) (fun v w h => h) (fun a W hC hF hD => ?_)
          have g0 : a.tmps[0]? = some (.string key) := hF 0 _ (by kernel_rfl) rfl
          unfold frees
          go_simp
          exact ⟨hC, Below.refl _ _, rfl, fun h => by cases h⟩
        · refine ordOb_on (o := _) (b := true) (k := 105) rfl rfl (by kernel_rfl) (by kernel_rfl) (fun v w h => h) (fun a W hC hF hD => ?_)
          have g6 : a.tmps[6]? = some (.pointer (some ⟨w.heap.size, 0, none⟩)) := hF 6 _ (by kernel_rfl) rfl
          obtain ⟨c0, c1, c2, c3⟩ := act_cells (Tog6.a hC.1)
          unfold frees
          go_simp
          exact ⟨hC, Below.refl _ _, rfl, fun h => by cases h⟩
        · refine ordOb_on (o := _) (b := true) (k := 105) rfl rfl (by kernel_rfl) (by kernel_rfl) (fun v w h => h) (fun a W hC hF hD => ?_)
          have g7 : a.tmps[7]? = some (.pointer (some ⟨w.heap.size + 1, 0, none⟩)) := hF 7 _ (by kernel_rfl) rfl
          obtain ⟨c0, c1, c2, c3⟩ := act_cells (Tog6.b hC.1)
          unfold frees
          go_simp
          exact ⟨hC, Below.refl _ _, rfl, fun h => by cases h⟩
        · refine ordOb_on (o := _) (b := true) (k := 105) rfl rfl (by kernel_rfl) (by kernel_rfl) (fun v w h => h) (fun a W hC hF hD => ?_)
          have g107 : a.tmps[107]? = some (.string key) := by
            obtain ⟨v, h1, h2⟩ := hD 17 107 (by kernel_rfl) (by kernel_rfl)
            rw [h1]
            exact congrArg some h2
          have g108 : a.tmps[108]? = some (.agg #[.int .i64 kd1, .float .f64 nu1, .int .i64 it1, .string tx1]) := by
            obtain ⟨v, h1, h2⟩ := hD 18 108 (by kernel_rfl) (by kernel_rfl)
            rw [h1]
            exact congrArg some h2
          have g109 : a.tmps[109]? = some (.agg #[.int .i64 kd2, .float .f64 nu2, .int .i64 it2, .string tx2]) := by
            obtain ⟨v, h1, h2⟩ := hD 19 109 (by kernel_rfl) (by kernel_rfl)
            rw [h1]
            exact congrArg some h2
          unfold frees
          go_simp
          have CC := oboth_any key hk kd1 nu1 it1 tx1 I1 kd2 nu2 it2 tx2 I2 W
          simp only [actV] at CC
          refine ⟨rfl, CC.mono ?_⟩
          rintro e W2 ⟨⟨kd, nu, it, tx, rfl, hv, hx⟩, g⟩
          exact ⟨_, rfl, ⟨Tog6.on hC.1 g, hC.2.trans (g.mono hC.2.size)⟩, g, kd, nu, it, tx, rfl, hv, hx⟩
        · refine ordOb_on (o := _) (b := true) (k := 105) rfl rfl (by kernel_rfl) (by kernel_rfl) (fun v w h => h) (fun a W hC hF hD => ?_)
          have g106 : a.tmps[106]? = some (.string key) := by
            obtain ⟨v, h1, h2⟩ := hD 16 106 (by kernel_rfl) (by kernel_rfl)
            rw [h1]
            exact congrArg some h2
          obtain ⟨_, g110, kd20r, nu20r, it20r, tx20r, rfl, IV20r, hx20r⟩ := hD 20 110 (by kernel_rfl) (by kernel_rfl)
          simp only [actV] at g110
          unfold frees
          go_simp
          have CC := ofits_any key hk kd20r nu20r it20r tx20r IV20r W
          rw [hx20r, P5.out] at CC
          simp only [actV] at CC
          refine ⟨rfl, CC.mono ?_⟩
          rintro e W2 ⟨rfl, g⟩
          exact ⟨_, rfl, ⟨Tog6.on hC.1 g, hC.2.trans (g.mono hC.2.size)⟩, g, rfl⟩
        · refine ordOb_at (o := _) rfl rfl (fun a W hC hF hD => ?_)
          have g105 : a.tmps[105]? = some (.bool true) := by
            obtain ⟨v, h1, h2⟩ := hD 15 105 (by kernel_rfl) (by kernel_rfl)
            rw [h1]
            exact congrArg some h2
          have g111 : a.tmps[111]? = some (.bool true) := by
            obtain ⟨v, h1, h2⟩ := hD 21 111 (by kernel_rfl) (by kernel_rfl)
            rw [h1]
            exact congrArg some h2
          unfold frees
          go_simp
          exact ⟨hC, Below.refl _ _, rfl, fun h => by cases h⟩
        · exact absurd hi (by omega)
      obtain ⟨vs, hln, rfl, hC, hS, hap⟩ := J.all_ (by kernel_rfl) (ds := [some 90, some 91, some 92, some 93, some 94, some 95, some 96, some 97, some 98, some 99, some 100, some 101, some 102, some 103, some 104, some 105, some 106, some 107, some 108, some 109, some 110, some 111, some 112]) (by kernel_rfl)
      clear J
      obtain ⟨y0, vs, rfl⟩ := List.exists_cons_of_length_eq_add_one hln
      replace hln := Nat.succ.inj hln
      obtain ⟨y1, vs, rfl⟩ := List.exists_cons_of_length_eq_add_one hln
      replace hln := Nat.succ.inj hln
      obtain ⟨y2, vs, rfl⟩ := List.exists_cons_of_length_eq_add_one hln
      replace hln := Nat.succ.inj hln
      obtain ⟨y3, vs, rfl⟩ := List.exists_cons_of_length_eq_add_one hln
      replace hln := Nat.succ.inj hln
      obtain ⟨y4, vs, rfl⟩ := List.exists_cons_of_length_eq_add_one hln
      replace hln := Nat.succ.inj hln
      obtain ⟨y5, vs, rfl⟩ := List.exists_cons_of_length_eq_add_one hln
      replace hln := Nat.succ.inj hln
      obtain ⟨y6, vs, rfl⟩ := List.exists_cons_of_length_eq_add_one hln
      replace hln := Nat.succ.inj hln
      obtain ⟨y7, vs, rfl⟩ := List.exists_cons_of_length_eq_add_one hln
      replace hln := Nat.succ.inj hln
      obtain ⟨y8, vs, rfl⟩ := List.exists_cons_of_length_eq_add_one hln
      replace hln := Nat.succ.inj hln
      obtain ⟨y9, vs, rfl⟩ := List.exists_cons_of_length_eq_add_one hln
      replace hln := Nat.succ.inj hln
      obtain ⟨y10, vs, rfl⟩ := List.exists_cons_of_length_eq_add_one hln
      replace hln := Nat.succ.inj hln
      obtain ⟨y11, vs, rfl⟩ := List.exists_cons_of_length_eq_add_one hln
      replace hln := Nat.succ.inj hln
      obtain ⟨y12, vs, rfl⟩ := List.exists_cons_of_length_eq_add_one hln
      replace hln := Nat.succ.inj hln
      obtain ⟨y13, vs, rfl⟩ := List.exists_cons_of_length_eq_add_one hln
      replace hln := Nat.succ.inj hln
      obtain ⟨y14, vs, rfl⟩ := List.exists_cons_of_length_eq_add_one hln
      replace hln := Nat.succ.inj hln
      obtain ⟨y15, vs, rfl⟩ := List.exists_cons_of_length_eq_add_one hln
      replace hln := Nat.succ.inj hln
      obtain ⟨y16, vs, rfl⟩ := List.exists_cons_of_length_eq_add_one hln
      replace hln := Nat.succ.inj hln
      obtain ⟨y17, vs, rfl⟩ := List.exists_cons_of_length_eq_add_one hln
      replace hln := Nat.succ.inj hln
      obtain ⟨y18, vs, rfl⟩ := List.exists_cons_of_length_eq_add_one hln
      replace hln := Nat.succ.inj hln
      obtain ⟨y19, vs, rfl⟩ := List.exists_cons_of_length_eq_add_one hln
      replace hln := Nat.succ.inj hln
      obtain ⟨y20, vs, rfl⟩ := List.exists_cons_of_length_eq_add_one hln
      replace hln := Nat.succ.inj hln
      obtain ⟨y21, vs, rfl⟩ := List.exists_cons_of_length_eq_add_one hln
      replace hln := Nat.succ.inj hln
      obtain ⟨y22, vs, rfl⟩ := List.exists_cons_of_length_eq_add_one hln
      replace hln := Nat.succ.inj hln
      obtain rfl := List.eq_nil_of_length_eq_zero hln
      have q0 : y0 = .bool true := hS 0 (by decide)
      have q1 : y1 = .bool true := hS 1 (by decide)
      have q2 : y2 = .agg #[.bool th9, .float .f64 nu9, .int .i64 it9, .string tx9] := hS 2 (by decide)
      have q3 : y3 = .string key := hS 3 (by decide)
      have q4 : y4 = .string key := hS 4 (by decide)
      have q5 : y5 = .string key := hS 5 (by decide)
      have q6 : y6 = .agg #[.bool th, .float .f64 vn, .int .i64 vi, .string vt] := hS 6 (by decide)
      have q7 : y7 = .agg #[.int .i64 kd3, .float .f64 nu3, .int .i64 it3, .string tx3] := hS 7 (by decide)
      obtain ⟨th8r, nu8r, it8r, tx8r, q8, IV8r, hx8r⟩ := hS 8 (by decide)
      have q8 : y8 = valV th8r nu8r it8r tx8r := q8
      have q9 : y9 = .agg #[.int .i64 kd1, .float .f64 nu1, .int .i64 it1, .string tx1] := hS 9 (by decide)
      obtain ⟨th10r, nu10r, it10r, tx10r, q10, IV10r, hx10r⟩ := hS 10 (by decide)
      have q10 : y10 = valV th10r nu10r it10r tx10r := q10
      have q11 : y11 = .agg #[.int .i64 kd2, .float .f64 nu2, .int .i64 it2, .string tx2] := hS 11 (by decide)
      obtain ⟨th12r, nu12r, it12r, tx12r, q12, IV12r, hx12r⟩ := hS 12 (by decide)
      have q12 : y12 = valV th12r nu12r it12r tx12r := q12
      have q13 : y13 = .bool true := hS 13 (by decide)
      have q14 : y14 = .bool true := hS 14 (by decide)
      have q15 : y15 = .bool true := hS 15 (by decide)
      have q16 : y16 = .string key := hS 16 (by decide)
      have q17 : y17 = .string key := hS 17 (by decide)
      have q18 : y18 = .agg #[.int .i64 kd1, .float .f64 nu1, .int .i64 it1, .string tx1] := hS 18 (by decide)
      have q19 : y19 = .agg #[.int .i64 kd2, .float .f64 nu2, .int .i64 it2, .string tx2] := hS 19 (by decide)
      obtain ⟨kd20r, nu20r, it20r, tx20r, q20, IV20r, hx20r⟩ := hS 20 (by decide)
      have q20 : y20 = actV kd20r nu20r it20r tx20r := q20
      have q21 : y21 = .bool true := hS 21 (by decide)
      have q22 : y22 = .bool true := hS 22 (by decide)
      subst q0 q1 q2 q3 q4 q5 q6 q7 q8 q9 q10 q11 q12 q13 q14 q15 q16 q17 q18 q19 q20 q21 q22
      clear hS hap
      simp only [fillT, List.setIfInBounds_toArray, List.set_cons_zero, List.set_cons_succ]
      refine wpAny_ready (rs := [23]) (by kernel_rfl) (by simp) ?_
      refine AllReady.cons rfl (fun K hK => ?_) AllReady.nil
      go_simp
      refine hK _ _ ?_
      clear hK K
      refine wpAny_done (by kernel_rfl) ?_ _
      simp only [Exit.then]
      go_wp2_with fail
      go_ret
      exact ⟨rfl, hC.1.below⟩


theorem lawOpTogether (key : ByteArray) (hk : key.size ≤ 140737488351232) (kd1 : Int) (nu1 : Nat) (it1 : Int) (tx1 : ByteArray) (I1 : ActIn kd1 nu1 it1 tx1) (_z1 : tx1.size ≤ 140737488351232) (kd2 : Int) (nu2 : Nat) (it2 : Int) (tx2 : ByteArray) (I2 : ActIn kd2 nu2 it2 tx2) (_z2 : tx2.size ≤ 140737488351232) (kd3 : Int) (nu3 : Nat) (it3 : Int) (tx3 : ByteArray) (I3 : ActIn kd3 nu3 it3 tx3) (_z3 : tx3.size ≤ 140737488351232) (th : Bool) (vn : Nat) (vi : Int) (vt : ByteArray) (IV : ValIn vn vi vt) (_zv : vt.size ≤ 140737488351232) (w : World) (hL : LaidO w) :
    Calls Tryd.prog 9 #[.string key, actV kd1 nu1 it1 tx1, actV kd2 nu2 it2 tx2, actV kd3 nu3 it3 tx3, valV th vn vi vt] w fun e w' => e = .returned (.bool true) ∧ Below w.heap.size w w' := by
  replace hk : key.size ≤ 9223372036854775807 := Nat.le_trans hk (by decide)
  by_cases h1 : fitsA key.data.toList (a6 kd1 nu1 it1 tx1) = true
  · by_cases h2 : fitsA key.data.toList (a6 kd2 nu2 it2 tx2) = true
    · by_cases h3 : fitsA key.data.toList (a6 kd3 nu3 it3 tx3) = true
      · by_cases hl : 3000 < vt.size
        · exact optog_long key hk kd1 nu1 it1 tx1 I1 kd2 nu2 it2 tx2 I2 kd3 nu3 it3 tx3 I3 th vn vi vt IV w hL h1 h2 h3 hl
        · exact optog_all key hk kd1 nu1 it1 tx1 I1 kd2 nu2 it2 tx2 I2 kd3 nu3 it3 tx3 I3 th vn vi vt IV w hL h1 h2 h3 hl
      · exact optog_3 key hk kd1 nu1 it1 tx1 I1 kd2 nu2 it2 tx2 I2 kd3 nu3 it3 tx3 I3 th vn vi vt IV w hL h1 h2 (Bool.eq_false_iff.2 h3)
    · exact optog_2 key hk kd1 nu1 it1 tx1 I1 kd2 nu2 it2 tx2 I2 kd3 nu3 it3 tx3 I3 th vn vi vt IV w hL h1 (Bool.eq_false_iff.2 h2)
  · exact optog_1 key hk kd1 nu1 it1 tx1 I1 kd2 nu2 it2 tx2 I2 kd3 nu3 it3 tx3 I3 th vn vi vt IV w hL (Bool.eq_false_iff.2 h1)
end Go.Proofs.YthacdegaeokgnaaDoor
