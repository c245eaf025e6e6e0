/-
  OpActs: every act on every key: whether it fits, its bytes, what the key has behind it, two acts as one; every bytes got.
-/
import Derived.Test.YthacdegaeokgnaaDoorMXOpTogether
import Derived.Test.YthacdegaeokgnaaDoorM8
namespace Go.Proofs.YthacdegaeokgnaaDoor
open Go.RowKit

/-- Two acts and two values in blocks of their own, and all that was there. -/
structure Act6 (w : World) (kd1 : Int) (nu1 : Nat) (it1 : Int) (tx1 : ByteArray) (kd2 : Int) (nu2 : Nat) (it2 : Int) (tx2 : ByteArray) (tv : Bool) (nv : Nat) (iv : Int) (xv : ByteArray) (tu : Bool) (nu : Nat) (iu : Int) (xu : ByteArray) (W : World) : Prop where
  a : Blk W w.heap.size 24 (actC kd1 nu1 it1 tx1)
  b : Blk W (w.heap.size + 1) 24 (actC kd2 nu2 it2 tx2)
  v : Blk W (w.heap.size + 1 + 1) 26 (valC tv nv iv xv)
  u : Blk W (w.heap.size + 1 + 1 + 1) 26 (valC tu nu iu xu)
  below : Below w.heap.size w W
section
variable {w W W' : World} {kd1 : Int} {nu1 : Nat} {it1 : Int} {tx1 : ByteArray} {kd2 : Int} {nu2 : Nat} {it2 : Int} {tx2 : ByteArray} {tv : Bool} {nv : Nat} {iv : Int} {xv : ByteArray} {tu : Bool} {nu : Nat} {iu : Int} {xu : ByteArray}
theorem Act6.on (h : Act6 w kd1 nu1 it1 tx1 kd2 nu2 it2 tx2 tv nv iv xv tu nu iu xu W) (hb : Below W.heap.size W W') : Act6 w kd1 nu1 it1 tx1 kd2 nu2 it2 tx2 tv nv iv xv tu nu iu xu W' := ⟨h.a.below hb h.a.lt, h.b.below hb h.b.lt, h.v.below hb h.v.lt, h.u.below hb h.u.lt, h.below.trans (hb.mono h.below.size)⟩
theorem Act6.alloc (h : Act6 w kd1 nu1 it1 tx1 kd2 nu2 it2 tx2 tv nv iv xv tu nu iu xu W) (o : Obj) : Act6 w kd1 nu1 it1 tx1 kd2 nu2 it2 tx2 tv nv iv xv tu nu iu xu (W.alloc o) := h.on ((Below.refl _ W).alloc (Nat.le_refl _) _)
theorem Act6.drew (h : Act6 w kd1 nu1 it1 tx1 kd2 nu2 it2 tx2 tv nv iv xv tu nu iu xu W) : Act6 w kd1 nu1 it1 tx1 kd2 nu2 it2 tx2 tv nv iv xv tu nu iu xu W.drew := ⟨h.a, h.b, h.v, h.u, h.below.drew⟩
end

set_option maxRecDepth 100000 in
set_option maxHeartbeats 8000000 in
theorem opacts_k (key : ByteArray) (_hk : key.size ≤ 140737488351232) (kd1 : Int) (nu1 : Nat) (it1 : Int) (tx1 : ByteArray) (_I1 : ActIn kd1 nu1 it1 tx1) (kd2 : Int) (nu2 : Nat) (it2 : Int) (tx2 : ByteArray) (_I2 : ActIn kd2 nu2 it2 tx2) (tv : Bool) (nv : Nat) (iv : Int) (xv : ByteArray) (_Iv : ValIn nv iv xv) (tu : Bool) (nu : Nat) (iu : Int) (xu : ByteArray) (_Iu : ValIn nu iu xu) (s : ByteArray) (_hs : s.size ≤ 140737488351232) (z1 : tx1.size ≤ 140737488351232) (z2 : tx2.size ≤ 140737488351232) (zv : xv.size ≤ 140737488351232) (zu : xu.size ≤ 140737488351232) (w : World) (hL : LaidO w) (h1 : (3000 : Int) < (key.size : Int)) :
    Calls Tryd.prog 3 #[.string key, actV kd1 nu1 it1 tx1, actV kd2 nu2 it2 tx2, valV tv nv iv xv, valV tu nu iu xu, .string s] w fun e w' => e = .returned (.bool true) ∧ Below w.heap.size w w' := by
  unfold actV valV
  have S0 : Act6 w kd1 nu1 it1 tx1 kd2 nu2 it2 tx2 tv nv iv xv tu nu iu xu ((((w.alloc (.cells #[.int .i64 kd1, .float .f64 nu1, .int .i64 it1, .string tx1] 24)).alloc (.cells #[.int .i64 kd2, .float .f64 nu2, .int .i64 it2, .string tx2] 24)).alloc (.cells #[.bool tv, .float .f64 nv, .int .i64 iv, .string xv] 26)).alloc (.cells #[.bool tu, .float .f64 nu, .int .i64 iu, .string xu] 26)) := ⟨(((Blk.new w _ _).alloc _).alloc _).alloc _, ((Blk.new' (by simp) _ _).alloc _).alloc _, (Blk.new' (by simp) _ _).alloc _, Blk.new' (by simp) _ _, ((((Below.refl _ w).alloc (Nat.le_refl _) _).alloc (by simp) _).alloc (by simp; omega) _).alloc (by simp; omega) _⟩
  have hst := run_sto_f64
  have f1 : IntKind.i64.wrap ((tx1.size : Int) + (tx2.size : Int)) = (tx1.size : Int) + (tx2.size : Int) := IntWalk.i64_in _ (by omega)
  have g1 : wrap64 ((tx1.size : Int) + (tx2.size : Int)) = (tx1.size : Int) + (tx2.size : Int) := IntWalk.wrap64_in _ (by omega)
  have f2 : IntKind.i64.wrap ((tx1.size : Int) + (tx2.size : Int) + (xv.size : Int)) = (tx1.size : Int) + (tx2.size : Int) + (xv.size : Int) := IntWalk.i64_in _ (by omega)
  have g2 : wrap64 ((tx1.size : Int) + (tx2.size : Int) + (xv.size : Int)) = (tx1.size : Int) + (tx2.size : Int) + (xv.size : Int) := IntWalk.wrap64_in _ (by omega)
  have f3 : IntKind.i64.wrap ((tx1.size : Int) + (tx2.size : Int) + (xv.size : Int) + (xu.size : Int)) = (tx1.size : Int) + (tx2.size : Int) + (xv.size : Int) + (xu.size : Int) := IntWalk.i64_in _ (by omega)
  have g3 : wrap64 ((tx1.size : Int) + (tx2.size : Int) + (xv.size : Int) + (xu.size : Int)) = (tx1.size : Int) + (tx2.size : Int) + (xv.size : Int) + (xu.size : Int) := IntWalk.wrap64_in _ (by omega)
  go_enter Tryd.func3, Tryd.ntmps3
  go_wp2_with fail
  generalize (((w.alloc (.cells #[.int .i64 kd1, .float .f64 nu1, .int .i64 it1, .string tx1] 24)).alloc (.cells #[.int .i64 kd2, .float .f64 nu2, .int .i64 it2, .string tx2] 24)).alloc (.cells #[.bool tv, .float .f64 nv, .int .i64 iv, .string xv] 26)).alloc (.cells #[.bool tu, .float .f64 nu, .int .i64 iu, .string xu] 26) = w0 at S0 ⊢
  refine (oalive_any _ (hL.on S0.below)).mono ?_
  rintro e w9 ⟨rfl, g⟩
  have S9 := Lib.hid (S0.on g)
  go_wp2_with fail
  go_ret
  exact ⟨rfl, S9.out.below⟩

set_option maxRecDepth 100000 in
set_option maxHeartbeats 8000000 in
theorem opacts_t (key : ByteArray) (_hk : key.size ≤ 140737488351232) (kd1 : Int) (nu1 : Nat) (it1 : Int) (tx1 : ByteArray) (_I1 : ActIn kd1 nu1 it1 tx1) (kd2 : Int) (nu2 : Nat) (it2 : Int) (tx2 : ByteArray) (_I2 : ActIn kd2 nu2 it2 tx2) (tv : Bool) (nv : Nat) (iv : Int) (xv : ByteArray) (_Iv : ValIn nv iv xv) (tu : Bool) (nu : Nat) (iu : Int) (xu : ByteArray) (_Iu : ValIn nu iu xu) (s : ByteArray) (_hs : s.size ≤ 140737488351232) (z1 : tx1.size ≤ 140737488351232) (z2 : tx2.size ≤ 140737488351232) (zv : xv.size ≤ 140737488351232) (zu : xu.size ≤ 140737488351232) (w : World) (hL : LaidO w) (h1 : ¬ (3000 : Int) < (key.size : Int)) (h2 : (9000 : Int) < (tx1.size : Int) + (tx2.size : Int) + (xv.size : Int) + (xu.size : Int)) :
    Calls Tryd.prog 3 #[.string key, actV kd1 nu1 it1 tx1, actV kd2 nu2 it2 tx2, valV tv nv iv xv, valV tu nu iu xu, .string s] w fun e w' => e = .returned (.bool true) ∧ Below w.heap.size w w' := by
  unfold actV valV
  have S0 : Act6 w kd1 nu1 it1 tx1 kd2 nu2 it2 tx2 tv nv iv xv tu nu iu xu ((((w.alloc (.cells #[.int .i64 kd1, .float .f64 nu1, .int .i64 it1, .string tx1] 24)).alloc (.cells #[.int .i64 kd2, .float .f64 nu2, .int .i64 it2, .string tx2] 24)).alloc (.cells #[.bool tv, .float .f64 nv, .int .i64 iv, .string xv] 26)).alloc (.cells #[.bool tu, .float .f64 nu, .int .i64 iu, .string xu] 26)) := ⟨(((Blk.new w _ _).alloc _).alloc _).alloc _, ((Blk.new' (by simp) _ _).alloc _).alloc _, (Blk.new' (by simp) _ _).alloc _, Blk.new' (by simp) _ _, ((((Below.refl _ w).alloc (Nat.le_refl _) _).alloc (by simp) _).alloc (by simp; omega) _).alloc (by simp; omega) _⟩
  have hst := run_sto_f64
  have f1 : IntKind.i64.wrap ((tx1.size : Int) + (tx2.size : Int)) = (tx1.size : Int) + (tx2.size : Int) := IntWalk.i64_in _ (by omega)
  have g1 : wrap64 ((tx1.size : Int) + (tx2.size : Int)) = (tx1.size : Int) + (tx2.size : Int) := IntWalk.wrap64_in _ (by omega)
  have f2 : IntKind.i64.wrap ((tx1.size : Int) + (tx2.size : Int) + (xv.size : Int)) = (tx1.size : Int) + (tx2.size : Int) + (xv.size : Int) := IntWalk.i64_in _ (by omega)
  have g2 : wrap64 ((tx1.size : Int) + (tx2.size : Int) + (xv.size : Int)) = (tx1.size : Int) + (tx2.size : Int) + (xv.size : Int) := IntWalk.wrap64_in _ (by omega)
  have f3 : IntKind.i64.wrap ((tx1.size : Int) + (tx2.size : Int) + (xv.size : Int) + (xu.size : Int)) = (tx1.size : Int) + (tx2.size : Int) + (xv.size : Int) + (xu.size : Int) := IntWalk.i64_in _ (by omega)
  have g3 : wrap64 ((tx1.size : Int) + (tx2.size : Int) + (xv.size : Int) + (xu.size : Int)) = (tx1.size : Int) + (tx2.size : Int) + (xv.size : Int) + (xu.size : Int) := IntWalk.wrap64_in _ (by omega)
  go_enter Tryd.func3, Tryd.ntmps3
  go_wp2_with fail
  generalize (((w.alloc (.cells #[.int .i64 kd1, .float .f64 nu1, .int .i64 it1, .string tx1] 24)).alloc (.cells #[.int .i64 kd2, .float .f64 nu2, .int .i64 it2, .string tx2] 24)).alloc (.cells #[.bool tv, .float .f64 nv, .int .i64 iv, .string xv] 26)).alloc (.cells #[.bool tu, .float .f64 nu, .int .i64 iu, .string xu] 26) = w0 at S0 ⊢
  refine (oalive_any _ (hL.on S0.below)).mono ?_
  rintro e w9 ⟨rfl, g⟩
  have S9 := Lib.hid (S0.on g)
  go_wp2_with fail
  go_ret
  exact ⟨rfl, S9.out.below⟩

set_option maxRecDepth 100000 in
set_option maxHeartbeats 8000000 in
theorem opacts_s (key : ByteArray) (_hk : key.size ≤ 140737488351232) (kd1 : Int) (nu1 : Nat) (it1 : Int) (tx1 : ByteArray) (_I1 : ActIn kd1 nu1 it1 tx1) (kd2 : Int) (nu2 : Nat) (it2 : Int) (tx2 : ByteArray) (_I2 : ActIn kd2 nu2 it2 tx2) (tv : Bool) (nv : Nat) (iv : Int) (xv : ByteArray) (_Iv : ValIn nv iv xv) (tu : Bool) (nu : Nat) (iu : Int) (xu : ByteArray) (_Iu : ValIn nu iu xu) (s : ByteArray) (_hs : s.size ≤ 140737488351232) (z1 : tx1.size ≤ 140737488351232) (z2 : tx2.size ≤ 140737488351232) (zv : xv.size ≤ 140737488351232) (zu : xu.size ≤ 140737488351232) (w : World) (hL : LaidO w) (h1 : ¬ (3000 : Int) < (key.size : Int)) (h2 : ¬ (9000 : Int) < (tx1.size : Int) + (tx2.size : Int) + (xv.size : Int) + (xu.size : Int)) (h3 : (3000 : Int) < (s.size : Int)) :
    Calls Tryd.prog 3 #[.string key, actV kd1 nu1 it1 tx1, actV kd2 nu2 it2 tx2, valV tv nv iv xv, valV tu nu iu xu, .string s] w fun e w' => e = .returned (.bool true) ∧ Below w.heap.size w w' := by
  unfold actV valV
  have S0 : Act6 w kd1 nu1 it1 tx1 kd2 nu2 it2 tx2 tv nv iv xv tu nu iu xu ((((w.alloc (.cells #[.int .i64 kd1, .float .f64 nu1, .int .i64 it1, .string tx1] 24)).alloc (.cells #[.int .i64 kd2, .float .f64 nu2, .int .i64 it2, .string tx2] 24)).alloc (.cells #[.bool tv, .float .f64 nv, .int .i64 iv, .string xv] 26)).alloc (.cells #[.bool tu, .float .f64 nu, .int .i64 iu, .string xu] 26)) := ⟨(((Blk.new w _ _).alloc _).alloc _).alloc _, ((Blk.new' (by simp) _ _).alloc _).alloc _, (Blk.new' (by simp) _ _).alloc _, Blk.new' (by simp) _ _, ((((Below.refl _ w).alloc (Nat.le_refl _) _).alloc (by simp) _).alloc (by simp; omega) _).alloc (by simp; omega) _⟩
  have hst := run_sto_f64
  have f1 : IntKind.i64.wrap ((tx1.size : Int) + (tx2.size : Int)) = (tx1.size : Int) + (tx2.size : Int) := IntWalk.i64_in _ (by omega)
  have g1 : wrap64 ((tx1.size : Int) + (tx2.size : Int)) = (tx1.size : Int) + (tx2.size : Int) := IntWalk.wrap64_in _ (by omega)
  have f2 : IntKind.i64.wrap ((tx1.size : Int) + (tx2.size : Int) + (xv.size : Int)) = (tx1.size : Int) + (tx2.size : Int) + (xv.size : Int) := IntWalk.i64_in _ (by omega)
  have g2 : wrap64 ((tx1.size : Int) + (tx2.size : Int) + (xv.size : Int)) = (tx1.size : Int) + (tx2.size : Int) + (xv.size : Int) := IntWalk.wrap64_in _ (by omega)
  have f3 : IntKind.i64.wrap ((tx1.size : Int) + (tx2.size : Int) + (xv.size : Int) + (xu.size : Int)) = (tx1.size : Int) + (tx2.size : Int) + (xv.size : Int) + (xu.size : Int) := IntWalk.i64_in _ (by omega)
  have g3 : wrap64 ((tx1.size : Int) + (tx2.size : Int) + (xv.size : Int) + (xu.size : Int)) = (tx1.size : Int) + (tx2.size : Int) + (xv.size : Int) + (xu.size : Int) := IntWalk.wrap64_in _ (by omega)
  go_enter Tryd.func3, Tryd.ntmps3
  go_wp2_with fail
  generalize (((w.alloc (.cells #[.int .i64 kd1, .float .f64 nu1, .int .i64 it1, .string tx1] 24)).alloc (.cells #[.int .i64 kd2, .float .f64 nu2, .int .i64 it2, .string tx2] 24)).alloc (.cells #[.bool tv, .float .f64 nv, .int .i64 iv, .string xv] 26)).alloc (.cells #[.bool tu, .float .f64 nu, .int .i64 iu, .string xu] 26) = w0 at S0 ⊢
  refine (oalive_any _ (hL.on S0.below)).mono ?_
  rintro e w9 ⟨rfl, g⟩
  have S9 := Lib.hid (S0.on g)
  go_wp2_with fail
  go_ret
  exact ⟨rfl, S9.out.below⟩

set_option maxRecDepth 100000 in
set_option maxHeartbeats 8000000 in
theorem opacts_all (key : ByteArray) (hk : key.size ≤ 140737488351232) (kd1 : Int) (nu1 : Nat) (it1 : Int) (tx1 : ByteArray) (I1 : ActIn kd1 nu1 it1 tx1) (kd2 : Int) (nu2 : Nat) (it2 : Int) (tx2 : ByteArray) (I2 : ActIn kd2 nu2 it2 tx2) (tv : Bool) (nv : Nat) (iv : Int) (xv : ByteArray) (Iv : ValIn nv iv xv) (tu : Bool) (nu : Nat) (iu : Int) (xu : ByteArray) (Iu : ValIn nu iu xu) (s : ByteArray) (hs : s.size ≤ 140737488351232) (z1 : tx1.size ≤ 140737488351232) (z2 : tx2.size ≤ 140737488351232) (zv : xv.size ≤ 140737488351232) (zu : xu.size ≤ 140737488351232) (w : World) (hL : LaidO w) (h1 : ¬ (3000 : Int) < (key.size : Int)) (h2 : ¬ (9000 : Int) < (tx1.size : Int) + (tx2.size : Int) + (xv.size : Int) + (xu.size : Int)) (h3 : ¬ (3000 : Int) < (s.size : Int)) :
    Calls Tryd.prog 3 #[.string key, actV kd1 nu1 it1 tx1, actV kd2 nu2 it2 tx2, valV tv nv iv xv, valV tu nu iu xu, .string s] w fun e w' => e = .returned (.bool true) ∧ Below w.heap.size w w' := by
  have hk9 : key.size ≤ 9223372036854775807 := Nat.le_trans hk (by decide)
  have hq9 : xv.size ≤ 30000000000000 := by clear hL Iu Iv I1 I2; omega
  have P1 := fun W => Lib.hid (oput_any kd1 nu1 it1 tx1 I1 W)
  have P2 := fun W => Lib.hid (rputact_any kd1 nu1 it1 tx1 I1 W)
  have G1 := fun W => Lib.hid (oget_any s hs W)
  have G2 := fun W => Lib.hid (rgetact_any s hs W)
  obtain ⟨B, hB⟩ : ∃ B, (if rightA (a6 kd1 nu1 it1 tx1) = true then putAL (a6 kd1 nu1 it1 tx1) else []) = B := ⟨_, rfl⟩
  obtain ⟨E, hE⟩ : ∃ E : Int, (if rightA (a6 kd1 nu1 it1 tx1) = true then 0 else 40) = E := ⟨_, rfl⟩
  rw [hB, hE] at P1 P2
  clear hB hE
  simp only [actV] at P1 P2
  obtain ⟨T, HT⟩ : ∃ T, Hid (textV key.data.toList tv nv iv xv.data.toList = T) := ⟨_, rfl⟩
  unfold actV valV
  have S0 : Act6 w kd1 nu1 it1 tx1 kd2 nu2 it2 tx2 tv nv iv xv tu nu iu xu ((((w.alloc (.cells #[.int .i64 kd1, .float .f64 nu1, .int .i64 it1, .string tx1] 24)).alloc (.cells #[.int .i64 kd2, .float .f64 nu2, .int .i64 it2, .string tx2] 24)).alloc (.cells #[.bool tv, .float .f64 nv, .int .i64 iv, .string xv] 26)).alloc (.cells #[.bool tu, .float .f64 nu, .int .i64 iu, .string xu] 26)) := ⟨(((Blk.new w _ _).alloc _).alloc _).alloc _, ((Blk.new' (by simp) _ _).alloc _).alloc _, (Blk.new' (by simp) _ _).alloc _, Blk.new' (by simp) _ _, ((((Below.refl _ w).alloc (Nat.le_refl _) _).alloc (by simp) _).alloc (by simp; omega) _).alloc (by simp; omega) _⟩
  have hst := run_sto_f64
  have f1 : IntKind.i64.wrap ((tx1.size : Int) + (tx2.size : Int)) = (tx1.size : Int) + (tx2.size : Int) := IntWalk.i64_in _ (by omega)
  have g1 : wrap64 ((tx1.size : Int) + (tx2.size : Int)) = (tx1.size : Int) + (tx2.size : Int) := IntWalk.wrap64_in _ (by omega)
  have f2 : IntKind.i64.wrap ((tx1.size : Int) + (tx2.size : Int) + (xv.size : Int)) = (tx1.size : Int) + (tx2.size : Int) + (xv.size : Int) := IntWalk.i64_in _ (by omega)
  have g2 : wrap64 ((tx1.size : Int) + (tx2.size : Int) + (xv.size : Int)) = (tx1.size : Int) + (tx2.size : Int) + (xv.size : Int) := IntWalk.wrap64_in _ (by omega)
  have f3 : IntKind.i64.wrap ((tx1.size : Int) + (tx2.size : Int) + (xv.size : Int) + (xu.size : Int)) = (tx1.size : Int) + (tx2.size : Int) + (xv.size : Int) + (xu.size : Int) := IntWalk.i64_in _ (by omega)
  have g3 : wrap64 ((tx1.size : Int) + (tx2.size : Int) + (xv.size : Int) + (xu.size : Int)) = (tx1.size : Int) + (tx2.size : Int) + (xv.size : Int) + (xu.size : Int) := IntWalk.wrap64_in _ (by omega)
  go_enter Tryd.func3, Tryd.ntmps3
  go_wp2_with fail
  generalize (((w.alloc (.cells #[.int .i64 kd1, .float .f64 nu1, .int .i64 it1, .string tx1] 24)).alloc (.cells #[.int .i64 kd2, .float .f64 nu2, .int .i64 it2, .string tx2] 24)).alloc (.cells #[.bool tv, .float .f64 nv, .int .i64 iv, .string xv] 26)).alloc (.cells #[.bool tu, .float .f64 nu, .int .i64 iu, .string xu] 26) = w0 at S0 ⊢
  refine (P1 _).out.mono ?_
  rintro e wa ⟨rfl, g⟩
  have S1 := S0.on g
  clear S0 g
  obtain ⟨a0, a1, a2, a3⟩ := act_cells S1.a
  have S1 := Lib.hid S1
  go_wp2_with fail
  refine (P2 _).out.mono ?_
  rintro e wb ⟨rfl, g⟩
  have S2 := Lib.hid (S1.out.on g)
  clear S1 g a0 a1 a2 a3
  go_wp2_with fail
  refine (G1 _).out.mono ?_
  rintro e wc ⟨⟨kdg, nug, itg, txg, er, rfl, Ig, hg⟩, g⟩
  have S3 := Lib.hid (S2.out.on g)
  have BG := Blk.new wc 24 #[.int .i64 kdg, .float .f64 nug, .int .i64 itg, .string txg]
  have S4 := Lib.hid (S3.out.alloc (.cells #[.int .i64 kdg, .float .f64 nug, .int .i64 itg, .string txg] 24))
  have HG := Lib.hid hg
  clear S2 S3 g hg
  simp only [actV]
  go_wp2_with fail
  generalize wc.alloc (.cells #[.int .i64 kdg, .float .f64 nug, .int .i64 itg, .string txg] 24) = wd at BG S4 ⊢
  generalize wc.heap.size = pg at BG ⊢
  refine (G2 _).out.mono ?_
  rintro e we ⟨⟨kdi, nui, iti, txi, er', rfl, Ii, hi'⟩, g⟩
  obtain ⟨rfl, hgi⟩ := GotA.same Ig Ii HG.out hi'
  have HGI := Lib.hid ((A6.same_iff _ _).2 hgi)
  have S5 := Lib.hid (S4.out.on g)
  have BG := BG.below g BG.lt
  have BI := Blk.new we 24 #[.int .i64 kdi, .float .f64 nui, .int .i64 iti, .string txi]
  have BG := BG.alloc (.cells #[.int .i64 kdi, .float .f64 nui, .int .i64 iti, .string txi] 24)
  have S6 := Lib.hid (S5.out.alloc (.cells #[.int .i64 kdi, .float .f64 nui, .int .i64 iti, .string txi] 24))
  clear S4 S5 g hgi hi' HG P1 P2 G1 G2
  simp only [actV]
  go_wp2_with fail
  generalize we.alloc (.cells #[.int .i64 kdi, .float .f64 nui, .int .i64 iti, .string txi] 24) = wz at BG BI S6 ⊢
  generalize we.heap.size = pi at BI ⊢
  have BG : Blk wz pg 24 (actC kdg nug itg txg) := BG
  have BI : Blk wz pi 24 (actC kdi nui iti txi) := BI
  have C6 : Act6 w kd1 nu1 it1 tx1 kd2 nu2 it2 tx2 tv nv iv xv tu nu iu xu wz ∧ Below wz.heap.size wz wz := ⟨S6.out, Below.refl _ _⟩
  clear S6
  refine wp_region_ord (fun W => Act6 w kd1 nu1 it1 tx1 kd2 nu2 it2 tx2 tv nv iv xv tu nu iu xu W ∧ Below wz.heap.size wz W) (fun w w' => Below w.heap.size w w') [Slot.is (.string ⟨B.toArray⟩), Slot.is (.string ⟨B.toArray⟩), Slot.is (.bool false), Slot.is (.bool false), Slot.is (.int .i64 E), Slot.is (.int .i64 E), Slot.is (.bool false), Slot.is (.bool false), Slot.is (.bool false), Slot.is (.int .i64 er), Slot.is (.int .i64 er), Slot.is (.bool false), Slot.is (.bool false), Slot.is (.bool false), Slot.is (.agg #[.int .i64 kdg, .float .f64 nug, .int .i64 itg, .string txg]), Slot.is (.agg #[.int .i64 kdi, .float .f64 nui, .int .i64 iti, .string txi]), Slot.is (.bool true), Slot.is (.bool false), Slot.is (.bool false), Slot.is (.bool false), Slot.is (.string key), Slot.is (.agg #[.int .i64 kd1, .float .f64 nu1, .int .i64 it1, .string tx1]), Slot.is (.bool (fitsA key.data.toList (a6 kd1 nu1 it1 tx1))), Slot.is (.string key), Slot.is (.agg #[.int .i64 kd1, .float .f64 nu1, .int .i64 it1, .string tx1]), Slot.is (.bool (fitsA key.data.toList (a6 kd1 nu1 it1 tx1))), Slot.is (.bool false), Slot.is (.bool false), Slot.is (.bool false), Slot.is (.agg #[.int .i64 kd1, .float .f64 nu1, .int .i64 it1, .string tx1]), Slot.is (.agg #[.int .i64 kd2, .float .f64 nu2, .int .i64 it2, .string tx2]), Slot.is (.bool (A6.same (a6 kd1 nu1 it1 tx1) (a6 kd2 nu2 it2 tx2))), Slot.is (.agg #[.int .i64 kd1, .float .f64 nu1, .int .i64 it1, .string tx1]), Slot.is (.agg #[.int .i64 kd2, .float .f64 nu2, .int .i64 it2, .string tx2]), Slot.is (.bool (A6.same (a6 kd1 nu1 it1 tx1) (a6 kd2 nu2 it2 tx2))), Slot.is (.bool false), Slot.is (.bool false), Slot.is (.bool false), Slot.is (.agg #[.bool tv, .float .f64 nv, .int .i64 iv, .string xv]), Slot.is (.agg #[.bool tu, .float .f64 nu, .int .i64 iu, .string xu]), Slot.is (.bool (V6.same (v6 tv nv iv xv) (v6 tu nu iu xu))), Slot.is (.agg #[.bool tv, .float .f64 nv, .int .i64 iv, .string xv]), Slot.is (.agg #[.bool tu, .float .f64 nu, .int .i64 iu, .string xu]), Slot.is (.bool (V6.same (v6 tv nv iv xv) (v6 tu nu iu xu))), Slot.is (.bool false)] 45 1 (by kernel_rfl) (fun _ _ h => Below.size h) (by kernel_rfl) (by kernel_rfl) (by kernel_rfl) rfl (by decide) ⟨C6.1.drew, C6.2.drew⟩ (fun i hi => ?_) (fun a w7 J => ?_)
  · clear hst
    rcases i with _ | _ | _ | _ | _ | _ | _ | _ | _ | _ | _ | _ | _ | _ | _ | _ | _ | _ | _ | _ | _ | _ | _ | _ | _ | _ | _ | _ | _ | _ | _ | _ | _ | _ | _ | _ | _ | _ | _ | _ | _ | _ | _ | _ | _ | i
    · refine ordOb_at (o := _) rfl rfl (fun a W hC hF hD => ?_)
      have g13 : a.tmps[13]? = some (.string ⟨B.toArray⟩) := hF 13 _ (by kernel_rfl) rfl
      unfold frees
      go_simp
      exact ⟨hC, Below.refl _ _, rfl, fun h => by cases h⟩
    · refine ordOb_at (o := _) rfl rfl (fun a W hC hF hD => ?_)
      have g15 : a.tmps[15]? = some (.string ⟨B.toArray⟩) := hF 15 _ (by kernel_rfl) rfl
      unfold frees
      go_simp
      exact ⟨hC, Below.refl _ _, rfl, fun h => by cases h⟩
    · refine ordOb_at (o := _) rfl rfl (fun a W hC hF hD => ?_)
      have g68 : a.tmps[68]? = some (.string ⟨B.toArray⟩) := by
        obtain ⟨v, h1, h2⟩ := hD 0 68 (by kernel_rfl) (by kernel_rfl)
        rw [h1]
        exact congrArg some h2
      have g69 : a.tmps[69]? = some (.string ⟨B.toArray⟩) := by
        obtain ⟨v, h1, h2⟩ := hD 1 69 (by kernel_rfl) (by kernel_rfl)
        rw [h1]
        exact congrArg some h2
      unfold frees
      go_simp
      exact ⟨hC, Below.refl _ _, (by show Value.bool _ = _; simp), fun h => by cases h⟩
    · refine ordOb_at (o := _) rfl rfl (fun a W hC hF hD => ?_)
      have g70 : a.tmps[70]? = some (.bool false) := by
        obtain ⟨v, h1, h2⟩ := hD 2 70 (by kernel_rfl) (by kernel_rfl)
        rw [h1]
        exact congrArg some h2
      unfold frees
      go_simp
      exact ⟨hC, Below.refl _ _, rfl, fun h => by cases h⟩
    · refine ordOb_on (o := _) (b := false) (k := 71) rfl rfl (by kernel_rfl) (by kernel_rfl) (fun v w h => h) (fun a W hC hF hD => ?_)
      have g14 : a.tmps[14]? = some (.int .i64 E) := hF 14 _ (by kernel_rfl) rfl
      unfold frees
      go_simp
      exact ⟨hC, Below.refl _ _, rfl, fun h => by cases h⟩
    · refine ordOb_on (o := _) (b := false) (k := 71) rfl rfl (by kernel_rfl) (by kernel_rfl) (fun v w h => h) (fun a W hC hF hD => ?_)
      have g16 : a.tmps[16]? = some (.int .i64 E) := hF 16 _ (by kernel_rfl) rfl
      unfold frees
      go_simp
      exact ⟨hC, Below.refl _ _, rfl, fun h => by cases h⟩
    · refine ordOb_on (o := _) (b := false) (k := 71) rfl rfl (by kernel_rfl) (by kernel_rfl) (fun v w h => h) (fun a W hC hF hD => ?_)
      have g72 : a.tmps[72]? = some (.int .i64 E) := by
        obtain ⟨v, h1, h2⟩ := hD 4 72 (by kernel_rfl) (by kernel_rfl)
        rw [h1]
        exact congrArg some h2
      have g73 : a.tmps[73]? = some (.int .i64 E) := by
        obtain ⟨v, h1, h2⟩ := hD 5 73 (by kernel_rfl) (by kernel_rfl)
        rw [h1]
        exact congrArg some h2
      unfold frees
      go_simp
      exact ⟨hC, Below.refl _ _, (by show Value.bool _ = _; simp), fun h => by cases h⟩
    · refine ordOb_at (o := _) rfl rfl (fun a W hC hF hD => ?_)
      have g71 : a.tmps[71]? = some (.bool false) := by
        obtain ⟨v, h1, h2⟩ := hD 3 71 (by kernel_rfl) (by kernel_rfl)
        rw [h1]
        exact congrArg some h2
      have g74 : a.tmps[74]? = some (.bool false) := by
        obtain ⟨v, h1, h2⟩ := hD 6 74 (by kernel_rfl) (by kernel_rfl)
        rw [h1]
        exact congrArg some h2
      unfold frees
      go_simp
      exact ⟨hC, Below.refl _ _, rfl, fun h => by cases h⟩
    · refine ordOb_at (o := _) rfl rfl (fun a W hC hF hD => ?_)
      have g75 : a.tmps[75]? = some (.bool false) := by
        obtain ⟨v, h1, h2⟩ := hD 7 75 (by kernel_rfl) (by kernel_rfl)
        rw [h1]
        exact congrArg some h2
      unfold frees
      go_simp
      exact ⟨hC, Below.refl _ _, rfl, fun h => by cases h⟩
    · refine ordOb_on (o := _) (b := false) (k := 76) rfl rfl (by kernel_rfl) (by kernel_rfl) (fun v w h => h) (fun a W hC hF hD => ?_)
      have g18 : a.tmps[18]? = some (.int .i64 er) := hF 18 _ (by kernel_rfl) rfl
      unfold frees
      go_simp
      exact ⟨hC, Below.refl _ _, rfl, fun h => by cases h⟩
    · refine ordOb_on (o := _) (b := false) (k := 76) rfl rfl (by kernel_rfl) (by kernel_rfl) (fun v w h => h) (fun a W hC hF hD => ?_)
      have g20 : a.tmps[20]? = some (.int .i64 er) := hF 20 _ (by kernel_rfl) rfl
      unfold frees
      go_simp
      exact ⟨hC, Below.refl _ _, rfl, fun h => by cases h⟩
    · refine ordOb_on (o := _) (b := false) (k := 76) rfl rfl (by kernel_rfl) (by kernel_rfl) (fun v w h => h) (fun a W hC hF hD => ?_)
      have g77 : a.tmps[77]? = some (.int .i64 er) := by
        obtain ⟨v, h1, h2⟩ := hD 9 77 (by kernel_rfl) (by kernel_rfl)
        rw [h1]
        exact congrArg some h2
      have g78 : a.tmps[78]? = some (.int .i64 er) := by
        obtain ⟨v, h1, h2⟩ := hD 10 78 (by kernel_rfl) (by kernel_rfl)
        rw [h1]
        exact congrArg some h2
      unfold frees
      go_simp
      exact ⟨hC, Below.refl _ _, (by show Value.bool _ = _; simp), fun h => by cases h⟩
    · refine ordOb_at (o := _) rfl rfl (fun a W hC hF hD => ?_)
      have g76 : a.tmps[76]? = some (.bool false) := by
        obtain ⟨v, h1, h2⟩ := hD 8 76 (by kernel_rfl) (by kernel_rfl)
        rw [h1]
        exact congrArg some h2
      have g79 : a.tmps[79]? = some (.bool false) := by
        obtain ⟨v, h1, h2⟩ := hD 11 79 (by kernel_rfl) (by kernel_rfl)
        rw [h1]
        exact congrArg some h2
      unfold frees
      go_simp
      exact ⟨hC, Below.refl _ _, rfl, fun h => by cases h⟩
    · refine ordOb_at (o := _) rfl rfl (fun a W hC hF hD => ?_)
      have g80 : a.tmps[80]? = some (.bool false) := by
        obtain ⟨v, h1, h2⟩ := hD 12 80 (by kernel_rfl) (by kernel_rfl)
        rw [h1]
        exact congrArg some h2
      unfold frees
      go_simp
      exact ⟨hC, Below.refl _ _, rfl, fun h => by cases h⟩
    · refine ordOb_on (o := _) (b := false) (k := 81) rfl rfl (by kernel_rfl) (by kernel_rfl) (fun v w h => h) (fun a W hC hF hD => ?_)
      have g17 : a.tmps[17]? = some (.pointer (some ⟨pg, 0, none⟩)) := hF 17 _ (by kernel_rfl) rfl
      obtain ⟨c0, c1, c2, c3⟩ := act_cells (BG.below hC.2 BG.lt)
      unfold frees
      go_simp
      exact ⟨hC, Below.refl _ _, rfl, fun h => by cases h⟩
    · refine ordOb_on (o := _) (b := false) (k := 81) rfl rfl (by kernel_rfl) (by kernel_rfl) (fun v w h => h) (fun a W hC hF hD => ?_)
      have g19 : a.tmps[19]? = some (.pointer (some ⟨pi, 0, none⟩)) := hF 19 _ (by kernel_rfl) rfl
      obtain ⟨c0, c1, c2, c3⟩ := act_cells (BI.below hC.2 BI.lt)
      unfold frees
      go_simp
      exact ⟨hC, Below.refl _ _, rfl, fun h => by cases h⟩
    · refine ordOb_on (o := _) (b := false) (k := 81) rfl rfl (by kernel_rfl) (by kernel_rfl) (fun v w h => h) (fun a W hC hF hD => ?_)
      have g82 : a.tmps[82]? = some (.agg #[.int .i64 kdg, .float .f64 nug, .int .i64 itg, .string txg]) := by
        obtain ⟨v, h1, h2⟩ := hD 14 82 (by kernel_rfl) (by kernel_rfl)
        rw [h1]
        exact congrArg some h2
      have g83 : a.tmps[83]? = some (.agg #[.int .i64 kdi, .float .f64 nui, .int .i64 iti, .string txi]) := by
        obtain ⟨v, h1, h2⟩ := hD 15 83 (by kernel_rfl) (by kernel_rfl)
        rw [h1]
        exact congrArg some h2
      unfold frees
      go_simp
      have CC := rsameact6_any kdg nug itg txg Ig kdi nui iti txi Ii W
      simp only [actV] at CC
      refine ⟨rfl, CC.mono ?_⟩
      rintro e W2 ⟨rfl, g⟩
      exact ⟨_, rfl, ⟨Act6.on hC.1 g, hC.2.trans (g.mono hC.2.size)⟩, g, congrArg Value.bool HGI.out⟩
    · refine ordOb_on (o := _) (b := false) (k := 81) rfl rfl (by kernel_rfl) (by kernel_rfl) (fun v w h => h) (fun a W hC hF hD => ?_)
      have g84 : a.tmps[84]? = some (.bool true) := by
        obtain ⟨v, h1, h2⟩ := hD 16 84 (by kernel_rfl) (by kernel_rfl)
        rw [h1]
        exact congrArg some h2
      unfold frees
      go_simp
      exact ⟨hC, Below.refl _ _, rfl, fun h => by cases h⟩
    · refine ordOb_at (o := _) rfl rfl (fun a W hC hF hD => ?_)
      have g81 : a.tmps[81]? = some (.bool false) := by
        obtain ⟨v, h1, h2⟩ := hD 13 81 (by kernel_rfl) (by kernel_rfl)
        rw [h1]
        exact congrArg some h2
      have g85 : a.tmps[85]? = some (.bool false) := by
        obtain ⟨v, h1, h2⟩ := hD 17 85 (by kernel_rfl) (by kernel_rfl)
        rw [h1]
        exact congrArg some h2
      unfold frees
      go_simp
      exact ⟨hC, Below.refl _ _, rfl, fun h => by cases h⟩
    · refine ordOb_at (o := _) rfl rfl (fun a W hC hF hD => ?_)
      have g86 : a.tmps[86]? = some (.bool false) := by
        obtain ⟨v, h1, h2⟩ := hD 18 86 (by kernel_rfl) (by kernel_rfl)
        rw [h1]
        exact congrArg some h2
      unfold frees
      go_simp
      exact ⟨hC, Below.refl _ _, rfl, fun h => by cases h⟩
    · refine ordOb_on (o := _) (b := false) (k := 87) rfl rfl (by kernel_rfl) (by kernel_rfl) (fun v w h => h) (fun a W hC hF hD => ?_)
      have g0 : a.tmps[0]? = some (.string key) := hF 0 _ (by kernel_rfl) rfl
      unfold frees
      go_simp
      exact ⟨hC, Below.refl _ _, rfl, fun h => by cases h⟩
    · refine ordOb_on (o := _) (b := false) (k := 87) rfl rfl (by kernel_rfl) (by kernel_rfl) (fun v w h => h) (fun a W hC hF hD => ?_)
      have g7 : a.tmps[7]? = some (.pointer (some ⟨w.heap.size, 0, none⟩)) := hF 7 _ (by kernel_rfl) rfl
      obtain ⟨c0, c1, c2, c3⟩ := act_cells (Act6.a hC.1)
      unfold frees
      go_simp
      exact ⟨hC, Below.refl _ _, rfl, fun h => by cases h⟩
    · refine ordOb_on (o := _) (b := false) (k := 87) rfl rfl (by kernel_rfl) (by kernel_rfl) (fun v w h => h) (fun a W hC hF hD => ?_)
      have g88 : a.tmps[88]? = some (.string key) := by
        obtain ⟨v, h1, h2⟩ := hD 20 88 (by kernel_rfl) (by kernel_rfl)
        rw [h1]
        exact congrArg some h2
      have g89 : a.tmps[89]? = some (.agg #[.int .i64 kd1, .float .f64 nu1, .int .i64 it1, .string tx1]) := by
        obtain ⟨v, h1, h2⟩ := hD 21 89 (by kernel_rfl) (by kernel_rfl)
        rw [h1]
        exact congrArg some h2
      unfold frees
      go_simp
      have CC := ofits_any key hk9 kd1 nu1 it1 tx1 I1 W
      simp only [actV] at CC
      refine ⟨rfl, CC.mono ?_⟩
      rintro e W2 ⟨rfl, g⟩
      exact ⟨_, rfl, ⟨Act6.on hC.1 g, hC.2.trans (g.mono hC.2.size)⟩, g, rfl⟩
    · refine ordOb_on (o := _) (b := false) (k := 87) rfl rfl (by kernel_rfl) (by kernel_rfl) (fun v w h => h) (fun a W hC hF hD => ?_)
      have g0 : a.tmps[0]? = some (.string key) := hF 0 _ (by kernel_rfl) rfl
      unfold frees
      go_simp
      exact ⟨hC, Below.refl _ _, rfl, fun h => by cases h⟩
    · refine ordOb_on (o := _) (b := false) (k := 87) rfl rfl (by kernel_rfl) (by kernel_rfl) (fun v w h => h) (fun a W hC hF hD => ?_)
      have g7 : a.tmps[7]? = some (.pointer (some ⟨w.heap.size, 0, none⟩)) := hF 7 _ (by kernel_rfl) rfl
      obtain ⟨c0, c1, c2, c3⟩ := act_cells (Act6.a hC.1)
      unfold frees
      go_simp
      exact ⟨hC, Below.refl _ _, rfl, fun h => by cases h⟩
    · refine ordOb_on (o := _) (b := false) (k := 87) rfl rfl (by kernel_rfl) (by kernel_rfl) (fun v w h => h) (fun a W hC hF hD => ?_)
      have g91 : a.tmps[91]? = some (.string key) := by
        obtain ⟨v, h1, h2⟩ := hD 23 91 (by kernel_rfl) (by kernel_rfl)
        rw [h1]
        exact congrArg some h2
      have g92 : a.tmps[92]? = some (.agg #[.int .i64 kd1, .float .f64 nu1, .int .i64 it1, .string tx1]) := by
        obtain ⟨v, h1, h2⟩ := hD 24 92 (by kernel_rfl) (by kernel_rfl)
        rw [h1]
        exact congrArg some h2
      unfold frees
      go_simp
      have CC := rfits_any key hk9 kd1 nu1 it1 tx1 I1 W
      simp only [actV] at CC
      refine ⟨rfl, CC.mono ?_⟩
      rintro e W2 ⟨rfl, g⟩
      exact ⟨_, rfl, ⟨Act6.on hC.1 g, hC.2.trans (g.mono hC.2.size)⟩, g, rfl⟩
    · refine ordOb_on (o := _) (b := false) (k := 87) rfl rfl (by kernel_rfl) (by kernel_rfl) (fun v w h => h) (fun a W hC hF hD => ?_)
      have g90 : a.tmps[90]? = some (.bool (fitsA key.data.toList (a6 kd1 nu1 it1 tx1))) := by
        obtain ⟨v, h1, h2⟩ := hD 22 90 (by kernel_rfl) (by kernel_rfl)
        rw [h1]
        exact congrArg some h2
      have g93 : a.tmps[93]? = some (.bool (fitsA key.data.toList (a6 kd1 nu1 it1 tx1))) := by
        obtain ⟨v, h1, h2⟩ := hD 25 93 (by kernel_rfl) (by kernel_rfl)
        rw [h1]
        exact congrArg some h2
      unfold frees
      go_simp
      exact ⟨hC, Below.refl _ _, (by show Value.bool _ = _; simp), fun h => by cases h⟩
    · refine ordOb_at (o := _) rfl rfl (fun a W hC hF hD => ?_)
      have g87 : a.tmps[87]? = some (.bool false) := by
        obtain ⟨v, h1, h2⟩ := hD 19 87 (by kernel_rfl) (by kernel_rfl)
        rw [h1]
        exact congrArg some h2
      have g94 : a.tmps[94]? = some (.bool false) := by
        obtain ⟨v, h1, h2⟩ := hD 26 94 (by kernel_rfl) (by kernel_rfl)
        rw [h1]
        exact congrArg some h2
      unfold frees
      go_simp
      exact ⟨hC, Below.refl _ _, rfl, fun h => by cases h⟩
    · refine ordOb_at (o := _) rfl rfl (fun a W hC hF hD => ?_)
      have g95 : a.tmps[95]? = some (.bool false) := by
        obtain ⟨v, h1, h2⟩ := hD 27 95 (by kernel_rfl) (by kernel_rfl)
        rw [h1]
        exact congrArg some h2
      unfold frees
      go_simp
      exact ⟨hC, Below.refl _ _, rfl, fun h => by cases h⟩
    · refine ordOb_on (o := _) (b := false) (k := 96) rfl rfl (by kernel_rfl) (by kernel_rfl) (fun v w h => h) (fun a W hC hF hD => ?_)
      have g7 : a.tmps[7]? = some (.pointer (some ⟨w.heap.size, 0, none⟩)) := hF 7 _ (by kernel_rfl) rfl
      obtain ⟨c0, c1, c2, c3⟩ := act_cells (Act6.a hC.1)
      unfold frees
      go_simp
      exact ⟨hC, Below.refl _ _, rfl, fun h => by cases h⟩
    · refine ordOb_on (o := _) (b := false) (k := 96) rfl rfl (by kernel_rfl) (by kernel_rfl) (fun v w h => h) (fun a W hC hF hD => ?_)
      have g8 : a.tmps[8]? = some (.pointer (some ⟨w.heap.size + 1, 0, none⟩)) := hF 8 _ (by kernel_rfl) rfl
      obtain ⟨c0, c1, c2, c3⟩ := act_cells (Act6.b hC.1)
      unfold frees
      go_simp
      exact ⟨hC, Below.refl _ _, rfl, fun h => by cases h⟩
    · refine ordOb_on (o := _) (b := false) (k := 96) rfl rfl (by kernel_rfl) (by kernel_rfl) (fun v w h => h) (fun a W hC hF hD => ?_)
      have g97 : a.tmps[97]? = some (.agg #[.int .i64 kd1, .float .f64 nu1, .int .i64 it1, .string tx1]) := by
        obtain ⟨v, h1, h2⟩ := hD 29 97 (by kernel_rfl) (by kernel_rfl)
        rw [h1]
        exact congrArg some h2
      have g98 : a.tmps[98]? = some (.agg #[.int .i64 kd2, .float .f64 nu2, .int .i64 it2, .string tx2]) := by
        obtain ⟨v, h1, h2⟩ := hD 30 98 (by kernel_rfl) (by kernel_rfl)
        rw [h1]
        exact congrArg some h2
      unfold frees
      go_simp
      have CC := osame_any kd1 nu1 it1 tx1 I1 kd2 nu2 it2 tx2 I2 W
      simp only [actV] at CC
      refine ⟨rfl, CC.mono ?_⟩
      rintro e W2 ⟨rfl, g⟩
      exact ⟨_, rfl, ⟨Act6.on hC.1 g, hC.2.trans (g.mono hC.2.size)⟩, g, rfl⟩
    · refine ordOb_on (o := _) (b := false) (k := 96) rfl rfl (by kernel_rfl) (by kernel_rfl) (fun v w h => h) (fun a W hC hF hD => ?_)
      have g7 : a.tmps[7]? = some (.pointer (some ⟨w.heap.size, 0, none⟩)) := hF 7 _ (by kernel_rfl) rfl
      obtain ⟨c0, c1, c2, c3⟩ := act_cells (Act6.a hC.1)
      unfold frees
      go_simp
      exact ⟨hC, Below.refl _ _, rfl, fun h => by cases h⟩
    · refine ordOb_on (o := _) (b := false) (k := 96) rfl rfl (by kernel_rfl) (by kernel_rfl) (fun v w h => h) (fun a W hC hF hD => ?_)
      have g8 : a.tmps[8]? = some (.pointer (some ⟨w.heap.size + 1, 0, none⟩)) := hF 8 _ (by kernel_rfl) rfl
      obtain ⟨c0, c1, c2, c3⟩ := act_cells (Act6.b hC.1)
      unfold frees
      go_simp
      exact ⟨hC, Below.refl _ _, rfl, fun h => by cases h⟩
    · refine ordOb_on (o := _) (b := false) (k := 96) rfl rfl (by kernel_rfl) (by kernel_rfl) (fun v w h => h) (fun a W hC hF hD => ?_)
      have g100 : a.tmps[100]? = some (.agg #[.int .i64 kd1, .float .f64 nu1, .int .i64 it1, .string tx1]) := by
        obtain ⟨v, h1, h2⟩ := hD 32 100 (by kernel_rfl) (by kernel_rfl)
        rw [h1]
        exact congrArg some h2
      have g101 : a.tmps[101]? = some (.agg #[.int .i64 kd2, .float .f64 nu2, .int .i64 it2, .string tx2]) := by
        obtain ⟨v, h1, h2⟩ := hD 33 101 (by kernel_rfl) (by kernel_rfl)
        rw [h1]
        exact congrArg some h2
      unfold frees
      go_simp
      have CC := rsameact6_any kd1 nu1 it1 tx1 I1 kd2 nu2 it2 tx2 I2 W
      simp only [actV] at CC
      refine ⟨rfl, CC.mono ?_⟩
      rintro e W2 ⟨rfl, g⟩
      exact ⟨_, rfl, ⟨Act6.on hC.1 g, hC.2.trans (g.mono hC.2.size)⟩, g, rfl⟩
    · refine ordOb_on (o := _) (b := false) (k := 96) rfl rfl (by kernel_rfl) (by kernel_rfl) (fun v w h => h) (fun a W hC hF hD => ?_)
      have g99 : a.tmps[99]? = some (.bool (A6.same (a6 kd1 nu1 it1 tx1) (a6 kd2 nu2 it2 tx2))) := by
        obtain ⟨v, h1, h2⟩ := hD 31 99 (by kernel_rfl) (by kernel_rfl)
        rw [h1]
        exact congrArg some h2
      have g102 : a.tmps[102]? = some (.bool (A6.same (a6 kd1 nu1 it1 tx1) (a6 kd2 nu2 it2 tx2))) := by
        obtain ⟨v, h1, h2⟩ := hD 34 102 (by kernel_rfl) (by kernel_rfl)
        rw [h1]
        exact congrArg some h2
      unfold frees
      go_simp
      exact ⟨hC, Below.refl _ _, (by show Value.bool _ = _; simp), fun h => by cases h⟩
    · refine ordOb_at (o := _) rfl rfl (fun a W hC hF hD => ?_)
      have g96 : a.tmps[96]? = some (.bool false) := by
        obtain ⟨v, h1, h2⟩ := hD 28 96 (by kernel_rfl) (by kernel_rfl)
        rw [h1]
        exact congrArg some h2
      have g103 : a.tmps[103]? = some (.bool false) := by
        obtain ⟨v, h1, h2⟩ := hD 35 103 (by kernel_rfl) (by kernel_rfl)
        rw [h1]
        exact congrArg some h2
      unfold frees
      go_simp
      exact ⟨hC, Below.refl _ _, rfl, fun h => by cases h⟩
    · refine ordOb_at (o := _) rfl rfl (fun a W hC hF hD => ?_)
      have g104 : a.tmps[104]? = some (.bool false) := by
        obtain ⟨v, h1, h2⟩ := hD 36 104 (by kernel_rfl) (by kernel_rfl)
        rw [h1]
        exact congrArg some h2
      unfold frees
      go_simp
      exact ⟨hC, Below.refl _ _, rfl, fun h => by cases h⟩
    · refine ordOb_on (o := _) (b := false) (k := 105) rfl rfl (by kernel_rfl) (by kernel_rfl) (fun v w h => h) (fun a W hC hF hD => ?_)
      have g9 : a.tmps[9]? = some (.pointer (some ⟨w.heap.size + 1 + 1, 0, none⟩)) := hF 9 _ (by kernel_rfl) rfl
      obtain ⟨c0, c1, c2, c3⟩ := val_cells (Act6.v hC.1)
      unfold frees
      go_simp
      exact ⟨hC, Below.refl _ _, rfl, fun h => by cases h⟩
    · refine ordOb_on (o := _) (b := false) (k := 105) rfl rfl (by kernel_rfl) (by kernel_rfl) (fun v w h => h) (fun a W hC hF hD => ?_)
      have g10 : a.tmps[10]? = some (.pointer (some ⟨w.heap.size + 1 + 1 + 1, 0, none⟩)) := hF 10 _ (by kernel_rfl) rfl
      obtain ⟨c0, c1, c2, c3⟩ := val_cells (Act6.u hC.1)
      unfold frees
      go_simp
      exact ⟨hC, Below.refl _ _, rfl, fun h => by cases h⟩
    · refine ordOb_on (o := _) (b := false) (k := 105) rfl rfl (by kernel_rfl) (by kernel_rfl) (fun v w h => h) (fun a W hC hF hD => ?_)
      have g106 : a.tmps[106]? = some (.agg #[.bool tv, .float .f64 nv, .int .i64 iv, .string xv]) := by
        obtain ⟨v, h1, h2⟩ := hD 38 106 (by kernel_rfl) (by kernel_rfl)
        rw [h1]
        exact congrArg some h2
      have g107 : a.tmps[107]? = some (.agg #[.bool tu, .float .f64 nu, .int .i64 iu, .string xu]) := by
        obtain ⟨v, h1, h2⟩ := hD 39 107 (by kernel_rfl) (by kernel_rfl)
        rw [h1]
        exact congrArg some h2
      unfold frees
      go_simp
      have CC := osameval_any tv nv iv xv Iv tu nu iu xu Iu W
      simp only [valV] at CC
      refine ⟨rfl, CC.mono ?_⟩
      rintro e W2 ⟨rfl, g⟩
      exact ⟨_, rfl, ⟨Act6.on hC.1 g, hC.2.trans (g.mono hC.2.size)⟩, g, rfl⟩
    · refine ordOb_on (o := _) (b := false) (k := 105) rfl rfl (by kernel_rfl) (by kernel_rfl) (fun v w h => h) (fun a W hC hF hD => ?_)
      have g9 : a.tmps[9]? = some (.pointer (some ⟨w.heap.size + 1 + 1, 0, none⟩)) := hF 9 _ (by kernel_rfl) rfl
      obtain ⟨c0, c1, c2, c3⟩ := val_cells (Act6.v hC.1)
      unfold frees
      go_simp
      exact ⟨hC, Below.refl _ _, rfl, fun h => by cases h⟩
    · refine ordOb_on (o := _) (b := false) (k := 105) rfl rfl (by kernel_rfl) (by kernel_rfl) (fun v w h => h) (fun a W hC hF hD => ?_)
      have g10 : a.tmps[10]? = some (.pointer (some ⟨w.heap.size + 1 + 1 + 1, 0, none⟩)) := hF 10 _ (by kernel_rfl) rfl
      obtain ⟨c0, c1, c2, c3⟩ := val_cells (Act6.u hC.1)
      unfold frees
      go_simp
      exact ⟨hC, Below.refl _ _, rfl, fun h => by cases h⟩
    · refine ordOb_on (o := _) (b := false) (k := 105) rfl rfl (by kernel_rfl) (by kernel_rfl) (fun v w h => h) (fun a W hC hF hD => ?_)
      have g109 : a.tmps[109]? = some (.agg #[.bool tv, .float .f64 nv, .int .i64 iv, .string xv]) := by
        obtain ⟨v, h1, h2⟩ := hD 41 109 (by kernel_rfl) (by kernel_rfl)
        rw [h1]
        exact congrArg some h2
      have g110 : a.tmps[110]? = some (.agg #[.bool tu, .float .f64 nu, .int .i64 iu, .string xu]) := by
        obtain ⟨v, h1, h2⟩ := hD 42 110 (by kernel_rfl) (by kernel_rfl)
        rw [h1]
        exact congrArg some h2
      unfold frees
      go_simp
      have CC := rsameval_any tv nv iv xv tu nu iu xu Iv.nu Iu.nu W
      simp only [valV] at CC
      refine ⟨rfl, CC.mono ?_⟩
      rintro e W2 ⟨rfl, g⟩
      exact ⟨_, rfl, ⟨Act6.on hC.1 g, hC.2.trans (g.mono hC.2.size)⟩, g, rfl⟩
    · refine ordOb_on (o := _) (b := false) (k := 105) rfl rfl (by kernel_rfl) (by kernel_rfl) (fun v w h => h) (fun a W hC hF hD => ?_)
      have g108 : a.tmps[108]? = some (.bool (V6.same (v6 tv nv iv xv) (v6 tu nu iu xu))) := by
        obtain ⟨v, h1, h2⟩ := hD 40 108 (by kernel_rfl) (by kernel_rfl)
        rw [h1]
        exact congrArg some h2
      have g111 : a.tmps[111]? = some (.bool (V6.same (v6 tv nv iv xv) (v6 tu nu iu xu))) := by
        obtain ⟨v, h1, h2⟩ := hD 43 111 (by kernel_rfl) (by kernel_rfl)
        rw [h1]
        exact congrArg some h2
      unfold frees
      go_simp
      exact ⟨hC, Below.refl _ _, (by show Value.bool _ = _; simp), fun h => by cases h⟩
    · exact absurd hi (by omega)
  obtain ⟨vs, hln, rfl, hC, hS, hap⟩ := J.all_ (by kernel_rfl) (ds := [some 68, some 69, some 70, some 71, some 72, some 73, some 74, some 75, some 76, some 77, some 78, some 79, some 80, some 81, some 82, some 83, some 84, some 85, some 86, some 87, some 88, some 89, some 90, some 91, some 92, some 93, some 94, some 95, some 96, some 97, some 98, some 99, some 100, some 101, some 102, some 103, some 104, some 105, some 106, some 107, some 108, some 109, some 110, some 111, some 112]) (by kernel_rfl)
  clear J
  obtain ⟨y0, vs, rfl⟩ := List.exists_cons_of_length_eq_add_one hln
  replace hln := Nat.succ.inj hln
  obtain ⟨y1, vs, rfl⟩ := List.exists_cons_of_length_eq_add_one hln
  replace hln := Nat.succ.inj hln
  obtain ⟨y2, vs, rfl⟩ := List.exists_cons_of_length_eq_add_one hln
  replace hln := Nat.succ.inj hln
  obtain ⟨y3, vs, rfl⟩ := List.exists_cons_of_length_eq_add_one hln
  replace hln := Nat.succ.inj hln
  obtain ⟨y4, vs, rfl⟩ := List.exists_cons_of_length_eq_add_one hln
  replace hln := Nat.succ.inj hln
  obtain ⟨y5, vs, rfl⟩ := List.exists_cons_of_length_eq_add_one hln
  replace hln := Nat.succ.inj hln
  obtain ⟨y6, vs, rfl⟩ := List.exists_cons_of_length_eq_add_one hln
  replace hln := Nat.succ.inj hln
  obtain ⟨y7, vs, rfl⟩ := List.exists_cons_of_length_eq_add_one hln
  replace hln := Nat.succ.inj hln
  obtain ⟨y8, vs, rfl⟩ := List.exists_cons_of_length_eq_add_one hln
  replace hln := Nat.succ.inj hln
  obtain ⟨y9, vs, rfl⟩ := List.exists_cons_of_length_eq_add_one hln
  replace hln := Nat.succ.inj hln
  obtain ⟨y10, vs, rfl⟩ := List.exists_cons_of_length_eq_add_one hln
  replace hln := Nat.succ.inj hln
  obtain ⟨y11, vs, rfl⟩ := List.exists_cons_of_length_eq_add_one hln
  replace hln := Nat.succ.inj hln
  obtain ⟨y12, vs, rfl⟩ := List.exists_cons_of_length_eq_add_one hln
  replace hln := Nat.succ.inj hln
  obtain ⟨y13, vs, rfl⟩ := List.exists_cons_of_length_eq_add_one hln
  replace hln := Nat.succ.inj hln
  obtain ⟨y14, vs, rfl⟩ := List.exists_cons_of_length_eq_add_one hln
  replace hln := Nat.succ.inj hln
  obtain ⟨y15, vs, rfl⟩ := List.exists_cons_of_length_eq_add_one hln
  replace hln := Nat.succ.inj hln
  obtain ⟨y16, vs, rfl⟩ := List.exists_cons_of_length_eq_add_one hln
  replace hln := Nat.succ.inj hln
  obtain ⟨y17, vs, rfl⟩ := List.exists_cons_of_length_eq_add_one hln
  replace hln := Nat.succ.inj hln
  obtain ⟨y18, vs, rfl⟩ := List.exists_cons_of_length_eq_add_one hln
  replace hln := Nat.succ.inj hln
  obtain ⟨y19, vs, rfl⟩ := List.exists_cons_of_length_eq_add_one hln
  replace hln := Nat.succ.inj hln
  obtain ⟨y20, vs, rfl⟩ := List.exists_cons_of_length_eq_add_one hln
  replace hln := Nat.succ.inj hln
  obtain ⟨y21, vs, rfl⟩ := List.exists_cons_of_length_eq_add_one hln
  replace hln := Nat.succ.inj hln
  obtain ⟨y22, vs, rfl⟩ := List.exists_cons_of_length_eq_add_one hln
  replace hln := Nat.succ.inj hln
  obtain ⟨y23, vs, rfl⟩ := List.exists_cons_of_length_eq_add_one hln
  replace hln := Nat.succ.inj hln
  obtain ⟨y24, vs, rfl⟩ := List.exists_cons_of_length_eq_add_one hln
  replace hln := Nat.succ.inj hln
  obtain ⟨y25, vs, rfl⟩ := List.exists_cons_of_length_eq_add_one hln
  replace hln := Nat.succ.inj hln
  obtain ⟨y26, vs, rfl⟩ := List.exists_cons_of_length_eq_add_one hln
  replace hln := Nat.succ.inj hln
  obtain ⟨y27, vs, rfl⟩ := List.exists_cons_of_length_eq_add_one hln
  replace hln := Nat.succ.inj hln
  obtain ⟨y28, vs, rfl⟩ := List.exists_cons_of_length_eq_add_one hln
  replace hln := Nat.succ.inj hln
  obtain ⟨y29, vs, rfl⟩ := List.exists_cons_of_length_eq_add_one hln
  replace hln := Nat.succ.inj hln
  obtain ⟨y30, vs, rfl⟩ := List.exists_cons_of_length_eq_add_one hln
  replace hln := Nat.succ.inj hln
  obtain ⟨y31, vs, rfl⟩ := List.exists_cons_of_length_eq_add_one hln
  replace hln := Nat.succ.inj hln
  obtain ⟨y32, vs, rfl⟩ := List.exists_cons_of_length_eq_add_one hln
  replace hln := Nat.succ.inj hln
  obtain ⟨y33, vs, rfl⟩ := List.exists_cons_of_length_eq_add_one hln
  replace hln := Nat.succ.inj hln
  obtain ⟨y34, vs, rfl⟩ := List.exists_cons_of_length_eq_add_one hln
  replace hln := Nat.succ.inj hln
  obtain ⟨y35, vs, rfl⟩ := List.exists_cons_of_length_eq_add_one hln
  replace hln := Nat.succ.inj hln
  obtain ⟨y36, vs, rfl⟩ := List.exists_cons_of_length_eq_add_one hln
  replace hln := Nat.succ.inj hln
  obtain ⟨y37, vs, rfl⟩ := List.exists_cons_of_length_eq_add_one hln
  replace hln := Nat.succ.inj hln
  obtain ⟨y38, vs, rfl⟩ := List.exists_cons_of_length_eq_add_one hln
  replace hln := Nat.succ.inj hln
  obtain ⟨y39, vs, rfl⟩ := List.exists_cons_of_length_eq_add_one hln
  replace hln := Nat.succ.inj hln
  obtain ⟨y40, vs, rfl⟩ := List.exists_cons_of_length_eq_add_one hln
  replace hln := Nat.succ.inj hln
  obtain ⟨y41, vs, rfl⟩ := List.exists_cons_of_length_eq_add_one hln
  replace hln := Nat.succ.inj hln
  obtain ⟨y42, vs, rfl⟩ := List.exists_cons_of_length_eq_add_one hln
  replace hln := Nat.succ.inj hln
  obtain ⟨y43, vs, rfl⟩ := List.exists_cons_of_length_eq_add_one hln
  replace hln := Nat.succ.inj hln
  obtain ⟨y44, vs, rfl⟩ := List.exists_cons_of_length_eq_add_one hln
  replace hln := Nat.succ.inj hln
  obtain rfl := List.eq_nil_of_length_eq_zero hln
  have q0 : y0 = .string ⟨B.toArray⟩ := hS 0 (by decide)
  have q1 : y1 = .string ⟨B.toArray⟩ := hS 1 (by decide)
  have q2 : y2 = .bool false := hS 2 (by decide)
  have q3 : y3 = .bool false := hS 3 (by decide)
  have q4 : y4 = .int .i64 E := hS 4 (by decide)
  have q5 : y5 = .int .i64 E := hS 5 (by decide)
  have q6 : y6 = .bool false := hS 6 (by decide)
  have q7 : y7 = .bool false := hS 7 (by decide)
  have q8 : y8 = .bool false := hS 8 (by decide)
  have q9 : y9 = .int .i64 er := hS 9 (by decide)
  have q10 : y10 = .int .i64 er := hS 10 (by decide)
  have q11 : y11 = .bool false := hS 11 (by decide)
  have q12 : y12 = .bool false := hS 12 (by decide)
  have q13 : y13 = .bool false := hS 13 (by decide)
  have q14 : y14 = .agg #[.int .i64 kdg, .float .f64 nug, .int .i64 itg, .string txg] := hS 14 (by decide)
  have q15 : y15 = .agg #[.int .i64 kdi, .float .f64 nui, .int .i64 iti, .string txi] := hS 15 (by decide)
  have q16 : y16 = .bool true := hS 16 (by decide)
  have q17 : y17 = .bool false := hS 17 (by decide)
  have q18 : y18 = .bool false := hS 18 (by decide)
  have q19 : y19 = .bool false := hS 19 (by decide)
  have q20 : y20 = .string key := hS 20 (by decide)
  have q21 : y21 = .agg #[.int .i64 kd1, .float .f64 nu1, .int .i64 it1, .string tx1] := hS 21 (by decide)
  have q22 : y22 = .bool (fitsA key.data.toList (a6 kd1 nu1 it1 tx1)) := hS 22 (by decide)
  have q23 : y23 = .string key := hS 23 (by decide)
  have q24 : y24 = .agg #[.int .i64 kd1, .float .f64 nu1, .int .i64 it1, .string tx1] := hS 24 (by decide)
  have q25 : y25 = .bool (fitsA key.data.toList (a6 kd1 nu1 it1 tx1)) := hS 25 (by decide)
  have q26 : y26 = .bool false := hS 26 (by decide)
  have q27 : y27 = .bool false := hS 27 (by decide)
  have q28 : y28 = .bool false := hS 28 (by decide)
  have q29 : y29 = .agg #[.int .i64 kd1, .float .f64 nu1, .int .i64 it1, .string tx1] := hS 29 (by decide)
  have q30 : y30 = .agg #[.int .i64 kd2, .float .f64 nu2, .int .i64 it2, .string tx2] := hS 30 (by decide)
  have q31 : y31 = .bool (A6.same (a6 kd1 nu1 it1 tx1) (a6 kd2 nu2 it2 tx2)) := hS 31 (by decide)
  have q32 : y32 = .agg #[.int .i64 kd1, .float .f64 nu1, .int .i64 it1, .string tx1] := hS 32 (by decide)
  have q33 : y33 = .agg #[.int .i64 kd2, .float .f64 nu2, .int .i64 it2, .string tx2] := hS 33 (by decide)
  have q34 : y34 = .bool (A6.same (a6 kd1 nu1 it1 tx1) (a6 kd2 nu2 it2 tx2)) := hS 34 (by decide)
  have q35 : y35 = .bool false := hS 35 (by decide)
  have q36 : y36 = .bool false := hS 36 (by decide)
  have q37 : y37 = .bool false := hS 37 (by decide)
  have q38 : y38 = .agg #[.bool tv, .float .f64 nv, .int .i64 iv, .string xv] := hS 38 (by decide)
  have q39 : y39 = .agg #[.bool tu, .float .f64 nu, .int .i64 iu, .string xu] := hS 39 (by decide)
  have q40 : y40 = .bool (V6.same (v6 tv nv iv xv) (v6 tu nu iu xu)) := hS 40 (by decide)
  have q41 : y41 = .agg #[.bool tv, .float .f64 nv, .int .i64 iv, .string xv] := hS 41 (by decide)
  have q42 : y42 = .agg #[.bool tu, .float .f64 nu, .int .i64 iu, .string xu] := hS 42 (by decide)
  have q43 : y43 = .bool (V6.same (v6 tv nv iv xv) (v6 tu nu iu xu)) := hS 43 (by decide)
  have q44 : y44 = .bool false := hS 44 (by decide)
  subst q0 q1 q2 q3 q4 q5 q6 q7 q8 q9 q10 q11 q12 q13 q14 q15 q16 q17 q18 q19 q20 q21 q22 q23 q24 q25 q26 q27 q28 q29 q30 q31 q32 q33 q34 q35 q36 q37 q38 q39 q40 q41 q42 q43 q44
  clear hS hap
  simp only [fillT, List.setIfInBounds_toArray, List.set_cons_zero, List.set_cons_succ]
  refine wpAny_ready (rs := [45]) (by kernel_rfl) (by simp) ?_
  refine AllReady.cons rfl (fun K hK => ?_) AllReady.nil
  go_simp
  refine hK _ _ ?_
  clear hK K
  refine wpAny_done (by kernel_rfl) ?_ _
  simp only [Exit.then]
  have C7 := hC
  clear hC C6
  go_wp2_with fail
  refine wp_region_ord (fun W => Act6 w kd1 nu1 it1 tx1 kd2 nu2 it2 tx2 tv nv iv xv tu nu iu xu W ∧ Below wz.heap.size wz W) (fun w w' => Below w.heap.size w w') [Slot.is (.bool true), Slot.is (.bool true), Slot.is (.string key), Slot.is (.agg #[.bool tv, .float .f64 nv, .int .i64 iv, .string xv]), Slot.is (.agg #[.int .i64 kd1, .float .f64 nu1, .int .i64 it1, .string tx1]), SlotV (afterA key.data.toList (v6 tv nv iv xv) (a6 kd1 nu1 it1 tx1)), Slot.is (.string key), Slot.is (.agg #[.bool tv, .float .f64 nv, .int .i64 iv, .string xv]), Slot.is (.agg #[.int .i64 kd1, .float .f64 nu1, .int .i64 it1, .string tx1]), SlotV (afterA key.data.toList (v6 tv nv iv xv) (a6 kd1 nu1 it1 tx1)), Slot.is (.bool true), Slot.is (.bool true), Slot.is (.bool true), Slot.is (.string key), Slot.is (.agg #[.int .i64 kd1, .float .f64 nu1, .int .i64 it1, .string tx1]), Slot.is (.agg #[.int .i64 kd2, .float .f64 nu2, .int .i64 it2, .string tx2]), SlotA (bothA key.data.toList (a6 kd1 nu1 it1 tx1) (a6 kd2 nu2 it2 tx2)), Slot.is (.string key), Slot.is (.agg #[.int .i64 kd1, .float .f64 nu1, .int .i64 it1, .string tx1]), Slot.is (.agg #[.int .i64 kd2, .float .f64 nu2, .int .i64 it2, .string tx2]), SlotA (bothA key.data.toList (a6 kd1 nu1 it1 tx1) (a6 kd2 nu2 it2 tx2)), Slot.is (.bool true), Slot.is (.bool true), Slot.is (.bool true), Slot.is (.string key), Slot.is (.agg #[.bool tv, .float .f64 nv, .int .i64 iv, .string xv]), Slot.is (.string ⟨T.toArray⟩), Slot.is (.string key), Slot.is (.agg #[.bool tv, .float .f64 nv, .int .i64 iv, .string xv]), Slot.is (.string ⟨T.toArray⟩), Slot.is (.bool true), Slot.is (.bool true)] 32 1 (by kernel_rfl) (fun _ _ h => Below.size h) (by kernel_rfl) (by kernel_rfl) (by kernel_rfl) rfl (by decide) ⟨C7.1.drew, C7.2.drew⟩ (fun i hi => ?_) (fun a w8 J => ?_)
  · clear hst
    rcases i with _ | _ | _ | _ | _ | _ | _ | _ | _ | _ | _ | _ | _ | _ | _ | _ | _ | _ | _ | _ | _ | _ | _ | _ | _ | _ | _ | _ | _ | _ | _ | _ | i
    · refine ordOb_at (o := _) rfl rfl (fun a W hC hF hD => ?_)
      unfold frees
      go_simp
      refine ⟨rfl, (oalive_any W (hL.on hC.1.below)).mono ?_⟩
      rintro e W2 ⟨rfl, g⟩
      exact ⟨_, rfl, ⟨Act6.on hC.1 g, hC.2.trans (g.mono hC.2.size)⟩, g, rfl⟩
    · refine ordOb_at (o := _) rfl rfl (fun a W hC hF hD => ?_)
      have g114 : a.tmps[114]? = some (.bool true) := by
        obtain ⟨v, h1, h2⟩ := hD 0 114 (by kernel_rfl) (by kernel_rfl)
        rw [h1]
        exact congrArg some h2
      unfold frees
      go_simp
      exact ⟨hC, Below.refl _ _, rfl, fun h => by cases h⟩
    · refine ordOb_on (o := _) (b := true) (k := 115) rfl rfl (by kernel_rfl) (by kernel_rfl) (fun v w h => h) (fun a W hC hF hD => ?_)
      have g0 : a.tmps[0]? = some (.string key) := hF 0 _ (by kernel_rfl) rfl
      unfold frees
      go_simp
      exact ⟨hC, Below.refl _ _, rfl, fun h => by cases h⟩
    · refine ordOb_on (o := _) (b := true) (k := 115) rfl rfl (by kernel_rfl) (by kernel_rfl) (fun v w h => h) (fun a W hC hF hD => ?_)
      have g9 : a.tmps[9]? = some (.pointer (some ⟨w.heap.size + 1 + 1, 0, none⟩)) := hF 9 _ (by kernel_rfl) rfl
      obtain ⟨c0, c1, c2, c3⟩ := val_cells (Act6.v hC.1)
      unfold frees
      go_simp
      exact ⟨hC, Below.refl _ _, rfl, fun h => by cases h⟩
    · refine ordOb_on (o := _) (b := true) (k := 115) rfl rfl (by kernel_rfl) (by kernel_rfl) (fun v w h => h) (fun a W hC hF hD => ?_)
      have g7 : a.tmps[7]? = some (.pointer (some ⟨w.heap.size, 0, none⟩)) := hF 7 _ (by kernel_rfl) rfl
      obtain ⟨c0, c1, c2, c3⟩ := act_cells (Act6.a hC.1)
      unfold frees
      go_simp
      exact ⟨hC, Below.refl _ _, rfl, fun h => by cases h⟩
    · refine ordOb_on (o := _) (b := true) (k := 115) rfl rfl (by kernel_rfl) (by kernel_rfl) (fun v w h => h) (fun a W hC hF hD => ?_)
      have g116 : a.tmps[116]? = some (.string key) := by
        obtain ⟨v, h1, h2⟩ := hD 2 116 (by kernel_rfl) (by kernel_rfl)
        rw [h1]
        exact congrArg some h2
      have g117 : a.tmps[117]? = some (.agg #[.bool tv, .float .f64 nv, .int .i64 iv, .string xv]) := by
        obtain ⟨v, h1, h2⟩ := hD 3 117 (by kernel_rfl) (by kernel_rfl)
        rw [h1]
        exact congrArg some h2
      have g118 : a.tmps[118]? = some (.agg #[.int .i64 kd1, .float .f64 nu1, .int .i64 it1, .string tx1]) := by
        obtain ⟨v, h1, h2⟩ := hD 4 118 (by kernel_rfl) (by kernel_rfl)
        rw [h1]
        exact congrArg some h2
      unfold frees
      go_simp
      have CC := oafter_any key hk9 tv nv iv xv Iv kd1 nu1 it1 tx1 I1 W
      simp only [actV, valV] at CC
      refine ⟨rfl, CC.mono ?_⟩
      rintro e W2 ⟨⟨th, vn, vi, vt, rfl, hv, hx⟩, g⟩
      exact ⟨_, rfl, ⟨Act6.on hC.1 g, hC.2.trans (g.mono hC.2.size)⟩, g, th, vn, vi, vt, rfl, hv, hx⟩
    · refine ordOb_on (o := _) (b := true) (k := 115) rfl rfl (by kernel_rfl) (by kernel_rfl) (fun v w h => h) (fun a W hC hF hD => ?_)
      have g0 : a.tmps[0]? = some (.string key) := hF 0 _ (by kernel_rfl) rfl
      unfold frees
      go_simp
      exact ⟨hC, Below.refl _ _, rfl, fun h => by cases h⟩
    · refine ordOb_on (o := _) (b := true) (k := 115) rfl rfl (by kernel_rfl) (by kernel_rfl) (fun v w h => h) (fun a W hC hF hD => ?_)
      have g9 : a.tmps[9]? = some (.pointer (some ⟨w.heap.size + 1 + 1, 0, none⟩)) := hF 9 _ (by kernel_rfl) rfl
      obtain ⟨c0, c1, c2, c3⟩ := val_cells (Act6.v hC.1)
      unfold frees
      go_simp
      exact ⟨hC, Below.refl _ _, rfl, fun h => by cases h⟩
    · refine ordOb_on (o := _) (b := true) (k := 115) rfl rfl (by kernel_rfl) (by kernel_rfl) (fun v w h => h) (fun a W hC hF hD => ?_)
      have g7 : a.tmps[7]? = some (.pointer (some ⟨w.heap.size, 0, none⟩)) := hF 7 _ (by kernel_rfl) rfl
      obtain ⟨c0, c1, c2, c3⟩ := act_cells (Act6.a hC.1)
      unfold frees
      go_simp
      exact ⟨hC, Below.refl _ _, rfl, fun h => by cases h⟩
    · refine ordOb_on (o := _) (b := true) (k := 115) rfl rfl (by kernel_rfl) (by kernel_rfl) (fun v w h => h) (fun a W hC hF hD => ?_)
      have g120 : a.tmps[120]? = some (.string key) := by
        obtain ⟨v, h1, h2⟩ := hD 6 120 (by kernel_rfl) (by kernel_rfl)
        rw [h1]
        exact congrArg some h2
      have g121 : a.tmps[121]? = some (.agg #[.bool tv, .float .f64 nv, .int .i64 iv, .string xv]) := by
        obtain ⟨v, h1, h2⟩ := hD 7 121 (by kernel_rfl) (by kernel_rfl)
        rw [h1]
        exact congrArg some h2
      have g122 : a.tmps[122]? = some (.agg #[.int .i64 kd1, .float .f64 nu1, .int .i64 it1, .string tx1]) := by
        obtain ⟨v, h1, h2⟩ := hD 8 122 (by kernel_rfl) (by kernel_rfl)
        rw [h1]
        exact congrArg some h2
      unfold frees
      go_simp
      have CC := rafter_any key hk9 tv nv iv xv Iv kd1 nu1 it1 tx1 I1 W
      simp only [actV, valV] at CC
      refine ⟨rfl, CC.mono ?_⟩
      rintro e W2 ⟨⟨th, vn, vi, vt, rfl, hv, hx⟩, g⟩
      exact ⟨_, rfl, ⟨Act6.on hC.1 g, hC.2.trans (g.mono hC.2.size)⟩, g, th, vn, vi, vt, rfl, hv, hx⟩
    · refine ordOb_on (o := _) (b := true) (k := 115) rfl rfl (by kernel_rfl) (by kernel_rfl) (fun v w h => h) (fun a W hC hF hD => ?_)
      obtain ⟨_, g119, th5r, nu5r, it5r, tx5r, rfl, IV5r, hx5r⟩ := hD 5 119 (by kernel_rfl) (by kernel_rfl)
      simp only [valV] at g119
      obtain ⟨_, g123, th9r, nu9r, it9r, tx9r, rfl, IV9r, hx9r⟩ := hD 9 123 (by kernel_rfl) (by kernel_rfl)
      simp only [valV] at g123
      unfold frees
      go_simp
      have CC := rsameval_any th5r nu5r it5r tx5r th9r nu9r it9r tx9r IV5r.nu IV9r.nu W
      simp only [valV] at CC
      refine ⟨rfl, CC.mono ?_⟩
      rintro e W2 ⟨rfl, g⟩
      exact ⟨_, rfl, ⟨Act6.on hC.1 g, hC.2.trans (g.mono hC.2.size)⟩, g, congrArg Value.bool ((V6.same_iff _ _).2 (by rw [hx5r, hx9r]))⟩
    · refine ordOb_at (o := _) rfl rfl (fun a W hC hF hD => ?_)
      have g115 : a.tmps[115]? = some (.bool true) := by
        obtain ⟨v, h1, h2⟩ := hD 1 115 (by kernel_rfl) (by kernel_rfl)
        rw [h1]
        exact congrArg some h2
      have g124 : a.tmps[124]? = some (.bool true) := by
        obtain ⟨v, h1, h2⟩ := hD 10 124 (by kernel_rfl) (by kernel_rfl)
        rw [h1]
        exact congrArg some h2
      unfold frees
      go_simp
      exact ⟨hC, Below.refl _ _, rfl, fun h => by cases h⟩
    · refine ordOb_at (o := _) rfl rfl (fun a W hC hF hD => ?_)
      have g125 : a.tmps[125]? = some (.bool true) := by
        obtain ⟨v, h1, h2⟩ := hD 11 125 (by kernel_rfl) (by kernel_rfl)
        rw [h1]
        exact congrArg some h2
      unfold frees
      go_simp
      exact ⟨hC, Below.refl _ _, rfl, fun h => by cases h⟩
    · refine ordOb_on (o := _) (b := true) (k := 126) rfl rfl (by kernel_rfl) (by kernel_rfl) (fun v w h => h) (fun a W hC hF hD => ?_)
      have g0 : a.tmps[0]? = some (.string key) := hF 0 _ (by kernel_rfl) rfl
      unfold frees
      go_simp
      exact ⟨hC, Below.refl _ _, rfl, fun h => by cases h⟩
    · refine ordOb_on (o := _) (b := true) (k := 126) rfl rfl (by kernel_rfl) (by kernel_rfl) (fun v w h => h) (fun a W hC hF hD => ?_)
      have g7 : a.tmps[7]? = some (.pointer (some ⟨w.heap.size, 0, none⟩)) := hF 7 _ (by kernel_rfl) rfl
      obtain ⟨c0, c1, c2, c3⟩ := act_cells (Act6.a hC.1)
      unfold frees
      go_simp
      exact ⟨hC, Below.refl _ _, rfl, fun h => by cases h⟩
    · refine ordOb_on (o := _) (b := true) (k := 126) rfl rfl (by kernel_rfl) (by kernel_rfl) (fun v w h => h) (fun a W hC hF hD => ?_)
      have g8 : a.tmps[8]? = some (.pointer (some ⟨w.heap.size + 1, 0, none⟩)) := hF 8 _ (by kernel_rfl) rfl
      obtain ⟨c0, c1, c2, c3⟩ := act_cells (Act6.b hC.1)
      unfold frees
      go_simp
      exact ⟨hC, Below.refl _ _, rfl, fun h => by cases h⟩
    · refine ordOb_on (o := _) (b := true) (k := 126) rfl rfl (by kernel_rfl) (by kernel_rfl) (fun v w h => h) (fun a W hC hF hD => ?_)
      have g127 : a.tmps[127]? = some (.string key) := by
        obtain ⟨v, h1, h2⟩ := hD 13 127 (by kernel_rfl) (by kernel_rfl)
        rw [h1]
        exact congrArg some h2
      have g128 : a.tmps[128]? = some (.agg #[.int .i64 kd1, .float .f64 nu1, .int .i64 it1, .string tx1]) := by
        obtain ⟨v, h1, h2⟩ := hD 14 128 (by kernel_rfl) (by kernel_rfl)
        rw [h1]
        exact congrArg some h2
      have g129 : a.tmps[129]? = some (.agg #[.int .i64 kd2, .float .f64 nu2, .int .i64 it2, .string tx2]) := by
        obtain ⟨v, h1, h2⟩ := hD 15 129 (by kernel_rfl) (by kernel_rfl)
        rw [h1]
        exact congrArg some h2
      unfold frees
      go_simp
      have CC := oboth_any key hk9 kd1 nu1 it1 tx1 I1 kd2 nu2 it2 tx2 I2 W
      simp only [actV] at CC
      refine ⟨rfl, CC.mono ?_⟩
      rintro e W2 ⟨⟨kd, nu, it, tx, rfl, hv, hx⟩, g⟩
      exact ⟨_, rfl, ⟨Act6.on hC.1 g, hC.2.trans (g.mono hC.2.size)⟩, g, kd, nu, it, tx, rfl, hv, hx⟩
    · refine ordOb_on (o := _) (b := true) (k := 126) rfl rfl (by kernel_rfl) (by kernel_rfl) (fun v w h => h) (fun a W hC hF hD => ?_)
      have g0 : a.tmps[0]? = some (.string key) := hF 0 _ (by kernel_rfl) rfl
      unfold frees
      go_simp
      exact ⟨hC, Below.refl _ _, rfl, fun h => by cases h⟩
    · refine ordOb_on (o := _) (b := true) (k := 126) rfl rfl (by kernel_rfl) (by kernel_rfl) (fun v w h => h) (fun a W hC hF hD => ?_)
      have g7 : a.tmps[7]? = some (.pointer (some ⟨w.heap.size, 0, none⟩)) := hF 7 _ (by kernel_rfl) rfl
      obtain ⟨c0, c1, c2, c3⟩ := act_cells (Act6.a hC.1)
      unfold frees
      go_simp
      exact ⟨hC, Below.refl _ _, rfl, fun h => by cases h⟩
    · refine ordOb_on (o := _) (b := true) (k := 126) rfl rfl (by kernel_rfl) (by kernel_rfl) (fun v w h => h) (fun a W hC hF hD => ?_)
      have g8 : a.tmps[8]? = some (.pointer (some ⟨w.heap.size + 1, 0, none⟩)) := hF 8 _ (by kernel_rfl) rfl
      obtain ⟨c0, c1, c2, c3⟩ := act_cells (Act6.b hC.1)
      unfold frees
      go_simp
      exact ⟨hC, Below.refl _ _, rfl, fun h => by cases h⟩
    · refine ordOb_on (o := _) (b := true) (k := 126) rfl rfl (by kernel_rfl) (by kernel_rfl) (fun v w h => h) (fun a W hC hF hD => ?_)
      have g131 : a.tmps[131]? = some (.string key) := by
        obtain ⟨v, h1, h2⟩ := hD 17 131 (by kernel_rfl) (by kernel_rfl)
        rw [h1]
        exact congrArg some h2
      have g132 : a.tmps[132]? = some (.agg #[.int .i64 kd1, .float .f64 nu1, .int .i64 it1, .string tx1]) := by
        obtain ⟨v, h1, h2⟩ := hD 18 132 (by kernel_rfl) (by kernel_rfl)
        rw [h1]
        exact congrArg some h2
      have g133 : a.tmps[133]? = some (.agg #[.int .i64 kd2, .float .f64 nu2, .int .i64 it2, .string tx2]) := by
        obtain ⟨v, h1, h2⟩ := hD 19 133 (by kernel_rfl) (by kernel_rfl)
        rw [h1]
        exact congrArg some h2
      unfold frees
      go_simp
      have CC := rboth_any key hk9 kd1 nu1 it1 tx1 I1 kd2 nu2 it2 tx2 I2 W
      simp only [actV] at CC
      refine ⟨rfl, CC.mono ?_⟩
      rintro e W2 ⟨⟨kd, nu, it, tx, rfl, hv, hx⟩, g⟩
      exact ⟨_, rfl, ⟨Act6.on hC.1 g, hC.2.trans (g.mono hC.2.size)⟩, g, kd, nu, it, tx, rfl, hv, hx⟩
    · refine ordOb_on (o := _) (b := true) (k := 126) rfl rfl (by kernel_rfl) (by kernel_rfl) (fun v w h => h) (fun a W hC hF hD => ?_)
      obtain ⟨_, g130, kd16r, nu16r, it16r, tx16r, rfl, IV16r, hx16r⟩ := hD 16 130 (by kernel_rfl) (by kernel_rfl)
      simp only [actV] at g130
      obtain ⟨_, g134, kd20r, nu20r, it20r, tx20r, rfl, IV20r, hx20r⟩ := hD 20 134 (by kernel_rfl) (by kernel_rfl)
      simp only [actV] at g134
      unfold frees
      go_simp
      have CC := rsameact6_any kd16r nu16r it16r tx16r IV16r kd20r nu20r it20r tx20r IV20r W
      simp only [actV] at CC
      refine ⟨rfl, CC.mono ?_⟩
      rintro e W2 ⟨rfl, g⟩
      exact ⟨_, rfl, ⟨Act6.on hC.1 g, hC.2.trans (g.mono hC.2.size)⟩, g, congrArg Value.bool ((A6.same_iff _ _).2 (by rw [hx16r, hx20r]))⟩
    · refine ordOb_at (o := _) rfl rfl (fun a W hC hF hD => ?_)
      have g126 : a.tmps[126]? = some (.bool true) := by
        obtain ⟨v, h1, h2⟩ := hD 12 126 (by kernel_rfl) (by kernel_rfl)
        rw [h1]
        exact congrArg some h2
      have g135 : a.tmps[135]? = some (.bool true) := by
        obtain ⟨v, h1, h2⟩ := hD 21 135 (by kernel_rfl) (by kernel_rfl)
        rw [h1]
        exact congrArg some h2
      unfold frees
      go_simp
      exact ⟨hC, Below.refl _ _, rfl, fun h => by cases h⟩
    · refine ordOb_at (o := _) rfl rfl (fun a W hC hF hD => ?_)
      have g136 : a.tmps[136]? = some (.bool true) := by
        obtain ⟨v, h1, h2⟩ := hD 22 136 (by kernel_rfl) (by kernel_rfl)
        rw [h1]
        exact congrArg some h2
      unfold frees
      go_simp
      exact ⟨hC, Below.refl _ _, rfl, fun h => by cases h⟩
    · refine ordOb_on (o := _) (b := true) (k := 137) rfl rfl (by kernel_rfl) (by kernel_rfl) (fun v w h => h) (fun a W hC hF hD => ?_)
      have g0 : a.tmps[0]? = some (.string key) := hF 0 _ (by kernel_rfl) rfl
      unfold frees
      go_simp
      exact ⟨hC, Below.refl _ _, rfl, fun h => by cases h⟩
    · refine ordOb_on (o := _) (b := true) (k := 137) rfl rfl (by kernel_rfl) (by kernel_rfl) (fun v w h => h) (fun a W hC hF hD => ?_)
      have g9 : a.tmps[9]? = some (.pointer (some ⟨w.heap.size + 1 + 1, 0, none⟩)) := hF 9 _ (by kernel_rfl) rfl
      obtain ⟨c0, c1, c2, c3⟩ := val_cells (Act6.v hC.1)
      unfold frees
      go_simp
      exact ⟨hC, Below.refl _ _, rfl, fun h => by cases h⟩
    · refine ordOb_on (o := _) (b := true) (k := 137) rfl rfl (by kernel_rfl) (by kernel_rfl) (fun v w h => h) (fun a W hC hF hD => ?_)
      have g138 : a.tmps[138]? = some (.string key) := by
        obtain ⟨v, h1, h2⟩ := hD 24 138 (by kernel_rfl) (by kernel_rfl)
        rw [h1]
        exact congrArg some h2
      have g139 : a.tmps[139]? = some (.agg #[.bool tv, .float .f64 nv, .int .i64 iv, .string xv]) := by
        obtain ⟨v, h1, h2⟩ := hD 25 139 (by kernel_rfl) (by kernel_rfl)
        rw [h1]
        exact congrArg some h2
      unfold frees
      go_simp
      have CC := otext_any key hk9 tv nv iv xv Iv hq9 W (hL.on hC.1.below)
      rw [HT.out] at CC
      simp only [valV] at CC
      refine ⟨rfl, CC.mono ?_⟩
      rintro e W2 ⟨rfl, g⟩
      exact ⟨_, rfl, ⟨Act6.on hC.1 g, hC.2.trans (g.mono hC.2.size)⟩, g, rfl⟩
    · refine ordOb_on (o := _) (b := true) (k := 137) rfl rfl (by kernel_rfl) (by kernel_rfl) (fun v w h => h) (fun a W hC hF hD => ?_)
      have g0 : a.tmps[0]? = some (.string key) := hF 0 _ (by kernel_rfl) rfl
      unfold frees
      go_simp
      exact ⟨hC, Below.refl _ _, rfl, fun h => by cases h⟩
    · refine ordOb_on (o := _) (b := true) (k := 137) rfl rfl (by kernel_rfl) (by kernel_rfl) (fun v w h => h) (fun a W hC hF hD => ?_)
      have g9 : a.tmps[9]? = some (.pointer (some ⟨w.heap.size + 1 + 1, 0, none⟩)) := hF 9 _ (by kernel_rfl) rfl
      obtain ⟨c0, c1, c2, c3⟩ := val_cells (Act6.v hC.1)
      unfold frees
      go_simp
      exact ⟨hC, Below.refl _ _, rfl, fun h => by cases h⟩
    · refine ordOb_on (o := _) (b := true) (k := 137) rfl rfl (by kernel_rfl) (by kernel_rfl) (fun v w h => h) (fun a W hC hF hD => ?_)
      have g141 : a.tmps[141]? = some (.string key) := by
        obtain ⟨v, h1, h2⟩ := hD 27 141 (by kernel_rfl) (by kernel_rfl)
        rw [h1]
        exact congrArg some h2
      have g142 : a.tmps[142]? = some (.agg #[.bool tv, .float .f64 nv, .int .i64 iv, .string xv]) := by
        obtain ⟨v, h1, h2⟩ := hD 28 142 (by kernel_rfl) (by kernel_rfl)
        rw [h1]
        exact congrArg some h2
      unfold frees
      go_simp
      have CC := rtextv_any key hk9 tv nv iv xv Iv hq9 W
      rw [HT.out] at CC
      simp only [valV] at CC
      refine ⟨rfl, CC.mono ?_⟩
      rintro e W2 ⟨rfl, g⟩
      exact ⟨_, rfl, ⟨Act6.on hC.1 g, hC.2.trans (g.mono hC.2.size)⟩, g, rfl⟩
    · refine ordOb_on (o := _) (b := true) (k := 137) rfl rfl (by kernel_rfl) (by kernel_rfl) (fun v w h => h) (fun a W hC hF hD => ?_)
      have g140 : a.tmps[140]? = some (.string ⟨T.toArray⟩) := by
        obtain ⟨v, h1, h2⟩ := hD 26 140 (by kernel_rfl) (by kernel_rfl)
        rw [h1]
        exact congrArg some h2
      have g143 : a.tmps[143]? = some (.string ⟨T.toArray⟩) := by
        obtain ⟨v, h1, h2⟩ := hD 29 143 (by kernel_rfl) (by kernel_rfl)
        rw [h1]
        exact congrArg some h2
      unfold frees
      go_simp
      exact ⟨hC, Below.refl _ _, (by show Value.bool _ = _; simp), fun h => by cases h⟩
    · refine ordOb_at (o := _) rfl rfl (fun a W hC hF hD => ?_)
      have g137 : a.tmps[137]? = some (.bool true) := by
        obtain ⟨v, h1, h2⟩ := hD 23 137 (by kernel_rfl) (by kernel_rfl)
        rw [h1]
        exact congrArg some h2
      have g144 : a.tmps[144]? = some (.bool true) := by
        obtain ⟨v, h1, h2⟩ := hD 30 144 (by kernel_rfl) (by kernel_rfl)
        rw [h1]
        exact congrArg some h2
      unfold frees
      go_simp
      exact ⟨hC, Below.refl _ _, rfl, fun h => by cases h⟩
    · exact absurd hi (by omega)
  obtain ⟨vs, hln, rfl, hC, hS, hap⟩ := J.all_ (by kernel_rfl) (ds := [some 114, some 115, some 116, some 117, some 118, some 119, some 120, some 121, some 122, some 123, some 124, some 125, some 126, some 127, some 128, some 129, some 130, some 131, some 132, some 133, some 134, some 135, some 136, some 137, some 138, some 139, some 140, some 141, some 142, some 143, some 144, some 145]) (by kernel_rfl)
  clear J
  obtain ⟨y0, vs, rfl⟩ := List.exists_cons_of_length_eq_add_one hln
  replace hln := Nat.succ.inj hln
  obtain ⟨y1, vs, rfl⟩ := List.exists_cons_of_length_eq_add_one hln
  replace hln := Nat.succ.inj hln
  obtain ⟨y2, vs, rfl⟩ := List.exists_cons_of_length_eq_add_one hln
  replace hln := Nat.succ.inj hln
  obtain ⟨y3, vs, rfl⟩ := List.exists_cons_of_length_eq_add_one hln
  replace hln := Nat.succ.inj hln
  obtain ⟨y4, vs, rfl⟩ := List.exists_cons_of_length_eq_add_one hln
  replace hln := Nat.succ.inj hln
  obtain ⟨y5, vs, rfl⟩ := List.exists_cons_of_length_eq_add_one hln
  replace hln := Nat.succ.inj hln
  obtain ⟨y6, vs, rfl⟩ := List.exists_cons_of_length_eq_add_one hln
  replace hln := Nat.succ.inj hln
  obtain ⟨y7, vs, rfl⟩ := List.exists_cons_of_length_eq_add_one hln
  replace hln := Nat.succ.inj hln
  obtain ⟨y8, vs, rfl⟩ := List.exists_cons_of_length_eq_add_one hln
  replace hln := Nat.succ.inj hln
  obtain ⟨y9, vs, rfl⟩ := List.exists_cons_of_length_eq_add_one hln
  replace hln := Nat.succ.inj hln
  obtain ⟨y10, vs, rfl⟩ := List.exists_cons_of_length_eq_add_one hln
  replace hln := Nat.succ.inj hln
  obtain ⟨y11, vs, rfl⟩ := List.exists_cons_of_length_eq_add_one hln
  replace hln := Nat.succ.inj hln
  obtain ⟨y12, vs, rfl⟩ := List.exists_cons_of_length_eq_add_one hln
  replace hln := Nat.succ.inj hln
  obtain ⟨y13, vs, rfl⟩ := List.exists_cons_of_length_eq_add_one hln
  replace hln := Nat.succ.inj hln
  obtain ⟨y14, vs, rfl⟩ := List.exists_cons_of_length_eq_add_one hln
  replace hln := Nat.succ.inj hln
  obtain ⟨y15, vs, rfl⟩ := List.exists_cons_of_length_eq_add_one hln
  replace hln := Nat.succ.inj hln
  obtain ⟨y16, vs, rfl⟩ := List.exists_cons_of_length_eq_add_one hln
  replace hln := Nat.succ.inj hln
  obtain ⟨y17, vs, rfl⟩ := List.exists_cons_of_length_eq_add_one hln
  replace hln := Nat.succ.inj hln
  obtain ⟨y18, vs, rfl⟩ := List.exists_cons_of_length_eq_add_one hln
  replace hln := Nat.succ.inj hln
  obtain ⟨y19, vs, rfl⟩ := List.exists_cons_of_length_eq_add_one hln
  replace hln := Nat.succ.inj hln
  obtain ⟨y20, vs, rfl⟩ := List.exists_cons_of_length_eq_add_one hln
  replace hln := Nat.succ.inj hln
  obtain ⟨y21, vs, rfl⟩ := List.exists_cons_of_length_eq_add_one hln
  replace hln := Nat.succ.inj hln
  obtain ⟨y22, vs, rfl⟩ := List.exists_cons_of_length_eq_add_one hln
  replace hln := Nat.succ.inj hln
  obtain ⟨y23, vs, rfl⟩ := List.exists_cons_of_length_eq_add_one hln
  replace hln := Nat.succ.inj hln
  obtain ⟨y24, vs, rfl⟩ := List.exists_cons_of_length_eq_add_one hln
  replace hln := Nat.succ.inj hln
  obtain ⟨y25, vs, rfl⟩ := List.exists_cons_of_length_eq_add_one hln
  replace hln := Nat.succ.inj hln
  obtain ⟨y26, vs, rfl⟩ := List.exists_cons_of_length_eq_add_one hln
  replace hln := Nat.succ.inj hln
  obtain ⟨y27, vs, rfl⟩ := List.exists_cons_of_length_eq_add_one hln
  replace hln := Nat.succ.inj hln
  obtain ⟨y28, vs, rfl⟩ := List.exists_cons_of_length_eq_add_one hln
  replace hln := Nat.succ.inj hln
  obtain ⟨y29, vs, rfl⟩ := List.exists_cons_of_length_eq_add_one hln
  replace hln := Nat.succ.inj hln
  obtain ⟨y30, vs, rfl⟩ := List.exists_cons_of_length_eq_add_one hln
  replace hln := Nat.succ.inj hln
  obtain ⟨y31, vs, rfl⟩ := List.exists_cons_of_length_eq_add_one hln
  replace hln := Nat.succ.inj hln
  obtain rfl := List.eq_nil_of_length_eq_zero hln
  have q0 : y0 = .bool true := hS 0 (by decide)
  have q1 : y1 = .bool true := hS 1 (by decide)
  have q2 : y2 = .string key := hS 2 (by decide)
  have q3 : y3 = .agg #[.bool tv, .float .f64 nv, .int .i64 iv, .string xv] := hS 3 (by decide)
  have q4 : y4 = .agg #[.int .i64 kd1, .float .f64 nu1, .int .i64 it1, .string tx1] := hS 4 (by decide)
  obtain ⟨th5r, nu5r, it5r, tx5r, q5, IV5r, hx5r⟩ := hS 5 (by decide)
  have q5 : y5 = valV th5r nu5r it5r tx5r := q5
  have q6 : y6 = .string key := hS 6 (by decide)
  have q7 : y7 = .agg #[.bool tv, .float .f64 nv, .int .i64 iv, .string xv] := hS 7 (by decide)
  have q8 : y8 = .agg #[.int .i64 kd1, .float .f64 nu1, .int .i64 it1, .string tx1] := hS 8 (by decide)
  obtain ⟨th9r, nu9r, it9r, tx9r, q9, IV9r, hx9r⟩ := hS 9 (by decide)
  have q9 : y9 = valV th9r nu9r it9r tx9r := q9
  have q10 : y10 = .bool true := hS 10 (by decide)
  have q11 : y11 = .bool true := hS 11 (by decide)
  have q12 : y12 = .bool true := hS 12 (by decide)
  have q13 : y13 = .string key := hS 13 (by decide)
  have q14 : y14 = .agg #[.int .i64 kd1, .float .f64 nu1, .int .i64 it1, .string tx1] := hS 14 (by decide)
  have q15 : y15 = .agg #[.int .i64 kd2, .float .f64 nu2, .int .i64 it2, .string tx2] := hS 15 (by decide)
  obtain ⟨kd16r, nu16r, it16r, tx16r, q16, IV16r, hx16r⟩ := hS 16 (by decide)
  have q16 : y16 = actV kd16r nu16r it16r tx16r := q16
  have q17 : y17 = .string key := hS 17 (by decide)
  have q18 : y18 = .agg #[.int .i64 kd1, .float .f64 nu1, .int .i64 it1, .string tx1] := hS 18 (by decide)
  have q19 : y19 = .agg #[.int .i64 kd2, .float .f64 nu2, .int .i64 it2, .string tx2] := hS 19 (by decide)
  obtain ⟨kd20r, nu20r, it20r, tx20r, q20, IV20r, hx20r⟩ := hS 20 (by decide)
  have q20 : y20 = actV kd20r nu20r it20r tx20r := q20
  have q21 : y21 = .bool true := hS 21 (by decide)
  have q22 : y22 = .bool true := hS 22 (by decide)
  have q23 : y23 = .bool true := hS 23 (by decide)
  have q24 : y24 = .string key := hS 24 (by decide)
  have q25 : y25 = .agg #[.bool tv, .float .f64 nv, .int .i64 iv, .string xv] := hS 25 (by decide)
  have q26 : y26 = .string ⟨T.toArray⟩ := hS 26 (by decide)
  have q27 : y27 = .string key := hS 27 (by decide)
  have q28 : y28 = .agg #[.bool tv, .float .f64 nv, .int .i64 iv, .string xv] := hS 28 (by decide)
  have q29 : y29 = .string ⟨T.toArray⟩ := hS 29 (by decide)
  have q30 : y30 = .bool true := hS 30 (by decide)
  have q31 : y31 = .bool true := hS 31 (by decide)
  subst q0 q1 q2 q3 q4 q5 q6 q7 q8 q9 q10 q11 q12 q13 q14 q15 q16 q17 q18 q19 q20 q21 q22 q23 q24 q25 q26 q27 q28 q29 q30 q31
  clear hS hap
  simp only [fillT, List.setIfInBounds_toArray, List.set_cons_zero, List.set_cons_succ]
  refine wpAny_ready (rs := [32]) (by kernel_rfl) (by simp) ?_
  refine AllReady.cons rfl (fun K hK => ?_) AllReady.nil
  go_simp
  refine hK _ _ ?_
  clear hK K
  refine wpAny_done (by kernel_rfl) ?_ _
  simp only [Exit.then]
  go_wp2_with fail
  go_ret
  exact ⟨rfl, hC.1.below⟩


theorem lawOpActs (key : ByteArray) (hk : key.size ≤ 140737488351232) (kd1 : Int) (nu1 : Nat) (it1 : Int) (tx1 : ByteArray) (I1 : ActIn kd1 nu1 it1 tx1) (z1 : tx1.size ≤ 140737488351232) (kd2 : Int) (nu2 : Nat) (it2 : Int) (tx2 : ByteArray) (I2 : ActIn kd2 nu2 it2 tx2) (z2 : tx2.size ≤ 140737488351232) (tv : Bool) (nv : Nat) (iv : Int) (xv : ByteArray) (Iv : ValIn nv iv xv) (zv : xv.size ≤ 140737488351232) (tu : Bool) (nu : Nat) (iu : Int) (xu : ByteArray) (Iu : ValIn nu iu xu) (zu : xu.size ≤ 140737488351232) (s : ByteArray) (hs : s.size ≤ 140737488351232) (w : World) (hL : LaidO w) :
    Calls Tryd.prog 3 #[.string key, actV kd1 nu1 it1 tx1, actV kd2 nu2 it2 tx2, valV tv nv iv xv, valV tu nu iu xu, .string s] w fun e w' => e = .returned (.bool true) ∧ Below w.heap.size w w' := by
  by_cases h1 : (3000 : Int) < (key.size : Int)
  · exact opacts_k key hk kd1 nu1 it1 tx1 I1 kd2 nu2 it2 tx2 I2 tv nv iv xv Iv tu nu iu xu Iu s hs z1 z2 zv zu w hL h1
  · by_cases h2 : (9000 : Int) < (tx1.size : Int) + (tx2.size : Int) + (xv.size : Int) + (xu.size : Int)
    · exact opacts_t key hk kd1 nu1 it1 tx1 I1 kd2 nu2 it2 tx2 I2 tv nv iv xv Iv tu nu iu xu Iu s hs z1 z2 zv zu w hL h1 h2
    · by_cases h3 : (3000 : Int) < (s.size : Int)
      · exact opacts_s key hk kd1 nu1 it1 tx1 I1 kd2 nu2 it2 tx2 I2 tv nv iv xv Iv tu nu iu xu Iu s hs z1 z2 zv zu w hL h1 h2 h3
      · exact opacts_all key hk kd1 nu1 it1 tx1 I1 kd2 nu2 it2 tx2 I2 tv nv iv xv Iv tu nu iu xu Iu s hs z1 z2 zv zu w hL h1 h2 h3
end Go.Proofs.YthacdegaeokgnaaDoor
