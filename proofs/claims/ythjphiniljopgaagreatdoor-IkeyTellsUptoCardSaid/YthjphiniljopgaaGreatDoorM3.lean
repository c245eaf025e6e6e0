/-
  Several texts in one: The landed package ikey: the version that its reader takes off.
  The landed package ikey: Get, Key.
  The landed package ikey: Key; chapter 5's first call.
  Walks over the document's own answer to chapter 3: the order of vectors.
  The order of float64 numbers as words, by sign and rung (no program is named).
  The order of float64 numbers as ranks, and the bits that tell it (no program is named).
  Walks over package real, part 1: nan, sign, rank, the order.
  A walk over the document's own answer to chapter 2: isNan.
  Walks over package real, part 2: Put, Get.
  Walks over package real, part 4: the parts of a number, its text.
  Rounding to float64: it never turns the order round, and leaves what fits as it is (no program is named).
  Products and whole parts of float64 numbers (no program is named).
  float64(n) of an int; how far a clock goes (no program is named).
-/
import Derived.Test.YthjphiniljopgaaGreatDoorM2
import Derived.Test.YthjphiniljopgaaGreatDoorM1
import Derived.LoopTactic
import Derived.BigQuiet
import Ieee.Arith
import Derived.Laws.FloatArith
import Derived.Test.YthjphiniljopgaaGreatDoorRows
import Derived.WalkKit
import Derived.WalkSpells
import Derived.WalkLawsBesides
import Derived.Laws.Externs
import Derived.Lib.Hide
import Derived.Lib.LaidTab
import Derived.Lib.ItoaNum
import Derived.Lib.TrailingZeros
import Derived.Lib.BitFns
import Derived.Laws.Bits64b
namespace Go.Proofs.YthjphiniljopgaaGreatDoor
open Go.RowKit

theorem results_one_cell {fn : Func} {p : Tmp} {ty : TypeId} (h : fn.results = #[.cell p ty]) (tmps : Array Value) (P : Program) (w : World) :
    (results fn tmps).run P w = ((asAddr (tmps.getD p undef)).run P w).andThen fun a w₁ => (loadVar ty a).run P w₁ := by
  simp only [results, h]
  simp [Sem.run_bind, Result.andThen]
theorem grow_set8 {a w : World} {p q : Nat} (h : a.grownBy w (some q)) (hp : a.heap.size ≤ p) (v0 v1 v2 v3 v4 v5 v6 v7 : Value) :
    a.grownBy ((((((((w.setCell ⟨p, 0, none⟩ v0).setCell ⟨p, 1, none⟩ v1).setCell ⟨p, 2, none⟩ v2).setCell ⟨p, 3, none⟩ v3).setCell ⟨p, 4, none⟩ v4).setCell ⟨p, 5, none⟩ v5).setCell ⟨p, 6, none⟩ v6).setCell ⟨p, 7, none⟩ v7) (some q) :=
  only_setCell (only_setCell (only_setCell (only_setCell (only_setCell (only_setCell (only_setCell (only_setCell h (Or.inr hp) _) (Or.inr hp) _) (Or.inr hp) _) (Or.inr hp) _) (Or.inr hp) _) (Or.inr hp) _) (Or.inr hp) _) (Or.inr hp) _
/-- What was taken off stands in the result. -/
theorem kv_end {w2 : World} {p : Nat} {t : Array Value} {key : ByteArray} {A : Option Addr} {n c : Nat} {o x kd : Int} {nu : Nat} {it : Int} {tx : ByteArray} {R : Ending → World → Prop} (B : Blk w2 p 28 (verC key A n c o x kd nu it tx))
    (t2 : t[2]?.getD undef = .pointer (some ⟨p, 0, none⟩)) (h : R (.returned (verV key A n c o x kd nu it tx)) w2) :
    bodyPost Tryz.prog Tryz.f29 R .ret { tmps := t, defers := [] } w2 := by
  refine bodyPost_ret (v := verV key A n c o x kd nu it tx) ?_ rfl h
  obtain ⟨c0, c1, c2, c3, c4, c5, c6, c7⟩ := ver_cells B
  rw [results_one_cell rfl]
  simp [go_sem, t2, c0, c1, c2, c3, c4, c5, c6, c7, verV]

theorem kbytes_ext {X Y : ByteArray} (h : X.data.toList = Y.data.toList) : X = Y := ByteArray.ext (Array.toList_inj.1 h)
theorem krkey_some (p : Nat) (s : ByteArray) (k : List UInt8) (r : ByteArray) (w : World) (B : RdAt w p s) (hs : s.size ≤ 140737488351232) (hk : readK s.data.toList = some (k, r.data.toList)) :
    Calls Tryz.prog 103 #[.pointer (some ⟨p, 0, none⟩)] w fun e w' => e = .returned (.string ⟨k.toArray⟩) ∧ RdAt w' p r ∧ w.grownBy w' (some p) := by
  refine (krkey_any p s w B hs).mono ?_
  rintro e w' ⟨h, g⟩
  rcases h with ⟨k', r', h1, h2, h3, h4⟩ | ⟨h1, _⟩
  · rw [hk] at h1
    obtain ⟨rfl, e2⟩ := Prod.mk.inj (Option.some.inj h1)
    have e3 : r = r' := kbytes_ext e2
    subst e3
    exact ⟨h2, h4, g⟩
  · rw [hk] at h1; cases h1
theorem krkey_none (p : Nat) (s : ByteArray) (w : World) (B : RdAt w p s) (hs : s.size ≤ 140737488351232) (hk : readK s.data.toList = none) :
    Calls Tryz.prog 103 #[.pointer (some ⟨p, 0, none⟩)] w fun e w' => e = gaveUp ∧ w.grownBy w' (some p) := by
  refine (krkey_any p s w B hs).mono ?_
  rintro e w' ⟨h, g⟩
  rcases h with ⟨k', r', h1, h2, h3, h4⟩ | ⟨_, h2⟩
  · rw [hk] at h1; cases h1
  · exact ⟨h2, g⟩

/-- What stands between two steps: the reader's rest, the result's cells, the version's cells, what is left as it was. -/
structure Mid (w W : World) (p q : Nat) (r key : ByteArray) (A : Option Addr) (n c : Nat) (o x : Int) : Prop where
  rd : RdAt W p r
  res : Blk W w.heap.size 28 (verC ⟨#[]⟩ none 0 0 0 0 0 0 0 ⟨#[]⟩)
  ver : Blk W q 28 (verC key A n c o x 0 0 0 ⟨#[]⟩)
  gr : w.grownBy W (some p)
  lt : p < w.heap.size
  lq : w.heap.size < q
section
variable {w W W' : World} {p q : Nat} {r r' key : ByteArray} {A : Option Addr} {n c : Nat} {o x : Int}
theorem Mid.step (h : Mid w W p q r key A n c o x) (B : RdAt W' p r') (g : W.grownBy W' (some p)) : Mid w W' p q r' key A n c o x :=
  ⟨B, kblk_by h.res g (by have := h.lt; omega), kblk_by h.ver g (by have := h.lt; have := h.lq; omega), kgrow_trans h.gr g, h.lt, h.lq⟩
theorem Mid.far (h : Mid w W p q r key A n c o x) (j : Nat) (v : Value) : RdAt (W.setCell ⟨q, j, none⟩ v) p r ∧ Blk (W.setCell ⟨q, j, none⟩ v) w.heap.size 28 (verC ⟨#[]⟩ none 0 0 0 0 0 0 0 ⟨#[]⟩) ∧ w.grownBy (W.setCell ⟨q, j, none⟩ v) (some p) :=
  ⟨h.rd.far (by have := h.lt; have := h.lq; dsimp only; omega) _, h.res.far (by have := h.lq; dsimp only; omega) _, only_setCell h.gr (Or.inr (by have := h.lq; dsimp only; omega)) _⟩
theorem Mid.set2 (h : Mid w W p q r key A n c o x) (o' : Int) : Mid w (W.setCell ⟨q, 2, none⟩ (.int .i64 o')) p q r key A n c o' x :=
  ⟨(h.far 2 _).1, (h.far 2 _).2.1, ver_set_2 h.ver o', (h.far 2 _).2.2, h.lt, h.lq⟩
theorem Mid.set3 (h : Mid w W p q r key A n c o x) (x' : Int) : Mid w (W.setCell ⟨q, 3, none⟩ (.int .i64 x')) p q r key A n c o x' :=
  ⟨(h.far 3 _).1, (h.far 3 _).2.1, ver_set_3 h.ver x', (h.far 3 _).2.2, h.lt, h.lq⟩
theorem Mid.set1 (h : Mid w W p q r key A n c o x) (A' : Option Addr) (n' c' : Nat) : Mid w (W.setCell ⟨q, 1, none⟩ (.slice A' n' c')) p q r key A' n' c' o x :=
  ⟨(h.far 1 _).1, (h.far 1 _).2.1, ver_set_1 h.ver A' n' c', (h.far 1 _).2.2, h.lt, h.lq⟩
theorem Mid.below (h : Mid w W p q r key A n c o x) (hb : Below W.heap.size W W') : Mid w W' p q r key A n c o x :=
  ⟨h.rd.below hb h.rd.lt, h.res.below hb h.res.lt, h.ver.below hb h.ver.lt, kgrow_below h.gr hb, h.lt, h.lq⟩
end

set_option maxRecDepth 100000 in
set_option maxHeartbeats 4000000 in
theorem kver_nokey (p : Nat) (s : ByteArray) (w : World) (B : RdAt w p s) (hs : s.size ≤ 140737488351232) (hk : readK s.data.toList = none) :
    Calls Tryz.prog 29 #[.pointer (some ⟨p, 0, none⟩)] w fun e w' => e = gaveUp ∧ w.grownBy w' (some p) := by
  have hp : p < w.heap.size := B.lt
  have B0 : Hid (RdAt (w.alloc (.cells #[.string ⟨#[]⟩, .slice none 0 0, .int .i64 0, .int .i64 0, .int .i64 0, .float .f64 0, .int .i64 0, .string ⟨#[]⟩] 28)) p s) := B.alloc _
  have P0 : Hid (Blk (w.alloc (.cells #[.string ⟨#[]⟩, .slice none 0 0, .int .i64 0, .int .i64 0, .int .i64 0, .float .f64 0, .int .i64 0, .string ⟨#[]⟩] 28)) w.heap.size 28 (verC ⟨#[]⟩ none 0 0 0 0 0 0 0 ⟨#[]⟩)) := Blk.new w _ _
  have G0 : Hid (w.grownBy (w.alloc (.cells #[.string ⟨#[]⟩, .slice none 0 0, .int .i64 0, .int .i64 0, .int .i64 0, .float .f64 0, .int .i64 0, .string ⟨#[]⟩] 28)) (some p)) := only_alloc (kgrow_refl w _) _
  clear B
  have K := Lib.hid (krkey_none p s _ B0.out hs hk)
  clear hk
  go_enter Tryz.func29, Tryz.ntmps29
  go_wp2_with fail
  refine K.out.mono ?_
  rintro e w1 ⟨rfl, g1⟩
  go_wp2_with fail
  exact ⟨rfl, rfl, kgrow_trans G0.out g1⟩

set_option maxRecDepth 100000 in
set_option maxHeartbeats 4000000 in
theorem kver_short0 (p : Nat) (s : ByteArray) (w : World) (B : RdAt w p s) (hs : s.size ≤ 140737488351232) (k : List UInt8) (r : ByteArray) (hk : readK s.data.toList = some (k, r.data.toList)) (hr : r.size < 6) :
    Calls Tryz.prog 29 #[.pointer (some ⟨p, 0, none⟩)] w fun e w' => e = gaveUp ∧ w.grownBy w' (some p) := by
  have hrs : r.size ≤ s.size := by
    have h1 := congrArg List.length (readK_is hk)
    rw [List.length_append, ← str_size, ← str_size] at h1
    omega
  have hp : p < w.heap.size := B.lt
  have B0 : Hid (RdAt (w.alloc (.cells #[.string ⟨#[]⟩, .slice none 0 0, .int .i64 0, .int .i64 0, .int .i64 0, .float .f64 0, .int .i64 0, .string ⟨#[]⟩] 28)) p s) := B.alloc _
  have P0 : Hid (Blk (w.alloc (.cells #[.string ⟨#[]⟩, .slice none 0 0, .int .i64 0, .int .i64 0, .int .i64 0, .float .f64 0, .int .i64 0, .string ⟨#[]⟩] 28)) w.heap.size 28 (verC ⟨#[]⟩ none 0 0 0 0 0 0 0 ⟨#[]⟩)) := Blk.new w _ _
  have G0 : Hid (w.grownBy (w.alloc (.cells #[.string ⟨#[]⟩, .slice none 0 0, .int .i64 0, .int .i64 0, .int .i64 0, .float .f64 0, .int .i64 0, .string ⟨#[]⟩] 28)) (some p)) := only_alloc (kgrow_refl w _) _
  clear B
  have K := Lib.hid (krkey_some p s k r _ B0.out hs hk)
  have N1 := fun W (h : RdAt W p r) => Lib.hid (knum_short p r 6 W h (by omega))
  clear hk
  go_enter Tryz.func29, Tryz.ntmps29
  go_wp2_with fail
  refine K.out.mono ?_
  rintro e w1 ⟨rfl, R1, g1⟩
  have P1 := kblk_by P0.out g1 (by omega)
  have hq1 : w.heap.size < w1.heap.size := P1.lt
  have G1 := kgrow_trans G0.out g1
  have M0 : Hid (Mid w (w1.alloc (.cells #[.string ⟨k.toArray⟩, .slice none 0 0, .int .i64 0, .int .i64 0, .int .i64 0, .float .f64 0, .int .i64 0, .string ⟨#[]⟩] 28)) p w1.heap.size r ⟨k.toArray⟩ none 0 0 0 0) := ⟨R1.alloc _, P1.alloc _, Blk.new w1 _ _, only_alloc G1 _, hp, hq1⟩
  clear K B0 P0 G0 R1 P1 G1 g1
  have hst := run_sto_f64
  go_wp2_with fail
  clear hst
  generalize w1.alloc (.cells #[.string ⟨k.toArray⟩, .slice none 0 0, .int .i64 0, .int .i64 0, .int .i64 0, .float .f64 0, .int .i64 0, .string ⟨#[]⟩] 28) = W0 at *
  generalize w1.heap.size = q at *
  have M := M0
  clear M0
  refine (N1 _ M.out.rd).out.mono ?_
  rintro e w9 ⟨rfl, rfl⟩
  go_wp2_with fail
  exact ⟨rfl, rfl, M.out.gr⟩

set_option maxRecDepth 100000 in
set_option maxHeartbeats 4000000 in
theorem kver_short1 (p : Nat) (s : ByteArray) (w : World) (B : RdAt w p s) (hs : s.size ≤ 140737488351232) (k : List UInt8) (r : ByteArray) (hk : readK s.data.toList = some (k, r.data.toList)) (hr : 6 ≤ r.size) (hr2 : r.size < 7) :
    Calls Tryz.prog 29 #[.pointer (some ⟨p, 0, none⟩)] w fun e w' => e = gaveUp ∧ w.grownBy w' (some p) := by
  have hrs : r.size ≤ s.size := by
    have h1 := congrArg List.length (readK_is hk)
    rw [List.length_append, ← str_size, ← str_size] at h1
    omega
  have hp : p < w.heap.size := B.lt
  have B0 : Hid (RdAt (w.alloc (.cells #[.string ⟨#[]⟩, .slice none 0 0, .int .i64 0, .int .i64 0, .int .i64 0, .float .f64 0, .int .i64 0, .string ⟨#[]⟩] 28)) p s) := B.alloc _
  have P0 : Hid (Blk (w.alloc (.cells #[.string ⟨#[]⟩, .slice none 0 0, .int .i64 0, .int .i64 0, .int .i64 0, .float .f64 0, .int .i64 0, .string ⟨#[]⟩] 28)) w.heap.size 28 (verC ⟨#[]⟩ none 0 0 0 0 0 0 0 ⟨#[]⟩)) := Blk.new w _ _
  have G0 : Hid (w.grownBy (w.alloc (.cells #[.string ⟨#[]⟩, .slice none 0 0, .int .i64 0, .int .i64 0, .int .i64 0, .float .f64 0, .int .i64 0, .string ⟨#[]⟩] 28)) (some p)) := only_alloc (kgrow_refl w _) _
  clear B
  have K := Lib.hid (krkey_some p s k r _ B0.out hs hk)
  have N1 := fun W (h : RdAt W p r) => Lib.hid (knum_ok p r 6 W h (by omega) (by decide) (by decide) (by omega))
  obtain ⟨r1, hr1⟩ : ∃ r1, r.extract 6 r.size = r1 := ⟨_, rfl⟩
  rw [hr1] at N1
  have zr1 : r1.size + 6 = r.size := by rw [← hr1, ByteArray.size_extract]; omega
  have dr1 : r1.data.toList = r.data.toList.drop 6 := by rw [← hr1, drop_in]
  have N2 := fun W (h : RdAt W p r1) => Lib.hid (knum_short p r1 1 W h (by omega))
  obtain ⟨tn, htn⟩ : ∃ m : Nat, getL (r.data.toList.take 6) = m := ⟨_, rfl⟩
  have bt : tn ≤ 281474976710655 := by
    have h1 := getL_below (r.data.toList.take 6)
    rw [List.length_take, ← str_size, Nat.min_eq_left (by omega), htn] at h1
    omega
  rw [htn] at N1
  obtain ⟨TM, hTM⟩ : ∃ z : Int, 281474976710655 - (tn : Int) = z := ⟨_, rfl⟩
  have uTM : IntKind.i64.wrap (281474976710655 - (tn : Int)) = TM := (IntWalk.i64_in _ (by omega)).trans hTM
  have yTM : wrap64 (281474976710655 - (tn : Int)) = TM := (IntWalk.wrap64_in _ (by omega)).trans hTM
  clear hk
  go_enter Tryz.func29, Tryz.ntmps29
  go_wp2_with fail
  refine K.out.mono ?_
  rintro e w1 ⟨rfl, R1, g1⟩
  have P1 := kblk_by P0.out g1 (by omega)
  have hq1 : w.heap.size < w1.heap.size := P1.lt
  have G1 := kgrow_trans G0.out g1
  have M0 : Hid (Mid w (w1.alloc (.cells #[.string ⟨k.toArray⟩, .slice none 0 0, .int .i64 0, .int .i64 0, .int .i64 0, .float .f64 0, .int .i64 0, .string ⟨#[]⟩] 28)) p w1.heap.size r ⟨k.toArray⟩ none 0 0 0 0) := ⟨R1.alloc _, P1.alloc _, Blk.new w1 _ _, only_alloc G1 _, hp, hq1⟩
  clear K B0 P0 G0 R1 P1 G1 g1
  have hst := run_sto_f64
  go_wp2_with fail
  clear hst
  generalize w1.alloc (.cells #[.string ⟨k.toArray⟩, .slice none 0 0, .int .i64 0, .int .i64 0, .int .i64 0, .float .f64 0, .int .i64 0, .string ⟨#[]⟩] 28) = W0 at *
  generalize w1.heap.size = q at *
  have M := M0
  clear M0
  refine (N1 _ M.out.rd).out.mono ?_
  rintro e v1 ⟨rfl, R, g⟩
  have M1 := Lib.hid (M.out.step R g)
  clear R g M N1
  obtain ⟨c0, c1, c2, c3, c4, c5, c6, c7⟩ := ver_cells M1.out.ver
  have z2 := M1.out.ver.frozen 2
  have z3 := M1.out.ver.frozen 3
  have z1 := M1.out.ver.frozen 1
  go_wp2_with fail
  have M := M1
  clear M1 c0 c1 c2 c3 c4 c5 c6 c7 z1 z2 z3
  refine (N2 _ M.out.rd).out.mono ?_
  rintro e w9 ⟨rfl, rfl⟩
  go_wp2_with fail
  exact ⟨rfl, rfl, M.out.gr⟩

set_option maxRecDepth 100000 in
set_option maxHeartbeats 4000000 in
theorem kver_short2 (p : Nat) (s : ByteArray) (w : World) (B : RdAt w p s) (hs : s.size ≤ 140737488351232) (k : List UInt8) (r : ByteArray) (hk : readK s.data.toList = some (k, r.data.toList)) (hr : 7 ≤ r.size) (hr2 : r.size < 13) :
    Calls Tryz.prog 29 #[.pointer (some ⟨p, 0, none⟩)] w fun e w' => e = gaveUp ∧ w.grownBy w' (some p) := by
  have hrs : r.size ≤ s.size := by
    have h1 := congrArg List.length (readK_is hk)
    rw [List.length_append, ← str_size, ← str_size] at h1
    omega
  have hp : p < w.heap.size := B.lt
  have B0 : Hid (RdAt (w.alloc (.cells #[.string ⟨#[]⟩, .slice none 0 0, .int .i64 0, .int .i64 0, .int .i64 0, .float .f64 0, .int .i64 0, .string ⟨#[]⟩] 28)) p s) := B.alloc _
  have P0 : Hid (Blk (w.alloc (.cells #[.string ⟨#[]⟩, .slice none 0 0, .int .i64 0, .int .i64 0, .int .i64 0, .float .f64 0, .int .i64 0, .string ⟨#[]⟩] 28)) w.heap.size 28 (verC ⟨#[]⟩ none 0 0 0 0 0 0 0 ⟨#[]⟩)) := Blk.new w _ _
  have G0 : Hid (w.grownBy (w.alloc (.cells #[.string ⟨#[]⟩, .slice none 0 0, .int .i64 0, .int .i64 0, .int .i64 0, .float .f64 0, .int .i64 0, .string ⟨#[]⟩] 28)) (some p)) := only_alloc (kgrow_refl w _) _
  clear B
  have K := Lib.hid (krkey_some p s k r _ B0.out hs hk)
  have N1 := fun W (h : RdAt W p r) => Lib.hid (knum_ok p r 6 W h (by omega) (by decide) (by decide) (by omega))
  obtain ⟨r1, hr1⟩ : ∃ r1, r.extract 6 r.size = r1 := ⟨_, rfl⟩
  rw [hr1] at N1
  have zr1 : r1.size + 6 = r.size := by rw [← hr1, ByteArray.size_extract]; omega
  have dr1 : r1.data.toList = r.data.toList.drop 6 := by rw [← hr1, drop_in]
  have N2 := fun W (h : RdAt W p r1) => Lib.hid (knum_ok p r1 1 W h (by omega) (by decide) (by decide) (by omega))
  obtain ⟨r2, hr2⟩ : ∃ r2, r1.extract 1 r1.size = r2 := ⟨_, rfl⟩
  rw [hr2] at N2
  have zr2 : r2.size + 1 = r1.size := by rw [← hr2, ByteArray.size_extract]; omega
  have dr2 : r2.data.toList = r1.data.toList.drop 1 := by rw [← hr2, drop_in]
  have N3 := fun W (h : RdAt W p r2) => Lib.hid (knum_short p r2 6 W h (by omega))
  obtain ⟨tn, htn⟩ : ∃ m : Nat, getL (r.data.toList.take 6) = m := ⟨_, rfl⟩
  have bt : tn ≤ 281474976710655 := by
    have h1 := getL_below (r.data.toList.take 6)
    rw [List.length_take, ← str_size, Nat.min_eq_left (by omega), htn] at h1
    omega
  rw [htn] at N1
  obtain ⟨TM, hTM⟩ : ∃ z : Int, 281474976710655 - (tn : Int) = z := ⟨_, rfl⟩
  have uTM : IntKind.i64.wrap (281474976710655 - (tn : Int)) = TM := (IntWalk.i64_in _ (by omega)).trans hTM
  have yTM : wrap64 (281474976710655 - (tn : Int)) = TM := (IntWalk.wrap64_in _ (by omega)).trans hTM
  obtain ⟨on, hon⟩ : ∃ m : Nat, getL (r1.data.toList.take 1) = m := ⟨_, rfl⟩
  have bo : on ≤ 255 := by
    have h1 := getL_below (r1.data.toList.take 1)
    rw [List.length_take, ← str_size, Nat.min_eq_left (by omega), hon] at h1
    omega
  rw [hon] at N2
  obtain ⟨O, hO⟩ : ∃ z : Int, 255 - (on : Int) = z := ⟨_, rfl⟩
  have uO : IntKind.i64.wrap (255 - (on : Int)) = O := (IntWalk.i64_in _ (by omega)).trans hO
  have yO : wrap64 (255 - (on : Int)) = O := (IntWalk.wrap64_in _ (by omega)).trans hO
  clear hk
  go_enter Tryz.func29, Tryz.ntmps29
  go_wp2_with fail
  refine K.out.mono ?_
  rintro e w1 ⟨rfl, R1, g1⟩
  have P1 := kblk_by P0.out g1 (by omega)
  have hq1 : w.heap.size < w1.heap.size := P1.lt
  have G1 := kgrow_trans G0.out g1
  have M0 : Hid (Mid w (w1.alloc (.cells #[.string ⟨k.toArray⟩, .slice none 0 0, .int .i64 0, .int .i64 0, .int .i64 0, .float .f64 0, .int .i64 0, .string ⟨#[]⟩] 28)) p w1.heap.size r ⟨k.toArray⟩ none 0 0 0 0) := ⟨R1.alloc _, P1.alloc _, Blk.new w1 _ _, only_alloc G1 _, hp, hq1⟩
  clear K B0 P0 G0 R1 P1 G1 g1
  have hst := run_sto_f64
  go_wp2_with fail
  clear hst
  generalize w1.alloc (.cells #[.string ⟨k.toArray⟩, .slice none 0 0, .int .i64 0, .int .i64 0, .int .i64 0, .float .f64 0, .int .i64 0, .string ⟨#[]⟩] 28) = W0 at *
  generalize w1.heap.size = q at *
  have M := M0
  clear M0
  refine (N1 _ M.out.rd).out.mono ?_
  rintro e v1 ⟨rfl, R, g⟩
  have M1 := Lib.hid (M.out.step R g)
  clear R g M N1
  obtain ⟨c0, c1, c2, c3, c4, c5, c6, c7⟩ := ver_cells M1.out.ver
  have z2 := M1.out.ver.frozen 2
  have z3 := M1.out.ver.frozen 3
  have z1 := M1.out.ver.frozen 1
  go_wp2_with fail
  have M := M1
  clear M1 c0 c1 c2 c3 c4 c5 c6 c7 z1 z2 z3
  refine (N2 _ M.out.rd).out.mono ?_
  rintro e v2 ⟨rfl, R, g⟩
  have M1 := Lib.hid (M.out.step R g)
  clear R g M N2
  obtain ⟨c0, c1, c2, c3, c4, c5, c6, c7⟩ := ver_cells M1.out.ver
  have z2 := M1.out.ver.frozen 2
  have z3 := M1.out.ver.frozen 3
  have z1 := M1.out.ver.frozen 1
  go_wp2_with fail
  have M := Lib.hid (M1.out.set2 O)
  clear M1 c0 c1 c2 c3 c4 c5 c6 c7 z1 z2 z3
  refine (N3 _ M.out.rd).out.mono ?_
  rintro e w9 ⟨rfl, rfl⟩
  go_wp2_with fail
  exact ⟨rfl, rfl, M.out.gr⟩

set_option maxRecDepth 100000 in
set_option maxHeartbeats 4000000 in
theorem kver_novec (p : Nat) (s : ByteArray) (w : World) (B : RdAt w p s) (hs : s.size ≤ 140737488351232) (k : List UInt8) (r : ByteArray) (hk : readK s.data.toList = some (k, r.data.toList)) (hr : 13 ≤ r.size) (r0 : ByteArray) (h0 : r0.data.toList = r.data.toList.drop 13) (xs : List Int) (n er : Int) (hT : getT r0 = (xs, n, er)) (hE : er ≠ 0) :
    Calls Tryz.prog 29 #[.pointer (some ⟨p, 0, none⟩)] w fun e w' => e = gaveUp ∧ w.grownBy w' (some p) := by
  have hrs : r.size ≤ s.size := by
    have h1 := congrArg List.length (readK_is hk)
    rw [List.length_append, ← str_size, ← str_size] at h1
    omega
  have hp : p < w.heap.size := B.lt
  have B0 : Hid (RdAt (w.alloc (.cells #[.string ⟨#[]⟩, .slice none 0 0, .int .i64 0, .int .i64 0, .int .i64 0, .float .f64 0, .int .i64 0, .string ⟨#[]⟩] 28)) p s) := B.alloc _
  have P0 : Hid (Blk (w.alloc (.cells #[.string ⟨#[]⟩, .slice none 0 0, .int .i64 0, .int .i64 0, .int .i64 0, .float .f64 0, .int .i64 0, .string ⟨#[]⟩] 28)) w.heap.size 28 (verC ⟨#[]⟩ none 0 0 0 0 0 0 0 ⟨#[]⟩)) := Blk.new w _ _
  have G0 : Hid (w.grownBy (w.alloc (.cells #[.string ⟨#[]⟩, .slice none 0 0, .int .i64 0, .int .i64 0, .int .i64 0, .float .f64 0, .int .i64 0, .string ⟨#[]⟩] 28)) (some p)) := only_alloc (kgrow_refl w _) _
  clear B
  have K := Lib.hid (krkey_some p s k r _ B0.out hs hk)
  have N1 := fun W (h : RdAt W p r) => Lib.hid (knum_ok p r 6 W h (by omega) (by decide) (by decide) (by omega))
  obtain ⟨r1, hr1⟩ : ∃ r1, r.extract 6 r.size = r1 := ⟨_, rfl⟩
  rw [hr1] at N1
  have zr1 : r1.size + 6 = r.size := by rw [← hr1, ByteArray.size_extract]; omega
  have dr1 : r1.data.toList = r.data.toList.drop 6 := by rw [← hr1, drop_in]
  have N2 := fun W (h : RdAt W p r1) => Lib.hid (knum_ok p r1 1 W h (by omega) (by decide) (by decide) (by omega))
  obtain ⟨r2, hr2⟩ : ∃ r2, r1.extract 1 r1.size = r2 := ⟨_, rfl⟩
  rw [hr2] at N2
  have zr2 : r2.size + 1 = r1.size := by rw [← hr2, ByteArray.size_extract]; omega
  have dr2 : r2.data.toList = r1.data.toList.drop 1 := by rw [← hr2, drop_in]
  have N3 := fun W (h : RdAt W p r2) => Lib.hid (knum_ok p r2 6 W h (by omega) (by decide) (by decide) (by omega))
  obtain ⟨r3, hr3⟩ : ∃ r3, r2.extract 6 r2.size = r3 := ⟨_, rfl⟩
  rw [hr3] at N3
  have zr3 : r3.size + 6 = r2.size := by rw [← hr3, ByteArray.size_extract]; omega
  have dr3 : r3.data.toList = r2.data.toList.drop 6 := by rw [← hr3, drop_in]
  obtain ⟨tn, htn⟩ : ∃ m : Nat, getL (r.data.toList.take 6) = m := ⟨_, rfl⟩
  have bt : tn ≤ 281474976710655 := by
    have h1 := getL_below (r.data.toList.take 6)
    rw [List.length_take, ← str_size, Nat.min_eq_left (by omega), htn] at h1
    omega
  rw [htn] at N1
  obtain ⟨TM, hTM⟩ : ∃ z : Int, 281474976710655 - (tn : Int) = z := ⟨_, rfl⟩
  have uTM : IntKind.i64.wrap (281474976710655 - (tn : Int)) = TM := (IntWalk.i64_in _ (by omega)).trans hTM
  have yTM : wrap64 (281474976710655 - (tn : Int)) = TM := (IntWalk.wrap64_in _ (by omega)).trans hTM
  obtain ⟨on, hon⟩ : ∃ m : Nat, getL (r1.data.toList.take 1) = m := ⟨_, rfl⟩
  have bo : on ≤ 255 := by
    have h1 := getL_below (r1.data.toList.take 1)
    rw [List.length_take, ← str_size, Nat.min_eq_left (by omega), hon] at h1
    omega
  rw [hon] at N2
  obtain ⟨O, hO⟩ : ∃ z : Int, 255 - (on : Int) = z := ⟨_, rfl⟩
  have uO : IntKind.i64.wrap (255 - (on : Int)) = O := (IntWalk.i64_in _ (by omega)).trans hO
  have yO : wrap64 (255 - (on : Int)) = O := (IntWalk.wrap64_in _ (by omega)).trans hO
  obtain ⟨xn, hxn⟩ : ∃ m : Nat, getL (r2.data.toList.take 6) = m := ⟨_, rfl⟩
  have bx : xn ≤ 281474976710655 := by
    have h1 := getL_below (r2.data.toList.take 6)
    rw [List.length_take, ← str_size, Nat.min_eq_left (by omega), hxn] at h1
    omega
  rw [hxn] at N3
  obtain ⟨X, hX⟩ : ∃ z : Int, 281474976710655 - (xn : Int) = z := ⟨_, rfl⟩
  have uX : IntKind.i64.wrap (281474976710655 - (xn : Int)) = X := (IntWalk.i64_in _ (by omega)).trans hX
  have yX : wrap64 (281474976710655 - (xn : Int)) = X := (IntWalk.wrap64_in _ (by omega)).trans hX
  have e3 : r3 = r0 := kbytes_ext (by rw [dr3, dr2, dr1, h0, List.drop_drop, List.drop_drop])
  have V := fun W (h : RdAt W p r3) => Lib.hid (kvec_bad p r3 xs n er W h (by omega) (by rw [e3]; exact hT) hE)
  clear hk hT hE h0 e3 dr1 dr2 dr3
  go_enter Tryz.func29, Tryz.ntmps29
  go_wp2_with fail
  refine K.out.mono ?_
  rintro e w1 ⟨rfl, R1, g1⟩
  have P1 := kblk_by P0.out g1 (by omega)
  have hq1 : w.heap.size < w1.heap.size := P1.lt
  have G1 := kgrow_trans G0.out g1
  have M0 : Hid (Mid w (w1.alloc (.cells #[.string ⟨k.toArray⟩, .slice none 0 0, .int .i64 0, .int .i64 0, .int .i64 0, .float .f64 0, .int .i64 0, .string ⟨#[]⟩] 28)) p w1.heap.size r ⟨k.toArray⟩ none 0 0 0 0) := ⟨R1.alloc _, P1.alloc _, Blk.new w1 _ _, only_alloc G1 _, hp, hq1⟩
  clear K B0 P0 G0 R1 P1 G1 g1
  have hst := run_sto_f64
  go_wp2_with fail
  clear hst
  generalize w1.alloc (.cells #[.string ⟨k.toArray⟩, .slice none 0 0, .int .i64 0, .int .i64 0, .int .i64 0, .float .f64 0, .int .i64 0, .string ⟨#[]⟩] 28) = W0 at *
  generalize w1.heap.size = q at *
  have M := M0
  clear M0
  refine (N1 _ M.out.rd).out.mono ?_
  rintro e v1 ⟨rfl, R, g⟩
  have M1 := Lib.hid (M.out.step R g)
  clear R g M N1
  obtain ⟨c0, c1, c2, c3, c4, c5, c6, c7⟩ := ver_cells M1.out.ver
  have z2 := M1.out.ver.frozen 2
  have z3 := M1.out.ver.frozen 3
  have z1 := M1.out.ver.frozen 1
  go_wp2_with fail
  have M := M1
  clear M1 c0 c1 c2 c3 c4 c5 c6 c7 z1 z2 z3
  refine (N2 _ M.out.rd).out.mono ?_
  rintro e v2 ⟨rfl, R, g⟩
  have M1 := Lib.hid (M.out.step R g)
  clear R g M N2
  obtain ⟨c0, c1, c2, c3, c4, c5, c6, c7⟩ := ver_cells M1.out.ver
  have z2 := M1.out.ver.frozen 2
  have z3 := M1.out.ver.frozen 3
  have z1 := M1.out.ver.frozen 1
  go_wp2_with fail
  have M := Lib.hid (M1.out.set2 O)
  clear M1 c0 c1 c2 c3 c4 c5 c6 c7 z1 z2 z3
  refine (N3 _ M.out.rd).out.mono ?_
  rintro e v3 ⟨rfl, R, g⟩
  have M1 := Lib.hid (M.out.step R g)
  clear R g M N3
  obtain ⟨c0, c1, c2, c3, c4, c5, c6, c7⟩ := ver_cells M1.out.ver
  have z2 := M1.out.ver.frozen 2
  have z3 := M1.out.ver.frozen 3
  have z1 := M1.out.ver.frozen 1
  go_wp2_with fail
  have M := Lib.hid (M1.out.set3 X)
  clear M1 c0 c1 c2 c3 c4 c5 c6 c7 z1 z2 z3
  refine (V _ M.out.rd).out.mono ?_
  rintro e w9 ⟨rfl, hb⟩
  have g9 := kgrow_below M.out.gr hb
  go_wp2_with fail
  exact ⟨rfl, rfl, g9⟩

set_option maxRecDepth 100000 in
set_option maxHeartbeats 4000000 in
theorem kver_more (p : Nat) (s : ByteArray) (w : World) (B : RdAt w p s) (hs : s.size ≤ 140737488351232) (k : List UInt8) (r : ByteArray) (hk : readK s.data.toList = some (k, r.data.toList)) (hr : 13 ≤ r.size) (r0 : ByteArray) (h0 : r0.data.toList = r.data.toList.drop 13) (xs : List Int) (kk : Nat) (hT : getT r0 = (xs, (kk : Int), 0)) (hkk : kk ≤ r0.size) (hne : kk < r0.size) :
    Calls Tryz.prog 29 #[.pointer (some ⟨p, 0, none⟩)] w fun e w' => e = gaveUp ∧ w.grownBy w' (some p) := by
  have hrs : r.size ≤ s.size := by
    have h1 := congrArg List.length (readK_is hk)
    rw [List.length_append, ← str_size, ← str_size] at h1
    omega
  have hp : p < w.heap.size := B.lt
  have B0 : Hid (RdAt (w.alloc (.cells #[.string ⟨#[]⟩, .slice none 0 0, .int .i64 0, .int .i64 0, .int .i64 0, .float .f64 0, .int .i64 0, .string ⟨#[]⟩] 28)) p s) := B.alloc _
  have P0 : Hid (Blk (w.alloc (.cells #[.string ⟨#[]⟩, .slice none 0 0, .int .i64 0, .int .i64 0, .int .i64 0, .float .f64 0, .int .i64 0, .string ⟨#[]⟩] 28)) w.heap.size 28 (verC ⟨#[]⟩ none 0 0 0 0 0 0 0 ⟨#[]⟩)) := Blk.new w _ _
  have G0 : Hid (w.grownBy (w.alloc (.cells #[.string ⟨#[]⟩, .slice none 0 0, .int .i64 0, .int .i64 0, .int .i64 0, .float .f64 0, .int .i64 0, .string ⟨#[]⟩] 28)) (some p)) := only_alloc (kgrow_refl w _) _
  clear B
  have K := Lib.hid (krkey_some p s k r _ B0.out hs hk)
  have N1 := fun W (h : RdAt W p r) => Lib.hid (knum_ok p r 6 W h (by omega) (by decide) (by decide) (by omega))
  obtain ⟨r1, hr1⟩ : ∃ r1, r.extract 6 r.size = r1 := ⟨_, rfl⟩
  rw [hr1] at N1
  have zr1 : r1.size + 6 = r.size := by rw [← hr1, ByteArray.size_extract]; omega
  have dr1 : r1.data.toList = r.data.toList.drop 6 := by rw [← hr1, drop_in]
  have N2 := fun W (h : RdAt W p r1) => Lib.hid (knum_ok p r1 1 W h (by omega) (by decide) (by decide) (by omega))
  obtain ⟨r2, hr2⟩ : ∃ r2, r1.extract 1 r1.size = r2 := ⟨_, rfl⟩
  rw [hr2] at N2
  have zr2 : r2.size + 1 = r1.size := by rw [← hr2, ByteArray.size_extract]; omega
  have dr2 : r2.data.toList = r1.data.toList.drop 1 := by rw [← hr2, drop_in]
  have N3 := fun W (h : RdAt W p r2) => Lib.hid (knum_ok p r2 6 W h (by omega) (by decide) (by decide) (by omega))
  obtain ⟨r3, hr3⟩ : ∃ r3, r2.extract 6 r2.size = r3 := ⟨_, rfl⟩
  rw [hr3] at N3
  have zr3 : r3.size + 6 = r2.size := by rw [← hr3, ByteArray.size_extract]; omega
  have dr3 : r3.data.toList = r2.data.toList.drop 6 := by rw [← hr3, drop_in]
  obtain ⟨tn, htn⟩ : ∃ m : Nat, getL (r.data.toList.take 6) = m := ⟨_, rfl⟩
  have bt : tn ≤ 281474976710655 := by
    have h1 := getL_below (r.data.toList.take 6)
    rw [List.length_take, ← str_size, Nat.min_eq_left (by omega), htn] at h1
    omega
  rw [htn] at N1
  obtain ⟨TM, hTM⟩ : ∃ z : Int, 281474976710655 - (tn : Int) = z := ⟨_, rfl⟩
  have uTM : IntKind.i64.wrap (281474976710655 - (tn : Int)) = TM := (IntWalk.i64_in _ (by omega)).trans hTM
  have yTM : wrap64 (281474976710655 - (tn : Int)) = TM := (IntWalk.wrap64_in _ (by omega)).trans hTM
  obtain ⟨on, hon⟩ : ∃ m : Nat, getL (r1.data.toList.take 1) = m := ⟨_, rfl⟩
  have bo : on ≤ 255 := by
    have h1 := getL_below (r1.data.toList.take 1)
    rw [List.length_take, ← str_size, Nat.min_eq_left (by omega), hon] at h1
    omega
  rw [hon] at N2
  obtain ⟨O, hO⟩ : ∃ z : Int, 255 - (on : Int) = z := ⟨_, rfl⟩
  have uO : IntKind.i64.wrap (255 - (on : Int)) = O := (IntWalk.i64_in _ (by omega)).trans hO
  have yO : wrap64 (255 - (on : Int)) = O := (IntWalk.wrap64_in _ (by omega)).trans hO
  obtain ⟨xn, hxn⟩ : ∃ m : Nat, getL (r2.data.toList.take 6) = m := ⟨_, rfl⟩
  have bx : xn ≤ 281474976710655 := by
    have h1 := getL_below (r2.data.toList.take 6)
    rw [List.length_take, ← str_size, Nat.min_eq_left (by omega), hxn] at h1
    omega
  rw [hxn] at N3
  obtain ⟨X, hX⟩ : ∃ z : Int, 281474976710655 - (xn : Int) = z := ⟨_, rfl⟩
  have uX : IntKind.i64.wrap (281474976710655 - (xn : Int)) = X := (IntWalk.i64_in _ (by omega)).trans hX
  have yX : wrap64 (281474976710655 - (xn : Int)) = X := (IntWalk.wrap64_in _ (by omega)).trans hX
  have e3 : r3 = r0 := kbytes_ext (by rw [dr3, dr2, dr1, h0, List.drop_drop, List.drop_drop])
  have V := fun W (h : RdAt W p r3) => Lib.hid (kvec_ok p r3 xs kk W h (by omega) (by rw [e3]; exact hT) (by rw [e3]; exact hkk))
  have hxs := getT_ok r0
  rw [hT] at hxs
  obtain ⟨hx1, hx2⟩ := hxs
  have Hx2 := Lib.hid hx2
  obtain ⟨r4, h4⟩ : ∃ r4, r3.extract kk r3.size = r4 := ⟨_, rfl⟩
  rw [h4] at V
  have z4 : r4.size + kk = r0.size := by rw [← h4, e3, ByteArray.size_extract]; omega
  have hks : (⟨k.toArray⟩ : ByteArray).size ≤ 9223372036854775807 := by
    have h1 := congrArg List.length (readK_is hk)
    rw [List.length_append, ← str_size, ← str_size] at h1
    have h2 := (headL_two k).2.1
    rw [size_mk]
    omega
  have w5 : (Lit.int .i64 O).wf = true := by rw [← hO]; exact WalkArith.wf_i64 ⟨by omega, by omega⟩
  have w6 : (Lit.int .i64 X).wf = true := by rw [← hX]; exact WalkArith.wf_i64 ⟨by omega, by omega⟩
  clear hk hT h0 dr1 dr2 dr3
  have n4 : (r4.toList == []) = false := by
    rw [Lib.toList_data, beq_eq_false_iff_ne]
    intro h
    have h1 : r4.data.toList.length = 0 := by rw [h]; rfl
    rw [← str_size] at h1
    omega
  clear z4 hne hkk
  go_enter Tryz.func29, Tryz.ntmps29
  go_wp2_with fail
  refine K.out.mono ?_
  rintro e w1 ⟨rfl, R1, g1⟩
  have P1 := kblk_by P0.out g1 (by omega)
  have hq1 : w.heap.size < w1.heap.size := P1.lt
  have G1 := kgrow_trans G0.out g1
  have M0 : Hid (Mid w (w1.alloc (.cells #[.string ⟨k.toArray⟩, .slice none 0 0, .int .i64 0, .int .i64 0, .int .i64 0, .float .f64 0, .int .i64 0, .string ⟨#[]⟩] 28)) p w1.heap.size r ⟨k.toArray⟩ none 0 0 0 0) := ⟨R1.alloc _, P1.alloc _, Blk.new w1 _ _, only_alloc G1 _, hp, hq1⟩
  clear K B0 P0 G0 R1 P1 G1 g1
  have hst := run_sto_f64
  go_wp2_with fail
  clear hst
  generalize w1.alloc (.cells #[.string ⟨k.toArray⟩, .slice none 0 0, .int .i64 0, .int .i64 0, .int .i64 0, .float .f64 0, .int .i64 0, .string ⟨#[]⟩] 28) = W0 at *
  generalize w1.heap.size = q at *
  have M := M0
  clear M0
  refine (N1 _ M.out.rd).out.mono ?_
  rintro e v1 ⟨rfl, R, g⟩
  have M1 := Lib.hid (M.out.step R g)
  clear R g M N1
  obtain ⟨c0, c1, c2, c3, c4, c5, c6, c7⟩ := ver_cells M1.out.ver
  have z2 := M1.out.ver.frozen 2
  have z3 := M1.out.ver.frozen 3
  have z1 := M1.out.ver.frozen 1
  go_wp2_with fail
  have M := M1
  clear M1 c0 c1 c2 c3 c4 c5 c6 c7 z1 z2 z3
  refine (N2 _ M.out.rd).out.mono ?_
  rintro e v2 ⟨rfl, R, g⟩
  have M1 := Lib.hid (M.out.step R g)
  clear R g M N2
  obtain ⟨c0, c1, c2, c3, c4, c5, c6, c7⟩ := ver_cells M1.out.ver
  have z2 := M1.out.ver.frozen 2
  have z3 := M1.out.ver.frozen 3
  have z1 := M1.out.ver.frozen 1
  go_wp2_with fail
  have M := Lib.hid (M1.out.set2 O)
  clear M1 c0 c1 c2 c3 c4 c5 c6 c7 z1 z2 z3
  refine (N3 _ M.out.rd).out.mono ?_
  rintro e v3 ⟨rfl, R, g⟩
  have M1 := Lib.hid (M.out.step R g)
  clear R g M N3
  obtain ⟨c0, c1, c2, c3, c4, c5, c6, c7⟩ := ver_cells M1.out.ver
  have z2 := M1.out.ver.frozen 2
  have z3 := M1.out.ver.frozen 3
  have z1 := M1.out.ver.frozen 1
  go_wp2_with fail
  have M := Lib.hid (M1.out.set3 X)
  clear M1 c0 c1 c2 c3 c4 c5 c6 c7 z1 z2 z3
  generalize v3.setCell ⟨q, 3, none⟩ (.int .i64 X) = W3 at *
  refine (V _ M.out.rd).out.mono ?_
  rintro e w9 ⟨⟨v, rfl, hN⟩, R9, g9⟩
  have M1 := Lib.hid (M.out.step R9 g9)
  have hlo : w.heap.size + 1 ≤ W3.heap.size := Nat.le_trans M.out.lq (Nat.le_of_lt M.out.ver.lt)
  have hqv : q < W3.heap.size := M.out.ver.lt
  obtain ⟨A, cp, rfl, -, -⟩ := hN.ints Hx2.out
  have HN : Hid (Nums (w9.setCell ⟨q, 1, none⟩ (.slice A xs.length cp)) (w.heap.size + 1) 3 (.slice A xs.length cp) xs) := Nums.low (show Nums _ _ _ _ _ from ownsRow_setCell_below hN (a := ⟨q, 1, none⟩) hqv (.slice A xs.length cp)) hlo
  have M9 := Lib.hid (M1.out.set1 A xs.length cp)
  obtain ⟨c0, c1, c2, c3, c4, c5, c6, c7⟩ := ver_cells M1.out.ver
  have z1 := M1.out.ver.frozen 1
  have d0 : (w9.setCell ⟨q, 1, none⟩ (.slice A xs.length cp)).cell? ⟨p, 0, none⟩ = some (.string r4) := M9.out.rd.cell 0
  clear hN R9 g9 M V hlo hqv M1
  go_wp2_with fail
  exact ⟨rfl, rfl, M9.out.gr⟩

set_option maxRecDepth 100000 in
set_option maxHeartbeats 4000000 in
theorem kver_bad (p : Nat) (s : ByteArray) (w : World) (B : RdAt w p s) (hs : s.size ≤ 140737488351232) (k : List UInt8) (r : ByteArray) (hk : readK s.data.toList = some (k, r.data.toList)) (hr : 13 ≤ r.size) (r0 : ByteArray) (h0 : r0.data.toList = r.data.toList.drop 13) (xs : List Int) (kk : Nat) (hT : getT r0 = (xs, (kk : Int), 0)) (hkk : kk = r0.size) (hq : okV k xs (255 - (getL ((r.data.toList.drop 6).take 1) : Int)) (281474976710655 - (getL ((r.data.toList.drop 7).take 6) : Int)) = false) :
    Calls Tryz.prog 29 #[.pointer (some ⟨p, 0, none⟩)] w fun e w' => e = gaveUp ∧ w.grownBy w' (some p) := by
  have hrs : r.size ≤ s.size := by
    have h1 := congrArg List.length (readK_is hk)
    rw [List.length_append, ← str_size, ← str_size] at h1
    omega
  have hp : p < w.heap.size := B.lt
  have B0 : Hid (RdAt (w.alloc (.cells #[.string ⟨#[]⟩, .slice none 0 0, .int .i64 0, .int .i64 0, .int .i64 0, .float .f64 0, .int .i64 0, .string ⟨#[]⟩] 28)) p s) := B.alloc _
  have P0 : Hid (Blk (w.alloc (.cells #[.string ⟨#[]⟩, .slice none 0 0, .int .i64 0, .int .i64 0, .int .i64 0, .float .f64 0, .int .i64 0, .string ⟨#[]⟩] 28)) w.heap.size 28 (verC ⟨#[]⟩ none 0 0 0 0 0 0 0 ⟨#[]⟩)) := Blk.new w _ _
  have G0 : Hid (w.grownBy (w.alloc (.cells #[.string ⟨#[]⟩, .slice none 0 0, .int .i64 0, .int .i64 0, .int .i64 0, .float .f64 0, .int .i64 0, .string ⟨#[]⟩] 28)) (some p)) := only_alloc (kgrow_refl w _) _
  clear B
  have K := Lib.hid (krkey_some p s k r _ B0.out hs hk)
  have N1 := fun W (h : RdAt W p r) => Lib.hid (knum_ok p r 6 W h (by omega) (by decide) (by decide) (by omega))
  obtain ⟨r1, hr1⟩ : ∃ r1, r.extract 6 r.size = r1 := ⟨_, rfl⟩
  rw [hr1] at N1
  have zr1 : r1.size + 6 = r.size := by rw [← hr1, ByteArray.size_extract]; omega
  have dr1 : r1.data.toList = r.data.toList.drop 6 := by rw [← hr1, drop_in]
  have N2 := fun W (h : RdAt W p r1) => Lib.hid (knum_ok p r1 1 W h (by omega) (by decide) (by decide) (by omega))
  obtain ⟨r2, hr2⟩ : ∃ r2, r1.extract 1 r1.size = r2 := ⟨_, rfl⟩
  rw [hr2] at N2
  have zr2 : r2.size + 1 = r1.size := by rw [← hr2, ByteArray.size_extract]; omega
  have dr2 : r2.data.toList = r1.data.toList.drop 1 := by rw [← hr2, drop_in]
  have N3 := fun W (h : RdAt W p r2) => Lib.hid (knum_ok p r2 6 W h (by omega) (by decide) (by decide) (by omega))
  obtain ⟨r3, hr3⟩ : ∃ r3, r2.extract 6 r2.size = r3 := ⟨_, rfl⟩
  rw [hr3] at N3
  have zr3 : r3.size + 6 = r2.size := by rw [← hr3, ByteArray.size_extract]; omega
  have dr3 : r3.data.toList = r2.data.toList.drop 6 := by rw [← hr3, drop_in]
  obtain ⟨tn, htn⟩ : ∃ m : Nat, getL (r.data.toList.take 6) = m := ⟨_, rfl⟩
  have bt : tn ≤ 281474976710655 := by
    have h1 := getL_below (r.data.toList.take 6)
    rw [List.length_take, ← str_size, Nat.min_eq_left (by omega), htn] at h1
    omega
  rw [htn] at N1
  obtain ⟨TM, hTM⟩ : ∃ z : Int, 281474976710655 - (tn : Int) = z := ⟨_, rfl⟩
  have uTM : IntKind.i64.wrap (281474976710655 - (tn : Int)) = TM := (IntWalk.i64_in _ (by omega)).trans hTM
  have yTM : wrap64 (281474976710655 - (tn : Int)) = TM := (IntWalk.wrap64_in _ (by omega)).trans hTM
  obtain ⟨on, hon⟩ : ∃ m : Nat, getL (r1.data.toList.take 1) = m := ⟨_, rfl⟩
  have bo : on ≤ 255 := by
    have h1 := getL_below (r1.data.toList.take 1)
    rw [List.length_take, ← str_size, Nat.min_eq_left (by omega), hon] at h1
    omega
  rw [hon] at N2
  obtain ⟨O, hO⟩ : ∃ z : Int, 255 - (on : Int) = z := ⟨_, rfl⟩
  have uO : IntKind.i64.wrap (255 - (on : Int)) = O := (IntWalk.i64_in _ (by omega)).trans hO
  have yO : wrap64 (255 - (on : Int)) = O := (IntWalk.wrap64_in _ (by omega)).trans hO
  obtain ⟨xn, hxn⟩ : ∃ m : Nat, getL (r2.data.toList.take 6) = m := ⟨_, rfl⟩
  have bx : xn ≤ 281474976710655 := by
    have h1 := getL_below (r2.data.toList.take 6)
    rw [List.length_take, ← str_size, Nat.min_eq_left (by omega), hxn] at h1
    omega
  rw [hxn] at N3
  obtain ⟨X, hX⟩ : ∃ z : Int, 281474976710655 - (xn : Int) = z := ⟨_, rfl⟩
  have uX : IntKind.i64.wrap (281474976710655 - (xn : Int)) = X := (IntWalk.i64_in _ (by omega)).trans hX
  have yX : wrap64 (281474976710655 - (xn : Int)) = X := (IntWalk.wrap64_in _ (by omega)).trans hX
  have e3 : r3 = r0 := kbytes_ext (by rw [dr3, dr2, dr1, h0, List.drop_drop, List.drop_drop])
  have V := fun W (h : RdAt W p r3) => Lib.hid (kvec_ok p r3 xs kk W h (by omega) (by rw [e3]; exact hT) (by rw [e3]; exact Nat.le_of_eq hkk))
  have hxs := getT_ok r0
  rw [hT] at hxs
  obtain ⟨hx1, hx2⟩ := hxs
  have Hx2 := Lib.hid hx2
  obtain ⟨r4, h4⟩ : ∃ r4, r3.extract kk r3.size = r4 := ⟨_, rfl⟩
  rw [h4] at V
  have z4 : r4.size + kk = r0.size := by rw [← h4, e3, ByteArray.size_extract]; omega
  have hks : (⟨k.toArray⟩ : ByteArray).size ≤ 9223372036854775807 := by
    have h1 := congrArg List.length (readK_is hk)
    rw [List.length_append, ← str_size, ← str_size] at h1
    have h2 := (headL_two k).2.1
    rw [size_mk]
    omega
  have w5 : (Lit.int .i64 O).wf = true := by rw [← hO]; exact WalkArith.wf_i64 ⟨by omega, by omega⟩
  have w6 : (Lit.int .i64 X).wf = true := by rw [← hX]; exact WalkArith.wf_i64 ⟨by omega, by omega⟩
  have n4 : (r4.toList == []) = true := by
    rw [Lib.toList_data, beq_iff_eq]
    refine List.eq_nil_of_length_eq_zero ?_
    rw [← str_size]
    omega
  have hOX : okV k xs (255 - (getL ((r.data.toList.drop 6).take 1) : Int)) (281474976710655 - (getL ((r.data.toList.drop 7).take 6) : Int)) = okV k xs O X := by
    rw [← hO, ← hX, ← hon, ← hxn, dr2, dr1, List.drop_drop]
  have hTO : timeN xs (255 - (getL ((r.data.toList.drop 6).take 1) : Int)) = timeN xs O := by
    rw [← hO, ← hon, dr1]
  have hTM : (281474976710655 - (getL (r.data.toList.take 6) : Int)) = TM := by rw [← hTM, ← htn]
  rw [hOX] at hq
  have VC := fun A cp W h => Lib.hid (kvalid_any ⟨k.toArray⟩ A xs.length cp O X 0 0 0 ⟨#[]⟩ xs W h)
  rw [mk_data, hq] at VC
  simp only [verV] at VC
  clear hOX hTO hTM z4 hkk hk hT h0 dr1 dr2 dr3 hq
  go_enter Tryz.func29, Tryz.ntmps29
  go_wp2_with fail
  refine K.out.mono ?_
  rintro e w1 ⟨rfl, R1, g1⟩
  have P1 := kblk_by P0.out g1 (by omega)
  have hq1 : w.heap.size < w1.heap.size := P1.lt
  have G1 := kgrow_trans G0.out g1
  have M0 : Hid (Mid w (w1.alloc (.cells #[.string ⟨k.toArray⟩, .slice none 0 0, .int .i64 0, .int .i64 0, .int .i64 0, .float .f64 0, .int .i64 0, .string ⟨#[]⟩] 28)) p w1.heap.size r ⟨k.toArray⟩ none 0 0 0 0) := ⟨R1.alloc _, P1.alloc _, Blk.new w1 _ _, only_alloc G1 _, hp, hq1⟩
  clear K B0 P0 G0 R1 P1 G1 g1
  have hst := run_sto_f64
  go_wp2_with fail
  clear hst
  generalize w1.alloc (.cells #[.string ⟨k.toArray⟩, .slice none 0 0, .int .i64 0, .int .i64 0, .int .i64 0, .float .f64 0, .int .i64 0, .string ⟨#[]⟩] 28) = W0 at *
  generalize w1.heap.size = q at *
  have M := M0
  clear M0
  refine (N1 _ M.out.rd).out.mono ?_
  rintro e v1 ⟨rfl, R, g⟩
  have M1 := Lib.hid (M.out.step R g)
  clear R g M N1
  obtain ⟨c0, c1, c2, c3, c4, c5, c6, c7⟩ := ver_cells M1.out.ver
  have z2 := M1.out.ver.frozen 2
  have z3 := M1.out.ver.frozen 3
  have z1 := M1.out.ver.frozen 1
  go_wp2_with fail
  have M := M1
  clear M1 c0 c1 c2 c3 c4 c5 c6 c7 z1 z2 z3
  refine (N2 _ M.out.rd).out.mono ?_
  rintro e v2 ⟨rfl, R, g⟩
  have M1 := Lib.hid (M.out.step R g)
  clear R g M N2
  obtain ⟨c0, c1, c2, c3, c4, c5, c6, c7⟩ := ver_cells M1.out.ver
  have z2 := M1.out.ver.frozen 2
  have z3 := M1.out.ver.frozen 3
  have z1 := M1.out.ver.frozen 1
  go_wp2_with fail
  have M := Lib.hid (M1.out.set2 O)
  clear M1 c0 c1 c2 c3 c4 c5 c6 c7 z1 z2 z3
  refine (N3 _ M.out.rd).out.mono ?_
  rintro e v3 ⟨rfl, R, g⟩
  have M1 := Lib.hid (M.out.step R g)
  clear R g M N3
  obtain ⟨c0, c1, c2, c3, c4, c5, c6, c7⟩ := ver_cells M1.out.ver
  have z2 := M1.out.ver.frozen 2
  have z3 := M1.out.ver.frozen 3
  have z1 := M1.out.ver.frozen 1
  go_wp2_with fail
  have M := Lib.hid (M1.out.set3 X)
  clear M1 c0 c1 c2 c3 c4 c5 c6 c7 z1 z2 z3
  generalize v3.setCell ⟨q, 3, none⟩ (.int .i64 X) = W3 at *
  refine (V _ M.out.rd).out.mono ?_
  rintro e w9 ⟨⟨v, rfl, hN⟩, R9, g9⟩
  have M1 := Lib.hid (M.out.step R9 g9)
  have hlo : w.heap.size + 1 ≤ W3.heap.size := Nat.le_trans M.out.lq (Nat.le_of_lt M.out.ver.lt)
  have hqv : q < W3.heap.size := M.out.ver.lt
  obtain ⟨A, cp, rfl, -, -⟩ := hN.ints Hx2.out
  have HN : Hid (Nums (w9.setCell ⟨q, 1, none⟩ (.slice A xs.length cp)) (w.heap.size + 1) 3 (.slice A xs.length cp) xs) := Nums.low (show Nums _ _ _ _ _ from ownsRow_setCell_below hN (a := ⟨q, 1, none⟩) hqv (.slice A xs.length cp)) hlo
  have M9 := Lib.hid (M1.out.set1 A xs.length cp)
  obtain ⟨c0, c1, c2, c3, c4, c5, c6, c7⟩ := ver_cells M1.out.ver
  have z1 := M1.out.ver.frozen 1
  have d0 : (w9.setCell ⟨q, 1, none⟩ (.slice A xs.length cp)).cell? ⟨p, 0, none⟩ = some (.string r4) := M9.out.rd.cell 0
  clear hN R9 g9 M V hlo hqv M1
  have VI : ∀ W', Below (w9.setCell ⟨q, 1, none⟩ (.slice A xs.length cp)).heap.size (w9.setCell ⟨q, 1, none⟩ (.slice A xs.length cp)) W' → VerIn W' ⟨k.toArray⟩ A xs.length xs O X 0 0 0 ⟨#[]⟩ := by
    intro W' hb
    obtain ⟨A', c', e, hI, _⟩ := HN.out.ints Hx2.out
    cases e
    exact ⟨hI.below hb, hks, w5, w6, by decide, by decide, by decide, by decide⟩
  have VI := Lib.hid VI
  obtain ⟨y0, y1, y2, y3, y4, y5, y6, y7⟩ := ver_cells M9.out.ver
  go_wp2_with fail
  refine (VC _ _ _ (VI.out _ (Below.refl _ _))).out.mono ?_
  rintro e wa ⟨rfl, hba⟩
  have Ma := Lib.hid (M9.out.below hba)
  have Hba := Lib.hid hba
  clear hba VC c0 c1 c2 c3 c4 c5 c6 c7 z1 y0 y1 y2 y3 y4 y5 y6 y7
  obtain ⟨c0, c1, c2, c3, c4, c5, c6, c7⟩ := ver_cells Ma.out.ver
  go_wp2_with fail
  exact ⟨rfl, rfl, Ma.out.gr⟩

set_option maxRecDepth 100000 in
set_option maxHeartbeats 4000000 in
theorem kver_late (p : Nat) (s : ByteArray) (w : World) (B : RdAt w p s) (hs : s.size ≤ 140737488351232) (k : List UInt8) (r : ByteArray) (hk : readK s.data.toList = some (k, r.data.toList)) (hr : 13 ≤ r.size) (r0 : ByteArray) (h0 : r0.data.toList = r.data.toList.drop 13) (xs : List Int) (kk : Nat) (hT : getT r0 = (xs, (kk : Int), 0)) (hkk : kk = r0.size) (hq : okV k xs (255 - (getL ((r.data.toList.drop 6).take 1) : Int)) (281474976710655 - (getL ((r.data.toList.drop 7).take 6) : Int)) = true) (ht : timeN xs (255 - (getL ((r.data.toList.drop 6).take 1) : Int)) ≠ (281474976710655 - (getL (r.data.toList.take 6) : Int))) :
    Calls Tryz.prog 29 #[.pointer (some ⟨p, 0, none⟩)] w fun e w' => e = gaveUp ∧ w.grownBy w' (some p) := by
  have hrs : r.size ≤ s.size := by
    have h1 := congrArg List.length (readK_is hk)
    rw [List.length_append, ← str_size, ← str_size] at h1
    omega
  have hp : p < w.heap.size := B.lt
  have B0 : Hid (RdAt (w.alloc (.cells #[.string ⟨#[]⟩, .slice none 0 0, .int .i64 0, .int .i64 0, .int .i64 0, .float .f64 0, .int .i64 0, .string ⟨#[]⟩] 28)) p s) := B.alloc _
  have P0 : Hid (Blk (w.alloc (.cells #[.string ⟨#[]⟩, .slice none 0 0, .int .i64 0, .int .i64 0, .int .i64 0, .float .f64 0, .int .i64 0, .string ⟨#[]⟩] 28)) w.heap.size 28 (verC ⟨#[]⟩ none 0 0 0 0 0 0 0 ⟨#[]⟩)) := Blk.new w _ _
  have G0 : Hid (w.grownBy (w.alloc (.cells #[.string ⟨#[]⟩, .slice none 0 0, .int .i64 0, .int .i64 0, .int .i64 0, .float .f64 0, .int .i64 0, .string ⟨#[]⟩] 28)) (some p)) := only_alloc (kgrow_refl w _) _
  clear B
  have K := Lib.hid (krkey_some p s k r _ B0.out hs hk)
  have N1 := fun W (h : RdAt W p r) => Lib.hid (knum_ok p r 6 W h (by omega) (by decide) (by decide) (by omega))
  obtain ⟨r1, hr1⟩ : ∃ r1, r.extract 6 r.size = r1 := ⟨_, rfl⟩
  rw [hr1] at N1
  have zr1 : r1.size + 6 = r.size := by rw [← hr1, ByteArray.size_extract]; omega
  have dr1 : r1.data.toList = r.data.toList.drop 6 := by rw [← hr1, drop_in]
  have N2 := fun W (h : RdAt W p r1) => Lib.hid (knum_ok p r1 1 W h (by omega) (by decide) (by decide) (by omega))
  obtain ⟨r2, hr2⟩ : ∃ r2, r1.extract 1 r1.size = r2 := ⟨_, rfl⟩
  rw [hr2] at N2
  have zr2 : r2.size + 1 = r1.size := by rw [← hr2, ByteArray.size_extract]; omega
  have dr2 : r2.data.toList = r1.data.toList.drop 1 := by rw [← hr2, drop_in]
  have N3 := fun W (h : RdAt W p r2) => Lib.hid (knum_ok p r2 6 W h (by omega) (by decide) (by decide) (by omega))
  obtain ⟨r3, hr3⟩ : ∃ r3, r2.extract 6 r2.size = r3 := ⟨_, rfl⟩
  rw [hr3] at N3
  have zr3 : r3.size + 6 = r2.size := by rw [← hr3, ByteArray.size_extract]; omega
  have dr3 : r3.data.toList = r2.data.toList.drop 6 := by rw [← hr3, drop_in]
  obtain ⟨tn, htn⟩ : ∃ m : Nat, getL (r.data.toList.take 6) = m := ⟨_, rfl⟩
  have bt : tn ≤ 281474976710655 := by
    have h1 := getL_below (r.data.toList.take 6)
    rw [List.length_take, ← str_size, Nat.min_eq_left (by omega), htn] at h1
    omega
  rw [htn] at N1
  obtain ⟨TM, hTM⟩ : ∃ z : Int, 281474976710655 - (tn : Int) = z := ⟨_, rfl⟩
  have uTM : IntKind.i64.wrap (281474976710655 - (tn : Int)) = TM := (IntWalk.i64_in _ (by omega)).trans hTM
  have yTM : wrap64 (281474976710655 - (tn : Int)) = TM := (IntWalk.wrap64_in _ (by omega)).trans hTM
  obtain ⟨on, hon⟩ : ∃ m : Nat, getL (r1.data.toList.take 1) = m := ⟨_, rfl⟩
  have bo : on ≤ 255 := by
    have h1 := getL_below (r1.data.toList.take 1)
    rw [List.length_take, ← str_size, Nat.min_eq_left (by omega), hon] at h1
    omega
  rw [hon] at N2
  obtain ⟨O, hO⟩ : ∃ z : Int, 255 - (on : Int) = z := ⟨_, rfl⟩
  have uO : IntKind.i64.wrap (255 - (on : Int)) = O := (IntWalk.i64_in _ (by omega)).trans hO
  have yO : wrap64 (255 - (on : Int)) = O := (IntWalk.wrap64_in _ (by omega)).trans hO
  obtain ⟨xn, hxn⟩ : ∃ m : Nat, getL (r2.data.toList.take 6) = m := ⟨_, rfl⟩
  have bx : xn ≤ 281474976710655 := by
    have h1 := getL_below (r2.data.toList.take 6)
    rw [List.length_take, ← str_size, Nat.min_eq_left (by omega), hxn] at h1
    omega
  rw [hxn] at N3
  obtain ⟨X, hX⟩ : ∃ z : Int, 281474976710655 - (xn : Int) = z := ⟨_, rfl⟩
  have uX : IntKind.i64.wrap (281474976710655 - (xn : Int)) = X := (IntWalk.i64_in _ (by omega)).trans hX
  have yX : wrap64 (281474976710655 - (xn : Int)) = X := (IntWalk.wrap64_in _ (by omega)).trans hX
  have e3 : r3 = r0 := kbytes_ext (by rw [dr3, dr2, dr1, h0, List.drop_drop, List.drop_drop])
  have V := fun W (h : RdAt W p r3) => Lib.hid (kvec_ok p r3 xs kk W h (by omega) (by rw [e3]; exact hT) (by rw [e3]; exact Nat.le_of_eq hkk))
  have hxs := getT_ok r0
  rw [hT] at hxs
  obtain ⟨hx1, hx2⟩ := hxs
  have Hx2 := Lib.hid hx2
  obtain ⟨r4, h4⟩ : ∃ r4, r3.extract kk r3.size = r4 := ⟨_, rfl⟩
  rw [h4] at V
  have z4 : r4.size + kk = r0.size := by rw [← h4, e3, ByteArray.size_extract]; omega
  have hks : (⟨k.toArray⟩ : ByteArray).size ≤ 9223372036854775807 := by
    have h1 := congrArg List.length (readK_is hk)
    rw [List.length_append, ← str_size, ← str_size] at h1
    have h2 := (headL_two k).2.1
    rw [size_mk]
    omega
  have w5 : (Lit.int .i64 O).wf = true := by rw [← hO]; exact WalkArith.wf_i64 ⟨by omega, by omega⟩
  have w6 : (Lit.int .i64 X).wf = true := by rw [← hX]; exact WalkArith.wf_i64 ⟨by omega, by omega⟩
  have n4 : (r4.toList == []) = true := by
    rw [Lib.toList_data, beq_iff_eq]
    refine List.eq_nil_of_length_eq_zero ?_
    rw [← str_size]
    omega
  have hOX : okV k xs (255 - (getL ((r.data.toList.drop 6).take 1) : Int)) (281474976710655 - (getL ((r.data.toList.drop 7).take 6) : Int)) = okV k xs O X := by
    rw [← hO, ← hX, ← hon, ← hxn, dr2, dr1, List.drop_drop]
  have hTO : timeN xs (255 - (getL ((r.data.toList.drop 6).take 1) : Int)) = timeN xs O := by
    rw [← hO, ← hon, dr1]
  have hTM : (281474976710655 - (getL (r.data.toList.take 6) : Int)) = TM := by rw [← hTM, ← htn]
  rw [hOX] at hq
  rw [hTO, hTM] at ht
  have VC := fun A cp W h => Lib.hid (kvalid_any ⟨k.toArray⟩ A xs.length cp O X 0 0 0 ⟨#[]⟩ xs W h)
  rw [mk_data, hq] at VC
  simp only [verV] at VC
  have hk := okV_of hq
  have TC := fun A cp W h => Lib.hid (ktime_any ⟨k.toArray⟩ A xs.length cp O X 0 0 0 ⟨#[]⟩ xs W h hk.at_ hk.o0 hk.o1)
  simp only [verV] at TC
  have n5 : (timeN xs O == TM) = false := by rw [beq_eq_false_iff_ne]; exact ht
  generalize timeN xs O = TO at *
  clear hOX hTO hTM z4 hkk hk hT h0 dr1 dr2 dr3 ht hq
  go_enter Tryz.func29, Tryz.ntmps29
  go_wp2_with fail
  refine K.out.mono ?_
  rintro e w1 ⟨rfl, R1, g1⟩
  have P1 := kblk_by P0.out g1 (by omega)
  have hq1 : w.heap.size < w1.heap.size := P1.lt
  have G1 := kgrow_trans G0.out g1
  have M0 : Hid (Mid w (w1.alloc (.cells #[.string ⟨k.toArray⟩, .slice none 0 0, .int .i64 0, .int .i64 0, .int .i64 0, .float .f64 0, .int .i64 0, .string ⟨#[]⟩] 28)) p w1.heap.size r ⟨k.toArray⟩ none 0 0 0 0) := ⟨R1.alloc _, P1.alloc _, Blk.new w1 _ _, only_alloc G1 _, hp, hq1⟩
  clear K B0 P0 G0 R1 P1 G1 g1
  have hst := run_sto_f64
  go_wp2_with fail
  clear hst
  generalize w1.alloc (.cells #[.string ⟨k.toArray⟩, .slice none 0 0, .int .i64 0, .int .i64 0, .int .i64 0, .float .f64 0, .int .i64 0, .string ⟨#[]⟩] 28) = W0 at *
  generalize w1.heap.size = q at *
  have M := M0
  clear M0
  refine (N1 _ M.out.rd).out.mono ?_
  rintro e v1 ⟨rfl, R, g⟩
  have M1 := Lib.hid (M.out.step R g)
  clear R g M N1
  obtain ⟨c0, c1, c2, c3, c4, c5, c6, c7⟩ := ver_cells M1.out.ver
  have z2 := M1.out.ver.frozen 2
  have z3 := M1.out.ver.frozen 3
  have z1 := M1.out.ver.frozen 1
  go_wp2_with fail
  have M := M1
  clear M1 c0 c1 c2 c3 c4 c5 c6 c7 z1 z2 z3
  refine (N2 _ M.out.rd).out.mono ?_
  rintro e v2 ⟨rfl, R, g⟩
  have M1 := Lib.hid (M.out.step R g)
  clear R g M N2
  obtain ⟨c0, c1, c2, c3, c4, c5, c6, c7⟩ := ver_cells M1.out.ver
  have z2 := M1.out.ver.frozen 2
  have z3 := M1.out.ver.frozen 3
  have z1 := M1.out.ver.frozen 1
  go_wp2_with fail
  have M := Lib.hid (M1.out.set2 O)
  clear M1 c0 c1 c2 c3 c4 c5 c6 c7 z1 z2 z3
  refine (N3 _ M.out.rd).out.mono ?_
  rintro e v3 ⟨rfl, R, g⟩
  have M1 := Lib.hid (M.out.step R g)
  clear R g M N3
  obtain ⟨c0, c1, c2, c3, c4, c5, c6, c7⟩ := ver_cells M1.out.ver
  have z2 := M1.out.ver.frozen 2
  have z3 := M1.out.ver.frozen 3
  have z1 := M1.out.ver.frozen 1
  go_wp2_with fail
  have M := Lib.hid (M1.out.set3 X)
  clear M1 c0 c1 c2 c3 c4 c5 c6 c7 z1 z2 z3
  generalize v3.setCell ⟨q, 3, none⟩ (.int .i64 X) = W3 at *
  refine (V _ M.out.rd).out.mono ?_
  rintro e w9 ⟨⟨v, rfl, hN⟩, R9, g9⟩
  have M1 := Lib.hid (M.out.step R9 g9)
  have hlo : w.heap.size + 1 ≤ W3.heap.size := Nat.le_trans M.out.lq (Nat.le_of_lt M.out.ver.lt)
  have hqv : q < W3.heap.size := M.out.ver.lt
  obtain ⟨A, cp, rfl, -, -⟩ := hN.ints Hx2.out
  have HN : Hid (Nums (w9.setCell ⟨q, 1, none⟩ (.slice A xs.length cp)) (w.heap.size + 1) 3 (.slice A xs.length cp) xs) := Nums.low (show Nums _ _ _ _ _ from ownsRow_setCell_below hN (a := ⟨q, 1, none⟩) hqv (.slice A xs.length cp)) hlo
  have M9 := Lib.hid (M1.out.set1 A xs.length cp)
  obtain ⟨c0, c1, c2, c3, c4, c5, c6, c7⟩ := ver_cells M1.out.ver
  have z1 := M1.out.ver.frozen 1
  have d0 : (w9.setCell ⟨q, 1, none⟩ (.slice A xs.length cp)).cell? ⟨p, 0, none⟩ = some (.string r4) := M9.out.rd.cell 0
  clear hN R9 g9 M V hlo hqv M1
  have VI : ∀ W', Below (w9.setCell ⟨q, 1, none⟩ (.slice A xs.length cp)).heap.size (w9.setCell ⟨q, 1, none⟩ (.slice A xs.length cp)) W' → VerIn W' ⟨k.toArray⟩ A xs.length xs O X 0 0 0 ⟨#[]⟩ := by
    intro W' hb
    obtain ⟨A', c', e, hI, _⟩ := HN.out.ints Hx2.out
    cases e
    exact ⟨hI.below hb, hks, w5, w6, by decide, by decide, by decide, by decide⟩
  have VI := Lib.hid VI
  obtain ⟨y0, y1, y2, y3, y4, y5, y6, y7⟩ := ver_cells M9.out.ver
  go_wp2_with fail
  refine (VC _ _ _ (VI.out _ (Below.refl _ _))).out.mono ?_
  rintro e wa ⟨rfl, hba⟩
  have Ma := Lib.hid (M9.out.below hba)
  have Hba := Lib.hid hba
  clear hba VC c0 c1 c2 c3 c4 c5 c6 c7 z1 y0 y1 y2 y3 y4 y5 y6 y7
  obtain ⟨c0, c1, c2, c3, c4, c5, c6, c7⟩ := ver_cells Ma.out.ver
  go_wp2_with fail
  refine (TC _ _ _ (VI.out _ Hba.out)).out.mono ?_
  rintro e wb ⟨rfl, hbb⟩
  have Mb := Lib.hid (Ma.out.below hbb)
  have HNb := Lib.hid ((HN.out.below Hba.out (Nat.le_refl _)).below hbb (Nat.le_refl _))
  clear hbb TC c0 c1 c2 c3 c4 c5 c6 c7
  obtain ⟨c0, c1, c2, c3, c4, c5, c6, c7⟩ := ver_cells Mb.out.ver
  obtain ⟨e0, e1, e2, e3, e4, e5, e6, e7⟩ := ver_cells Mb.out.res
  have z0 := Mb.out.res.frozen 0
  have z1 := Mb.out.res.frozen 1
  have z2 := Mb.out.res.frozen 2
  have z3 := Mb.out.res.frozen 3
  have z4 := Mb.out.res.frozen 4
  have z5 := Mb.out.res.frozen 5
  have z6 := Mb.out.res.frozen 6
  have z7 := Mb.out.res.frozen 7
  have hst := run_sto_f64
  go_wp2_with fail
  exact ⟨rfl, rfl, Mb.out.gr⟩

set_option maxRecDepth 100000 in
set_option maxHeartbeats 4000000 in
theorem kver_ok (p : Nat) (s : ByteArray) (w : World) (B : RdAt w p s) (hs : s.size ≤ 140737488351232) (k : List UInt8) (r : ByteArray) (hk : readK s.data.toList = some (k, r.data.toList)) (hr : 13 ≤ r.size) (r0 : ByteArray) (h0 : r0.data.toList = r.data.toList.drop 13) (xs : List Int) (kk : Nat) (hT : getT r0 = (xs, (kk : Int), 0)) (hkk : kk = r0.size) (hq : okV k xs (255 - (getL ((r.data.toList.drop 6).take 1) : Int)) (281474976710655 - (getL ((r.data.toList.drop 7).take 6) : Int)) = true) (ht : timeN xs (255 - (getL ((r.data.toList.drop 6).take 1) : Int)) = (281474976710655 - (getL (r.data.toList.take 6) : Int))) :
    Calls Tryz.prog 29 #[.pointer (some ⟨p, 0, none⟩)] w fun e w' => (∃ A c, e = .returned (verV ⟨k.toArray⟩ A xs.length c (255 - (getL ((r.data.toList.drop 6).take 1) : Int)) (281474976710655 - (getL ((r.data.toList.drop 7).take 6) : Int)) 0 0 0 ⟨#[]⟩) ∧ Nums w' w.heap.size 3 (.slice A xs.length c) xs) ∧ w.grownBy w' (some p) := by
  have hrs : r.size ≤ s.size := by
    have h1 := congrArg List.length (readK_is hk)
    rw [List.length_append, ← str_size, ← str_size] at h1
    omega
  have hp : p < w.heap.size := B.lt
  have B0 : Hid (RdAt (w.alloc (.cells #[.string ⟨#[]⟩, .slice none 0 0, .int .i64 0, .int .i64 0, .int .i64 0, .float .f64 0, .int .i64 0, .string ⟨#[]⟩] 28)) p s) := B.alloc _
  have P0 : Hid (Blk (w.alloc (.cells #[.string ⟨#[]⟩, .slice none 0 0, .int .i64 0, .int .i64 0, .int .i64 0, .float .f64 0, .int .i64 0, .string ⟨#[]⟩] 28)) w.heap.size 28 (verC ⟨#[]⟩ none 0 0 0 0 0 0 0 ⟨#[]⟩)) := Blk.new w _ _
  have G0 : Hid (w.grownBy (w.alloc (.cells #[.string ⟨#[]⟩, .slice none 0 0, .int .i64 0, .int .i64 0, .int .i64 0, .float .f64 0, .int .i64 0, .string ⟨#[]⟩] 28)) (some p)) := only_alloc (kgrow_refl w _) _
  clear B
  have K := Lib.hid (krkey_some p s k r _ B0.out hs hk)
  have N1 := fun W (h : RdAt W p r) => Lib.hid (knum_ok p r 6 W h (by omega) (by decide) (by decide) (by omega))
  obtain ⟨r1, hr1⟩ : ∃ r1, r.extract 6 r.size = r1 := ⟨_, rfl⟩
  rw [hr1] at N1
  have zr1 : r1.size + 6 = r.size := by rw [← hr1, ByteArray.size_extract]; omega
  have dr1 : r1.data.toList = r.data.toList.drop 6 := by rw [← hr1, drop_in]
  have N2 := fun W (h : RdAt W p r1) => Lib.hid (knum_ok p r1 1 W h (by omega) (by decide) (by decide) (by omega))
  obtain ⟨r2, hr2⟩ : ∃ r2, r1.extract 1 r1.size = r2 := ⟨_, rfl⟩
  rw [hr2] at N2
  have zr2 : r2.size + 1 = r1.size := by rw [← hr2, ByteArray.size_extract]; omega
  have dr2 : r2.data.toList = r1.data.toList.drop 1 := by rw [← hr2, drop_in]
  have N3 := fun W (h : RdAt W p r2) => Lib.hid (knum_ok p r2 6 W h (by omega) (by decide) (by decide) (by omega))
  obtain ⟨r3, hr3⟩ : ∃ r3, r2.extract 6 r2.size = r3 := ⟨_, rfl⟩
  rw [hr3] at N3
  have zr3 : r3.size + 6 = r2.size := by rw [← hr3, ByteArray.size_extract]; omega
  have dr3 : r3.data.toList = r2.data.toList.drop 6 := by rw [← hr3, drop_in]
  obtain ⟨tn, htn⟩ : ∃ m : Nat, getL (r.data.toList.take 6) = m := ⟨_, rfl⟩
  have bt : tn ≤ 281474976710655 := by
    have h1 := getL_below (r.data.toList.take 6)
    rw [List.length_take, ← str_size, Nat.min_eq_left (by omega), htn] at h1
    omega
  rw [htn] at N1
  obtain ⟨TM, hTM⟩ : ∃ z : Int, 281474976710655 - (tn : Int) = z := ⟨_, rfl⟩
  have uTM : IntKind.i64.wrap (281474976710655 - (tn : Int)) = TM := (IntWalk.i64_in _ (by omega)).trans hTM
  have yTM : wrap64 (281474976710655 - (tn : Int)) = TM := (IntWalk.wrap64_in _ (by omega)).trans hTM
  obtain ⟨on, hon⟩ : ∃ m : Nat, getL (r1.data.toList.take 1) = m := ⟨_, rfl⟩
  have bo : on ≤ 255 := by
    have h1 := getL_below (r1.data.toList.take 1)
    rw [List.length_take, ← str_size, Nat.min_eq_left (by omega), hon] at h1
    omega
  rw [hon] at N2
  obtain ⟨O, hO⟩ : ∃ z : Int, 255 - (on : Int) = z := ⟨_, rfl⟩
  have uO : IntKind.i64.wrap (255 - (on : Int)) = O := (IntWalk.i64_in _ (by omega)).trans hO
  have yO : wrap64 (255 - (on : Int)) = O := (IntWalk.wrap64_in _ (by omega)).trans hO
  obtain ⟨xn, hxn⟩ : ∃ m : Nat, getL (r2.data.toList.take 6) = m := ⟨_, rfl⟩
  have bx : xn ≤ 281474976710655 := by
    have h1 := getL_below (r2.data.toList.take 6)
    rw [List.length_take, ← str_size, Nat.min_eq_left (by omega), hxn] at h1
    omega
  rw [hxn] at N3
  obtain ⟨X, hX⟩ : ∃ z : Int, 281474976710655 - (xn : Int) = z := ⟨_, rfl⟩
  have uX : IntKind.i64.wrap (281474976710655 - (xn : Int)) = X := (IntWalk.i64_in _ (by omega)).trans hX
  have yX : wrap64 (281474976710655 - (xn : Int)) = X := (IntWalk.wrap64_in _ (by omega)).trans hX
  have e3 : r3 = r0 := kbytes_ext (by rw [dr3, dr2, dr1, h0, List.drop_drop, List.drop_drop])
  have V := fun W (h : RdAt W p r3) => Lib.hid (kvec_ok p r3 xs kk W h (by omega) (by rw [e3]; exact hT) (by rw [e3]; exact Nat.le_of_eq hkk))
  have hxs := getT_ok r0
  rw [hT] at hxs
  obtain ⟨hx1, hx2⟩ := hxs
  have Hx2 := Lib.hid hx2
  obtain ⟨r4, h4⟩ : ∃ r4, r3.extract kk r3.size = r4 := ⟨_, rfl⟩
  rw [h4] at V
  have z4 : r4.size + kk = r0.size := by rw [← h4, e3, ByteArray.size_extract]; omega
  have hks : (⟨k.toArray⟩ : ByteArray).size ≤ 9223372036854775807 := by
    have h1 := congrArg List.length (readK_is hk)
    rw [List.length_append, ← str_size, ← str_size] at h1
    have h2 := (headL_two k).2.1
    rw [size_mk]
    omega
  have w5 : (Lit.int .i64 O).wf = true := by rw [← hO]; exact WalkArith.wf_i64 ⟨by omega, by omega⟩
  have w6 : (Lit.int .i64 X).wf = true := by rw [← hX]; exact WalkArith.wf_i64 ⟨by omega, by omega⟩
  have n4 : (r4.toList == []) = true := by
    rw [Lib.toList_data, beq_iff_eq]
    refine List.eq_nil_of_length_eq_zero ?_
    rw [← str_size]
    omega
  have hOX : okV k xs (255 - (getL ((r.data.toList.drop 6).take 1) : Int)) (281474976710655 - (getL ((r.data.toList.drop 7).take 6) : Int)) = okV k xs O X := by
    rw [← hO, ← hX, ← hon, ← hxn, dr2, dr1, List.drop_drop]
  have hTO : timeN xs (255 - (getL ((r.data.toList.drop 6).take 1) : Int)) = timeN xs O := by
    rw [← hO, ← hon, dr1]
  have hTM : (281474976710655 - (getL (r.data.toList.take 6) : Int)) = TM := by rw [← hTM, ← htn]
  rw [hOX] at hq
  rw [hTO, hTM] at ht
  rw [show (255 - (getL ((r.data.toList.drop 6).take 1) : Int)) = O by rw [← hO, ← hon, dr1], show (281474976710655 - (getL ((r.data.toList.drop 7).take 6) : Int)) = X by rw [← hX, ← hxn, dr2, dr1, List.drop_drop]]
  have VC := fun A cp W h => Lib.hid (kvalid_any ⟨k.toArray⟩ A xs.length cp O X 0 0 0 ⟨#[]⟩ xs W h)
  rw [mk_data, hq] at VC
  simp only [verV] at VC
  have hk := okV_of hq
  have TC := fun A cp W h => Lib.hid (ktime_any ⟨k.toArray⟩ A xs.length cp O X 0 0 0 ⟨#[]⟩ xs W h hk.at_ hk.o0 hk.o1)
  simp only [verV] at TC
  rw [ht] at TC
  clear hOX hTO hTM z4 hkk hk hT h0 dr1 dr2 dr3 ht hq
  go_enter Tryz.func29, Tryz.ntmps29
  go_wp2_with fail
  refine K.out.mono ?_
  rintro e w1 ⟨rfl, R1, g1⟩
  have P1 := kblk_by P0.out g1 (by omega)
  have hq1 : w.heap.size < w1.heap.size := P1.lt
  have G1 := kgrow_trans G0.out g1
  have M0 : Hid (Mid w (w1.alloc (.cells #[.string ⟨k.toArray⟩, .slice none 0 0, .int .i64 0, .int .i64 0, .int .i64 0, .float .f64 0, .int .i64 0, .string ⟨#[]⟩] 28)) p w1.heap.size r ⟨k.toArray⟩ none 0 0 0 0) := ⟨R1.alloc _, P1.alloc _, Blk.new w1 _ _, only_alloc G1 _, hp, hq1⟩
  clear K B0 P0 G0 R1 P1 G1 g1
  have hst := run_sto_f64
  go_wp2_with fail
  clear hst
  generalize w1.alloc (.cells #[.string ⟨k.toArray⟩, .slice none 0 0, .int .i64 0, .int .i64 0, .int .i64 0, .float .f64 0, .int .i64 0, .string ⟨#[]⟩] 28) = W0 at *
  generalize w1.heap.size = q at *
  have M := M0
  clear M0
  refine (N1 _ M.out.rd).out.mono ?_
  rintro e v1 ⟨rfl, R, g⟩
  have M1 := Lib.hid (M.out.step R g)
  clear R g M N1
  obtain ⟨c0, c1, c2, c3, c4, c5, c6, c7⟩ := ver_cells M1.out.ver
  have z2 := M1.out.ver.frozen 2
  have z3 := M1.out.ver.frozen 3
  have z1 := M1.out.ver.frozen 1
  go_wp2_with fail
  have M := M1
  clear M1 c0 c1 c2 c3 c4 c5 c6 c7 z1 z2 z3
  refine (N2 _ M.out.rd).out.mono ?_
  rintro e v2 ⟨rfl, R, g⟩
  have M1 := Lib.hid (M.out.step R g)
  clear R g M N2
  obtain ⟨c0, c1, c2, c3, c4, c5, c6, c7⟩ := ver_cells M1.out.ver
  have z2 := M1.out.ver.frozen 2
  have z3 := M1.out.ver.frozen 3
  have z1 := M1.out.ver.frozen 1
  go_wp2_with fail
  have M := Lib.hid (M1.out.set2 O)
  clear M1 c0 c1 c2 c3 c4 c5 c6 c7 z1 z2 z3
  refine (N3 _ M.out.rd).out.mono ?_
  rintro e v3 ⟨rfl, R, g⟩
  have M1 := Lib.hid (M.out.step R g)
  clear R g M N3
  obtain ⟨c0, c1, c2, c3, c4, c5, c6, c7⟩ := ver_cells M1.out.ver
  have z2 := M1.out.ver.frozen 2
  have z3 := M1.out.ver.frozen 3
  have z1 := M1.out.ver.frozen 1
  go_wp2_with fail
  have M := Lib.hid (M1.out.set3 X)
  clear M1 c0 c1 c2 c3 c4 c5 c6 c7 z1 z2 z3
  generalize v3.setCell ⟨q, 3, none⟩ (.int .i64 X) = W3 at *
  refine (V _ M.out.rd).out.mono ?_
  rintro e w9 ⟨⟨v, rfl, hN⟩, R9, g9⟩
  have M1 := Lib.hid (M.out.step R9 g9)
  have hlo : w.heap.size + 1 ≤ W3.heap.size := Nat.le_trans M.out.lq (Nat.le_of_lt M.out.ver.lt)
  have hqv : q < W3.heap.size := M.out.ver.lt
  obtain ⟨A, cp, rfl, -, -⟩ := hN.ints Hx2.out
  have HN : Hid (Nums (w9.setCell ⟨q, 1, none⟩ (.slice A xs.length cp)) (w.heap.size + 1) 3 (.slice A xs.length cp) xs) := Nums.low (show Nums _ _ _ _ _ from ownsRow_setCell_below hN (a := ⟨q, 1, none⟩) hqv (.slice A xs.length cp)) hlo
  have M9 := Lib.hid (M1.out.set1 A xs.length cp)
  obtain ⟨c0, c1, c2, c3, c4, c5, c6, c7⟩ := ver_cells M1.out.ver
  have z1 := M1.out.ver.frozen 1
  have d0 : (w9.setCell ⟨q, 1, none⟩ (.slice A xs.length cp)).cell? ⟨p, 0, none⟩ = some (.string r4) := M9.out.rd.cell 0
  clear hN R9 g9 M V hlo hqv M1
  have VI : ∀ W', Below (w9.setCell ⟨q, 1, none⟩ (.slice A xs.length cp)).heap.size (w9.setCell ⟨q, 1, none⟩ (.slice A xs.length cp)) W' → VerIn W' ⟨k.toArray⟩ A xs.length xs O X 0 0 0 ⟨#[]⟩ := by
    intro W' hb
    obtain ⟨A', c', e, hI, _⟩ := HN.out.ints Hx2.out
    cases e
    exact ⟨hI.below hb, hks, w5, w6, by decide, by decide, by decide, by decide⟩
  have VI := Lib.hid VI
  obtain ⟨y0, y1, y2, y3, y4, y5, y6, y7⟩ := ver_cells M9.out.ver
  go_wp2_with fail
  refine (VC _ _ _ (VI.out _ (Below.refl _ _))).out.mono ?_
  rintro e wa ⟨rfl, hba⟩
  have Ma := Lib.hid (M9.out.below hba)
  have Hba := Lib.hid hba
  clear hba VC c0 c1 c2 c3 c4 c5 c6 c7 z1 y0 y1 y2 y3 y4 y5 y6 y7
  obtain ⟨c0, c1, c2, c3, c4, c5, c6, c7⟩ := ver_cells Ma.out.ver
  go_wp2_with fail
  refine (TC _ _ _ (VI.out _ Hba.out)).out.mono ?_
  rintro e wb ⟨rfl, hbb⟩
  have Mb := Lib.hid (Ma.out.below hbb)
  have HNb := Lib.hid ((HN.out.below Hba.out (Nat.le_refl _)).below hbb (Nat.le_refl _))
  clear hbb TC c0 c1 c2 c3 c4 c5 c6 c7
  obtain ⟨c0, c1, c2, c3, c4, c5, c6, c7⟩ := ver_cells Mb.out.ver
  obtain ⟨e0, e1, e2, e3, e4, e5, e6, e7⟩ := ver_cells Mb.out.res
  have z0 := Mb.out.res.frozen 0
  have z1 := Mb.out.res.frozen 1
  have z2 := Mb.out.res.frozen 2
  have z3 := Mb.out.res.frozen 3
  have z4 := Mb.out.res.frozen 4
  have z5 := Mb.out.res.frozen 5
  have z6 := Mb.out.res.frozen 6
  have z7 := Mb.out.res.frozen 7
  have hst := run_sto_f64
  go_wp2_with fail
  exact kv_end (ver_set8 Mb.out.res ⟨k.toArray⟩ A xs.length cp O X 0 0 0 ⟨#[]⟩) rfl ⟨⟨A, cp, rfl, Nums.low (nums_set8 HNb.out (Nat.lt_succ_self _) _ _ _ _ _ _ _ _) (Nat.le_succ _)⟩, grow_set8 Mb.out.gr (Nat.le_refl _) _ _ _ _ _ _ _ _⟩
/-- What the reader's version tells. -/
def VersIs (w w' : World) (s : ByteArray) (e : Ending) : Prop :=
  (∃ key A c o x xs, OkV key.data.toList xs o x ∧ s.data.toList = putVL key.data.toList xs o x ∧ e = .returned (verV key A xs.length c o x 0 0 0 ⟨#[]⟩) ∧ Nums w' w.heap.size 3 (.slice A xs.length c) xs) ∨
  ((∀ (key : List UInt8) (xs : List Int) (o x : Int), OkV key xs o x → s.data.toList ≠ putVL key xs o x) ∧ e = gaveUp)

theorem krversion_any (p : Nat) (s : ByteArray) (w : World) (B : RdAt w p s) (hs : s.size ≤ 140737488351232) :
    Calls Tryz.prog 29 #[.pointer (some ⟨p, 0, none⟩)] w fun e w' => VersIs w w' s e ∧ w.grownBy w' (some p) := by
  have up : ∀ {e : Ending} {w' : World}, (∀ (key : List UInt8) (xs : List Int) (o x : Int), OkV key xs o x → s.data.toList ≠ putVL key xs o x) → (e = gaveUp ∧ w.grownBy w' (some p)) → VersIs w w' s e ∧ w.grownBy w' (some p) :=
    fun h1 h2 => ⟨Or.inr ⟨h1, h2.1⟩, h2.2⟩
  cases hk : readK s.data.toList with
  | none =>
    refine (kver_nokey p s w B hs hk).mono fun e w' h => up ?_ h
    intro key xs o x h e
    obtain ⟨r, hr, _⟩ := parts_of_put h e
    rw [hk] at hr; cases hr
  | some kr =>
    obtain ⟨k, rl⟩ := kr
    obtain ⟨r, hr⟩ : ∃ r : ByteArray, r.data.toList = rl := ⟨⟨rl.toArray⟩, by simp⟩
    rw [← hr] at hk
    have hz : r.data.toList.length = r.size := (str_size r).symm
    have no : ∀ {key : List UInt8} {xs : List Int} {o x : Int}, OkV key xs o x → s.data.toList = putVL key xs o x → key = k ∧ Parts r.data.toList xs o x := by
      intro key xs o x h e
      obtain ⟨r', hr', P⟩ := parts_of_put h e
      rw [hk] at hr'
      obtain ⟨rfl, rfl⟩ := Prod.mk.inj (Option.some.inj hr')
      exact ⟨rfl, P⟩
    have short : r.size < 14 → ∀ (key : List UInt8) (xs : List Int) (o x : Int), OkV key xs o x → s.data.toList ≠ putVL key xs o x := by
      intro hlt key xs o x h e
      have := (no h e).2.len
      omega
    by_cases h6 : r.size < 6
    · exact (kver_short0 p s w B hs k r hk h6).mono fun e w' h => up (short (by omega)) h
    · by_cases h7 : r.size < 7
      · exact (kver_short1 p s w B hs k r hk (by omega) h7).mono fun e w' h => up (short (by omega)) h
      · by_cases h13 : r.size < 13
        · exact (kver_short2 p s w B hs k r hk (by omega) h13).mono fun e w' h => up (short (by omega)) h
        · obtain ⟨r0, h0⟩ : ∃ r0 : ByteArray, r0.data.toList = r.data.toList.drop 13 := ⟨⟨(r.data.toList.drop 13).toArray⟩, by simp⟩
          obtain ⟨⟨xs, n, er⟩, hT⟩ : ∃ T, getT r0 = T := ⟨_, rfl⟩
          have vec : ∀ {key : List UInt8} {xs' : List Int} {o x : Int}, OkV key xs' o x → s.data.toList = putVL key xs' o x → xs = xs' ∧ n = (r0.size : Int) ∧ er = 0 := by
            intro key xs' o x h e
            have P := (no h e).2
            have h1 := getT_vecB h.at_ r0 (h0.trans P.vec)
            rw [hT] at h1
            obtain ⟨e1, e2⟩ := Prod.mk.inj h1
            obtain ⟨e2, e3⟩ := Prod.mk.inj e2
            refine ⟨e1, ?_, e3⟩
            rw [e2, str_size, h0, P.vec, vecB_length]
            push_cast
            rfl
          by_cases hE : er = 0
          · obtain ⟨kk, hn, hkk⟩ := getT_room hT hE
            subst hE hn
            by_cases hlt : kk < r0.size
            · refine (kver_more p s w B hs k r hk (by omega) r0 h0 xs kk hT hkk hlt).mono fun e w' h => up ?_ h
              intro key xs' o x h e
              have := (vec h e).2.1
              omega
            · have hkk : kk = r0.size := by omega
              cases hq : okV k xs (255 - (getL ((r.data.toList.drop 6).take 1) : Int)) (281474976710655 - (getL ((r.data.toList.drop 7).take 6) : Int)) with
              | false =>
                refine (kver_bad p s w B hs k r hk (by omega) r0 h0 xs kk hT hkk hq).mono fun e w' h => up ?_ h
                intro key xs' o x h e
                obtain ⟨rfl, P⟩ := no h e
                obtain ⟨rfl, _, _⟩ := vec h e
                rw [P.org, P.num, h.ok] at hq
                cases hq
              | true =>
                by_cases ht : timeN xs (255 - (getL ((r.data.toList.drop 6).take 1) : Int)) = (281474976710655 - (getL (r.data.toList.take 6) : Int))
                · refine (kver_ok p s w B hs k r hk (by omega) r0 h0 xs kk hT hkk hq ht).mono ?_
                  rintro e w' ⟨⟨A, c, he, hN⟩, g⟩
                  refine ⟨Or.inl ⟨⟨k.toArray⟩, A, c, _, _, xs, ?_, ?_, he, hN⟩, g⟩
                  · rw [mk_data]; exact okV_of hq
                  · rw [mk_data]
                    exact put_of_parts hk (by omega) (by rw [← h0]; exact vecB_of r0 xs (by rw [hT, hkk])) (okV_of hq) ht
                · refine (kver_late p s w B hs k r hk (by omega) r0 h0 xs kk hT hkk hq ht).mono fun e w' h => up ?_ h
                  intro key xs' o x h e
                  obtain ⟨rfl, P⟩ := no h e
                  obtain ⟨rfl, _, _⟩ := vec h e
                  exact ht (by rw [P.org, P.time])
          · refine (kver_novec p s w B hs k r hk (by omega) r0 h0 xs n er hT hE).mono fun e w' h => up ?_ h
            intro key xs' o x h e
            exact hE (vec h e).2.2
end Go.Proofs.YthjphiniljopgaaGreatDoor

namespace Go.Proofs.YthjphiniljopgaaGreatDoor
open Go.RowKit

/-- A world in which the version in block a is none any more, and the error in block b is er. -/
def freshW (w : World) (a b : Nat) (er : Int) : World :=
  ((((((((w.setCell ⟨a, 0, none⟩ (.string ⟨#[]⟩)).setCell ⟨a, 1, none⟩ (.slice none 0 0)).setCell ⟨a, 2, none⟩ (.int .i64 0)).setCell ⟨a, 3, none⟩ (.int .i64 0)).setCell ⟨a, 4, none⟩ (.int .i64 0)).setCell ⟨a, 5, none⟩ (.float .f64 0)).setCell ⟨a, 6, none⟩ (.int .i64 0)).setCell ⟨a, 7, none⟩ (.string ⟨#[]⟩)).setCell ⟨b, 0, none⟩ (.int .i64 er)

set_option maxHeartbeats 2000000 in
theorem kget_catch (a b : Nat) (er y : Int) (older : List PanicEntry) (w : World) (key : ByteArray) (A : Option Addr) (n c : Nat) (o x kd : Int) (nu : Nat) (it : Int) (tx : ByteArray) (Ba : Blk w a 28 (verC key A n c o x kd nu it tx)) (Bb : Blk w b 48 #[.int .i64 y]) (hab : a ≠ b) :
    CallsD Tryz.prog 27 #[.pointer (some ⟨a, 0, none⟩), .pointer (some ⟨b, 0, none⟩)] (.panicking ({ v := .iface 48 (.int .i64 er), recovered := false } :: older)) w fun e u' w' =>
      e = .returned (.tuple #[]) ∧ u' = .panicking ({ v := .iface 48 (.int .i64 er), recovered := true } :: older) ∧ w' = freshW w a b er := by
  obtain ⟨c0, c1, c2, c3, c4, c5, c6, c7⟩ := ver_cells Ba
  have z0 := Ba.frozen 0
  have z1 := Ba.frozen 1
  have z2 := Ba.frozen 2
  have z3 := Ba.frozen 3
  have z4 := Ba.frozen 4
  have z5 := Ba.frozen 5
  have z6 := Ba.frozen 6
  have z7 := Ba.frozen 7
  have d0 : w.cell? ⟨b, 0, none⟩ = some (.int .i64 y) := Bb.cell 0
  have y0 := Bb.frozen 0
  have hst := run_sto_f64
  refine callsD_of_wpS Tryz.func27 rfl fun c₀ cs hu => ?_
  apply wpS_seq
  apply wpS_region
  simp [wpOpsS, go_sem, recoverD, hu, Tryz.ntmps27, Exit.thenS]
  refine wpS_of_wp ?_
  simp [Array.replicate]
  go_wp2_with fail
  refine (told_errno _ _).mono ?_
  rintro e w' ⟨rfl, rfl⟩
  go_wp2
  simp [bodyPostS, results, Tryz.results27, freshW]

set_option maxHeartbeats 400000 in
theorem kget_idle (a b : Value) (w : World) :
    CallsD Tryz.prog 27 #[a, b] .returning w fun e u' w' => e = .returned (.tuple #[]) ∧ u' = .returning ∧ w' = w := by
  refine callsD_of_wpS Tryz.func27 rfl fun c₀ cs hu => ?_
  apply wpS_seq
  apply wpS_region
  simp [wpOpsS, go_sem, recoverD, hu, Tryz.ntmps27, Exit.thenS]
  refine wpS_of_wp ?_
  simp [Array.replicate]
  go_wp2
  cases c₀
  simp_all [bodyPostS, results, Tryz.results27]

theorem fresh_blk {w : World} {a b : Nat} (er y : Int) {key : ByteArray} {A : Option Addr} {n c : Nat} {o x kd : Int} {nu : Nat} {it : Int} {tx : ByteArray} (Ba : Blk w a 28 (verC key A n c o x kd nu it tx)) (Bb : Blk w b 48 #[.int .i64 y]) (hab : a ≠ b) :
    Blk (freshW w a b er) a 28 (verC ⟨#[]⟩ none 0 0 0 0 0 0 0 ⟨#[]⟩) ∧ Blk (freshW w a b er) b 48 #[.int .i64 er] := by
  constructor
  · exact (ver_set8 Ba ⟨#[]⟩ none 0 0 0 0 0 0 0 ⟨#[]⟩).far (p := ⟨b, 0, none⟩) hab _
  · have hb : b ≠ a := fun h => hab h.symm
    have h := ((((((((Bb.far (p := ⟨a, 0, none⟩) hb (.string ⟨#[]⟩)).far (p := ⟨a, 1, none⟩) hb (.slice none 0 0)).far (p := ⟨a, 2, none⟩) hb (.int .i64 0)).far (p := ⟨a, 3, none⟩) hb (.int .i64 0)).far (p := ⟨a, 4, none⟩) hb (.int .i64 0)).far (p := ⟨a, 5, none⟩) hb (.float .f64 0)).far (p := ⟨a, 6, none⟩) hb (.int .i64 0)).far (p := ⟨a, 7, none⟩) hb (.string ⟨#[]⟩)).set_ 0 (.int .i64 er)
    exact h
theorem fresh_below {w0 w : World} {a b B : Nat} (er : Int) (h : Below B w0 w) (ha : B ≤ a) (hb : B ≤ b) : Below B w0 (freshW w a b er) :=
  below_setCell (below_set8 h ha _ _ _ _ _ _ _ _) hb _

/-- What gave up is recovered: the results are set anew. -/
theorem kend_err (w2 : World) (p : Nat) (t : Array Value) (er y : Int) {key : ByteArray} {A : Option Addr} {n c : Nat} {o x kd : Int} {nu : Nat} {it : Int} {tx : ByteArray} {R : Ending → World → Prop} (Ba : Blk w2 p 28 (verC key A n c o x kd nu it tx)) (Bb : Blk w2 (p + 1) 48 #[.int .i64 y])
    (t2 : t[2]?.getD undef = .pointer (some ⟨p, 0, none⟩)) (t3 : t[3]?.getD undef = .pointer (some ⟨p + 1, 0, none⟩)) (h : R (.returned (.tuple #[verV ⟨#[]⟩ none 0 0 0 0 0 0 0 ⟨#[]⟩, .int .i64 er])) (freshW w2 p (p + 1) er)) :
    bodyPostD Tryz.prog Tryz.f8 R (Exit.panic [{ v := .iface 48 (.int .i64 er), recovered := false }])
      { tmps := t, defers := [{ target := Target.fn (Fn.func 27) #[.pointer (some ⟨p, 0, none⟩), .pointer (some ⟨p + 1, 0, none⟩)], args := #[] }] } w2 := by
  obtain ⟨E0, E1⟩ := fresh_blk er y Ba Bb (by omega)
  refine leaves_cons (f := 27) (args := #[.pointer (some ⟨p, 0, none⟩), .pointer (some ⟨p + 1, 0, none⟩)]) (by simp) (by simp [go_sem]) ?_
  refine (kget_catch p (p + 1) er y [] _ _ _ _ _ _ _ _ _ _ _ Ba Bb (by omega)).mono ?_
  rintro e u' w'' ⟨rfl, rfl, rfl⟩
  generalize freshW w2 p (p + 1) er = w3 at *
  obtain ⟨c0, c1, c2, c3, c4, c5, c6, c7⟩ := ver_cells E0
  have e1 : w3.cell? ⟨p + 1, 0, none⟩ = some (.int .i64 er) := E1.cell 0
  simp [Leaves, settle, results, Tryz.results8, go_sem, c0, c1, c2, c3, c4, c5, c6, c7, e1, t2, t3]
  exact h
/-- What is got stands in the results. -/
theorem kend_ok (w w2 : World) (p : Nat) (t : Array Value) {key : ByteArray} {A : Option Addr} {n c : Nat} {o x kd : Int} {nu : Nat} {it : Int} {tx : ByteArray} {R : Ending → World → Prop} (Ba : Blk w2 p 28 (verC key A n c o x kd nu it tx)) (Bb : Blk w2 (p + 1) 48 #[.int .i64 0])
    (t2 : t[2]?.getD undef = .pointer (some ⟨p, 0, none⟩)) (t3 : t[3]?.getD undef = .pointer (some ⟨p + 1, 0, none⟩)) (h : R (.returned (.tuple #[verV key A n c o x kd nu it tx, .int .i64 0])) w2) :
    bodyPostD Tryz.prog Tryz.f8 R Exit.ret
      { tmps := t, defers := [{ target := Target.fn (Fn.func 27) #[.pointer (some ⟨p, 0, none⟩), .pointer (some ⟨p + 1, 0, none⟩)], args := #[] }] } w2 := by
  obtain ⟨c0, c1, c2, c3, c4, c5, c6, c7⟩ := ver_cells Ba
  have e1 : w2.cell? ⟨p + 1, 0, none⟩ = some (.int .i64 0) := Bb.cell 0
  refine leaves_cons (f := 27) (args := #[.pointer (some ⟨p, 0, none⟩), .pointer (some ⟨p + 1, 0, none⟩)]) (by simp) (by simp [go_sem]) ?_
  refine (kget_idle _ _ _).mono ?_
  rintro e u' w'' ⟨rfl, rfl, rfl⟩
  simp [Leaves, settle, results, Tryz.results8, go_sem, c0, c1, c2, c3, c4, c5, c6, c7, e1, t2, t3]
  exact h

set_option maxRecDepth 100000 in
set_option maxHeartbeats 4000000 in
theorem kget_any (s : ByteArray) (w : World) (hs : s.size ≤ 140737488351232) :
    Calls Tryz.prog 8 #[.string s] w fun e w' => GetIs w w' s.data.toList e ∧ Below w.heap.size w w' := by
  have hmf : ∀ (fn : Fn) (first cap : Array Value) (w : World), (Instr.makeFunc fn first cap).run Tryz.prog w = .ok (.func fn first cap) w := fun _ _ _ _ => rfl
  have P0 : Hid (Blk (((w.alloc (.cells #[.string ⟨#[]⟩, .slice none 0 0, .int .i64 0, .int .i64 0, .int .i64 0, .float .f64 0, .int .i64 0, .string ⟨#[]⟩] 28)).alloc (.cells #[.int .i64 0] 48)).alloc (.cells #[.string s] 66)) w.heap.size 28 (verC ⟨#[]⟩ none 0 0 0 0 0 0 0 ⟨#[]⟩)) := ((Blk.new _ _ _).alloc _).alloc _
  have E0 : Hid (Blk (((w.alloc (.cells #[.string ⟨#[]⟩, .slice none 0 0, .int .i64 0, .int .i64 0, .int .i64 0, .float .f64 0, .int .i64 0, .string ⟨#[]⟩] 28)).alloc (.cells #[.int .i64 0] 48)).alloc (.cells #[.string s] 66)) (w.heap.size + 1) 48 #[.int .i64 0]) := (Blk.new' (by simp) _ _).alloc _
  have R0 : Hid (RdAt (((w.alloc (.cells #[.string ⟨#[]⟩, .slice none 0 0, .int .i64 0, .int .i64 0, .int .i64 0, .float .f64 0, .int .i64 0, .string ⟨#[]⟩] 28)).alloc (.cells #[.int .i64 0] 48)).alloc (.cells #[.string s] 66)) (w.heap.size + 2) s) := Blk.new' (by simp) _ _
  have hb0 : Hid (Below w.heap.size w (((w.alloc (.cells #[.string ⟨#[]⟩, .slice none 0 0, .int .i64 0, .int .i64 0, .int .i64 0, .float .f64 0, .int .i64 0, .string ⟨#[]⟩] 28)).alloc (.cells #[.int .i64 0] 48)).alloc (.cells #[.string s] 66))) := below_alloc (below_alloc (below_alloc (Below.refl _ _) (Nat.le_refl _) _) (Nat.le_refl _) _) (Nat.le_refl _) _
  go_enter_defers Tryz.func8, Tryz.ntmps8
  go_wp2_with fail
  generalize (((w.alloc (.cells #[.string ⟨#[]⟩, .slice none 0 0, .int .i64 0, .int .i64 0, .int .i64 0, .float .f64 0, .int .i64 0, .string ⟨#[]⟩] 28)).alloc (.cells #[.int .i64 0] 48)).alloc (.cells #[.string s] 66)) = w0 at *
  refine (krversion_any (w.heap.size + 2) s w0 R0.out hs).mono ?_
  rintro e w1 ⟨h, g⟩
  have P1 := Lib.hid (kblk_by P0.out g (by omega))
  have E1 := Lib.hid (kblk_by E0.out g (by omega))
  have hb1 := Lib.hid (kbelow_by hb0.out g (Nat.le_refl _) (by omega))
  have hlt : w.heap.size + 2 < w0.heap.size := R0.out.lt
  clear P0 E0 hb0 R0 g
  rcases h with ⟨key, A, c, o, x, xs, h1, h2, rfl, hN⟩ | ⟨h1, rfl⟩
  · unfold verV
    have HN := Lib.hid hN
    have H1 := Lib.hid h1
    have H2 := Lib.hid h2
    obtain ⟨c0, c1, c2, c3, c4, c5, c6, c7⟩ := ver_cells P1.out
    have z0 := P1.out.frozen 0
    have z1 := P1.out.frozen 1
    have z2 := P1.out.frozen 2
    have z3 := P1.out.frozen 3
    have z4 := P1.out.frozen 4
    have z5 := P1.out.frozen 5
    have z6 := P1.out.frozen 6
    have z7 := P1.out.frozen 7
    have d0 : w1.cell? ⟨w.heap.size + 1, 0, none⟩ = some (.int .i64 0) := E1.out.cell 0
    have y0 := E1.out.frozen 0
    have hst := run_sto_f64
    clear hN h1 h2
    go_wp2_with fail
    have hn : w.heap.size + 1 ≠ w.heap.size := by omega
    exact kend_ok w _ w.heap.size _ ((ver_set8 P1.out key A xs.length c o x 0 0 0 ⟨#[]⟩).far (p := ⟨w.heap.size + 1, 0, none⟩) (by dsimp only; omega) _)
      (((((((((E1.out.far (p := ⟨w.heap.size, 0, none⟩) hn _).far (p := ⟨w.heap.size, 1, none⟩) hn _).far (p := ⟨w.heap.size, 2, none⟩) hn _).far (p := ⟨w.heap.size, 3, none⟩) hn _).far (p := ⟨w.heap.size, 4, none⟩) hn _).far (p := ⟨w.heap.size, 5, none⟩) hn _).far (p := ⟨w.heap.size, 6, none⟩) hn _).far (p := ⟨w.heap.size, 7, none⟩) hn _).set_ 0 (.int .i64 0)) rfl rfl
      ⟨Or.inl ⟨key, A, c, o, x, xs, H1.out, H2.out, rfl, Nums.low (ownsRow_setCell_below (nums_set8 HN.out (show w.heap.size < w0.heap.size by omega) _ _ _ _ _ _ _ _) (a := ⟨w.heap.size + 1, 0, none⟩) (by dsimp only; omega) _) (by omega)⟩,
        below_setCell (below_set8 hb1.out (Nat.le_refl _) _ _ _ _ _ _ _ _) (by dsimp only; omega) _⟩
  · have H1 := Lib.hid h1
    clear h1
    unfold gaveUp
    go_wp2_with fail
    exact kend_err w1 w.heap.size _ 4 0 P1.out E1.out rfl rfl ⟨Or.inr ⟨fun key xs o x => H1.out key.data.toList xs o x, rfl⟩, fresh_below 4 hb1.out (Nat.le_refl _) (by omega)⟩
end Go.Proofs.YthjphiniljopgaaGreatDoor

namespace Go.Proofs.YthjphiniljopgaaGreatDoor
open Go.RowKit

set_option maxRecDepth 100000 in
set_option maxHeartbeats 2000000 in
theorem kkey_any (s : ByteArray) (w : World) (hs : s.size ≤ 140737488351232) :
    Calls Tryz.prog 10 #[.string s] w fun e w' => ((∃ key : ByteArray, ∃ xs o x, OkV key.data.toList xs o x ∧ s.data.toList = putVL key.data.toList xs o x ∧ e = .returned (.tuple #[.string key, .int .i64 0])) ∨
      ((∀ (key : ByteArray) (xs : List Int) (o x : Int), OkV key.data.toList xs o x → s.data.toList ≠ putVL key.data.toList xs o x) ∧ e = .returned (.tuple #[.string ByteArray.empty, .int .i64 4]))) ∧ Below w.heap.size w w' := by
  have C := Lib.hid (kget_any s w hs)
  have hst := run_sto_f64
  go_enter Tryz.func10, Tryz.ntmps10
  go_wp2_with fail
  refine C.out.mono ?_
  rintro e w1 ⟨h, hb⟩
  have hb := Lib.hid hb
  rcases h with ⟨key, A, c, o, x, xs, h1, h2, rfl, hN⟩ | ⟨h1, rfl⟩
  · have H1 := Lib.hid h1
    have H2 := Lib.hid h2
    have B := Lib.hid (Blk.new w1 28 (verC key A xs.length c o x 0 0 0 ByteArray.empty))
    have hbB := Lib.hid (hb.out.alloc (o := .cells (verC key A xs.length c o x 0 0 0 ByteArray.empty) 28) hb.out.size)
    unfold verC at B hbB
    unfold verV
    clear hN h1 h2
    have d0 := B.out.cell 0
    simp at d0
    go_wp2_with fail
    go_ret2
    exact ⟨Or.inl ⟨key, xs, o, x, H1.out, H2.out, rfl⟩, hbB.out⟩
  · have H1 := Lib.hid h1
    have B := Lib.hid (Blk.new w1 28 (verC ByteArray.empty none 0 0 0 0 0 0 0 ByteArray.empty))
    have hbB := Lib.hid (hb.out.alloc (o := .cells (verC ByteArray.empty none 0 0 0 0 0 0 0 ByteArray.empty) 28) hb.out.size)
    unfold verC at B hbB
    unfold verV
    clear h1
    have d0 := B.out.cell 0
    simp at d0
    go_wp2_with fail
    go_ret2
    exact ⟨Or.inr ⟨H1.out, rfl⟩, hbB.out⟩

theorem kints_blk {w : World} {g : Nat} {t : TypeId} (zs : List Int) (h : Blk w g t (zs.map (Value.int .i64)).toArray) (hm : zs.length ≤ 9223372036854775807) (hwf : ∀ z ∈ zs, (Lit.int .i64 z).wf = true) : IntsIn w (some ⟨g, 0, none⟩) zs.length zs :=
  ⟨rfl, hm, fun _ => ⟨g, 0, rfl, h.lt, fun j hj => by rw [Nat.zero_add, h.cell j]; simp [List.getD, hj]⟩, hwf⟩
/-- The first call's bytes. -/
def firstB : List UInt8 := [114, 0, 1, 255, 255, 255, 255, 255, 250, 255, 255, 255, 255, 255, 255, 248, 1, 0, 0, 0, 0, 0, 5]
theorem first_put : putVL [114] [5] 0 7 = firstB := by decide +kernel
theorem first_head : headL [114, 0] = [114, 0, 255, 0, 1] := by decide
theorem first_ok : OkV [114] [5] 0 7 := okV_of (by decide +kernel)
theorem first_toList (l : List UInt8) : (⟨l.toArray⟩ : ByteArray).toList = l := by rw [Lib.toList_data]

theorem kfirst_put (w : World) (V : VerIn w ⟨#[114]⟩ (some ⟨w.heap.size - 1, 0, none⟩) 1 [5] 0 7 0 0 0 ⟨#[]⟩) :
    Calls Tryz.prog 6 #[verV ⟨#[114]⟩ (some ⟨w.heap.size - 1, 0, none⟩) 1 1 0 7 0 0 0 ⟨#[]⟩] w fun e w' => e = .returned (.tuple #[.string ⟨firstB.toArray⟩, .int .i64 0]) ∧ Below w.heap.size w w' := by
  refine (kput_any _ _ 1 1 0 7 0 0 0 _ [5] w V).mono ?_
  rintro e w' ⟨h, hb⟩
  refine ⟨?_, hb⟩
  have h1 : (⟨#[114]⟩ : ByteArray).data.toList = [114] := rfl
  rw [h1, first_put, first_ok.ok] at h
  rcases h with ⟨_, h⟩ | ⟨h, _⟩
  · exact h
  · cases h
theorem kfirst_get (w : World) :
    Calls Tryz.prog 8 #[.string ⟨firstB.toArray⟩] w fun e w' => (∃ A c, e = .returned (.tuple #[verV ⟨#[114]⟩ A 1 c 0 7 0 0 0 ByteArray.empty, .int .i64 0])) ∧ Below w.heap.size w w' := by
  refine (kget_any _ w (by rw [size_mk]; decide)).mono ?_
  rintro e w' ⟨h, hb⟩
  refine ⟨?_, hb⟩
  rw [mk_data, ← first_put] at h
  rcases h with ⟨key, A, c, o, x, xs, h1, h2, rfl, _⟩ | ⟨h1, _⟩
  · obtain ⟨k1, k2, k3, k4⟩ := putVL_inj first_ok h1 h2
    have k1 : (⟨#[114]⟩ : ByteArray) = key := kbytes_ext k1
    subst k1 k2 k3 k4
    exact ⟨A, c, rfl⟩
  · exact absurd rfl (h1 ⟨#[114]⟩ [5] 0 7 first_ok)
theorem kfirst_head (w : World) :
    Calls Tryz.prog 16 #[.string ⟨#[114, 0]⟩] w fun e w' => e = .returned (.string ⟨([114, 0, 255, 0, 1] : List UInt8).toArray⟩) ∧ Below w.heap.size w w' := by
  have h := khead_any ⟨#[114, 0]⟩ w (by decide)
  rw [show (⟨#[114, 0]⟩ : ByteArray).data.toList = [114, 0] from rfl, first_head] at h
  exact h
theorem kfirst_iskey (w : World) :
    Calls Tryz.prog 14 #[.string ⟨#[113]⟩] w fun e w' => e = .returned (.bool false) ∧ w' = w := by
  have h := kiskey_any ⟨#[113]⟩ w (by decide)
  rw [show isKeyL (⟨#[113]⟩ : ByteArray).data.toList = false from by decide] at h
  exact h

set_option maxRecDepth 100000 in
set_option maxHeartbeats 4000000 in
theorem kalive_any (w : World) : Calls Tryz.prog 4 #[] w fun e w' => e = .returned (.bool true) ∧ Below w.heap.size w w' := by
  have B0 : Blk (w.alloc (.cells #[.int .i64 5] 3)) w.heap.size 3 #[.int .i64 5] := Blk.new w _ _
  have V0 : VerIn (w.alloc (.cells #[.int .i64 5] 3)) ⟨#[114]⟩ (some ⟨w.heap.size, 0, none⟩) 1 [5] 0 7 0 0 0 ⟨#[]⟩ :=
    ⟨kints_blk [5] B0 (by decide) (by decide), by decide, by decide, by decide, by decide, by decide, by decide, by decide⟩
  have C1 := kfirst_put (w.alloc (.cells #[.int .i64 5] 3)) (by simpa using V0)
  rw [show (w.alloc (.cells #[.int .i64 5] 3)).heap.size - 1 = w.heap.size by simp] at C1
  have hb0 : Hid (Below w.heap.size w (w.alloc (.cells #[.int .i64 5] 3))) := (Below.refl _ w).alloc (Nat.le_refl _) _
  have C2 := fun W => Lib.hid (kfirst_get W)
  have C3 := fun W => Lib.hid (kfirst_head W)
  have C4 := fun W => Lib.hid (kfirst_iskey W)
  simp only [verV] at C1 C2
  have q1 : ((⟨firstB.toArray⟩ : ByteArray).toList == [114, 0, 1, 255, 255, 255, 255, 255, 250, 255, 255, 255, 255, 255, 255, 248, 1, 0, 0, 0, 0, 0, 5]) = true := by rw [first_toList]; decide
  have q2 : ((⟨([114, 0, 255, 0, 1] : List UInt8).toArray⟩ : ByteArray).toList == [114, 0, 255, 0, 1]) = true := by rw [first_toList]; decide
  generalize (⟨firstB.toArray⟩ : ByteArray) = S at *
  generalize (⟨([114, 0, 255, 0, 1] : List UInt8).toArray⟩ : ByteArray) = H at *
  have C1 := Lib.hid C1
  have hst := run_sto_f64
  clear B0 V0
  go_enter Tryz.func4, Tryz.ntmps4
  go_wp2_with fail
  refine C1.out.mono ?_
  rintro e w1 ⟨rfl, hb1⟩
  have HB1 := Lib.hid (hb0.out.trans (hb1.mono hb0.out.size))
  clear C1 hb0 hb1
  go_wp2_with fail
  refine (C2 _).out.mono ?_
  rintro e w2 ⟨⟨A, c, rfl⟩, hb2⟩
  have HB2 := Lib.hid (HB1.out.trans (hb2.mono HB1.out.size))
  clear hb2 HB1 C2
  have B := Lib.hid (Blk.new w2 28 (verC ⟨#[114]⟩ A 1 c 0 7 0 0 0 ByteArray.empty))
  have HB3 := Lib.hid (HB2.out.alloc (o := .cells (verC ⟨#[114]⟩ A 1 c 0 7 0 0 0 ByteArray.empty) 28) HB2.out.size)
  unfold verC at B HB3
  go_wp2_with fail
  refine (C3 _).out.mono ?_
  rintro e w3 ⟨rfl, hb3⟩
  have HB4 := Lib.hid (HB3.out.trans (hb3.mono HB3.out.size))
  clear hb3 HB3 C3 B
  go_wp2_with fail
  refine (C4 _).out.mono ?_
  rintro e w4 ⟨rfl, rfl⟩
  go_wp2_with fail
  go_ret
  exact ⟨by simp, HB4.out⟩
end Go.Proofs.YthjphiniljopgaaGreatDoor

namespace Go.Proofs.YthjphiniljopgaaGreatDoor
open Go.RowKit

set_option maxRecDepth 100000 in
set_option maxHeartbeats 1000000 in
theorem rleq_any (A1 : Option Addr) (n1 c1 : Nat) (xs : List Int) (A2 : Option Addr) (n2 c2 : Nat) (ys : List Int) (w : World) (I1 : IntsIn w A1 n1 xs) (I2 : IntsIn w A2 n2 ys) :
    Calls Tryz.prog 106 #[.slice A1 n1 c1, .slice A2 n2 c2] w fun e w' => e = .returned (.bool (leqL xs ys)) ∧ ∃ q, w' = w.drewN q := by
  have J1 := Lib.hid I1
  have J2 := Lib.hid I2
  have l1 := I1.len
  have l2 := I2.len
  have m1 := I1.max
  have m2 := I2.max
  clear I1 I2
  by_cases hne : n1 = n2
  · subst hne
    go_enter Tryz.func106, Tryz.ntmps106
    go_wp2_with fail
    go_loopw [5] (fun i wr => ∃ k q : Nat, k ≤ n1 ∧ i = .int .i64 (k : Int) ∧ Hid (wr = w.drewN q) ∧ Hid (∀ j, j < k → xs.getD j 0 ≤ ys.getD j 0)) (fun i _ => n1 - (intOf i).toNat)
    case atStart => exact ⟨0, 0, by omega, rfl, rfl, fun j hj => absurd hj (by omega)⟩
    case round =>
      obtain ⟨k, q, hk, rfl, Hw, Hle⟩ := hrel
      by_cases hl : k < n1
      · have K1 := J1.out.drewN q
        have K2 := J2.out.drewN q
        rw [← Hw.out] at K1 K2
        obtain ⟨b1, o1, rfl, _, hc1⟩ := K1.some (by omega)
        obtain ⟨b2, o2, rfl, _, hc2⟩ := K2.some (by omega)
        have d1 := hc1 k hl
        have d2 := hc2 k hl
        obtain ⟨x, hx⟩ : ∃ x, xs.getD k 0 = x := ⟨_, rfl⟩
        obtain ⟨y, hy⟩ : ∃ y, ys.getD k 0 = y := ⟨_, rfl⟩
        rw [hx] at d1
        rw [hy] at d2
        have Hx := Lib.hid hx
        have Hy := Lib.hid hy
        have hl1 : (k : Int) < (n1 : Int) := by omega
        clear hc1 hc2 hx hy K1 K2
        by_cases hg : y < x
        · go_wp2_with fail
          go_quiet (fail)
          go_wp2_with fail
          have : leqL xs ys = false := by
            unfold leqL
            refine decide_eq_false fun h => ?_
            have := h.2 k (by omega)
            rw [Hx.out, Hy.out] at this
            omega
          rw [this]
          go_ret
          exact ⟨rfl, drewN_more Hw.out _⟩
        · go_wp2_with fail
          go_quiet (fail)
          go_wp2_with fail
          go_roundw
          case rel =>
            refine ⟨k + 1, _, by omega, by go_num, (by rw [Hw.out, World.drewN_drewN]; rfl), fun j hj => ?_⟩
            by_cases hjk : j = k
            · subst hjk; rw [Hx.out, Hy.out]; omega
            · exact Hle.out j (by omega)
          case measure => simp [intOf]; omega
      · obtain rfl : k = n1 := by omega
        go_wp2_with fail
        have : leqL xs ys = true := by
          unfold leqL
          exact decide_eq_true ⟨by omega, fun j hj => Hle.out j (by omega)⟩
        rw [this]
        go_ret
        exact ⟨rfl, _, Hw.out⟩
  · go_enter Tryz.func106, Tryz.ntmps106
    go_wp2_with fail
    have : leqL xs ys = false := by
      unfold leqL
      exact decide_eq_false fun h => hne (by omega)
    rw [this]
    go_ret
    exact ⟨rfl, 0, rfl⟩

theorem leqL_both (xs ys : List Int) : (leqL xs ys && leqL ys xs) = decide (xs = ys) := by
  by_cases h : xs = ys
  · subst h
    have : leqL xs xs = true := by unfold leqL; exact decide_eq_true ⟨rfl, fun _ _ => Int.le_refl _⟩
    rw [this]; simp
  · rw [decide_eq_false h]
    rw [Bool.and_eq_false_iff]
    by_cases h1 : leqL xs ys = true
    · right
      refine Bool.eq_false_iff.2 fun h2 => h ?_
      unfold leqL at h1 h2
      have a := of_decide_eq_true h1
      have b := of_decide_eq_true h2
      exact list_ext_getD a.1 fun j hj => Int.le_antisymm (a.2 j hj) (b.2 j (by omega))
    · left
      exact Bool.eq_false_iff.2 h1

set_option maxRecDepth 100000 in
set_option maxHeartbeats 1000000 in
theorem rsame_any (A1 : Option Addr) (n1 c1 : Nat) (xs : List Int) (A2 : Option Addr) (n2 c2 : Nat) (ys : List Int) (w : World) (I1 : IntsIn w A1 n1 xs) (I2 : IntsIn w A2 n2 ys) :
    Calls Tryz.prog 32 #[.slice A1 n1 c1, .slice A2 n2 c2] w fun e w' => e = .returned (.bool (decide (xs = ys))) ∧ ∃ q, w' = w.drewN q := by
  rw [← leqL_both]
  have R1 : Hid (∀ q, Calls Tryz.prog 106 #[.slice A1 n1 c1, .slice A2 n2 c2] (w.drewN q) fun e w' => e = .returned (.bool (leqL xs ys)) ∧ ∃ q, w' = w.drewN q) :=
    fun q => (rleq_any A1 n1 c1 xs A2 n2 c2 ys _ (I1.drewN q) (I2.drewN q)).mono fun _ _ h => ⟨h.1, by obtain ⟨r, hr⟩ := h.2; exact ⟨q + r, by rw [hr, World.drewN_drewN]⟩⟩
  have R2 : Hid (∀ q, Calls Tryz.prog 106 #[.slice A2 n2 c2, .slice A1 n1 c1] (w.drewN q) fun e w' => e = .returned (.bool (leqL ys xs)) ∧ ∃ q, w' = w.drewN q) :=
    fun q => (rleq_any A2 n2 c2 ys A1 n1 c1 xs _ (I2.drewN q) (I1.drewN q)).mono fun _ _ h => ⟨h.1, by obtain ⟨r, hr⟩ := h.2; exact ⟨q + r, by rw [hr, World.drewN_drewN]⟩⟩
  clear I1 I2
  obtain ⟨x, hx⟩ : ∃ x, leqL xs ys = x := ⟨_, rfl⟩
  obtain ⟨y, hy⟩ : ∃ y, leqL ys xs = y := ⟨_, rfl⟩
  rw [hx] at R1 ⊢
  rw [hy] at R2 ⊢
  clear hx hy
  cases x with
  | false =>
    go_enter Tryz.func32, Tryz.ntmps32
    go_wp2_with fail
    refine (R1.out 0).mono ?_
    rintro e w1 ⟨rfl, q, hq⟩
    have Hq := Lib.hid hq
    clear hq
    go_wp2_with fail
    go_ret
    exact ⟨rfl, q, Hq.out⟩
  | true =>
    go_enter Tryz.func32, Tryz.ntmps32
    go_wp2_with fail
    refine (R1.out 0).mono ?_
    rintro e w1 ⟨rfl, q, rfl⟩
    go_wp2_with fail
    refine (R2.out q).mono ?_
    rintro e w1 ⟨rfl, q, hq⟩
    have Hq := Lib.hid hq
    clear hq
    cases y with
    | false =>
      go_wp2_with fail
      go_ret
      exact ⟨rfl, q, Hq.out⟩
    | true =>
      go_wp2_with fail
      go_ret
      exact ⟨rfl, q, Hq.out⟩
end Go.Proofs.YthjphiniljopgaaGreatDoor

namespace Go.Proofs.YthjphiniljopgaaGreatDoor
open Ieee

/-- A word's lower 63 bits. -/
def rung (x : Nat) : Nat := x % 9223372036854775808
def isNeg (x : Nat) : Bool := x / 9223372036854775808 % 2 == 1
/-- A magnitude in units of the least one. -/
def magOf (r : Nat) : Nat := if r < 4503599627370496 then r else (4503599627370496 + r % 4503599627370496) * 2 ^ (r / 4503599627370496 - 1)
/-- A word's place in the order of numbers, nan aside. -/
def nkey (x : Nat) : Int := if isNeg x then -(rung x : Int) else (rung x : Int)
def infR : Nat := 9218868437227405312

theorem magOf_step (r : Nat) : magOf r < magOf (r + 1) := by
  unfold magOf
  by_cases h1 : r + 1 < 4503599627370496
  · rw [if_pos (by omega), if_pos h1]; omega
  · rw [if_neg h1]
    by_cases h2 : r < 4503599627370496
    · rw [if_pos h2, show (r + 1) / 4503599627370496 - 1 = 0 from by omega]
      omega
    · rw [if_neg h2]
      by_cases h3 : (r + 1) % 4503599627370496 = 0
      · have e1 : (r + 1) / 4503599627370496 = r / 4503599627370496 + 1 := by omega
        have e2 : r % 4503599627370496 = 4503599627370495 := by omega
        rw [h3, e1, e2, show r / 4503599627370496 + 1 - 1 = (r / 4503599627370496 - 1) + 1 from by omega, Nat.pow_succ]
        have := Nat.two_pow_pos (r / 4503599627370496 - 1)
        omega
      · have e1 : (r + 1) / 4503599627370496 = r / 4503599627370496 := by omega
        have e2 : (r + 1) % 4503599627370496 = r % 4503599627370496 + 1 := by omega
        rw [e1, e2]
        exact Nat.mul_lt_mul_of_pos_right (by omega) (Nat.two_pow_pos _)
theorem magOf_mono {a b : Nat} (h : a < b) : magOf a < magOf b := by
  induction b with
  | zero => omega
  | succ b ih =>
    rcases Nat.lt_or_ge a b with h1 | h1
    · exact Nat.lt_trans (ih h1) (magOf_step b)
    · obtain rfl : a = b := by omega
      exact magOf_step a
theorem magOf_lt (a b : Nat) : magOf a < magOf b ↔ a < b := by
  constructor
  · intro h
    rcases Nat.lt_trichotomy a b with h1 | h1 | h1
    · exact h1
    · subst h1; omega
    · have := magOf_mono h1; omega
  · exact magOf_mono
theorem magOf_eq (a b : Nat) : magOf a = magOf b ↔ a = b := by
  constructor
  · intro h
    rcases Nat.lt_trichotomy a b with h1 | h1 | h1
    · have := magOf_mono h1; omega
    · exact h1
    · have := magOf_mono h1; omega
  · rintro rfl; rfl

theorem f64_sign : Ieee.double.signWeight = 9223372036854775808 := by decide
theorem f64_binade : Ieee.double.binade = 4503599627370496 := by decide
theorem f64_inf : Ieee.double.infRung = infR := by decide
theorem f64_least : Ieee.double.leastPlace = -1074 := by decide

theorem read_fin (x : Nat) (h : rung x < infR) : ∃ m k : Nat, Ieee.double.read x = .number (isNeg x) m (-1074 + (k : Int)) ∧ m * 2 ^ k = magOf (rung x) := by
  unfold Format.read
  rw [f64_sign, f64_binade, f64_inf, f64_least]
  show ∃ m k : Nat, (if rung x < 4503599627370496 then _ else _) = _ ∧ _
  by_cases h1 : rung x < 4503599627370496
  · rw [if_pos h1]
    refine ⟨rung x, 0, rfl, ?_⟩
    unfold magOf
    rw [if_pos h1]
    omega
  · rw [if_neg h1]
    show ∃ m k : Nat, (if rung x < infR then _ else _) = _ ∧ _
    rw [if_pos h]
    refine ⟨4503599627370496 + rung x % 4503599627370496, rung x / 4503599627370496 - 1, rfl, ?_⟩
    unfold magOf
    rw [if_neg h1]
theorem read_inf (x : Nat) (h : rung x = infR) : Ieee.double.read x = .infinity (isNeg x) := by
  unfold Format.read
  rw [f64_sign, f64_binade, f64_inf, f64_least]
  show (if rung x < 4503599627370496 then _ else if rung x < infR then _ else if rung x = infR then _ else _) = _
  rw [if_neg (by rw [h]; decide), if_neg (by omega), if_pos h]
  rfl
theorem read_nan (x : Nat) (h : infR < rung x) : ∃ f, Ieee.double.read x = .nan (isNeg x) f := by
  unfold Format.read
  rw [f64_sign, f64_binade, f64_inf, f64_least]
  refine ⟨rung x - infR, ?_⟩
  show (if rung x < 4503599627370496 then _ else if rung x < infR then _ else if rung x = infR then _ else _) = _
  have : (4503599627370496 : Nat) < infR := by decide
  rw [if_neg (by omega), if_neg (by omega), if_neg (by omega)]
  rfl

theorem cmp_of {a b a' b' : Int} (h1 : a < b ↔ a' < b') (h2 : a = b ↔ a' = b') : compare a b = compare a' b' := by
  show compareOfLessAndEq a b = compareOfLessAndEq a' b'
  unfold compareOfLessAndEq
  simp only [h1, h2]

theorem scale_mag (m k l : Nat) : (m <<< (k - min k l)) * 2 ^ min k l = m * 2 ^ k := by
  rw [Nat.shiftLeft_eq, Nat.mul_assoc, ← Nat.pow_add]
  congr 2
  omega

theorem signed_cmp (s t : Bool) (a b A B c : Nat) (hc : 0 < c) (ha : a * c = A) (hb : b * c = B) (x y : Nat) (h1 : A < B ↔ x < y) (h1' : B < A ↔ y < x) (hx : A = 0 ↔ x = 0) (hy : B = 0 ↔ y = 0) :
    compare (if s then -((a : Nat) : Int) else ((a : Nat) : Int)) (if t then -((b : Nat) : Int) else ((b : Nat) : Int)) = compare (if s then -(x : Int) else (x : Int)) (if t then -(y : Int) else (y : Int)) := by
  have g1 : a < b ↔ A < B := by rw [← ha, ← hb]; exact (Nat.mul_lt_mul_right hc).symm
  have g2 : b < a ↔ B < A := by rw [← ha, ← hb]; exact (Nat.mul_lt_mul_right hc).symm
  have g3 : a = 0 ↔ A = 0 := by
    rw [← ha]
    constructor
    · rintro rfl; simp
    · intro h; rcases Nat.mul_eq_zero.1 h with h | h <;> omega
  have g4 : b = 0 ↔ B = 0 := by
    rw [← hb]
    constructor
    · rintro rfl; simp
    · intro h; rcases Nat.mul_eq_zero.1 h with h | h <;> omega
  clear ha hb
  cases s <;> cases t <;> apply cmp_of <;> simp only [if_true, Bool.false_eq_true, if_false] <;> omega

theorem magOf_zero (a : Nat) : magOf a = 0 ↔ a = 0 := by
  have := magOf_eq a 0
  rw [show magOf 0 = 0 from by decide] at this
  exact this

theorem order_key (x y : Nat) (hx : rung x ≤ infR) (hy : rung y ≤ infR) : Ieee.double.order x y = some (compare (nkey x) (nkey y)) := by
  unfold Format.order
  rcases Nat.lt_or_ge (rung x) infR with h1 | h1
  · obtain ⟨m, k, e1, f1⟩ := read_fin x h1
    rcases Nat.lt_or_ge (rung y) infR with h2 | h2
    · obtain ⟨n, l, e2, f2⟩ := read_fin y h2
      rw [e1, e2]
      show some (compare (signed _ m _) (signed _ n _)) = _
      have p1 : ((-1074 + (k : Int)) - min (-1074 + (k : Int)) (-1074 + (l : Int))).toNat = k - min k l := by omega
      have p2 : ((-1074 + (l : Int)) - min (-1074 + (k : Int)) (-1074 + (l : Int))).toNat = l - min k l := by omega
      rw [p1, p2]
      unfold signed nkey
      congr 1
      refine signed_cmp (isNeg x) (isNeg y) _ _ (magOf (rung x)) (magOf (rung y)) (2 ^ min k l) (Nat.two_pow_pos _) ?_ ?_ (rung x) (rung y) (magOf_lt _ _) (magOf_lt _ _) (magOf_zero _) (magOf_zero _)
      · rw [scale_mag, f1]
      · have h3 := scale_mag n l k
        rw [Nat.min_comm l k] at h3
        rw [h3, f2]
    · have h2' : rung y = infR := by omega
      rw [e1, read_inf y h2']
      show some (if isNeg y then Ordering.gt else Ordering.lt) = _
      congr 1
      unfold nkey
      rw [h2']
      generalize infR = r at *
      have hlt : rung x < r := h1
      cases isNeg y <;> cases isNeg x <;> simp only [if_true, Bool.false_eq_true, if_false] <;> symm <;> first
        | (apply Int.compare_eq_lt.2; omega)
        | (apply Int.compare_eq_gt.2; omega)
  · have h1' : rung x = infR := by omega
    rcases Nat.lt_or_ge (rung y) infR with h2 | h2
    · obtain ⟨n, l, e2, f2⟩ := read_fin y h2
      rw [read_inf x h1', e2]
      show some (if isNeg x then Ordering.lt else Ordering.gt) = _
      congr 1
      unfold nkey
      rw [h1']
      generalize infR = r at *
      have hlt : rung y < r := h2
      cases isNeg x <;> cases isNeg y <;> simp only [if_true, Bool.false_eq_true, if_false] <;> symm <;> first
        | (apply Int.compare_eq_lt.2; omega)
        | (apply Int.compare_eq_gt.2; omega)
    · have h2' : rung y = infR := by omega
      rw [read_inf x h1', read_inf y h2']
      show some (compare (isNeg y).toNat (isNeg x).toNat) = _
      unfold nkey
      rw [h1', h2']
      cases isNeg x <;> cases isNeg y <;> rfl
end Go.Proofs.YthjphiniljopgaaGreatDoor

namespace Go.Proofs.YthjphiniljopgaaGreatDoor
open Go.RowKit Ieee

def isN (x : Nat) : Bool := decide (infR < rung x)
def rankN (x : Nat) : Nat := if isN x then 0 else if isNeg x then 18446744073709551615 - x else x + 9223372036854775808
def cmpN (a b : Nat) : Int := if rankN a < rankN b then -1 else if rankN b < rankN a then 1 else 0

theorem order_nan (x y : Nat) (h : isN x = true ∨ isN y = true) : Ieee.double.order x y = none := by
  unfold Format.order
  rcases h with h | h
  · obtain ⟨f, e⟩ := read_nan x (by simpa [isN] using h)
    rw [e]; rfl
  · obtain ⟨f, e⟩ := read_nan y (by simpa [isN] using h)
    rw [e]
    cases Ieee.double.read x <;> rfl

theorem order_num (x y : Nat) (hx : isN x = false) (hy : isN y = false) : Ieee.double.order x y = some (compare (nkey x) (nkey y)) :=
  order_key x y (by simpa [isN] using hx) (by simpa [isN] using hy)

theorem lss_eq (x y : Nat) : (FloatKind.f64.format.order x y == some .lt) = (!isN x && !isN y && decide (nkey x < nkey y)) := by
  show (Ieee.double.order x y == some .lt) = _
  cases hx : isN x
  · cases hy : isN y
    · rw [order_num x y hx hy]
      rcases Int.lt_trichotomy (nkey x) (nkey y) with h | h | h
      · rw [Int.compare_eq_lt.2 h, decide_eq_true h]; rfl
      · rw [Int.compare_eq_eq.2 h, decide_eq_false (by omega)]; rfl
      · rw [Int.compare_eq_gt.2 h, decide_eq_false (by omega)]; rfl
    · rw [order_nan x y (Or.inr hy)]; rfl
  · rw [order_nan x y (Or.inl hx)]; rfl
theorem gtr_eq (x y : Nat) : (FloatKind.f64.format.order x y == some .gt) = (!isN x && !isN y && decide (nkey y < nkey x)) := by
  show (Ieee.double.order x y == some .gt) = _
  cases hx : isN x
  · cases hy : isN y
    · rw [order_num x y hx hy]
      rcases Int.lt_trichotomy (nkey x) (nkey y) with h | h | h
      · rw [Int.compare_eq_lt.2 h, decide_eq_false (by omega)]; rfl
      · rw [Int.compare_eq_eq.2 h, decide_eq_false (by omega)]; rfl
      · rw [Int.compare_eq_gt.2 h, decide_eq_true h]; rfl
    · rw [order_nan x y (Or.inr hy)]; rfl
  · rw [order_nan x y (Or.inl hx)]; rfl
theorem eql_eq (x y : Nat) : (FloatKind.f64.format.order x y == some .eq) = (!isN x && !isN y && decide (nkey x = nkey y)) := by
  show (Ieee.double.order x y == some .eq) = _
  cases hx : isN x
  · cases hy : isN y
    · rw [order_num x y hx hy]
      rcases Int.lt_trichotomy (nkey x) (nkey y) with h | h | h
      · rw [Int.compare_eq_lt.2 h, decide_eq_false (by omega)]; rfl
      · rw [Int.compare_eq_eq.2 h, decide_eq_true h]; rfl
      · rw [Int.compare_eq_gt.2 h, decide_eq_false (by omega)]; rfl
    · rw [order_nan x y (Or.inr hy)]; rfl
  · rw [order_nan x y (Or.inl hx)]; rfl
theorem neq_self (x : Nat) : (FloatKind.f64.format.order x x != some .eq) = isN x := by
  show (!(FloatKind.f64.format.order x x == some .eq)) = _
  rw [eql_eq, decide_eq_true rfl]
  cases isN x <;> rfl
theorem eql_self (x : Nat) : (FloatKind.f64.format.order x x == some .eq) = !isN x := by
  rw [eql_eq, decide_eq_true rfl]
  cases isN x <;> rfl

/-! ### Words below 2^64 -/
theorem word_neg (x : Nat) (hx : x < 18446744073709551616) : isNeg x = decide (9223372036854775808 ≤ x) := by
  unfold isNeg
  rcases Nat.lt_or_ge x 9223372036854775808 with h | h
  · rw [decide_eq_false (by omega), show x / 9223372036854775808 % 2 = 0 from by omega]; rfl
  · rw [decide_eq_true h, show x / 9223372036854775808 % 2 = 1 from by omega]; rfl
/-- A word's parts. -/
theorem word_parts (x : Nat) (hx : x < 18446744073709551616) : (isNeg x = true ∧ x = 9223372036854775808 + rung x ∧ rung x < 9223372036854775808) ∨ (isNeg x = false ∧ x = rung x ∧ rung x < 9223372036854775808) := by
  rw [word_neg x hx]
  unfold rung
  rcases Nat.lt_or_ge x 9223372036854775808 with h | h
  · exact Or.inr ⟨decide_eq_false (by omega), by omega, by omega⟩
  · exact Or.inl ⟨decide_eq_true h, by omega, by omega⟩
theorem rung_lt (x : Nat) : rung x < 9223372036854775808 := Nat.mod_lt _ (by decide)

theorem rankN_lt (x : Nat) (hx : x < 18446744073709551616) : rankN x < 18446744073709551616 := by
  unfold rankN
  rcases word_parts x hx with ⟨h1, h2, h3⟩ | ⟨h1, h2, h3⟩ <;> rw [h1] <;> cases isN x <;> simp <;> omega

/-- Of numbers that are no nan the rank tells what the order and the signs tell. -/
theorem rank_cases (x y : Nat) (hx : x < 18446744073709551616) (hy : y < 18446744073709551616) (nx : isN x = false) (ny : isN y = false) :
    (nkey x < nkey y → rankN x < rankN y) ∧ (nkey y < nkey x → rankN y < rankN x) ∧ (nkey x = nkey y → isNeg x = isNeg y → rankN x = rankN y) ∧ (nkey x = nkey y → isNeg x = true → isNeg y = false → rankN x < rankN y) := by
  unfold rankN nkey
  rw [nx, ny]
  rcases word_parts x hx with ⟨h1, h2, h3⟩ | ⟨h1, h2, h3⟩ <;> rcases word_parts y hy with ⟨k1, k2, k3⟩ | ⟨k1, k2, k3⟩ <;> rw [h1, k1] <;> simp <;> omega

theorem rank_nan (x : Nat) (h : isN x = true) : rankN x = 0 := by unfold rankN; rw [h]; rfl
theorem rank_pos (x : Nat) (hx : x < 18446744073709551616) (h : isN x = false) : 0 < rankN x := by
  have hi : rung x ≤ infR := by simpa [isN] using h
  have hc : infR = 9218868437227405312 := rfl
  unfold rankN
  rw [h]
  rcases word_parts x hx with ⟨h1, h2, h3⟩ | ⟨h1, h2, h3⟩ <;> rw [h1] <;> simp <;> omega
theorem rank_inj (x y : Nat) (hx : x < 18446744073709551616) (hy : y < 18446744073709551616) (nx : isN x = false) (h : rankN x = rankN y) : x = y := by
  have ny : isN y = false := by
    cases e : isN y
    · rfl
    · have := rank_pos x hx nx
      rw [rank_nan y e] at h
      omega
  unfold rankN at h
  rw [nx, ny] at h
  rcases word_parts x hx with ⟨h1, h2, h3⟩ | ⟨h1, h2, h3⟩ <;> rcases word_parts y hy with ⟨k1, k2, k3⟩ | ⟨k1, k2, k3⟩ <;> rw [h1, k1] at h <;> simp at h <;> omega

theorem cmpN_self (a : Nat) : cmpN a a = 0 := by unfold cmpN; rw [if_neg (by omega), if_neg (by omega)]
theorem cmpN_lt {a b : Nat} (h : rankN a < rankN b) : cmpN a b = -1 := by unfold cmpN; rw [if_pos h]
theorem cmpN_gt {a b : Nat} (h : rankN b < rankN a) : cmpN a b = 1 := by unfold cmpN; rw [if_neg (by omega), if_pos h]
theorem cmpN_eq {a b : Nat} (h : rankN a = rankN b) : cmpN a b = 0 := by unfold cmpN; rw [if_neg (by omega), if_neg (by omega)]
theorem cmpN_zero (a b : Nat) : cmpN a b = 0 ↔ rankN a = rankN b := by unfold cmpN; split <;> (try split) <;> omega
theorem cmpN_swap (a b : Nat) : cmpN b a = -cmpN a b := by unfold cmpN; split <;> split <;> (try split) <;> omega

/-! ### Bits of words -/
theorem ofInt_u64 (a : Nat) (ha : a < 18446744073709551616) : (BitVec.ofInt 64 (a : Int)).toNat = a := by
  rw [BitVec.ofInt_natCast, BitVec.toNat_ofNat]; exact Nat.mod_eq_of_lt (by omega)
theorem wrap_u64_nat (a : Nat) (ha : a < 18446744073709551616) : IntKind.u64.wrap ((a : Nat) : Int) = (a : Int) := by
  rw [IntKind.wrap_u64]; omega
theorem u64_and_nat (a b : Nat) (ha : a < 18446744073709551616) (hb : b < 18446744073709551616) : bits .and .u64 (a : Int) (b : Int) = ((a &&& b : Nat) : Int) := by
  have hx : a &&& b < 2 ^ 64 := Nat.and_lt_two_pow _ (by omega)
  show IntKind.u64.wrap ((BitVec.ofInt 64 (a : Int) &&& BitVec.ofInt 64 (b : Int)).toNat : Int) = _
  rw [BitVec.toNat_and, ofInt_u64 a ha, ofInt_u64 b hb, wrap_u64_nat _ (by omega)]
theorem u64_or_nat (a b : Nat) (ha : a < 18446744073709551616) (hb : b < 18446744073709551616) : bits .or .u64 (a : Int) (b : Int) = ((a ||| b : Nat) : Int) := by
  have hx : a ||| b < 2 ^ 64 := Nat.or_lt_two_pow (by omega) (by omega)
  show IntKind.u64.wrap ((BitVec.ofInt 64 (a : Int) ||| BitVec.ofInt 64 (b : Int)).toNat : Int) = _
  rw [BitVec.toNat_or, ofInt_u64 a ha, ofInt_u64 b hb, wrap_u64_nat _ (by omega)]
theorem u64_xor_nat (a b : Nat) (ha : a < 18446744073709551616) (hb : b < 18446744073709551616) : bits .xor .u64 (a : Int) (b : Int) = ((a ^^^ b : Nat) : Int) := by
  have hx : a ^^^ b < 2 ^ 64 := Nat.xor_lt_two_pow (by omega) (by omega)
  show IntKind.u64.wrap ((BitVec.ofInt 64 (a : Int) ^^^ BitVec.ofInt 64 (b : Int)).toNat : Int) = _
  rw [BitVec.toNat_xor, ofInt_u64 a ha, ofInt_u64 b hb, wrap_u64_nat _ (by omega)]
theorem u64_not_nat (a : Nat) (ha : a < 18446744073709551616) : bits .xor .u64 IntKind.u64.max (a : Int) = ((18446744073709551615 - a : Nat) : Int) := by
  have hm : IntKind.u64.max = ((18446744073709551615 : Nat) : Int) := by decide
  have e : (18446744073709551615 ^^^ a : Nat) = 18446744073709551615 - a := by
    have h1 : (BitVec.allOnes 64 ^^^ BitVec.ofNat 64 a) = ~~~ BitVec.ofNat 64 a := BitVec.allOnes_xor
    have h2 := congrArg BitVec.toNat h1
    rw [BitVec.toNat_xor, BitVec.toNat_not, BitVec.toNat_ofNat, Nat.mod_eq_of_lt (show a < 2 ^ 64 from by omega), BitVec.toNat_allOnes] at h2
    have h3 : (2 : Nat) ^ 64 - 1 = 18446744073709551615 := by decide
    rw [h3] at h2
    exact h2
  rw [hm, u64_xor_nat _ _ (by decide) ha, e]

theorem and_sign (x : Nat) (hx : x < 18446744073709551616) : x &&& 9223372036854775808 = if isNeg x then 9223372036854775808 else 0 := by
  have h1 : x &&& 9223372036854775808 = x / 2 ^ 63 % 2 * 2 ^ 63 := by
    apply Nat.eq_of_testBit_eq
    intro i
    rw [Nat.testBit_and, show (9223372036854775808 : Nat) = 2 ^ 63 from rfl, Nat.testBit_two_pow, Nat.testBit_mul_two_pow]
    by_cases hi : 63 = i
    · subst hi
      simp [Nat.testBit, Nat.shiftRight_eq_div_pow]
    · rw [decide_eq_false hi, Bool.and_false]
      symm
      by_cases h3 : 63 ≤ i
      · rw [decide_eq_true h3, Bool.true_and]
        apply Nat.testBit_lt_two_pow
        have : 2 ^ 1 ≤ 2 ^ (i - 63) := Nat.pow_le_pow_right (by decide) (by omega)
        have := Nat.mod_lt (x / 2 ^ 63) (show 2 > 0 by decide)
        omega
      · rw [decide_eq_false h3, Bool.false_and]
  rw [h1]
  rcases word_parts x hx with ⟨h1, h2, h3⟩ | ⟨h1, h2, h3⟩ <;> rw [h1] <;> simp <;> omega
theorem or_sign (x : Nat) (hx : x < 9223372036854775808) : x ||| 9223372036854775808 = x + 9223372036854775808 := by
  have := Nat.two_pow_add_eq_or_of_lt (i := 63) (b := x) hx 1
  rw [show 2 ^ 63 * 1 = 9223372036854775808 from by decide] at this
  rw [Nat.or_comm]
  omega
theorem xor_sign (x : Nat) (hx : x < 9223372036854775808) : x ^^^ 9223372036854775808 = x + 9223372036854775808 := by
  rw [← or_sign x hx]
  apply Nat.eq_of_testBit_eq
  intro i
  rw [Nat.testBit_xor, Nat.testBit_or, show (9223372036854775808 : Nat) = 2 ^ 63 from rfl, Nat.testBit_two_pow]
  by_cases hi : 63 = i
  · subst hi
    rw [Nat.testBit_lt_two_pow hx]
    rfl
  · rw [decide_eq_false hi, Bool.xor_false, Bool.or_false]

theorem and_sign_int (x : Nat) (hx : x < 18446744073709551616) : (bits .and .u64 (x : Int) 9223372036854775808 != 0) = isNeg x := by
  have := u64_and_nat x 9223372036854775808 hx (by decide)
  rw [and_sign x hx] at this
  rw [show ((9223372036854775808 : Int)) = ((9223372036854775808 : Nat) : Int) from rfl, this]
  cases isNeg x <;> rfl
theorem or_sign_int (x : Nat) (hx : x < 9223372036854775808) : bits .or .u64 (x : Int) 9223372036854775808 = ((x + 9223372036854775808 : Nat) : Int) := by
  have := u64_or_nat x 9223372036854775808 (by omega) (by decide)
  rw [or_sign x hx] at this
  exact this

/-- '-f': the sign is turned. -/
theorem neg_word (x : Nat) (hx : x < 18446744073709551616) : Op.negFloat .f64 x = if isNeg x then x - 9223372036854775808 else x + 9223372036854775808 := by
  show x ^^^ 9223372036854775808 = _
  rcases word_parts x hx with ⟨h1, h2, h3⟩ | ⟨h1, h2, h3⟩
  · rw [h1, if_pos rfl]
    have e : x = rung x ^^^ 9223372036854775808 := by rw [xor_sign _ h3]; omega
    have e2 : x ^^^ 9223372036854775808 = rung x := by
      conv => lhs; rw [e]
      rw [Nat.xor_assoc, Nat.xor_self, Nat.xor_zero]
    rw [e2]; omega
  · rw [h1, if_neg (by decide)]
    exact xor_sign x (by omega)

/-- The number that stands at a rank. -/
def unrankN (r : Nat) : Nat := if isNeg r then r - 9223372036854775808 else 18446744073709551615 - r
theorem unrankN_lt (r : Nat) (h : r < 18446744073709551616) : unrankN r < 18446744073709551616 := by unfold unrankN; split <;> omega
theorem unrank_rank (x : Nat) (hx : x < 18446744073709551616) (h : isN x = false) : unrankN (rankN x) = x := by
  unfold unrankN rankN
  rw [h]
  rcases word_parts x hx with ⟨h1, h2, h3⟩ | ⟨h1, h2, h3⟩ <;> rw [h1] <;> simp only [Bool.false_eq_true, if_false, if_true]
  · rw [word_neg _ (by omega), decide_eq_false (by omega)]
    simp only [Bool.false_eq_true, if_false]
    omega
  · rw [word_neg _ (by omega), decide_eq_true (by omega)]
    simp only [if_true]
    omega
theorem andNot_rung (x : Nat) (hx : x < 18446744073709551616) : bits .andNot .u64 (x : Int) 9223372036854775808 = (rung x : Int) := by
  show IntKind.u64.wrap ((BitVec.ofInt 64 (x : Int) &&& ~~~ BitVec.ofInt 64 ((9223372036854775808 : Nat) : Int)).toNat : Int) = _
  have hm := Nat.and_two_pow_sub_one_eq_mod x 63
  rw [BitVec.toNat_and, BitVec.toNat_not, ofInt_u64 x hx, ofInt_u64 _ (by decide), show (2 ^ 64 - 1 - 9223372036854775808 : Nat) = 2 ^ 63 - 1 from by decide, hm]
  have hd : (2 : Nat) ^ 63 = 9223372036854775808 := by decide
  rw [hd, wrap_u64_nat _ (by omega)]
  rfl
theorem and_sign_eq (x : Nat) (hx : x < 18446744073709551616) : bits .and .u64 (x : Int) 9223372036854775808 = ((if isNeg x then 9223372036854775808 else 0 : Nat) : Int) := by
  have := u64_and_nat x 9223372036854775808 hx (by decide)
  rw [and_sign x hx] at this
  exact this
theorem andNot_sign (x : Nat) (hx : x < 18446744073709551616) (h : isNeg x = true) : bits .andNot .u64 (x : Int) 9223372036854775808 = ((x - 9223372036854775808 : Nat) : Int) := by
  show IntKind.u64.wrap ((BitVec.ofInt 64 (x : Int) &&& ~~~ BitVec.ofInt 64 ((9223372036854775808 : Nat) : Int)).toNat : Int) = _
  have hm := Nat.and_two_pow_sub_one_eq_mod x 63
  rw [BitVec.toNat_and, BitVec.toNat_not, ofInt_u64 x hx, ofInt_u64 _ (by decide), show (2 ^ 64 - 1 - 9223372036854775808 : Nat) = 2 ^ 63 - 1 from by decide, hm]
  have hd : (2 : Nat) ^ 63 = 9223372036854775808 := by decide
  rw [hd, wrap_u64_nat _ (by omega)]
  rcases word_parts x hx with ⟨h1, h2, h3⟩ | ⟨h1, h2, h3⟩
  · have e : x % 9223372036854775808 = x - 9223372036854775808 := by omega
    rw [e]
  · rw [h] at h1; cases h1
end Go.Proofs.YthjphiniljopgaaGreatDoor

namespace Go.Proofs.YthjphiniljopgaaGreatDoor
open Go.RowKit

theorem run_float64bits (x : Nat) (w : World) : (callFunc 169 #[.float .f64 x]).run Tryz.prog w = .ok (.value (.int .u64 (x : Int))) w := by
  rw [run_callFunc_extern (e := Extern.MathFloatBits.float64bits) Tryz.func169 (by kernel_rfl) (by kernel_rfl) (by kernel_rfl) (by kernel_rfl)]
  rfl
theorem run_neg_float (x : Nat) (w : World) : (Op.unary .neg (.float .f64 x)).run Tryz.prog w = .ok (.float .f64 (Op.negFloat .f64 x)) w := rfl

theorem xor_max_int (x : Nat) (hx : x < 18446744073709551616) : bits .xor .u64 18446744073709551615 (x : Int) = ((18446744073709551615 - x : Nat) : Int) := u64_not_nat x hx

def sgnC (s t : Bool) : Int := if s == t then 0 else if s then -1 else 1

def maxN (x y : Nat) : Nat := if cmpN x y < 0 then y else x
def minN (x y : Nat) : Nat := if cmpN x y > 0 then y else x

end Go.Proofs.YthjphiniljopgaaGreatDoor

namespace Go.Proofs.YthjphiniljopgaaGreatDoor
open Go.RowKit

set_option maxHeartbeats 400000 in
theorem qisnan_any (x : Nat) (w : World) : Calls Tryz.prog 168 #[.float .f64 x] w fun e w' => e = .returned (.bool (isN x)) ∧ w = w' := by
  rw [← neq_self x]
  go_enter Tryz.func168, Tryz.ntmps168
  go_wp2_with fail
  go_ret
  exact ⟨rfl, rfl⟩

end Go.Proofs.YthjphiniljopgaaGreatDoor

namespace Go.Proofs.YthjphiniljopgaaGreatDoor
open Go.RowKit

theorem be_step7 (v k : Nat) (h : k < 8) : (((be v 8).take k ++ List.replicate (8 - k) (0 : UInt8)).map b8).set k (.int .u8 ((v : Int) / 2 ^ (8 * (7 - k)) % 256)) =
    ((be v 8).take (k + 1) ++ List.replicate (8 - (k + 1)) (0 : UInt8)).map b8 := be_step v 8 k h

theorem ret_float {a b : Nat} (h : a = b) : Ending.returned (.float .f64 a) = .returned (.float .f64 b) := by rw [h]

def getF (r : Nat) : Nat × Int := if rankN (unrankN r) = r then (unrankN r, 0) else (0, 4)

end Go.Proofs.YthjphiniljopgaaGreatDoor

namespace Go.Proofs.YthjphiniljopgaaGreatDoor
open Go.RowKit

def tz64L : List Int := Lib.deBruijn64tab.map fun (n : Nat) => (n : Int)
/-- The tables that chapter 2's laws read. -/
structure LaidR (w : World) : Prop where
  tz64 : Lib.TabIs Tryz.prog w "math/bits.deBruijn64tab" .u8 tz64L
  pow10 : Lib.TabIs Tryz.prog w "internal/strconv.uint64pow10" .u64 Lib.pow10Tab

theorem tz64_at (i : Nat) (hi : i < 64) : tz64L.getD i 0 = (Lib.deBruijn64tab.getD i 0 : Int) := by
  have : ∀ i, i < 64 → tz64L.getD i 0 = (Lib.deBruijn64tab.getD i 0 : Int) := by decide +kernel
  exact this i hi

theorem tz64_idx (x a : Nat) (hx : x < 18446744073709551616) (hx0 : x ≠ 0) (hlow : x &&& (18446744073709551616 - x) = a) :
    IntKind.u64.wrap (bits BinOp.and IntKind.u64 (x : Int) (IntKind.u64.wrap (-(x : Int))) * 285870213051353865) / 288230376151711744 = ((a * 285870213051353865 % 18446744073709551616 / 288230376151711744 : Nat) : Int) := by
  have e1 : IntKind.u64.wrap (-(x : Int)) = ((18446744073709551616 - x : Nat) : Int) := by rw [IntKind.wrap_u64]; omega
  rw [e1, bits_and_u64_nat x _ hx (by omega), hlow, IntKind.wrap_u64]
  omega

/-- All twos out of m. -/
def tzN (m : Nat) : Nat := Lib.ctz 64 m
def oddN (m : Nat) : Nat := m / 2 ^ tzN m

end Go.Proofs.YthjphiniljopgaaGreatDoor

namespace Go.Proofs.YthjphiniljopgaaGreatDoor
open Ieee

/-- To the nearest whole number; between two, the even one. -/
def hround (n g : Nat) : Nat := n / g + if g < 2 * (n % g) ∨ (g = 2 * (n % g) ∧ n / g % 2 = 1) then 1 else 0

theorem hround_mono {n m g : Nat} (hg : 0 < g) (h : n ≤ m) : hround n g ≤ hround m g := by
  unfold hround
  have hd : n / g ≤ m / g := Nat.div_le_div_right h
  rcases Nat.lt_or_ge (n / g) (m / g) with h1 | h1
  · split <;> split <;> omega
  · have he : n / g = m / g := by omega
    have e1 := Nat.div_add_mod n g
    have e2 := Nat.div_add_mod m g
    rw [he] at e1 ⊢
    have hr : n % g ≤ m % g := by omega
    split
    · rename_i hc
      rw [if_pos (by omega)]
      exact Nat.le_refl _
    · omega
theorem hround_mul (n g : Nat) (hg : 0 < g) : hround (n * g) g = n := by
  unfold hround
  rw [Nat.mul_div_cancel _ hg, Nat.mul_mod_left, if_neg (by omega)]
  rfl
theorem hround_small (n g : Nat) (h : 2 * n < g) : hround n g = 0 := by
  unfold hround
  rw [Nat.div_eq_of_lt (by omega), Nat.mod_eq_of_lt (by omega), if_neg (by omega)]

theorem cut_even (neg : Bool) (n d : Nat) : Toward.even.cut neg n d = hround n (2 ^ d) := by
  have key : ∀ g, n / g + (decide (g < 2 * (n % g)) || (g == 2 * (n % g) && n / g % 2 == 1)).toNat = hround n g := by
    intro g
    unfold hround
    congr 1
    by_cases h1 : g < 2 * (n % g)
    · simp [h1]
    · by_cases h2 : g = 2 * (n % g) ∧ n / g % 2 = 1
      · rw [if_pos (Or.inr h2)]
        have a1 : (g == 2 * (n % g)) = true := by rw [beq_iff_eq]; exact h2.1
        have a2 : (n / g % 2 == 1) = true := by rw [beq_iff_eq]; exact h2.2
        rw [a1, a2]
        simp
      · rw [if_neg (by omega)]
        have a : (g == 2 * (n % g) && n / g % 2 == 1) = false := by
          rw [Bool.eq_false_iff]
          intro e
          rw [Bool.and_eq_true, beq_iff_eq, beq_iff_eq] at e
          exact h2 e
        rw [a, decide_eq_false h1]
        rfl
  have hc : Toward.even.cut neg n d = hround n (1 <<< min d (n.log2 + 2)) := key _
  rw [hc, Nat.one_shiftLeft]
  rcases Nat.le_total d (n.log2 + 2) with h | h
  · rw [Nat.min_eq_left h]
  · rw [Nat.min_eq_right h]
    have h1 : n < 2 ^ (n.log2 + 1) := Nat.lt_log2_self
    have h2 : 2 ^ (n.log2 + 2) = 2 * 2 ^ (n.log2 + 1) := by rw [Nat.pow_succ]; omega
    have h3 : 2 ^ (n.log2 + 2) ≤ 2 ^ d := Nat.pow_le_pow_right (by decide) h
    rw [hround_small _ _ (by omega), hround_small _ _ (by omega)]

/-- The place of the last digit that is kept, and what is kept. -/
def lastP (m : Nat) (p : Int) : Int := max (p + (m.log2 : Int) - 52) (-1074)
def keptN (m : Nat) (p L : Int) : Nat := hround (m * 2 ^ (p - L).toNat) (2 ^ (L - p).toNat)
def rungOf (m : Nat) (p : Int) : Nat := (lastP m p + 1074).toNat * 4503599627370496 + keptN m p (lastP m p)

theorem nearest_eq (neg : Bool) (m : Nat) (p : Int) (h : m ≠ 0) : Ieee.double.nearest neg m p = Ieee.double.word neg (min (rungOf m p) infR) := by
  unfold Format.nearest
  rw [if_neg h, f64_least, f64_binade, f64_inf]
  show Ieee.double.word neg (min ((lastP m p - -1074).toNat * 4503599627370496 + Toward.even.cut neg (m <<< (p - lastP m p).toNat) (lastP m p - p).toNat) infR) = _
  rw [cut_even, Nat.shiftLeft_eq, show lastP m p - -1074 = lastP m p + 1074 from by omega]
  rfl

theorem kept_le (m : Nat) (p L : Int) (h : p + (m.log2 : Int) - 52 ≤ L) : keptN m p L ≤ 9007199254740992 := by
  have hg := Nat.two_pow_pos (L - p).toNat
  have h1 : m ≤ 2 ^ (m.log2 + 1) := Nat.le_of_lt Nat.lt_log2_self
  have h2 : m * 2 ^ (p - L).toNat ≤ 9007199254740992 * 2 ^ (L - p).toNat := by
    refine Nat.le_trans (Nat.mul_le_mul_right _ h1) ?_
    rw [← Nat.pow_add, show (9007199254740992 : Nat) = 2 ^ 53 from rfl, ← Nat.pow_add]
    exact Nat.pow_le_pow_right (by decide) (by omega)
  have := hround_mono hg h2
  rwa [hround_mul _ _ hg] at this
theorem kept_ge (m : Nat) (p L : Int) (hm : m ≠ 0) (h : L ≤ p + (m.log2 : Int) - 52) : 4503599627370496 ≤ keptN m p L := by
  have hg := Nat.two_pow_pos (L - p).toNat
  have h1 : 2 ^ m.log2 ≤ m := Nat.log2_self_le hm
  have h2 : 4503599627370496 * 2 ^ (L - p).toNat ≤ m * 2 ^ (p - L).toNat := by
    refine Nat.le_trans ?_ (Nat.mul_le_mul_right _ h1)
    rw [← Nat.pow_add, show (4503599627370496 : Nat) = 2 ^ 52 from rfl, ← Nat.pow_add]
    exact Nat.pow_le_pow_right (by decide) (by omega)
  have := hround_mono hg h2
  rwa [hround_mul _ _ hg] at this

theorem log2_mono {m n : Nat} (hm : m ≠ 0) (h : m ≤ n) : m.log2 ≤ n.log2 := by
  have h1 : 2 ^ m.log2 ≤ m := Nat.log2_self_le hm
  have h2 : n < 2 ^ (n.log2 + 1) := Nat.lt_log2_self
  rcases Nat.lt_or_ge n.log2 m.log2 with h3 | h3
  · have : 2 ^ (n.log2 + 1) ≤ 2 ^ m.log2 := Nat.pow_le_pow_right (by decide) (by omega)
    omega
  · exact h3

/-- Rounding never turns the order round (one place for both). -/
theorem rungOf_mono (m n : Nat) (p : Int) (hm : m ≠ 0) (h : m ≤ n) : rungOf m p ≤ rungOf n p := by
  have hl := log2_mono hm h
  have hL : lastP m p ≤ lastP n p := by unfold lastP; omega
  have hb : -1074 ≤ lastP m p := by unfold lastP; omega
  unfold rungOf
  by_cases he : lastP m p = lastP n p
  · rw [he]
    have : keptN m p (lastP n p) ≤ keptN n p (lastP n p) := hround_mono (Nat.two_pow_pos _) (Nat.mul_le_mul_right _ h)
    omega
  · have h1 := kept_le m p (lastP m p) (by unfold lastP; omega)
    have h2 : lastP n p = p + (n.log2 : Int) - 52 := by unfold lastP at *; omega
    have h3 := kept_ge n p (lastP n p) (by omega) (by omega)
    omega

/-- What fits stays as it is. -/
theorem rungOf_exact (m : Nat) (p : Int) (hm : m ≠ 0) (h : m < 9007199254740992) (hp : -1074 ≤ p) : magOf (rungOf m p) = m * 2 ^ (p + 1074).toNat := by
  have hlog : m.log2 ≤ 52 := by
    have h1 : 2 ^ m.log2 ≤ m := Nat.log2_self_le hm
    rcases Nat.lt_or_ge 52 m.log2 with h2 | h2
    · have : 2 ^ 53 ≤ 2 ^ m.log2 := Nat.pow_le_pow_right (by decide) h2
      omega
    · exact h2
  have hLp : lastP m p ≤ p := by unfold lastP; omega
  have hb : -1074 ≤ lastP m p := by unfold lastP; omega
  have hk : keptN m p (lastP m p) = m * 2 ^ (p - lastP m p).toNat := by
    unfold keptN
    have := hround_mul (m * 2 ^ (p - lastP m p).toNat) 1 (by decide)
    rw [Nat.mul_one] at this
    rw [show (lastP m p - p).toNat = 0 from by omega]
    exact this
  have hlt : m < 2 ^ (m.log2 + 1) := Nat.lt_log2_self
  have hlt2 : m * 2 ^ (p - lastP m p).toNat < 9007199254740992 := by
    have h1 : m * 2 ^ (p - lastP m p).toNat < 2 ^ (m.log2 + 1) * 2 ^ (p - lastP m p).toNat := Nat.mul_lt_mul_of_pos_right hlt (Nat.two_pow_pos _)
    rw [← Nat.pow_add] at h1
    have h2 : 2 ^ (m.log2 + 1 + (p - lastP m p).toNat) ≤ 2 ^ 53 := Nat.pow_le_pow_right (by decide) (by unfold lastP; omega)
    omega
  unfold rungOf
  rw [hk]
  by_cases hL : lastP m p = -1074
  · rw [hL] at hlt2 ⊢
    rw [show (-1074 + 1074 : Int).toNat = 0 from rfl, Nat.zero_mul, Nat.zero_add, show p - -1074 = p + 1074 from by omega] at *
    unfold magOf
    split
    · rfl
    · rw [show m * 2 ^ (p + 1074).toNat / 4503599627370496 - 1 = 0 from by omega]
      omega
  · have hLe : lastP m p = p + (m.log2 : Int) - 52 := by unfold lastP at *; omega
    have hge := kept_ge m p (lastP m p) hm (by omega)
    rw [hk] at hge
    obtain ⟨x, hx⟩ : ∃ x, x = m * 2 ^ (p - lastP m p).toNat := ⟨_, rfl⟩
    obtain ⟨a, ha⟩ : ∃ a, a = (lastP m p + 1074).toNat := ⟨_, rfl⟩
    have hsum : m * 2 ^ (p + 1074).toNat = x * 2 ^ a := by
      rw [hx, Nat.mul_assoc, ← Nat.pow_add, show (p + 1074).toNat = (p - lastP m p).toNat + a from by omega]
    rw [hsum, ← ha, ← hx]
    rw [← hx] at hge hlt2
    unfold magOf
    rw [if_neg (by omega), show (a * 4503599627370496 + x) / 4503599627370496 - 1 = a from by omega, show 4503599627370496 + (a * 4503599627370496 + x) % 4503599627370496 = x from by omega]

theorem hround_scale (n g c : Nat) (hc : 0 < c) : hround (n * c) (g * c) = hround n g := by
  unfold hround
  rw [Nat.mul_div_mul_right _ _ hc, Nat.mul_mod_mul_right]
  have e1 : g * c < 2 * (n % g * c) ↔ g < 2 * (n % g) := by rw [← Nat.mul_assoc]; exact Nat.mul_lt_mul_right hc
  have e2 : g * c = 2 * (n % g * c) ↔ g = 2 * (n % g) := by
    rw [← Nat.mul_assoc]
    exact ⟨fun h => Nat.eq_of_mul_eq_mul_right hc h, fun h => by rw [← h]⟩
  simp only [e1, e2]

/-- The same value at another place is rounded the same. -/
theorem rungOf_scale (m k : Nat) (p : Int) (hm : m ≠ 0) : rungOf (m * 2 ^ k) p = rungOf m (p + (k : Int)) := by
  have hm2 : m * 2 ^ k ≠ 0 := Nat.mul_ne_zero hm (Nat.ne_of_gt (Nat.two_pow_pos _))
  have hlog : (m * 2 ^ k).log2 = m.log2 + k := by
    rw [Nat.log2_eq_iff hm2]
    have h1 : 2 ^ m.log2 ≤ m := Nat.log2_self_le hm
    have h2 : m < 2 ^ (m.log2 + 1) := Nat.lt_log2_self
    constructor
    · rw [Nat.pow_add]; exact Nat.mul_le_mul_right _ h1
    · rw [show m.log2 + k + 1 = (m.log2 + 1) + k from by omega, Nat.pow_add]
      exact Nat.mul_lt_mul_of_pos_right h2 (Nat.two_pow_pos _)
  have hL : lastP (m * 2 ^ k) p = lastP m (p + (k : Int)) := by unfold lastP; rw [hlog]; omega
  unfold rungOf
  rw [hL]
  congr 1
  generalize lastP m (p + (k : Int)) = L
  unfold keptN
  obtain ⟨c, h1, h2⟩ : ∃ c : Nat, k + (p - L).toNat = (p + (k : Int) - L).toNat + c ∧ (L - p).toNat = (L - (p + (k : Int))).toNat + c := ⟨(L - p).toNat - (L - (p + (k : Int))).toNat, by omega, by omega⟩
  rw [Nat.mul_assoc, ← Nat.pow_add, h1, h2, Nat.pow_add, Nat.pow_add, ← Nat.mul_assoc]
  exact hround_scale _ _ _ (Nat.two_pow_pos _)
end Go.Proofs.YthjphiniljopgaaGreatDoor

namespace Go.Proofs.YthjphiniljopgaaGreatDoor
open Ieee

/-- The rung of a product of two magnitudes (in units of the least one). -/
def mulR (a b : Nat) : Nat := if a * b = 0 then 0 else min (rungOf (a * b) (-2148)) infR

theorem mulR_mono {a b c d : Nat} (h1 : a ≤ c) (h2 : b ≤ d) : mulR a b ≤ mulR c d := by
  have h := Nat.mul_le_mul h1 h2
  unfold mulR
  by_cases h0 : a * b = 0
  · rw [if_pos h0]; exact Nat.zero_le _
  · have := rungOf_mono (a * b) (c * d) (-2148) h0 h
    rw [if_neg h0, if_neg (by omega)]
    omega

theorem mul_fin (x y : Nat) (hx : rung x < infR) (hy : rung y < infR) :
    Ieee.double.mul x y = some (Ieee.double.word (isNeg x ^^ isNeg y) (mulR (magOf (rung x)) (magOf (rung y)))) := by
  obtain ⟨m, k, e1, f1⟩ := read_fin x hx
  obtain ⟨n, l, e2, f2⟩ := read_fin y hy
  unfold Format.mul
  rw [e1, e2]
  show some (Ieee.double.nearest (isNeg x ^^ isNeg y) (m * n) ((-1074 + (k : Int)) + (-1074 + (l : Int)))) = _
  congr 1
  have hp : magOf (rung x) * magOf (rung y) = (m * n) * 2 ^ (k + l) := by
    rw [← f1, ← f2, Nat.pow_add]
    rw [Nat.mul_assoc, Nat.mul_assoc, Nat.mul_left_comm (2 ^ k)]
  unfold mulR
  by_cases h0 : m * n = 0
  · rw [h0, hp, h0, Nat.zero_mul, if_pos rfl]
    unfold Format.nearest
    rw [if_pos rfl]
  · rw [nearest_eq _ _ _ h0, hp, if_neg (Nat.mul_ne_zero h0 (Nat.ne_of_gt (Nat.two_pow_pos _))), rungOf_scale _ _ _ h0]
    congr 3
    omega

theorem cut_down (way : Toward) (hw : way = .zero ∨ way = .down) (n d : Nat) : way.cut false n d = n / 2 ^ d := by
  have key : way.cut false n d = n / (1 <<< min d (n.log2 + 2)) := by
    rcases hw with rfl | rfl
    · rfl
    · show n / _ + ((false && _ : Bool)).toNat = _
      rw [Bool.false_and]
      rfl
  rw [key, Nat.one_shiftLeft]
  rcases Nat.le_total d (n.log2 + 2) with h | h
  · rw [Nat.min_eq_left h]
  · rw [Nat.min_eq_right h]
    have h1 : n < 2 ^ (n.log2 + 1) := Nat.lt_log2_self
    have h2 : 2 ^ (n.log2 + 2) = 2 * 2 ^ (n.log2 + 1) := by rw [Nat.pow_succ]; omega
    have h3 : 2 ^ (n.log2 + 2) ≤ 2 ^ d := Nat.pow_le_pow_right (by decide) h
    rw [Nat.div_eq_of_lt (by omega), Nat.div_eq_of_lt (by omega)]

/-- The whole part of a number that is not negative. -/
theorem whole_fin (way : Toward) (hw : way = .zero ∨ way = .down) (x : Nat) (hx : rung x < infR) (h0 : isNeg x = false) :
    (Ieee.double.read x).toInt way = some ((magOf (rung x) / 2 ^ 1074 : Nat) : Int) := by
  obtain ⟨m, k, e, f⟩ := read_fin x hx
  rw [e, h0, ← f]
  show some (signed false (way.cut false (m <<< (-1074 + (k : Int)).toNat) (-(-1074 + (k : Int))).toNat) 0) = _
  rw [cut_down way hw, Nat.shiftLeft_eq]
  have h : m * 2 ^ (-1074 + (k : Int)).toNat / 2 ^ (-(-1074 + (k : Int))).toNat = m * 2 ^ k / 2 ^ 1074 := by
    rcases Nat.le_total k 1074 with h1 | h1
    · rw [show (-1074 + (k : Int)).toNat = 0 from by omega, show (-(-1074 + (k : Int))).toNat = 1074 - k from by omega, Nat.pow_zero, Nat.mul_one]
      have : (2 : Nat) ^ 1074 = 2 ^ (1074 - k) * 2 ^ k := by rw [← Nat.pow_add, show 1074 - k + k = 1074 from by omega]
      rw [this, Nat.mul_div_mul_right _ _ (Nat.two_pow_pos _)]
    · rw [show (-1074 + (k : Int)).toNat = k - 1074 from by omega, show (-(-1074 + (k : Int))).toNat = 0 from by omega, Nat.pow_zero, Nat.div_one]
      have h5 := Nat.pow_add 2 (k - 1074) 1074
      rw [show k - 1074 + 1074 = k from by omega] at h5
      have h6 := Nat.two_pow_pos 1074
      rw [h5]
      generalize 2 ^ 1074 = c at *
      rw [← Nat.mul_assoc, Nat.mul_div_cancel _ h6]
  rw [h]
  unfold signed
  simp only [Bool.false_eq_true, if_false, Nat.shiftLeft_zero]
end Go.Proofs.YthjphiniljopgaaGreatDoor

namespace Go.Proofs.YthjphiniljopgaaGreatDoor
open Go.RowKit Ieee

theorem leq_eq (x y : Nat) : (FloatKind.f64.format.order x y == some .lt || FloatKind.f64.format.order x y == some .eq) = (!isN x && !isN y && decide (nkey x ≤ nkey y)) := by
  rw [lss_eq, eql_eq]
  cases isN x <;> cases isN y <;> simp
  rw [Bool.eq_iff_iff]
  simp
  omega
theorem geq_eq (x y : Nat) : (FloatKind.f64.format.order x y == some .gt || FloatKind.f64.format.order x y == some .eq) = (!isN x && !isN y && decide (nkey y ≤ nkey x)) := by
  rw [gtr_eq, eql_eq]
  cases isN x <;> cases isN y <;> simp
  rw [Bool.eq_iff_iff]
  simp
  omega

/-- The rung of float64(m) of a natural number. -/
def fltR (m : Nat) : Nat := if m = 0 then 0 else rungOf m 0
theorem rungOf_top : rungOf 9223372036854775808 0 = 4890909195324358656 := by decide +kernel
theorem fltR_le (m : Nat) (h : m ≤ 9223372036854775808) : fltR m ≤ 4890909195324358656 := by
  unfold fltR
  split
  · omega
  · rename_i h0
    rw [← rungOf_top]
    exact rungOf_mono m _ 0 h0 h
theorem fltR_mono {m n : Nat} (h : m ≤ n) : fltR m ≤ fltR n := by
  unfold fltR
  by_cases h0 : m = 0
  · rw [if_pos h0]; exact Nat.zero_le _
  · rw [if_neg h0, if_neg (by omega)]
    exact rungOf_mono m n 0 h0 h
theorem fltR_mag (m : Nat) (h : m < 9007199254740992) : magOf (fltR m) = m * 2 ^ 1074 := by
  unfold fltR
  by_cases h0 : m = 0
  · generalize 2 ^ 1074 = U
    rw [if_pos h0, h0, Nat.zero_mul]; exact (magOf_zero 0).2 rfl
  · rw [if_neg h0, rungOf_exact m 0 h0 h (by decide), show ((0 : Int) + 1074).toNat = 1074 from rfl]
theorem floatOfInt_nat (m : Nat) (h : m ≤ 9223372036854775808) : floatOfInt .f64 (m : Int) = fltR m := by
  have hl := fltR_le m h
  show Ieee.double.nearest (decide ((m : Int) < 0)) (m : Int).natAbs 0 = _
  rw [decide_eq_false (by omega), Int.natAbs_natCast]
  by_cases h0 : m = 0
  · subst h0; rfl
  · unfold fltR at hl ⊢
    rw [if_neg h0] at hl ⊢
    rw [nearest_eq _ _ _ h0, Nat.min_eq_left (by unfold infR; omega)]
    rfl
theorem floatOfInt_neg (m : Nat) (h : m ≤ 9223372036854775808) (h0 : m ≠ 0) : floatOfInt .f64 (-(m : Int)) = 9223372036854775808 + fltR m := by
  have hl := fltR_le m h
  show Ieee.double.nearest (decide (-(m : Int) < 0)) (-(m : Int)).natAbs 0 = _
  rw [decide_eq_true (by omega), Int.natAbs_neg, Int.natAbs_natCast]
  unfold fltR at hl ⊢
  rw [if_neg h0] at hl ⊢
  rw [nearest_eq _ _ _ h0, Nat.min_eq_left (by unfold infR; omega)]
  rfl
theorem fltR_pos (m : Nat) (h : m ≤ 9223372036854775808) (h0 : m ≠ 0) : 4607182418800017408 ≤ fltR m := by
  have h1 : fltR 1 = 4607182418800017408 := by decide +kernel
  rw [← h1]
  exact fltR_mono (by omega)

theorem small_parts (r : Nat) (h : r < 9223372036854775808) : isNeg r = false ∧ rung r = r := by
  unfold isNeg rung
  rw [show r / 9223372036854775808 % 2 = 0 from by omega]
  exact ⟨rfl, by omega⟩
theorem isN_small (r : Nat) (h : r ≤ infR) : isN r = false := by
  have hc : infR = 9218868437227405312 := rfl
  unfold isN
  rw [(small_parts r (by omega)).2]
  exact decide_eq_false (by omega)
theorem nkey_small (r : Nat) (h : r < 9223372036854775808) : nkey r = (r : Int) := by
  unfold nkey
  rw [(small_parts r h).1, (small_parts r h).2]
  rfl

/-- The rung of float64(m) times x (m above 0, x above 0). -/
def farR (m x : Nat) : Nat := if rung x = infR then infR else mulR (m * 2 ^ 1074) (magOf (rung x))
theorem farR_le (m x : Nat) : farR m x ≤ infR := by
  unfold farR
  split
  · exact Nat.le_refl _
  · unfold mulR; split
    · exact Nat.zero_le _
    · exact Nat.min_le_right _ _
theorem word_pp (r : Nat) : Ieee.double.word (false ^^ false) r = r := rfl
theorem mul_far (m x : Nat) (h0 : m ≠ 0) (hm : m ≤ 281474976710656) (hx : isN x = false) (hs : isNeg x = false) :
    floatBits .mul .f64 (fltR m) x = some (farR m x) := by
  show Ieee.double.mul (fltR m) x = _
  have hc : infR = 9218868437227405312 := rfl
  have hi : rung x ≤ infR := by simpa [isN] using hx
  have hl := fltR_le m (by omega)
  obtain ⟨p1, p2⟩ := small_parts (fltR m) (by omega)
  have hmag := fltR_mag m (by omega)
  unfold farR
  by_cases h : rung x = infR
  · rw [if_pos h]
    obtain ⟨a, k, e1, f1⟩ := read_fin (fltR m) (by omega)
    have ha : a ≠ 0 := by
      rintro rfl
      rw [p2, hmag, Nat.zero_mul] at f1
      have hp := Nat.two_pow_pos 1074
      have := Nat.mul_ne_zero h0 (Nat.ne_of_gt hp)
      generalize m * 2 ^ 1074 = z at *
      exact this f1.symm
    unfold Format.mul
    rw [e1, read_inf x h, p1, hs]
    show Option.map _ (if a = 0 then none else some (Datum.infinity (false ^^ false))) = _
    rw [if_neg ha]
    show some (Ieee.double.word (false ^^ false) Ieee.double.infRung) = _
    rw [word_pp, f64_inf]
  · rw [if_neg h, mul_fin (fltR m) x (by omega) (by omega), p1, p2, hs, hmag, word_pp]

theorem int_far (r : Nat) (h : r < 4823355200913801216) : floatToIntVal .f64 r .i64 = some ((magOf r / 2 ^ 1074 : Nat) : Int) ∧ magOf r / 2 ^ 1074 < 281474976710656 := by
  have hlt : magOf r / 2 ^ 1074 < 281474976710656 := by
    have h1 : magOf r < magOf 4823355200913801216 := (magOf_lt _ _).2 h
    have h2 : magOf 4823355200913801216 = 281474976710656 * 2 ^ 1074 := by decide +kernel
    rw [h2] at h1
    have hp := Nat.two_pow_pos 1074
    clear h2
    generalize 2 ^ 1074 = U at *
    exact (Nat.div_lt_iff_lt_mul hp).2 h1
  refine ⟨?_, hlt⟩
  obtain ⟨p1, p2⟩ := small_parts r (by omega)
  have hw := whole_fin .zero (Or.inl rfl) r (by unfold infR; omega) p1
  rw [p2] at hw
  unfold floatToIntVal
  show (match (Ieee.double.read r).toInt .zero with | some n => _ | none => _) = _
  rw [hw]
  generalize magOf r / 2 ^ 1074 = q at *
  show (if IntKind.i64.min ≤ (q : Int) ∧ (q : Int) ≤ IntKind.i64.max then some (q : Int) else none) = _
  have e1 : IntKind.i64.min = -9223372036854775808 := by decide
  have e2 : IntKind.i64.max = 9223372036854775807 := by decide
  rw [e1, e2, if_pos ⟨by omega, by omega⟩]

/-- How far a clock goes. -/
def capN (n : Int) : Nat := if n < 0 then 0 else if 281474976710656 < n then 281474976710656 else n.toNat
def goesN (m x : Nat) : Nat := if 4823355200913801216 ≤ farR m x then 281474976710656 else magOf (farR m x) / 2 ^ 1074
def scaleN (m x : Nat) : Nat := if isN x then m else if m = 0 then 0 else if nkey x ≤ 0 then 0 else goesN m x

theorem goesN_le (m x : Nat) : goesN m x ≤ 281474976710656 := by
  unfold goesN
  split
  · exact Nat.le_refl _
  · rename_i h
    exact Nat.le_of_lt (int_far _ (by omega)).2
theorem farR_mono {m n x y : Nat} (h : m ≤ n) (hx : rung x ≤ infR) (hy : rung y ≤ infR) (hxy : rung x ≤ rung y) : farR m x ≤ farR n y := by
  by_cases h1 : rung y = infR
  · have : farR n y = infR := by unfold farR; rw [if_pos h1]
    rw [this]
    exact farR_le m x
  · unfold farR
    rw [if_neg h1, if_neg (by omega)]
    refine mulR_mono (Nat.mul_le_mul_right _ h) ?_
    rcases Nat.lt_or_ge (rung x) (rung y) with h2 | h2
    · exact Nat.le_of_lt (magOf_mono h2)
    · rw [show rung x = rung y from by omega]; exact Nat.le_refl _
theorem goesN_mono {m n x y : Nat} (h : farR m x ≤ farR n y) : goesN m x ≤ goesN n y := by
  by_cases h1 : 4823355200913801216 ≤ farR n y
  · have : goesN n y = 281474976710656 := by unfold goesN; rw [if_pos h1]
    rw [this]
    exact goesN_le m x
  · unfold goesN
    rw [if_neg h1, if_neg (by omega)]
    refine Nat.div_le_div_right ?_
    rcases Nat.lt_or_ge (farR m x) (farR n y) with h2 | h2
    · exact Nat.le_of_lt (magOf_mono h2)
    · rw [show farR m x = farR n y from by omega]; exact Nat.le_refl _
theorem scaleN_le (m x : Nat) (h : m ≤ 281474976710656) : scaleN m x ≤ 281474976710656 := by
  unfold scaleN
  split
  · exact h
  · split
    · omega
    · split
      · omega
      · exact goesN_le m x

/-- A longer time goes further. -/
theorem scaleN_longer {m n : Nat} (x : Nat) (h : m ≤ n) : scaleN m x ≤ scaleN n x := by
  unfold scaleN
  cases hx : isN x
  · simp only [Bool.false_eq_true, if_false]
    by_cases h0 : m = 0
    · rw [if_pos h0]; exact Nat.zero_le _
    · rw [if_neg h0, if_neg (show ¬ n = 0 by omega)]
      split
      · exact Nat.le_refl _
      · have hi : rung x ≤ infR := by simpa [isN] using hx
        exact goesN_mono (farR_mono h hi hi (Nat.le_refl _))
  · simp only [if_true]; exact h
/-- A faster clock goes further. -/
theorem scaleN_faster (m : Nat) {x y : Nat} (hx : isN x = false) (hy : isN y = false) (h : nkey x ≤ nkey y) : scaleN m x ≤ scaleN m y := by
  unfold scaleN
  rw [hx, hy]
  simp only [Bool.false_eq_true, if_false]
  by_cases h0 : m = 0
  · rw [if_pos h0]; exact Nat.zero_le _
  · rw [if_neg h0, if_neg h0]
    by_cases h1 : nkey x ≤ 0
    · rw [if_pos h1]; exact Nat.zero_le _
    · rw [if_neg h1, if_neg (by omega)]
      have hi : rung x ≤ infR := by simpa [isN] using hx
      have hj : rung y ≤ infR := by simpa [isN] using hy
      refine goesN_mono (farR_mono (Nat.le_refl _) hi hj ?_)
      unfold nkey at h h1
      cases hs : isNeg x <;> rw [hs] at h h1 <;> cases ht : isNeg y <;> rw [ht] at h <;> simp at h h1 <;> omega
/-- At the speed 1 as far as time goes. -/
theorem scaleN_one (m : Nat) (h : m ≤ 281474976710656) : scaleN m 4607182418800017408 = m := by
  have h1 : isN 4607182418800017408 = false := by decide
  have h2 : ¬ nkey 4607182418800017408 ≤ 0 := by decide
  have h3 : rung 4607182418800017408 = 4607182418800017408 := by decide
  have h4 : magOf 4607182418800017408 = 2 ^ 1074 := by decide +kernel
  unfold scaleN
  rw [h1, if_neg h2]
  simp only [Bool.false_eq_true, if_false]
  by_cases h0 : m = 0
  · rw [if_pos h0, h0]
  · rw [if_neg h0]
    have hf : farR m 4607182418800017408 = fltR m := by
      have hl := fltR_le m (by omega)
      unfold farR mulR
      rw [h3, if_neg (by decide), h4]
      have hp : (2 : Nat) ^ 1074 ≠ 0 := Nat.ne_of_gt (Nat.two_pow_pos 1074)
      have ea : ∀ U : Nat, m * U * U = m * (U * U) := fun U => Nat.mul_assoc _ _ _
      have eb := (Nat.pow_add 2 1074 1074).symm
      rw [if_neg (Nat.mul_ne_zero (Nat.mul_ne_zero h0 hp) hp), ea, eb, rungOf_scale m (1074 + 1074) (-2148) h0]
      unfold fltR at hl ⊢
      rw [if_neg h0] at hl ⊢
      have hz : (-2148 + ((1074 + 1074 : Nat) : Int)) = 0 := by decide
      rw [hz]
      exact Nat.min_eq_left (by unfold infR; omega)
    have hmag := fltR_mag m (by omega)
    have h48 : fltR 281474976710656 = 4823355200913801216 := by decide +kernel
    have ed : ∀ U : Nat, 0 < U → m * U / U = m := fun U hU => Nat.mul_div_cancel m hU
    unfold goesN
    rw [hf, hmag, ed _ (Nat.two_pow_pos 1074)]
    split
    · rename_i hg
      rcases Nat.lt_or_ge m 281474976710656 with h5 | h5
      · have : magOf (fltR m) < magOf (fltR 281474976710656) := by
          have hp := Nat.two_pow_pos 1074
          have h6 := fltR_mag 281474976710656 (by decide)
          clear ed hf
          rw [hmag, h6]
          have hp := Nat.two_pow_pos 1074
          clear hmag h6
          generalize 2 ^ 1074 = U at *
          exact Nat.mul_lt_mul_of_pos_right h5 hp
        have := (magOf_lt _ _).1 this
        omega
      · omega
    · rfl
end Go.Proofs.YthjphiniljopgaaGreatDoor
