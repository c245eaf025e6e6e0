/-
  The landed package ikey: the version that its reader takes off.
-/
import Derived.Test.YthjphiniljopgaaDoorIkC5
import Derived.Test.YthjphiniljopgaaDoorIkC3
import Derived.Test.YthjphiniljopgaaDoorIkG
namespace Go.Proofs.YthjphiniljopgaaDoor
open Go.RowKit

theorem results_one_cell {fn : Func} {p : Tmp} {ty : TypeId} (h : fn.results = #[.cell p ty]) (tmps : Array Value) (P : Program) (w : World) :
    (results fn tmps).run P w = ((asAddr (tmps.getD p undef)).run P w).andThen fun a w₁ => (loadVar ty a).run P w₁ := by
  simp only [results, h]
  simp [Sem.run_bind, Result.andThen]
theorem grow_set8 {a w : World} {p q : Nat} (h : a.grownBy w (some q)) (hp : a.heap.size ≤ p) (v0 v1 v2 v3 v4 v5 v6 v7 : Value) :
    a.grownBy ((((((((w.setCell ⟨p, 0, none⟩ v0).setCell ⟨p, 1, none⟩ v1).setCell ⟨p, 2, none⟩ v2).setCell ⟨p, 3, none⟩ v3).setCell ⟨p, 4, none⟩ v4).setCell ⟨p, 5, none⟩ v5).setCell ⟨p, 6, none⟩ v6).setCell ⟨p, 7, none⟩ v7) (some q) :=
  only_setCell (only_setCell (only_setCell (only_setCell (only_setCell (only_setCell (only_setCell (only_setCell h (Or.inr hp) _) (Or.inr hp) _) (Or.inr hp) _) (Or.inr hp) _) (Or.inr hp) _) (Or.inr hp) _) (Or.inr hp) _) (Or.inr hp) _
/-- What was taken off stands in the result. -/
theorem kv_end {w2 : World} {p : Nat} {t : Array Value} {key : ByteArray} {A : Option Addr} {n c : Nat} {o x kd : Int} {nu : Nat} {it : Int} {tx : ByteArray} {R : Ending → World → Prop} (B : Blk w2 p 28 (verC key A n c o x kd nu it tx))
    (t2 : t[2]?.getD undef = .pointer (some ⟨p, 0, none⟩)) (h : R (.returned (verV key A n c o x kd nu it tx)) w2) :
    bodyPost Tryd.prog Tryd.f23 R .ret { tmps := t, defers := [] } w2 := by
  refine bodyPost_ret (v := verV key A n c o x kd nu it tx) ?_ rfl h
  obtain ⟨c0, c1, c2, c3, c4, c5, c6, c7⟩ := ver_cells B
  rw [results_one_cell rfl]
  simp [go_sem, t2, c0, c1, c2, c3, c4, c5, c6, c7, verV]

theorem kbytes_ext {X Y : ByteArray} (h : X.data.toList = Y.data.toList) : X = Y := ByteArray.ext (Array.toList_inj.1 h)
theorem krkey_some (p : Nat) (s : ByteArray) (k : List UInt8) (r : ByteArray) (w : World) (B : RdAt w p s) (hs : s.size ≤ 140737488351232) (hk : readK s.data.toList = some (k, r.data.toList)) :
    Calls Tryd.prog 32 #[.pointer (some ⟨p, 0, none⟩)] w fun e w' => e = .returned (.string ⟨k.toArray⟩) ∧ RdAt w' p r ∧ w.grownBy w' (some p) := by
  refine (krkey_any p s w B hs).mono ?_
  rintro e w' ⟨h, g⟩
  rcases h with ⟨k', r', h1, h2, h3, h4⟩ | ⟨h1, _⟩
  · rw [hk] at h1
    obtain ⟨rfl, e2⟩ := Prod.mk.inj (Option.some.inj h1)
    have e3 : r = r' := kbytes_ext e2
    subst e3
    exact ⟨h2, h4, g⟩
  · rw [hk] at h1; cases h1
theorem krkey_none (p : Nat) (s : ByteArray) (w : World) (B : RdAt w p s) (hs : s.size ≤ 140737488351232) (hk : readK s.data.toList = none) :
    Calls Tryd.prog 32 #[.pointer (some ⟨p, 0, none⟩)] w fun e w' => e = gaveUp ∧ w.grownBy w' (some p) := by
  refine (krkey_any p s w B hs).mono ?_
  rintro e w' ⟨h, g⟩
  rcases h with ⟨k', r', h1, h2, h3, h4⟩ | ⟨_, h2⟩
  · rw [hk] at h1; cases h1
  · exact ⟨h2, g⟩

/-- What stands between two steps: the reader's rest, the result's cells, the version's cells, what is left as it was. -/
structure Mid (w W : World) (p q : Nat) (r key : ByteArray) (A : Option Addr) (n c : Nat) (o x : Int) : Prop where
  rd : RdAt W p r
  res : Blk W w.heap.size 28 (verC ⟨#[]⟩ none 0 0 0 0 0 0 0 ⟨#[]⟩)
  ver : Blk W q 28 (verC key A n c o x 0 0 0 ⟨#[]⟩)
  gr : w.grownBy W (some p)
  lt : p < w.heap.size
  lq : w.heap.size < q
section
variable {w W W' : World} {p q : Nat} {r r' key : ByteArray} {A : Option Addr} {n c : Nat} {o x : Int}
theorem Mid.step (h : Mid w W p q r key A n c o x) (B : RdAt W' p r') (g : W.grownBy W' (some p)) : Mid w W' p q r' key A n c o x :=
  ⟨B, kblk_by h.res g (by have := h.lt; omega), kblk_by h.ver g (by have := h.lt; have := h.lq; omega), kgrow_trans h.gr g, h.lt, h.lq⟩
theorem Mid.far (h : Mid w W p q r key A n c o x) (j : Nat) (v : Value) : RdAt (W.setCell ⟨q, j, none⟩ v) p r ∧ Blk (W.setCell ⟨q, j, none⟩ v) w.heap.size 28 (verC ⟨#[]⟩ none 0 0 0 0 0 0 0 ⟨#[]⟩) ∧ w.grownBy (W.setCell ⟨q, j, none⟩ v) (some p) :=
  ⟨h.rd.far (by have := h.lt; have := h.lq; dsimp only; omega) _, h.res.far (by have := h.lq; dsimp only; omega) _, only_setCell h.gr (Or.inr (by have := h.lq; dsimp only; omega)) _⟩
theorem Mid.set2 (h : Mid w W p q r key A n c o x) (o' : Int) : Mid w (W.setCell ⟨q, 2, none⟩ (.int .i64 o')) p q r key A n c o' x :=
  ⟨(h.far 2 _).1, (h.far 2 _).2.1, ver_set_2 h.ver o', (h.far 2 _).2.2, h.lt, h.lq⟩
theorem Mid.set3 (h : Mid w W p q r key A n c o x) (x' : Int) : Mid w (W.setCell ⟨q, 3, none⟩ (.int .i64 x')) p q r key A n c o x' :=
  ⟨(h.far 3 _).1, (h.far 3 _).2.1, ver_set_3 h.ver x', (h.far 3 _).2.2, h.lt, h.lq⟩
theorem Mid.set1 (h : Mid w W p q r key A n c o x) (A' : Option Addr) (n' c' : Nat) : Mid w (W.setCell ⟨q, 1, none⟩ (.slice A' n' c')) p q r key A' n' c' o x :=
  ⟨(h.far 1 _).1, (h.far 1 _).2.1, ver_set_1 h.ver A' n' c', (h.far 1 _).2.2, h.lt, h.lq⟩
theorem Mid.below (h : Mid w W p q r key A n c o x) (hb : Below W.heap.size W W') : Mid w W' p q r key A n c o x :=
  ⟨h.rd.below hb h.rd.lt, h.res.below hb h.res.lt, h.ver.below hb h.ver.lt, kgrow_below h.gr hb, h.lt, h.lq⟩
end

set_option maxRecDepth 100000 in
set_option maxHeartbeats 4000000 in
theorem kver_nokey (p : Nat) (s : ByteArray) (w : World) (B : RdAt w p s) (hs : s.size ≤ 140737488351232) (hk : readK s.data.toList = none) :
    Calls Tryd.prog 23 #[.pointer (some ⟨p, 0, none⟩)] w fun e w' => e = gaveUp ∧ w.grownBy w' (some p) := by
  have hp : p < w.heap.size := B.lt
  have B0 : Hid (RdAt (w.alloc (.cells #[.string ⟨#[]⟩, .slice none 0 0, .int .i64 0, .int .i64 0, .int .i64 0, .float .f64 0, .int .i64 0, .string ⟨#[]⟩] 28)) p s) := B.alloc _
  have P0 : Hid (Blk (w.alloc (.cells #[.string ⟨#[]⟩, .slice none 0 0, .int .i64 0, .int .i64 0, .int .i64 0, .float .f64 0, .int .i64 0, .string ⟨#[]⟩] 28)) w.heap.size 28 (verC ⟨#[]⟩ none 0 0 0 0 0 0 0 ⟨#[]⟩)) := Blk.new w _ _
  have G0 : Hid (w.grownBy (w.alloc (.cells #[.string ⟨#[]⟩, .slice none 0 0, .int .i64 0, .int .i64 0, .int .i64 0, .float .f64 0, .int .i64 0, .string ⟨#[]⟩] 28)) (some p)) := only_alloc (kgrow_refl w _) _
  clear B
  have K := Lib.hid (krkey_none p s _ B0.out hs hk)
  clear hk
  go_enter Tryd.func23, Tryd.ntmps23
  go_wp2_with fail
  refine K.out.mono ?_
  rintro e w1 ⟨rfl, g1⟩
  go_wp2_with fail
  exact ⟨rfl, rfl, kgrow_trans G0.out g1⟩

set_option maxRecDepth 100000 in
set_option maxHeartbeats 4000000 in
theorem kver_short0 (p : Nat) (s : ByteArray) (w : World) (B : RdAt w p s) (hs : s.size ≤ 140737488351232) (k : List UInt8) (r : ByteArray) (hk : readK s.data.toList = some (k, r.data.toList)) (hr : r.size < 6) :
    Calls Tryd.prog 23 #[.pointer (some ⟨p, 0, none⟩)] w fun e w' => e = gaveUp ∧ w.grownBy w' (some p) := by
  have hrs : r.size ≤ s.size := by
    have h1 := congrArg List.length (readK_is hk)
    rw [List.length_append, ← str_size, ← str_size] at h1
    omega
  have hp : p < w.heap.size := B.lt
  have B0 : Hid (RdAt (w.alloc (.cells #[.string ⟨#[]⟩, .slice none 0 0, .int .i64 0, .int .i64 0, .int .i64 0, .float .f64 0, .int .i64 0, .string ⟨#[]⟩] 28)) p s) := B.alloc _
  have P0 : Hid (Blk (w.alloc (.cells #[.string ⟨#[]⟩, .slice none 0 0, .int .i64 0, .int .i64 0, .int .i64 0, .float .f64 0, .int .i64 0, .string ⟨#[]⟩] 28)) w.heap.size 28 (verC ⟨#[]⟩ none 0 0 0 0 0 0 0 ⟨#[]⟩)) := Blk.new w _ _
  have G0 : Hid (w.grownBy (w.alloc (.cells #[.string ⟨#[]⟩, .slice none 0 0, .int .i64 0, .int .i64 0, .int .i64 0, .float .f64 0, .int .i64 0, .string ⟨#[]⟩] 28)) (some p)) := only_alloc (kgrow_refl w _) _
  clear B
  have K := Lib.hid (krkey_some p s k r _ B0.out hs hk)
  have N1 := fun W (h : RdAt W p r) => Lib.hid (knum_short p r 6 W h (by omega))
  clear hk
  go_enter Tryd.func23, Tryd.ntmps23
  go_wp2_with fail
  refine K.out.mono ?_
  rintro e w1 ⟨rfl, R1, g1⟩
  have P1 := kblk_by P0.out g1 (by omega)
  have hq1 : w.heap.size < w1.heap.size := P1.lt
  have G1 := kgrow_trans G0.out g1
  have M0 : Hid (Mid w (w1.alloc (.cells #[.string ⟨k.toArray⟩, .slice none 0 0, .int .i64 0, .int .i64 0, .int .i64 0, .float .f64 0, .int .i64 0, .string ⟨#[]⟩] 28)) p w1.heap.size r ⟨k.toArray⟩ none 0 0 0 0) := ⟨R1.alloc _, P1.alloc _, Blk.new w1 _ _, only_alloc G1 _, hp, hq1⟩
  clear K B0 P0 G0 R1 P1 G1 g1
  have hst := run_sto_f64
  go_wp2_with fail
  clear hst
  generalize w1.alloc (.cells #[.string ⟨k.toArray⟩, .slice none 0 0, .int .i64 0, .int .i64 0, .int .i64 0, .float .f64 0, .int .i64 0, .string ⟨#[]⟩] 28) = W0 at *
  generalize w1.heap.size = q at *
  have M := M0
  clear M0
  refine (N1 _ M.out.rd).out.mono ?_
  rintro e w9 ⟨rfl, rfl⟩
  go_wp2_with fail
  exact ⟨rfl, rfl, M.out.gr⟩

set_option maxRecDepth 100000 in
set_option maxHeartbeats 4000000 in
theorem kver_short1 (p : Nat) (s : ByteArray) (w : World) (B : RdAt w p s) (hs : s.size ≤ 140737488351232) (k : List UInt8) (r : ByteArray) (hk : readK s.data.toList = some (k, r.data.toList)) (hr : 6 ≤ r.size) (hr2 : r.size < 7) :
    Calls Tryd.prog 23 #[.pointer (some ⟨p, 0, none⟩)] w fun e w' => e = gaveUp ∧ w.grownBy w' (some p) := by
  have hrs : r.size ≤ s.size := by
    have h1 := congrArg List.length (readK_is hk)
    rw [List.length_append, ← str_size, ← str_size] at h1
    omega
  have hp : p < w.heap.size := B.lt
  have B0 : Hid (RdAt (w.alloc (.cells #[.string ⟨#[]⟩, .slice none 0 0, .int .i64 0, .int .i64 0, .int .i64 0, .float .f64 0, .int .i64 0, .string ⟨#[]⟩] 28)) p s) := B.alloc _
  have P0 : Hid (Blk (w.alloc (.cells #[.string ⟨#[]⟩, .slice none 0 0, .int .i64 0, .int .i64 0, .int .i64 0, .float .f64 0, .int .i64 0, .string ⟨#[]⟩] 28)) w.heap.size 28 (verC ⟨#[]⟩ none 0 0 0 0 0 0 0 ⟨#[]⟩)) := Blk.new w _ _
  have G0 : Hid (w.grownBy (w.alloc (.cells #[.string ⟨#[]⟩, .slice none 0 0, .int .i64 0, .int .i64 0, .int .i64 0, .float .f64 0, .int .i64 0, .string ⟨#[]⟩] 28)) (some p)) := only_alloc (kgrow_refl w _) _
  clear B
  have K := Lib.hid (krkey_some p s k r _ B0.out hs hk)
  have N1 := fun W (h : RdAt W p r) => Lib.hid (knum_ok p r 6 W h (by omega) (by decide) (by decide) (by omega))
  obtain ⟨r1, hr1⟩ : ∃ r1, r.extract 6 r.size = r1 := ⟨_, rfl⟩
  rw [hr1] at N1
  have zr1 : r1.size + 6 = r.size := by rw [← hr1, ByteArray.size_extract]; omega
  have dr1 : r1.data.toList = r.data.toList.drop 6 := by rw [← hr1, drop_in]
  have N2 := fun W (h : RdAt W p r1) => Lib.hid (knum_short p r1 1 W h (by omega))
  obtain ⟨tn, htn⟩ : ∃ m : Nat, getL (r.data.toList.take 6) = m := ⟨_, rfl⟩
  have bt : tn ≤ 281474976710655 := by
    have h1 := getL_below (r.data.toList.take 6)
    rw [List.length_take, ← str_size, Nat.min_eq_left (by omega), htn] at h1
    omega
  rw [htn] at N1
  obtain ⟨TM, hTM⟩ : ∃ z : Int, 281474976710655 - (tn : Int) = z := ⟨_, rfl⟩
  have uTM : IntKind.i64.wrap (281474976710655 - (tn : Int)) = TM := (IntWalk.i64_in _ (by omega)).trans hTM
  have yTM : wrap64 (281474976710655 - (tn : Int)) = TM := (IntWalk.wrap64_in _ (by omega)).trans hTM
  clear hk
  go_enter Tryd.func23, Tryd.ntmps23
  go_wp2_with fail
  refine K.out.mono ?_
  rintro e w1 ⟨rfl, R1, g1⟩
  have P1 := kblk_by P0.out g1 (by omega)
  have hq1 : w.heap.size < w1.heap.size := P1.lt
  have G1 := kgrow_trans G0.out g1
  have M0 : Hid (Mid w (w1.alloc (.cells #[.string ⟨k.toArray⟩, .slice none 0 0, .int .i64 0, .int .i64 0, .int .i64 0, .float .f64 0, .int .i64 0, .string ⟨#[]⟩] 28)) p w1.heap.size r ⟨k.toArray⟩ none 0 0 0 0) := ⟨R1.alloc _, P1.alloc _, Blk.new w1 _ _, only_alloc G1 _, hp, hq1⟩
  clear K B0 P0 G0 R1 P1 G1 g1
  have hst := run_sto_f64
  go_wp2_with fail
  clear hst
  generalize w1.alloc (.cells #[.string ⟨k.toArray⟩, .slice none 0 0, .int .i64 0, .int .i64 0, .int .i64 0, .float .f64 0, .int .i64 0, .string ⟨#[]⟩] 28) = W0 at *
  generalize w1.heap.size = q at *
  have M := M0
  clear M0
  refine (N1 _ M.out.rd).out.mono ?_
  rintro e v1 ⟨rfl, R, g⟩
  have M1 := Lib.hid (M.out.step R g)
  clear R g M N1
  obtain ⟨c0, c1, c2, c3, c4, c5, c6, c7⟩ := ver_cells M1.out.ver
  have z2 := M1.out.ver.frozen 2
  have z3 := M1.out.ver.frozen 3
  have z1 := M1.out.ver.frozen 1
  go_wp2_with fail
  have M := M1
  clear M1 c0 c1 c2 c3 c4 c5 c6 c7 z1 z2 z3
  refine (N2 _ M.out.rd).out.mono ?_
  rintro e w9 ⟨rfl, rfl⟩
  go_wp2_with fail
  exact ⟨rfl, rfl, M.out.gr⟩

set_option maxRecDepth 100000 in
set_option maxHeartbeats 4000000 in
theorem kver_short2 (p : Nat) (s : ByteArray) (w : World) (B : RdAt w p s) (hs : s.size ≤ 140737488351232) (k : List UInt8) (r : ByteArray) (hk : readK s.data.toList = some (k, r.data.toList)) (hr : 7 ≤ r.size) (hr2 : r.size < 13) :
    Calls Tryd.prog 23 #[.pointer (some ⟨p, 0, none⟩)] w fun e w' => e = gaveUp ∧ w.grownBy w' (some p) := by
  have hrs : r.size ≤ s.size := by
    have h1 := congrArg List.length (readK_is hk)
    rw [List.length_append, ← str_size, ← str_size] at h1
    omega
  have hp : p < w.heap.size := B.lt
  have B0 : Hid (RdAt (w.alloc (.cells #[.string ⟨#[]⟩, .slice none 0 0, .int .i64 0, .int .i64 0, .int .i64 0, .float .f64 0, .int .i64 0, .string ⟨#[]⟩] 28)) p s) := B.alloc _
  have P0 : Hid (Blk (w.alloc (.cells #[.string ⟨#[]⟩, .slice none 0 0, .int .i64 0, .int .i64 0, .int .i64 0, .float .f64 0, .int .i64 0, .string ⟨#[]⟩] 28)) w.heap.size 28 (verC ⟨#[]⟩ none 0 0 0 0 0 0 0 ⟨#[]⟩)) := Blk.new w _ _
  have G0 : Hid (w.grownBy (w.alloc (.cells #[.string ⟨#[]⟩, .slice none 0 0, .int .i64 0, .int .i64 0, .int .i64 0, .float .f64 0, .int .i64 0, .string ⟨#[]⟩] 28)) (some p)) := only_alloc (kgrow_refl w _) _
  clear B
  have K := Lib.hid (krkey_some p s k r _ B0.out hs hk)
  have N1 := fun W (h : RdAt W p r) => Lib.hid (knum_ok p r 6 W h (by omega) (by decide) (by decide) (by omega))
  obtain ⟨r1, hr1⟩ : ∃ r1, r.extract 6 r.size = r1 := ⟨_, rfl⟩
  rw [hr1] at N1
  have zr1 : r1.size + 6 = r.size := by rw [← hr1, ByteArray.size_extract]; omega
  have dr1 : r1.data.toList = r.data.toList.drop 6 := by rw [← hr1, drop_in]
  have N2 := fun W (h : RdAt W p r1) => Lib.hid (knum_ok p r1 1 W h (by omega) (by decide) (by decide) (by omega))
  obtain ⟨r2, hr2⟩ : ∃ r2, r1.extract 1 r1.size = r2 := ⟨_, rfl⟩
  rw [hr2] at N2
  have zr2 : r2.size + 1 = r1.size := by rw [← hr2, ByteArray.size_extract]; omega
  have dr2 : r2.data.toList = r1.data.toList.drop 1 := by rw [← hr2, drop_in]
  have N3 := fun W (h : RdAt W p r2) => Lib.hid (knum_short p r2 6 W h (by omega))
  obtain ⟨tn, htn⟩ : ∃ m : Nat, getL (r.data.toList.take 6) = m := ⟨_, rfl⟩
  have bt : tn ≤ 281474976710655 := by
    have h1 := getL_below (r.data.toList.take 6)
    rw [List.length_take, ← str_size, Nat.min_eq_left (by omega), htn] at h1
    omega
  rw [htn] at N1
  obtain ⟨TM, hTM⟩ : ∃ z : Int, 281474976710655 - (tn : Int) = z := ⟨_, rfl⟩
  have uTM : IntKind.i64.wrap (281474976710655 - (tn : Int)) = TM := (IntWalk.i64_in _ (by omega)).trans hTM
  have yTM : wrap64 (281474976710655 - (tn : Int)) = TM := (IntWalk.wrap64_in _ (by omega)).trans hTM
  obtain ⟨on, hon⟩ : ∃ m : Nat, getL (r1.data.toList.take 1) = m := ⟨_, rfl⟩
  have bo : on ≤ 255 := by
    have h1 := getL_below (r1.data.toList.take 1)
    rw [List.length_take, ← str_size, Nat.min_eq_left (by omega), hon] at h1
    omega
  rw [hon] at N2
  obtain ⟨O, hO⟩ : ∃ z : Int, 255 - (on : Int) = z := ⟨_, rfl⟩
  have uO : IntKind.i64.wrap (255 - (on : Int)) = O := (IntWalk.i64_in _ (by omega)).trans hO
  have yO : wrap64 (255 - (on : Int)) = O := (IntWalk.wrap64_in _ (by omega)).trans hO
  clear hk
  go_enter Tryd.func23, Tryd.ntmps23
  go_wp2_with fail
  refine K.out.mono ?_
  rintro e w1 ⟨rfl, R1, g1⟩
  have P1 := kblk_by P0.out g1 (by omega)
  have hq1 : w.heap.size < w1.heap.size := P1.lt
  have G1 := kgrow_trans G0.out g1
  have M0 : Hid (Mid w (w1.alloc (.cells #[.string ⟨k.toArray⟩, .slice none 0 0, .int .i64 0, .int .i64 0, .int .i64 0, .float .f64 0, .int .i64 0, .string ⟨#[]⟩] 28)) p w1.heap.size r ⟨k.toArray⟩ none 0 0 0 0) := ⟨R1.alloc _, P1.alloc _, Blk.new w1 _ _, only_alloc G1 _, hp, hq1⟩
  clear K B0 P0 G0 R1 P1 G1 g1
  have hst := run_sto_f64
  go_wp2_with fail
  clear hst
  generalize w1.alloc (.cells #[.string ⟨k.toArray⟩, .slice none 0 0, .int .i64 0, .int .i64 0, .int .i64 0, .float .f64 0, .int .i64 0, .string ⟨#[]⟩] 28) = W0 at *
  generalize w1.heap.size = q at *
  have M := M0
  clear M0
  refine (N1 _ M.out.rd).out.mono ?_
  rintro e v1 ⟨rfl, R, g⟩
  have M1 := Lib.hid (M.out.step R g)
  clear R g M N1
  obtain ⟨c0, c1, c2, c3, c4, c5, c6, c7⟩ := ver_cells M1.out.ver
  have z2 := M1.out.ver.frozen 2
  have z3 := M1.out.ver.frozen 3
  have z1 := M1.out.ver.frozen 1
  go_wp2_with fail
  have M := M1
  clear M1 c0 c1 c2 c3 c4 c5 c6 c7 z1 z2 z3
  refine (N2 _ M.out.rd).out.mono ?_
  rintro e v2 ⟨rfl, R, g⟩
  have M1 := Lib.hid (M.out.step R g)
  clear R g M N2
  obtain ⟨c0, c1, c2, c3, c4, c5, c6, c7⟩ := ver_cells M1.out.ver
  have z2 := M1.out.ver.frozen 2
  have z3 := M1.out.ver.frozen 3
  have z1 := M1.out.ver.frozen 1
  go_wp2_with fail
  have M := Lib.hid (M1.out.set2 O)
  clear M1 c0 c1 c2 c3 c4 c5 c6 c7 z1 z2 z3
  refine (N3 _ M.out.rd).out.mono ?_
  rintro e w9 ⟨rfl, rfl⟩
  go_wp2_with fail
  exact ⟨rfl, rfl, M.out.gr⟩

set_option maxRecDepth 100000 in
set_option maxHeartbeats 4000000 in
theorem kver_novec (p : Nat) (s : ByteArray) (w : World) (B : RdAt w p s) (hs : s.size ≤ 140737488351232) (k : List UInt8) (r : ByteArray) (hk : readK s.data.toList = some (k, r.data.toList)) (hr : 13 ≤ r.size) (r0 : ByteArray) (h0 : r0.data.toList = r.data.toList.drop 13) (xs : List Int) (n er : Int) (hT : getT r0 = (xs, n, er)) (hE : er ≠ 0) :
    Calls Tryd.prog 23 #[.pointer (some ⟨p, 0, none⟩)] w fun e w' => e = gaveUp ∧ w.grownBy w' (some p) := by
  have hrs : r.size ≤ s.size := by
    have h1 := congrArg List.length (readK_is hk)
    rw [List.length_append, ← str_size, ← str_size] at h1
    omega
  have hp : p < w.heap.size := B.lt
  have B0 : Hid (RdAt (w.alloc (.cells #[.string ⟨#[]⟩, .slice none 0 0, .int .i64 0, .int .i64 0, .int .i64 0, .float .f64 0, .int .i64 0, .string ⟨#[]⟩] 28)) p s) := B.alloc _
  have P0 : Hid (Blk (w.alloc (.cells #[.string ⟨#[]⟩, .slice none 0 0, .int .i64 0, .int .i64 0, .int .i64 0, .float .f64 0, .int .i64 0, .string ⟨#[]⟩] 28)) w.heap.size 28 (verC ⟨#[]⟩ none 0 0 0 0 0 0 0 ⟨#[]⟩)) := Blk.new w _ _
  have G0 : Hid (w.grownBy (w.alloc (.cells #[.string ⟨#[]⟩, .slice none 0 0, .int .i64 0, .int .i64 0, .int .i64 0, .float .f64 0, .int .i64 0, .string ⟨#[]⟩] 28)) (some p)) := only_alloc (kgrow_refl w _) _
  clear B
  have K := Lib.hid (krkey_some p s k r _ B0.out hs hk)
  have N1 := fun W (h : RdAt W p r) => Lib.hid (knum_ok p r 6 W h (by omega) (by decide) (by decide) (by omega))
  obtain ⟨r1, hr1⟩ : ∃ r1, r.extract 6 r.size = r1 := ⟨_, rfl⟩
  rw [hr1] at N1
  have zr1 : r1.size + 6 = r.size := by rw [← hr1, ByteArray.size_extract]; omega
  have dr1 : r1.data.toList = r.data.toList.drop 6 := by rw [← hr1, drop_in]
  have N2 := fun W (h : RdAt W p r1) => Lib.hid (knum_ok p r1 1 W h (by omega) (by decide) (by decide) (by omega))
  obtain ⟨r2, hr2⟩ : ∃ r2, r1.extract 1 r1.size = r2 := ⟨_, rfl⟩
  rw [hr2] at N2
  have zr2 : r2.size + 1 = r1.size := by rw [← hr2, ByteArray.size_extract]; omega
  have dr2 : r2.data.toList = r1.data.toList.drop 1 := by rw [← hr2, drop_in]
  have N3 := fun W (h : RdAt W p r2) => Lib.hid (knum_ok p r2 6 W h (by omega) (by decide) (by decide) (by omega))
  obtain ⟨r3, hr3⟩ : ∃ r3, r2.extract 6 r2.size = r3 := ⟨_, rfl⟩
  rw [hr3] at N3
  have zr3 : r3.size + 6 = r2.size := by rw [← hr3, ByteArray.size_extract]; omega
  have dr3 : r3.data.toList = r2.data.toList.drop 6 := by rw [← hr3, drop_in]
  obtain ⟨tn, htn⟩ : ∃ m : Nat, getL (r.data.toList.take 6) = m := ⟨_, rfl⟩
  have bt : tn ≤ 281474976710655 := by
    have h1 := getL_below (r.data.toList.take 6)
    rw [List.length_take, ← str_size, Nat.min_eq_left (by omega), htn] at h1
    omega
  rw [htn] at N1
  obtain ⟨TM, hTM⟩ : ∃ z : Int, 281474976710655 - (tn : Int) = z := ⟨_, rfl⟩
  have uTM : IntKind.i64.wrap (281474976710655 - (tn : Int)) = TM := (IntWalk.i64_in _ (by omega)).trans hTM
  have yTM : wrap64 (281474976710655 - (tn : Int)) = TM := (IntWalk.wrap64_in _ (by omega)).trans hTM
  obtain ⟨on, hon⟩ : ∃ m : Nat, getL (r1.data.toList.take 1) = m := ⟨_, rfl⟩
  have bo : on ≤ 255 := by
    have h1 := getL_below (r1.data.toList.take 1)
    rw [List.length_take, ← str_size, Nat.min_eq_left (by omega), hon] at h1
    omega
  rw [hon] at N2
  obtain ⟨O, hO⟩ : ∃ z : Int, 255 - (on : Int) = z := ⟨_, rfl⟩
  have uO : IntKind.i64.wrap (255 - (on : Int)) = O := (IntWalk.i64_in _ (by omega)).trans hO
  have yO : wrap64 (255 - (on : Int)) = O := (IntWalk.wrap64_in _ (by omega)).trans hO
  obtain ⟨xn, hxn⟩ : ∃ m : Nat, getL (r2.data.toList.take 6) = m := ⟨_, rfl⟩
  have bx : xn ≤ 281474976710655 := by
    have h1 := getL_below (r2.data.toList.take 6)
    rw [List.length_take, ← str_size, Nat.min_eq_left (by omega), hxn] at h1
    omega
  rw [hxn] at N3
  obtain ⟨X, hX⟩ : ∃ z : Int, 281474976710655 - (xn : Int) = z := ⟨_, rfl⟩
  have uX : IntKind.i64.wrap (281474976710655 - (xn : Int)) = X := (IntWalk.i64_in _ (by omega)).trans hX
  have yX : wrap64 (281474976710655 - (xn : Int)) = X := (IntWalk.wrap64_in _ (by omega)).trans hX
  have e3 : r3 = r0 := kbytes_ext (by rw [dr3, dr2, dr1, h0, List.drop_drop, List.drop_drop])
  have V := fun W (h : RdAt W p r3) => Lib.hid (kvec_bad p r3 xs n er W h (by omega) (by rw [e3]; exact hT) hE)
  clear hk hT hE h0 e3 dr1 dr2 dr3
  go_enter Tryd.func23, Tryd.ntmps23
  go_wp2_with fail
  refine K.out.mono ?_
  rintro e w1 ⟨rfl, R1, g1⟩
  have P1 := kblk_by P0.out g1 (by omega)
  have hq1 : w.heap.size < w1.heap.size := P1.lt
  have G1 := kgrow_trans G0.out g1
  have M0 : Hid (Mid w (w1.alloc (.cells #[.string ⟨k.toArray⟩, .slice none 0 0, .int .i64 0, .int .i64 0, .int .i64 0, .float .f64 0, .int .i64 0, .string ⟨#[]⟩] 28)) p w1.heap.size r ⟨k.toArray⟩ none 0 0 0 0) := ⟨R1.alloc _, P1.alloc _, Blk.new w1 _ _, only_alloc G1 _, hp, hq1⟩
  clear K B0 P0 G0 R1 P1 G1 g1
  have hst := run_sto_f64
  go_wp2_with fail
  clear hst
  generalize w1.alloc (.cells #[.string ⟨k.toArray⟩, .slice none 0 0, .int .i64 0, .int .i64 0, .int .i64 0, .float .f64 0, .int .i64 0, .string ⟨#[]⟩] 28) = W0 at *
  generalize w1.heap.size = q at *
  have M := M0
  clear M0
  refine (N1 _ M.out.rd).out.mono ?_
  rintro e v1 ⟨rfl, R, g⟩
  have M1 := Lib.hid (M.out.step R g)
  clear R g M N1
  obtain ⟨c0, c1, c2, c3, c4, c5, c6, c7⟩ := ver_cells M1.out.ver
  have z2 := M1.out.ver.frozen 2
  have z3 := M1.out.ver.frozen 3
  have z1 := M1.out.ver.frozen 1
  go_wp2_with fail
  have M := M1
  clear M1 c0 c1 c2 c3 c4 c5 c6 c7 z1 z2 z3
  refine (N2 _ M.out.rd).out.mono ?_
  rintro e v2 ⟨rfl, R, g⟩
  have M1 := Lib.hid (M.out.step R g)
  clear R g M N2
  obtain ⟨c0, c1, c2, c3, c4, c5, c6, c7⟩ := ver_cells M1.out.ver
  have z2 := M1.out.ver.frozen 2
  have z3 := M1.out.ver.frozen 3
  have z1 := M1.out.ver.frozen 1
  go_wp2_with fail
  have M := Lib.hid (M1.out.set2 O)
  clear M1 c0 c1 c2 c3 c4 c5 c6 c7 z1 z2 z3
  refine (N3 _ M.out.rd).out.mono ?_
  rintro e v3 ⟨rfl, R, g⟩
  have M1 := Lib.hid (M.out.step R g)
  clear R g M N3
  obtain ⟨c0, c1, c2, c3, c4, c5, c6, c7⟩ := ver_cells M1.out.ver
  have z2 := M1.out.ver.frozen 2
  have z3 := M1.out.ver.frozen 3
  have z1 := M1.out.ver.frozen 1
  go_wp2_with fail
  have M := Lib.hid (M1.out.set3 X)
  clear M1 c0 c1 c2 c3 c4 c5 c6 c7 z1 z2 z3
  refine (V _ M.out.rd).out.mono ?_
  rintro e w9 ⟨rfl, hb⟩
  have g9 := kgrow_below M.out.gr hb
  go_wp2_with fail
  exact ⟨rfl, rfl, g9⟩

set_option maxRecDepth 100000 in
set_option maxHeartbeats 4000000 in
theorem kver_more (p : Nat) (s : ByteArray) (w : World) (B : RdAt w p s) (hs : s.size ≤ 140737488351232) (k : List UInt8) (r : ByteArray) (hk : readK s.data.toList = some (k, r.data.toList)) (hr : 13 ≤ r.size) (r0 : ByteArray) (h0 : r0.data.toList = r.data.toList.drop 13) (xs : List Int) (kk : Nat) (hT : getT r0 = (xs, (kk : Int), 0)) (hkk : kk ≤ r0.size) (hne : kk < r0.size) :
    Calls Tryd.prog 23 #[.pointer (some ⟨p, 0, none⟩)] w fun e w' => e = gaveUp ∧ w.grownBy w' (some p) := by
  have hrs : r.size ≤ s.size := by
    have h1 := congrArg List.length (readK_is hk)
    rw [List.length_append, ← str_size, ← str_size] at h1
    omega
  have hp : p < w.heap.size := B.lt
  have B0 : Hid (RdAt (w.alloc (.cells #[.string ⟨#[]⟩, .slice none 0 0, .int .i64 0, .int .i64 0, .int .i64 0, .float .f64 0, .int .i64 0, .string ⟨#[]⟩] 28)) p s) := B.alloc _
  have P0 : Hid (Blk (w.alloc (.cells #[.string ⟨#[]⟩, .slice none 0 0, .int .i64 0, .int .i64 0, .int .i64 0, .float .f64 0, .int .i64 0, .string ⟨#[]⟩] 28)) w.heap.size 28 (verC ⟨#[]⟩ none 0 0 0 0 0 0 0 ⟨#[]⟩)) := Blk.new w _ _
  have G0 : Hid (w.grownBy (w.alloc (.cells #[.string ⟨#[]⟩, .slice none 0 0, .int .i64 0, .int .i64 0, .int .i64 0, .float .f64 0, .int .i64 0, .string ⟨#[]⟩] 28)) (some p)) := only_alloc (kgrow_refl w _) _
  clear B
  have K := Lib.hid (krkey_some p s k r _ B0.out hs hk)
  have N1 := fun W (h : RdAt W p r) => Lib.hid (knum_ok p r 6 W h (by omega) (by decide) (by decide) (by omega))
  obtain ⟨r1, hr1⟩ : ∃ r1, r.extract 6 r.size = r1 := ⟨_, rfl⟩
  rw [hr1] at N1
  have zr1 : r1.size + 6 = r.size := by rw [← hr1, ByteArray.size_extract]; omega
  have dr1 : r1.data.toList = r.data.toList.drop 6 := by rw [← hr1, drop_in]
  have N2 := fun W (h : RdAt W p r1) => Lib.hid (knum_ok p r1 1 W h (by omega) (by decide) (by decide) (by omega))
  obtain ⟨r2, hr2⟩ : ∃ r2, r1.extract 1 r1.size = r2 := ⟨_, rfl⟩
  rw [hr2] at N2
  have zr2 : r2.size + 1 = r1.size := by rw [← hr2, ByteArray.size_extract]; omega
  have dr2 : r2.data.toList = r1.data.toList.drop 1 := by rw [← hr2, drop_in]
  have N3 := fun W (h : RdAt W p r2) => Lib.hid (knum_ok p r2 6 W h (by omega) (by decide) (by decide) (by omega))
  obtain ⟨r3, hr3⟩ : ∃ r3, r2.extract 6 r2.size = r3 := ⟨_, rfl⟩
  rw [hr3] at N3
  have zr3 : r3.size + 6 = r2.size := by rw [← hr3, ByteArray.size_extract]; omega
  have dr3 : r3.data.toList = r2.data.toList.drop 6 := by rw [← hr3, drop_in]
  obtain ⟨tn, htn⟩ : ∃ m : Nat, getL (r.data.toList.take 6) = m := ⟨_, rfl⟩
  have bt : tn ≤ 281474976710655 := by
    have h1 := getL_below (r.data.toList.take 6)
    rw [List.length_take, ← str_size, Nat.min_eq_left (by omega), htn] at h1
    omega
  rw [htn] at N1
  obtain ⟨TM, hTM⟩ : ∃ z : Int, 281474976710655 - (tn : Int) = z := ⟨_, rfl⟩
  have uTM : IntKind.i64.wrap (281474976710655 - (tn : Int)) = TM := (IntWalk.i64_in _ (by omega)).trans hTM
  have yTM : wrap64 (281474976710655 - (tn : Int)) = TM := (IntWalk.wrap64_in _ (by omega)).trans hTM
  obtain ⟨on, hon⟩ : ∃ m : Nat, getL (r1.data.toList.take 1) = m := ⟨_, rfl⟩
  have bo : on ≤ 255 := by
    have h1 := getL_below (r1.data.toList.take 1)
    rw [List.length_take, ← str_size, Nat.min_eq_left (by omega), hon] at h1
    omega
  rw [hon] at N2
  obtain ⟨O, hO⟩ : ∃ z : Int, 255 - (on : Int) = z := ⟨_, rfl⟩
  have uO : IntKind.i64.wrap (255 - (on : Int)) = O := (IntWalk.i64_in _ (by omega)).trans hO
  have yO : wrap64 (255 - (on : Int)) = O := (IntWalk.wrap64_in _ (by omega)).trans hO
  obtain ⟨xn, hxn⟩ : ∃ m : Nat, getL (r2.data.toList.take 6) = m := ⟨_, rfl⟩
  have bx : xn ≤ 281474976710655 := by
    have h1 := getL_below (r2.data.toList.take 6)
    rw [List.length_take, ← str_size, Nat.min_eq_left (by omega), hxn] at h1
    omega
  rw [hxn] at N3
  obtain ⟨X, hX⟩ : ∃ z : Int, 281474976710655 - (xn : Int) = z := ⟨_, rfl⟩
  have uX : IntKind.i64.wrap (281474976710655 - (xn : Int)) = X := (IntWalk.i64_in _ (by omega)).trans hX
  have yX : wrap64 (281474976710655 - (xn : Int)) = X := (IntWalk.wrap64_in _ (by omega)).trans hX
  have e3 : r3 = r0 := kbytes_ext (by rw [dr3, dr2, dr1, h0, List.drop_drop, List.drop_drop])
  have V := fun W (h : RdAt W p r3) => Lib.hid (kvec_ok p r3 xs kk W h (by omega) (by rw [e3]; exact hT) (by rw [e3]; exact hkk))
  have hxs := getT_ok r0
  rw [hT] at hxs
  obtain ⟨hx1, hx2⟩ := hxs
  have Hx2 := Lib.hid hx2
  obtain ⟨r4, h4⟩ : ∃ r4, r3.extract kk r3.size = r4 := ⟨_, rfl⟩
  rw [h4] at V
  have z4 : r4.size + kk = r0.size := by rw [← h4, e3, ByteArray.size_extract]; omega
  have hks : (⟨k.toArray⟩ : ByteArray).size ≤ 9223372036854775807 := by
    have h1 := congrArg List.length (readK_is hk)
    rw [List.length_append, ← str_size, ← str_size] at h1
    have h2 := (headL_two k).2.1
    rw [size_mk]
    omega
  have w5 : (Lit.int .i64 O).wf = true := by rw [← hO]; exact WalkArith.wf_i64 ⟨by omega, by omega⟩
  have w6 : (Lit.int .i64 X).wf = true := by rw [← hX]; exact WalkArith.wf_i64 ⟨by omega, by omega⟩
  clear hk hT h0 dr1 dr2 dr3
  have n4 : (r4.toList == []) = false := by
    rw [Lib.toList_data, beq_eq_false_iff_ne]
    intro h
    have h1 : r4.data.toList.length = 0 := by rw [h]; rfl
    rw [← str_size] at h1
    omega
  clear z4 hne hkk
  go_enter Tryd.func23, Tryd.ntmps23
  go_wp2_with fail
  refine K.out.mono ?_
  rintro e w1 ⟨rfl, R1, g1⟩
  have P1 := kblk_by P0.out g1 (by omega)
  have hq1 : w.heap.size < w1.heap.size := P1.lt
  have G1 := kgrow_trans G0.out g1
  have M0 : Hid (Mid w (w1.alloc (.cells #[.string ⟨k.toArray⟩, .slice none 0 0, .int .i64 0, .int .i64 0, .int .i64 0, .float .f64 0, .int .i64 0, .string ⟨#[]⟩] 28)) p w1.heap.size r ⟨k.toArray⟩ none 0 0 0 0) := ⟨R1.alloc _, P1.alloc _, Blk.new w1 _ _, only_alloc G1 _, hp, hq1⟩
  clear K B0 P0 G0 R1 P1 G1 g1
  have hst := run_sto_f64
  go_wp2_with fail
  clear hst
  generalize w1.alloc (.cells #[.string ⟨k.toArray⟩, .slice none 0 0, .int .i64 0, .int .i64 0, .int .i64 0, .float .f64 0, .int .i64 0, .string ⟨#[]⟩] 28) = W0 at *
  generalize w1.heap.size = q at *
  have M := M0
  clear M0
  refine (N1 _ M.out.rd).out.mono ?_
  rintro e v1 ⟨rfl, R, g⟩
  have M1 := Lib.hid (M.out.step R g)
  clear R g M N1
  obtain ⟨c0, c1, c2, c3, c4, c5, c6, c7⟩ := ver_cells M1.out.ver
  have z2 := M1.out.ver.frozen 2
  have z3 := M1.out.ver.frozen 3
  have z1 := M1.out.ver.frozen 1
  go_wp2_with fail
  have M := M1
  clear M1 c0 c1 c2 c3 c4 c5 c6 c7 z1 z2 z3
  refine (N2 _ M.out.rd).out.mono ?_
  rintro e v2 ⟨rfl, R, g⟩
  have M1 := Lib.hid (M.out.step R g)
  clear R g M N2
  obtain ⟨c0, c1, c2, c3, c4, c5, c6, c7⟩ := ver_cells M1.out.ver
  have z2 := M1.out.ver.frozen 2
  have z3 := M1.out.ver.frozen 3
  have z1 := M1.out.ver.frozen 1
  go_wp2_with fail
  have M := Lib.hid (M1.out.set2 O)
  clear M1 c0 c1 c2 c3 c4 c5 c6 c7 z1 z2 z3
  refine (N3 _ M.out.rd).out.mono ?_
  rintro e v3 ⟨rfl, R, g⟩
  have M1 := Lib.hid (M.out.step R g)
  clear R g M N3
  obtain ⟨c0, c1, c2, c3, c4, c5, c6, c7⟩ := ver_cells M1.out.ver
  have z2 := M1.out.ver.frozen 2
  have z3 := M1.out.ver.frozen 3
  have z1 := M1.out.ver.frozen 1
  go_wp2_with fail
  have M := Lib.hid (M1.out.set3 X)
  clear M1 c0 c1 c2 c3 c4 c5 c6 c7 z1 z2 z3
  generalize v3.setCell ⟨q, 3, none⟩ (.int .i64 X) = W3 at *
  refine (V _ M.out.rd).out.mono ?_
  rintro e w9 ⟨⟨v, rfl, hN⟩, R9, g9⟩
  have M1 := Lib.hid (M.out.step R9 g9)
  have hlo : w.heap.size + 1 ≤ W3.heap.size := Nat.le_trans M.out.lq (Nat.le_of_lt M.out.ver.lt)
  have hqv : q < W3.heap.size := M.out.ver.lt
  obtain ⟨A, cp, rfl, -, -⟩ := hN.ints Hx2.out
  have HN : Hid (Nums (w9.setCell ⟨q, 1, none⟩ (.slice A xs.length cp)) (w.heap.size + 1) 3 (.slice A xs.length cp) xs) := Nums.low (show Nums _ _ _ _ _ from ownsRow_setCell_below hN (a := ⟨q, 1, none⟩) hqv (.slice A xs.length cp)) hlo
  have M9 := Lib.hid (M1.out.set1 A xs.length cp)
  obtain ⟨c0, c1, c2, c3, c4, c5, c6, c7⟩ := ver_cells M1.out.ver
  have z1 := M1.out.ver.frozen 1
  have d0 : (w9.setCell ⟨q, 1, none⟩ (.slice A xs.length cp)).cell? ⟨p, 0, none⟩ = some (.string r4) := M9.out.rd.cell 0
  clear hN R9 g9 M V hlo hqv M1
  go_wp2_with fail
  exact ⟨rfl, rfl, M9.out.gr⟩

set_option maxRecDepth 100000 in
set_option maxHeartbeats 4000000 in
theorem kver_bad (p : Nat) (s : ByteArray) (w : World) (B : RdAt w p s) (hs : s.size ≤ 140737488351232) (k : List UInt8) (r : ByteArray) (hk : readK s.data.toList = some (k, r.data.toList)) (hr : 13 ≤ r.size) (r0 : ByteArray) (h0 : r0.data.toList = r.data.toList.drop 13) (xs : List Int) (kk : Nat) (hT : getT r0 = (xs, (kk : Int), 0)) (hkk : kk = r0.size) (hq : okV k xs (255 - (getL ((r.data.toList.drop 6).take 1) : Int)) (281474976710655 - (getL ((r.data.toList.drop 7).take 6) : Int)) = false) :
    Calls Tryd.prog 23 #[.pointer (some ⟨p, 0, none⟩)] w fun e w' => e = gaveUp ∧ w.grownBy w' (some p) := by
  have hrs : r.size ≤ s.size := by
    have h1 := congrArg List.length (readK_is hk)
    rw [List.length_append, ← str_size, ← str_size] at h1
    omega
  have hp : p < w.heap.size := B.lt
  have B0 : Hid (RdAt (w.alloc (.cells #[.string ⟨#[]⟩, .slice none 0 0, .int .i64 0, .int .i64 0, .int .i64 0, .float .f64 0, .int .i64 0, .string ⟨#[]⟩] 28)) p s) := B.alloc _
  have P0 : Hid (Blk (w.alloc (.cells #[.string ⟨#[]⟩, .slice none 0 0, .int .i64 0, .int .i64 0, .int .i64 0, .float .f64 0, .int .i64 0, .string ⟨#[]⟩] 28)) w.heap.size 28 (verC ⟨#[]⟩ none 0 0 0 0 0 0 0 ⟨#[]⟩)) := Blk.new w _ _
  have G0 : Hid (w.grownBy (w.alloc (.cells #[.string ⟨#[]⟩, .slice none 0 0, .int .i64 0, .int .i64 0, .int .i64 0, .float .f64 0, .int .i64 0, .string ⟨#[]⟩] 28)) (some p)) := only_alloc (kgrow_refl w _) _
  clear B
  have K := Lib.hid (krkey_some p s k r _ B0.out hs hk)
  have N1 := fun W (h : RdAt W p r) => Lib.hid (knum_ok p r 6 W h (by omega) (by decide) (by decide) (by omega))
  obtain ⟨r1, hr1⟩ : ∃ r1, r.extract 6 r.size = r1 := ⟨_, rfl⟩
  rw [hr1] at N1
  have zr1 : r1.size + 6 = r.size := by rw [← hr1, ByteArray.size_extract]; omega
  have dr1 : r1.data.toList = r.data.toList.drop 6 := by rw [← hr1, drop_in]
  have N2 := fun W (h : RdAt W p r1) => Lib.hid (knum_ok p r1 1 W h (by omega) (by decide) (by decide) (by omega))
  obtain ⟨r2, hr2⟩ : ∃ r2, r1.extract 1 r1.size = r2 := ⟨_, rfl⟩
  rw [hr2] at N2
  have zr2 : r2.size + 1 = r1.size := by rw [← hr2, ByteArray.size_extract]; omega
  have dr2 : r2.data.toList = r1.data.toList.drop 1 := by rw [← hr2, drop_in]
  have N3 := fun W (h : RdAt W p r2) => Lib.hid (knum_ok p r2 6 W h (by omega) (by decide) (by decide) (by omega))
  obtain ⟨r3, hr3⟩ : ∃ r3, r2.extract 6 r2.size = r3 := ⟨_, rfl⟩
  rw [hr3] at N3
  have zr3 : r3.size + 6 = r2.size := by rw [← hr3, ByteArray.size_extract]; omega
  have dr3 : r3.data.toList = r2.data.toList.drop 6 := by rw [← hr3, drop_in]
  obtain ⟨tn, htn⟩ : ∃ m : Nat, getL (r.data.toList.take 6) = m := ⟨_, rfl⟩
  have bt : tn ≤ 281474976710655 := by
    have h1 := getL_below (r.data.toList.take 6)
    rw [List.length_take, ← str_size, Nat.min_eq_left (by omega), htn] at h1
    omega
  rw [htn] at N1
  obtain ⟨TM, hTM⟩ : ∃ z : Int, 281474976710655 - (tn : Int) = z := ⟨_, rfl⟩
  have uTM : IntKind.i64.wrap (281474976710655 - (tn : Int)) = TM := (IntWalk.i64_in _ (by omega)).trans hTM
  have yTM : wrap64 (281474976710655 - (tn : Int)) = TM := (IntWalk.wrap64_in _ (by omega)).trans hTM
  obtain ⟨on, hon⟩ : ∃ m : Nat, getL (r1.data.toList.take 1) = m := ⟨_, rfl⟩
  have bo : on ≤ 255 := by
    have h1 := getL_below (r1.data.toList.take 1)
    rw [List.length_take, ← str_size, Nat.min_eq_left (by omega), hon] at h1
    omega
  rw [hon] at N2
  obtain ⟨O, hO⟩ : ∃ z : Int, 255 - (on : Int) = z := ⟨_, rfl⟩
  have uO : IntKind.i64.wrap (255 - (on : Int)) = O := (IntWalk.i64_in _ (by omega)).trans hO
  have yO : wrap64 (255 - (on : Int)) = O := (IntWalk.wrap64_in _ (by omega)).trans hO
  obtain ⟨xn, hxn⟩ : ∃ m : Nat, getL (r2.data.toList.take 6) = m := ⟨_, rfl⟩
  have bx : xn ≤ 281474976710655 := by
    have h1 := getL_below (r2.data.toList.take 6)
    rw [List.length_take, ← str_size, Nat.min_eq_left (by omega), hxn] at h1
    omega
  rw [hxn] at N3
  obtain ⟨X, hX⟩ : ∃ z : Int, 281474976710655 - (xn : Int) = z := ⟨_, rfl⟩
  have uX : IntKind.i64.wrap (281474976710655 - (xn : Int)) = X := (IntWalk.i64_in _ (by omega)).trans hX
  have yX : wrap64 (281474976710655 - (xn : Int)) = X := (IntWalk.wrap64_in _ (by omega)).trans hX
  have e3 : r3 = r0 := kbytes_ext (by rw [dr3, dr2, dr1, h0, List.drop_drop, List.drop_drop])
  have V := fun W (h : RdAt W p r3) => Lib.hid (kvec_ok p r3 xs kk W h (by omega) (by rw [e3]; exact hT) (by rw [e3]; exact Nat.le_of_eq hkk))
  have hxs := getT_ok r0
  rw [hT] at hxs
  obtain ⟨hx1, hx2⟩ := hxs
  have Hx2 := Lib.hid hx2
  obtain ⟨r4, h4⟩ : ∃ r4, r3.extract kk r3.size = r4 := ⟨_, rfl⟩
  rw [h4] at V
  have z4 : r4.size + kk = r0.size := by rw [← h4, e3, ByteArray.size_extract]; omega
  have hks : (⟨k.toArray⟩ : ByteArray).size ≤ 9223372036854775807 := by
    have h1 := congrArg List.length (readK_is hk)
    rw [List.length_append, ← str_size, ← str_size] at h1
    have h2 := (headL_two k).2.1
    rw [size_mk]
    omega
  have w5 : (Lit.int .i64 O).wf = true := by rw [← hO]; exact WalkArith.wf_i64 ⟨by omega, by omega⟩
  have w6 : (Lit.int .i64 X).wf = true := by rw [← hX]; exact WalkArith.wf_i64 ⟨by omega, by omega⟩
  have n4 : (r4.toList == []) = true := by
    rw [Lib.toList_data, beq_iff_eq]
    refine List.eq_nil_of_length_eq_zero ?_
    rw [← str_size]
    omega
  have hOX : okV k xs (255 - (getL ((r.data.toList.drop 6).take 1) : Int)) (281474976710655 - (getL ((r.data.toList.drop 7).take 6) : Int)) = okV k xs O X := by
    rw [← hO, ← hX, ← hon, ← hxn, dr2, dr1, List.drop_drop]
  have hTO : timeN xs (255 - (getL ((r.data.toList.drop 6).take 1) : Int)) = timeN xs O := by
    rw [← hO, ← hon, dr1]
  have hTM : (281474976710655 - (getL (r.data.toList.take 6) : Int)) = TM := by rw [← hTM, ← htn]
  rw [hOX] at hq
  have VC := fun A cp W h => Lib.hid (kvalid_any ⟨k.toArray⟩ A xs.length cp O X 0 0 0 ⟨#[]⟩ xs W h)
  rw [mk_data, hq] at VC
  simp only [verV] at VC
  clear hOX hTO hTM z4 hkk hk hT h0 dr1 dr2 dr3 hq
  go_enter Tryd.func23, Tryd.ntmps23
  go_wp2_with fail
  refine K.out.mono ?_
  rintro e w1 ⟨rfl, R1, g1⟩
  have P1 := kblk_by P0.out g1 (by omega)
  have hq1 : w.heap.size < w1.heap.size := P1.lt
  have G1 := kgrow_trans G0.out g1
  have M0 : Hid (Mid w (w1.alloc (.cells #[.string ⟨k.toArray⟩, .slice none 0 0, .int .i64 0, .int .i64 0, .int .i64 0, .float .f64 0, .int .i64 0, .string ⟨#[]⟩] 28)) p w1.heap.size r ⟨k.toArray⟩ none 0 0 0 0) := ⟨R1.alloc _, P1.alloc _, Blk.new w1 _ _, only_alloc G1 _, hp, hq1⟩
  clear K B0 P0 G0 R1 P1 G1 g1
  have hst := run_sto_f64
  go_wp2_with fail
  clear hst
  generalize w1.alloc (.cells #[.string ⟨k.toArray⟩, .slice none 0 0, .int .i64 0, .int .i64 0, .int .i64 0, .float .f64 0, .int .i64 0, .string ⟨#[]⟩] 28) = W0 at *
  generalize w1.heap.size = q at *
  have M := M0
  clear M0
  refine (N1 _ M.out.rd).out.mono ?_
  rintro e v1 ⟨rfl, R, g⟩
  have M1 := Lib.hid (M.out.step R g)
  clear R g M N1
  obtain ⟨c0, c1, c2, c3, c4, c5, c6, c7⟩ := ver_cells M1.out.ver
  have z2 := M1.out.ver.frozen 2
  have z3 := M1.out.ver.frozen 3
  have z1 := M1.out.ver.frozen 1
  go_wp2_with fail
  have M := M1
  clear M1 c0 c1 c2 c3 c4 c5 c6 c7 z1 z2 z3
  refine (N2 _ M.out.rd).out.mono ?_
  rintro e v2 ⟨rfl, R, g⟩
  have M1 := Lib.hid (M.out.step R g)
  clear R g M N2
  obtain ⟨c0, c1, c2, c3, c4, c5, c6, c7⟩ := ver_cells M1.out.ver
  have z2 := M1.out.ver.frozen 2
  have z3 := M1.out.ver.frozen 3
  have z1 := M1.out.ver.frozen 1
  go_wp2_with fail
  have M := Lib.hid (M1.out.set2 O)
  clear M1 c0 c1 c2 c3 c4 c5 c6 c7 z1 z2 z3
  refine (N3 _ M.out.rd).out.mono ?_
  rintro e v3 ⟨rfl, R, g⟩
  have M1 := Lib.hid (M.out.step R g)
  clear R g M N3
  obtain ⟨c0, c1, c2, c3, c4, c5, c6, c7⟩ := ver_cells M1.out.ver
  have z2 := M1.out.ver.frozen 2
  have z3 := M1.out.ver.frozen 3
  have z1 := M1.out.ver.frozen 1
  go_wp2_with fail
  have M := Lib.hid (M1.out.set3 X)
  clear M1 c0 c1 c2 c3 c4 c5 c6 c7 z1 z2 z3
  generalize v3.setCell ⟨q, 3, none⟩ (.int .i64 X) = W3 at *
  refine (V _ M.out.rd).out.mono ?_
  rintro e w9 ⟨⟨v, rfl, hN⟩, R9, g9⟩
  have M1 := Lib.hid (M.out.step R9 g9)
  have hlo : w.heap.size + 1 ≤ W3.heap.size := Nat.le_trans M.out.lq (Nat.le_of_lt M.out.ver.lt)
  have hqv : q < W3.heap.size := M.out.ver.lt
  obtain ⟨A, cp, rfl, -, -⟩ := hN.ints Hx2.out
  have HN : Hid (Nums (w9.setCell ⟨q, 1, none⟩ (.slice A xs.length cp)) (w.heap.size + 1) 3 (.slice A xs.length cp) xs) := Nums.low (show Nums _ _ _ _ _ from ownsRow_setCell_below hN (a := ⟨q, 1, none⟩) hqv (.slice A xs.length cp)) hlo
  have M9 := Lib.hid (M1.out.set1 A xs.length cp)
  obtain ⟨c0, c1, c2, c3, c4, c5, c6, c7⟩ := ver_cells M1.out.ver
  have z1 := M1.out.ver.frozen 1
  have d0 : (w9.setCell ⟨q, 1, none⟩ (.slice A xs.length cp)).cell? ⟨p, 0, none⟩ = some (.string r4) := M9.out.rd.cell 0
  clear hN R9 g9 M V hlo hqv M1
  have VI : ∀ W', Below (w9.setCell ⟨q, 1, none⟩ (.slice A xs.length cp)).heap.size (w9.setCell ⟨q, 1, none⟩ (.slice A xs.length cp)) W' → VerIn W' ⟨k.toArray⟩ A xs.length xs O X 0 0 0 ⟨#[]⟩ := by
    intro W' hb
    obtain ⟨A', c', e, hI, _⟩ := HN.out.ints Hx2.out
    cases e
    exact ⟨hI.below hb, hks, w5, w6, by decide, by decide, by decide, by decide⟩
  have VI := Lib.hid VI
  obtain ⟨y0, y1, y2, y3, y4, y5, y6, y7⟩ := ver_cells M9.out.ver
  go_wp2_with fail
  refine (VC _ _ _ (VI.out _ (Below.refl _ _))).out.mono ?_
  rintro e wa ⟨rfl, hba⟩
  have Ma := Lib.hid (M9.out.below hba)
  have Hba := Lib.hid hba
  clear hba VC c0 c1 c2 c3 c4 c5 c6 c7 z1 y0 y1 y2 y3 y4 y5 y6 y7
  obtain ⟨c0, c1, c2, c3, c4, c5, c6, c7⟩ := ver_cells Ma.out.ver
  go_wp2_with fail
  exact ⟨rfl, rfl, Ma.out.gr⟩

set_option maxRecDepth 100000 in
set_option maxHeartbeats 4000000 in
theorem kver_late (p : Nat) (s : ByteArray) (w : World) (B : RdAt w p s) (hs : s.size ≤ 140737488351232) (k : List UInt8) (r : ByteArray) (hk : readK s.data.toList = some (k, r.data.toList)) (hr : 13 ≤ r.size) (r0 : ByteArray) (h0 : r0.data.toList = r.data.toList.drop 13) (xs : List Int) (kk : Nat) (hT : getT r0 = (xs, (kk : Int), 0)) (hkk : kk = r0.size) (hq : okV k xs (255 - (getL ((r.data.toList.drop 6).take 1) : Int)) (281474976710655 - (getL ((r.data.toList.drop 7).take 6) : Int)) = true) (ht : timeN xs (255 - (getL ((r.data.toList.drop 6).take 1) : Int)) ≠ (281474976710655 - (getL (r.data.toList.take 6) : Int))) :
    Calls Tryd.prog 23 #[.pointer (some ⟨p, 0, none⟩)] w fun e w' => e = gaveUp ∧ w.grownBy w' (some p) := by
  have hrs : r.size ≤ s.size := by
    have h1 := congrArg List.length (readK_is hk)
    rw [List.length_append, ← str_size, ← str_size] at h1
    omega
  have hp : p < w.heap.size := B.lt
  have B0 : Hid (RdAt (w.alloc (.cells #[.string ⟨#[]⟩, .slice none 0 0, .int .i64 0, .int .i64 0, .int .i64 0, .float .f64 0, .int .i64 0, .string ⟨#[]⟩] 28)) p s) := B.alloc _
  have P0 : Hid (Blk (w.alloc (.cells #[.string ⟨#[]⟩, .slice none 0 0, .int .i64 0, .int .i64 0, .int .i64 0, .float .f64 0, .int .i64 0, .string ⟨#[]⟩] 28)) w.heap.size 28 (verC ⟨#[]⟩ none 0 0 0 0 0 0 0 ⟨#[]⟩)) := Blk.new w _ _
  have G0 : Hid (w.grownBy (w.alloc (.cells #[.string ⟨#[]⟩, .slice none 0 0, .int .i64 0, .int .i64 0, .int .i64 0, .float .f64 0, .int .i64 0, .string ⟨#[]⟩] 28)) (some p)) := only_alloc (kgrow_refl w _) _
  clear B
  have K := Lib.hid (krkey_some p s k r _ B0.out hs hk)
  have N1 := fun W (h : RdAt W p r) => Lib.hid (knum_ok p r 6 W h (by omega) (by decide) (by decide) (by omega))
  obtain ⟨r1, hr1⟩ : ∃ r1, r.extract 6 r.size = r1 := ⟨_, rfl⟩
  rw [hr1] at N1
  have zr1 : r1.size + 6 = r.size := by rw [← hr1, ByteArray.size_extract]; omega
  have dr1 : r1.data.toList = r.data.toList.drop 6 := by rw [← hr1, drop_in]
  have N2 := fun W (h : RdAt W p r1) => Lib.hid (knum_ok p r1 1 W h (by omega) (by decide) (by decide) (by omega))
  obtain ⟨r2, hr2⟩ : ∃ r2, r1.extract 1 r1.size = r2 := ⟨_, rfl⟩
  rw [hr2] at N2
  have zr2 : r2.size + 1 = r1.size := by rw [← hr2, ByteArray.size_extract]; omega
  have dr2 : r2.data.toList = r1.data.toList.drop 1 := by rw [← hr2, drop_in]
  have N3 := fun W (h : RdAt W p r2) => Lib.hid (knum_ok p r2 6 W h (by omega) (by decide) (by decide) (by omega))
  obtain ⟨r3, hr3⟩ : ∃ r3, r2.extract 6 r2.size = r3 := ⟨_, rfl⟩
  rw [hr3] at N3
  have zr3 : r3.size + 6 = r2.size := by rw [← hr3, ByteArray.size_extract]; omega
  have dr3 : r3.data.toList = r2.data.toList.drop 6 := by rw [← hr3, drop_in]
  obtain ⟨tn, htn⟩ : ∃ m : Nat, getL (r.data.toList.take 6) = m := ⟨_, rfl⟩
  have bt : tn ≤ 281474976710655 := by
    have h1 := getL_below (r.data.toList.take 6)
    rw [List.length_take, ← str_size, Nat.min_eq_left (by omega), htn] at h1
    omega
  rw [htn] at N1
  obtain ⟨TM, hTM⟩ : ∃ z : Int, 281474976710655 - (tn : Int) = z := ⟨_, rfl⟩
  have uTM : IntKind.i64.wrap (281474976710655 - (tn : Int)) = TM := (IntWalk.i64_in _ (by omega)).trans hTM
  have yTM : wrap64 (281474976710655 - (tn : Int)) = TM := (IntWalk.wrap64_in _ (by omega)).trans hTM
  obtain ⟨on, hon⟩ : ∃ m : Nat, getL (r1.data.toList.take 1) = m := ⟨_, rfl⟩
  have bo : on ≤ 255 := by
    have h1 := getL_below (r1.data.toList.take 1)
    rw [List.length_take, ← str_size, Nat.min_eq_left (by omega), hon] at h1
    omega
  rw [hon] at N2
  obtain ⟨O, hO⟩ : ∃ z : Int, 255 - (on : Int) = z := ⟨_, rfl⟩
  have uO : IntKind.i64.wrap (255 - (on : Int)) = O := (IntWalk.i64_in _ (by omega)).trans hO
  have yO : wrap64 (255 - (on : Int)) = O := (IntWalk.wrap64_in _ (by omega)).trans hO
  obtain ⟨xn, hxn⟩ : ∃ m : Nat, getL (r2.data.toList.take 6) = m := ⟨_, rfl⟩
  have bx : xn ≤ 281474976710655 := by
    have h1 := getL_below (r2.data.toList.take 6)
    rw [List.length_take, ← str_size, Nat.min_eq_left (by omega), hxn] at h1
    omega
  rw [hxn] at N3
  obtain ⟨X, hX⟩ : ∃ z : Int, 281474976710655 - (xn : Int) = z := ⟨_, rfl⟩
  have uX : IntKind.i64.wrap (281474976710655 - (xn : Int)) = X := (IntWalk.i64_in _ (by omega)).trans hX
  have yX : wrap64 (281474976710655 - (xn : Int)) = X := (IntWalk.wrap64_in _ (by omega)).trans hX
  have e3 : r3 = r0 := kbytes_ext (by rw [dr3, dr2, dr1, h0, List.drop_drop, List.drop_drop])
  have V := fun W (h : RdAt W p r3) => Lib.hid (kvec_ok p r3 xs kk W h (by omega) (by rw [e3]; exact hT) (by rw [e3]; exact Nat.le_of_eq hkk))
  have hxs := getT_ok r0
  rw [hT] at hxs
  obtain ⟨hx1, hx2⟩ := hxs
  have Hx2 := Lib.hid hx2
  obtain ⟨r4, h4⟩ : ∃ r4, r3.extract kk r3.size = r4 := ⟨_, rfl⟩
  rw [h4] at V
  have z4 : r4.size + kk = r0.size := by rw [← h4, e3, ByteArray.size_extract]; omega
  have hks : (⟨k.toArray⟩ : ByteArray).size ≤ 9223372036854775807 := by
    have h1 := congrArg List.length (readK_is hk)
    rw [List.length_append, ← str_size, ← str_size] at h1
    have h2 := (headL_two k).2.1
    rw [size_mk]
    omega
  have w5 : (Lit.int .i64 O).wf = true := by rw [← hO]; exact WalkArith.wf_i64 ⟨by omega, by omega⟩
  have w6 : (Lit.int .i64 X).wf = true := by rw [← hX]; exact WalkArith.wf_i64 ⟨by omega, by omega⟩
  have n4 : (r4.toList == []) = true := by
    rw [Lib.toList_data, beq_iff_eq]
    refine List.eq_nil_of_length_eq_zero ?_
    rw [← str_size]
    omega
  have hOX : okV k xs (255 - (getL ((r.data.toList.drop 6).take 1) : Int)) (281474976710655 - (getL ((r.data.toList.drop 7).take 6) : Int)) = okV k xs O X := by
    rw [← hO, ← hX, ← hon, ← hxn, dr2, dr1, List.drop_drop]
  have hTO : timeN xs (255 - (getL ((r.data.toList.drop 6).take 1) : Int)) = timeN xs O := by
    rw [← hO, ← hon, dr1]
  have hTM : (281474976710655 - (getL (r.data.toList.take 6) : Int)) = TM := by rw [← hTM, ← htn]
  rw [hOX] at hq
  rw [hTO, hTM] at ht
  have VC := fun A cp W h => Lib.hid (kvalid_any ⟨k.toArray⟩ A xs.length cp O X 0 0 0 ⟨#[]⟩ xs W h)
  rw [mk_data, hq] at VC
  simp only [verV] at VC
  have hk := okV_of hq
  have TC := fun A cp W h => Lib.hid (ktime_any ⟨k.toArray⟩ A xs.length cp O X 0 0 0 ⟨#[]⟩ xs W h hk.at_ hk.o0 hk.o1)
  simp only [verV] at TC
  have n5 : (timeN xs O == TM) = false := by rw [beq_eq_false_iff_ne]; exact ht
  generalize timeN xs O = TO at *
  clear hOX hTO hTM z4 hkk hk hT h0 dr1 dr2 dr3 ht hq
  go_enter Tryd.func23, Tryd.ntmps23
  go_wp2_with fail
  refine K.out.mono ?_
  rintro e w1 ⟨rfl, R1, g1⟩
  have P1 := kblk_by P0.out g1 (by omega)
  have hq1 : w.heap.size < w1.heap.size := P1.lt
  have G1 := kgrow_trans G0.out g1
  have M0 : Hid (Mid w (w1.alloc (.cells #[.string ⟨k.toArray⟩, .slice none 0 0, .int .i64 0, .int .i64 0, .int .i64 0, .float .f64 0, .int .i64 0, .string ⟨#[]⟩] 28)) p w1.heap.size r ⟨k.toArray⟩ none 0 0 0 0) := ⟨R1.alloc _, P1.alloc _, Blk.new w1 _ _, only_alloc G1 _, hp, hq1⟩
  clear K B0 P0 G0 R1 P1 G1 g1
  have hst := run_sto_f64
  go_wp2_with fail
  clear hst
  generalize w1.alloc (.cells #[.string ⟨k.toArray⟩, .slice none 0 0, .int .i64 0, .int .i64 0, .int .i64 0, .float .f64 0, .int .i64 0, .string ⟨#[]⟩] 28) = W0 at *
  generalize w1.heap.size = q at *
  have M := M0
  clear M0
  refine (N1 _ M.out.rd).out.mono ?_
  rintro e v1 ⟨rfl, R, g⟩
  have M1 := Lib.hid (M.out.step R g)
  clear R g M N1
  obtain ⟨c0, c1, c2, c3, c4, c5, c6, c7⟩ := ver_cells M1.out.ver
  have z2 := M1.out.ver.frozen 2
  have z3 := M1.out.ver.frozen 3
  have z1 := M1.out.ver.frozen 1
  go_wp2_with fail
  have M := M1
  clear M1 c0 c1 c2 c3 c4 c5 c6 c7 z1 z2 z3
  refine (N2 _ M.out.rd).out.mono ?_
  rintro e v2 ⟨rfl, R, g⟩
  have M1 := Lib.hid (M.out.step R g)
  clear R g M N2
  obtain ⟨c0, c1, c2, c3, c4, c5, c6, c7⟩ := ver_cells M1.out.ver
  have z2 := M1.out.ver.frozen 2
  have z3 := M1.out.ver.frozen 3
  have z1 := M1.out.ver.frozen 1
  go_wp2_with fail
  have M := Lib.hid (M1.out.set2 O)
  clear M1 c0 c1 c2 c3 c4 c5 c6 c7 z1 z2 z3
  refine (N3 _ M.out.rd).out.mono ?_
  rintro e v3 ⟨rfl, R, g⟩
  have M1 := Lib.hid (M.out.step R g)
  clear R g M N3
  obtain ⟨c0, c1, c2, c3, c4, c5, c6, c7⟩ := ver_cells M1.out.ver
  have z2 := M1.out.ver.frozen 2
  have z3 := M1.out.ver.frozen 3
  have z1 := M1.out.ver.frozen 1
  go_wp2_with fail
  have M := Lib.hid (M1.out.set3 X)
  clear M1 c0 c1 c2 c3 c4 c5 c6 c7 z1 z2 z3
  generalize v3.setCell ⟨q, 3, none⟩ (.int .i64 X) = W3 at *
  refine (V _ M.out.rd).out.mono ?_
  rintro e w9 ⟨⟨v, rfl, hN⟩, R9, g9⟩
  have M1 := Lib.hid (M.out.step R9 g9)
  have hlo : w.heap.size + 1 ≤ W3.heap.size := Nat.le_trans M.out.lq (Nat.le_of_lt M.out.ver.lt)
  have hqv : q < W3.heap.size := M.out.ver.lt
  obtain ⟨A, cp, rfl, -, -⟩ := hN.ints Hx2.out
  have HN : Hid (Nums (w9.setCell ⟨q, 1, none⟩ (.slice A xs.length cp)) (w.heap.size + 1) 3 (.slice A xs.length cp) xs) := Nums.low (show Nums _ _ _ _ _ from ownsRow_setCell_below hN (a := ⟨q, 1, none⟩) hqv (.slice A xs.length cp)) hlo
  have M9 := Lib.hid (M1.out.set1 A xs.length cp)
  obtain ⟨c0, c1, c2, c3, c4, c5, c6, c7⟩ := ver_cells M1.out.ver
  have z1 := M1.out.ver.frozen 1
  have d0 : (w9.setCell ⟨q, 1, none⟩ (.slice A xs.length cp)).cell? ⟨p, 0, none⟩ = some (.string r4) := M9.out.rd.cell 0
  clear hN R9 g9 M V hlo hqv M1
  have VI : ∀ W', Below (w9.setCell ⟨q, 1, none⟩ (.slice A xs.length cp)).heap.size (w9.setCell ⟨q, 1, none⟩ (.slice A xs.length cp)) W' → VerIn W' ⟨k.toArray⟩ A xs.length xs O X 0 0 0 ⟨#[]⟩ := by
    intro W' hb
    obtain ⟨A', c', e, hI, _⟩ := HN.out.ints Hx2.out
    cases e
    exact ⟨hI.below hb, hks, w5, w6, by decide, by decide, by decide, by decide⟩
  have VI := Lib.hid VI
  obtain ⟨y0, y1, y2, y3, y4, y5, y6, y7⟩ := ver_cells M9.out.ver
  go_wp2_with fail
  refine (VC _ _ _ (VI.out _ (Below.refl _ _))).out.mono ?_
  rintro e wa ⟨rfl, hba⟩
  have Ma := Lib.hid (M9.out.below hba)
  have Hba := Lib.hid hba
  clear hba VC c0 c1 c2 c3 c4 c5 c6 c7 z1 y0 y1 y2 y3 y4 y5 y6 y7
  obtain ⟨c0, c1, c2, c3, c4, c5, c6, c7⟩ := ver_cells Ma.out.ver
  go_wp2_with fail
  refine (TC _ _ _ (VI.out _ Hba.out)).out.mono ?_
  rintro e wb ⟨rfl, hbb⟩
  have Mb := Lib.hid (Ma.out.below hbb)
  have HNb := Lib.hid ((HN.out.below Hba.out (Nat.le_refl _)).below hbb (Nat.le_refl _))
  clear hbb TC c0 c1 c2 c3 c4 c5 c6 c7
  obtain ⟨c0, c1, c2, c3, c4, c5, c6, c7⟩ := ver_cells Mb.out.ver
  obtain ⟨e0, e1, e2, e3, e4, e5, e6, e7⟩ := ver_cells Mb.out.res
  have z0 := Mb.out.res.frozen 0
  have z1 := Mb.out.res.frozen 1
  have z2 := Mb.out.res.frozen 2
  have z3 := Mb.out.res.frozen 3
  have z4 := Mb.out.res.frozen 4
  have z5 := Mb.out.res.frozen 5
  have z6 := Mb.out.res.frozen 6
  have z7 := Mb.out.res.frozen 7
  have hst := run_sto_f64
  go_wp2_with fail
  exact ⟨rfl, rfl, Mb.out.gr⟩

set_option maxRecDepth 100000 in
set_option maxHeartbeats 4000000 in
theorem kver_ok (p : Nat) (s : ByteArray) (w : World) (B : RdAt w p s) (hs : s.size ≤ 140737488351232) (k : List UInt8) (r : ByteArray) (hk : readK s.data.toList = some (k, r.data.toList)) (hr : 13 ≤ r.size) (r0 : ByteArray) (h0 : r0.data.toList = r.data.toList.drop 13) (xs : List Int) (kk : Nat) (hT : getT r0 = (xs, (kk : Int), 0)) (hkk : kk = r0.size) (hq : okV k xs (255 - (getL ((r.data.toList.drop 6).take 1) : Int)) (281474976710655 - (getL ((r.data.toList.drop 7).take 6) : Int)) = true) (ht : timeN xs (255 - (getL ((r.data.toList.drop 6).take 1) : Int)) = (281474976710655 - (getL (r.data.toList.take 6) : Int))) :
    Calls Tryd.prog 23 #[.pointer (some ⟨p, 0, none⟩)] w fun e w' => (∃ A c, e = .returned (verV ⟨k.toArray⟩ A xs.length c (255 - (getL ((r.data.toList.drop 6).take 1) : Int)) (281474976710655 - (getL ((r.data.toList.drop 7).take 6) : Int)) 0 0 0 ⟨#[]⟩) ∧ Nums w' w.heap.size 3 (.slice A xs.length c) xs) ∧ w.grownBy w' (some p) := by
  have hrs : r.size ≤ s.size := by
    have h1 := congrArg List.length (readK_is hk)
    rw [List.length_append, ← str_size, ← str_size] at h1
    omega
  have hp : p < w.heap.size := B.lt
  have B0 : Hid (RdAt (w.alloc (.cells #[.string ⟨#[]⟩, .slice none 0 0, .int .i64 0, .int .i64 0, .int .i64 0, .float .f64 0, .int .i64 0, .string ⟨#[]⟩] 28)) p s) := B.alloc _
  have P0 : Hid (Blk (w.alloc (.cells #[.string ⟨#[]⟩, .slice none 0 0, .int .i64 0, .int .i64 0, .int .i64 0, .float .f64 0, .int .i64 0, .string ⟨#[]⟩] 28)) w.heap.size 28 (verC ⟨#[]⟩ none 0 0 0 0 0 0 0 ⟨#[]⟩)) := Blk.new w _ _
  have G0 : Hid (w.grownBy (w.alloc (.cells #[.string ⟨#[]⟩, .slice none 0 0, .int .i64 0, .int .i64 0, .int .i64 0, .float .f64 0, .int .i64 0, .string ⟨#[]⟩] 28)) (some p)) := only_alloc (kgrow_refl w _) _
  clear B
  have K := Lib.hid (krkey_some p s k r _ B0.out hs hk)
  have N1 := fun W (h : RdAt W p r) => Lib.hid (knum_ok p r 6 W h (by omega) (by decide) (by decide) (by omega))
  obtain ⟨r1, hr1⟩ : ∃ r1, r.extract 6 r.size = r1 := ⟨_, rfl⟩
  rw [hr1] at N1
  have zr1 : r1.size + 6 = r.size := by rw [← hr1, ByteArray.size_extract]; omega
  have dr1 : r1.data.toList = r.data.toList.drop 6 := by rw [← hr1, drop_in]
  have N2 := fun W (h : RdAt W p r1) => Lib.hid (knum_ok p r1 1 W h (by omega) (by decide) (by decide) (by omega))
  obtain ⟨r2, hr2⟩ : ∃ r2, r1.extract 1 r1.size = r2 := ⟨_, rfl⟩
  rw [hr2] at N2
  have zr2 : r2.size + 1 = r1.size := by rw [← hr2, ByteArray.size_extract]; omega
  have dr2 : r2.data.toList = r1.data.toList.drop 1 := by rw [← hr2, drop_in]
  have N3 := fun W (h : RdAt W p r2) => Lib.hid (knum_ok p r2 6 W h (by omega) (by decide) (by decide) (by omega))
  obtain ⟨r3, hr3⟩ : ∃ r3, r2.extract 6 r2.size = r3 := ⟨_, rfl⟩
  rw [hr3] at N3
  have zr3 : r3.size + 6 = r2.size := by rw [← hr3, ByteArray.size_extract]; omega
  have dr3 : r3.data.toList = r2.data.toList.drop 6 := by rw [← hr3, drop_in]
  obtain ⟨tn, htn⟩ : ∃ m : Nat, getL (r.data.toList.take 6) = m := ⟨_, rfl⟩
  have bt : tn ≤ 281474976710655 := by
    have h1 := getL_below (r.data.toList.take 6)
    rw [List.length_take, ← str_size, Nat.min_eq_left (by omega), htn] at h1
    omega
  rw [htn] at N1
  obtain ⟨TM, hTM⟩ : ∃ z : Int, 281474976710655 - (tn : Int) = z := ⟨_, rfl⟩
  have uTM : IntKind.i64.wrap (281474976710655 - (tn : Int)) = TM := (IntWalk.i64_in _ (by omega)).trans hTM
  have yTM : wrap64 (281474976710655 - (tn : Int)) = TM := (IntWalk.wrap64_in _ (by omega)).trans hTM
  obtain ⟨on, hon⟩ : ∃ m : Nat, getL (r1.data.toList.take 1) = m := ⟨_, rfl⟩
  have bo : on ≤ 255 := by
    have h1 := getL_below (r1.data.toList.take 1)
    rw [List.length_take, ← str_size, Nat.min_eq_left (by omega), hon] at h1
    omega
  rw [hon] at N2
  obtain ⟨O, hO⟩ : ∃ z : Int, 255 - (on : Int) = z := ⟨_, rfl⟩
  have uO : IntKind.i64.wrap (255 - (on : Int)) = O := (IntWalk.i64_in _ (by omega)).trans hO
  have yO : wrap64 (255 - (on : Int)) = O := (IntWalk.wrap64_in _ (by omega)).trans hO
  obtain ⟨xn, hxn⟩ : ∃ m : Nat, getL (r2.data.toList.take 6) = m := ⟨_, rfl⟩
  have bx : xn ≤ 281474976710655 := by
    have h1 := getL_below (r2.data.toList.take 6)
    rw [List.length_take, ← str_size, Nat.min_eq_left (by omega), hxn] at h1
    omega
  rw [hxn] at N3
  obtain ⟨X, hX⟩ : ∃ z : Int, 281474976710655 - (xn : Int) = z := ⟨_, rfl⟩
  have uX : IntKind.i64.wrap (281474976710655 - (xn : Int)) = X := (IntWalk.i64_in _ (by omega)).trans hX
  have yX : wrap64 (281474976710655 - (xn : Int)) = X := (IntWalk.wrap64_in _ (by omega)).trans hX
  have e3 : r3 = r0 := kbytes_ext (by rw [dr3, dr2, dr1, h0, List.drop_drop, List.drop_drop])
  have V := fun W (h : RdAt W p r3) => Lib.hid (kvec_ok p r3 xs kk W h (by omega) (by rw [e3]; exact hT) (by rw [e3]; exact Nat.le_of_eq hkk))
  have hxs := getT_ok r0
  rw [hT] at hxs
  obtain ⟨hx1, hx2⟩ := hxs
  have Hx2 := Lib.hid hx2
  obtain ⟨r4, h4⟩ : ∃ r4, r3.extract kk r3.size = r4 := ⟨_, rfl⟩
  rw [h4] at V
  have z4 : r4.size + kk = r0.size := by rw [← h4, e3, ByteArray.size_extract]; omega
  have hks : (⟨k.toArray⟩ : ByteArray).size ≤ 9223372036854775807 := by
    have h1 := congrArg List.length (readK_is hk)
    rw [List.length_append, ← str_size, ← str_size] at h1
    have h2 := (headL_two k).2.1
    rw [size_mk]
    omega
  have w5 : (Lit.int .i64 O).wf = true := by rw [← hO]; exact WalkArith.wf_i64 ⟨by omega, by omega⟩
  have w6 : (Lit.int .i64 X).wf = true := by rw [← hX]; exact WalkArith.wf_i64 ⟨by omega, by omega⟩
  have n4 : (r4.toList == []) = true := by
    rw [Lib.toList_data, beq_iff_eq]
    refine List.eq_nil_of_length_eq_zero ?_
    rw [← str_size]
    omega
  have hOX : okV k xs (255 - (getL ((r.data.toList.drop 6).take 1) : Int)) (281474976710655 - (getL ((r.data.toList.drop 7).take 6) : Int)) = okV k xs O X := by
    rw [← hO, ← hX, ← hon, ← hxn, dr2, dr1, List.drop_drop]
  have hTO : timeN xs (255 - (getL ((r.data.toList.drop 6).take 1) : Int)) = timeN xs O := by
    rw [← hO, ← hon, dr1]
  have hTM : (281474976710655 - (getL (r.data.toList.take 6) : Int)) = TM := by rw [← hTM, ← htn]
  rw [hOX] at hq
  rw [hTO, hTM] at ht
  rw [show (255 - (getL ((r.data.toList.drop 6).take 1) : Int)) = O by rw [← hO, ← hon, dr1], show (281474976710655 - (getL ((r.data.toList.drop 7).take 6) : Int)) = X by rw [← hX, ← hxn, dr2, dr1, List.drop_drop]]
  have VC := fun A cp W h => Lib.hid (kvalid_any ⟨k.toArray⟩ A xs.length cp O X 0 0 0 ⟨#[]⟩ xs W h)
  rw [mk_data, hq] at VC
  simp only [verV] at VC
  have hk := okV_of hq
  have TC := fun A cp W h => Lib.hid (ktime_any ⟨k.toArray⟩ A xs.length cp O X 0 0 0 ⟨#[]⟩ xs W h hk.at_ hk.o0 hk.o1)
  simp only [verV] at TC
  rw [ht] at TC
  clear hOX hTO hTM z4 hkk hk hT h0 dr1 dr2 dr3 ht hq
  go_enter Tryd.func23, Tryd.ntmps23
  go_wp2_with fail
  refine K.out.mono ?_
  rintro e w1 ⟨rfl, R1, g1⟩
  have P1 := kblk_by P0.out g1 (by omega)
  have hq1 : w.heap.size < w1.heap.size := P1.lt
  have G1 := kgrow_trans G0.out g1
  have M0 : Hid (Mid w (w1.alloc (.cells #[.string ⟨k.toArray⟩, .slice none 0 0, .int .i64 0, .int .i64 0, .int .i64 0, .float .f64 0, .int .i64 0, .string ⟨#[]⟩] 28)) p w1.heap.size r ⟨k.toArray⟩ none 0 0 0 0) := ⟨R1.alloc _, P1.alloc _, Blk.new w1 _ _, only_alloc G1 _, hp, hq1⟩
  clear K B0 P0 G0 R1 P1 G1 g1
  have hst := run_sto_f64
  go_wp2_with fail
  clear hst
  generalize w1.alloc (.cells #[.string ⟨k.toArray⟩, .slice none 0 0, .int .i64 0, .int .i64 0, .int .i64 0, .float .f64 0, .int .i64 0, .string ⟨#[]⟩] 28) = W0 at *
  generalize w1.heap.size = q at *
  have M := M0
  clear M0
  refine (N1 _ M.out.rd).out.mono ?_
  rintro e v1 ⟨rfl, R, g⟩
  have M1 := Lib.hid (M.out.step R g)
  clear R g M N1
  obtain ⟨c0, c1, c2, c3, c4, c5, c6, c7⟩ := ver_cells M1.out.ver
  have z2 := M1.out.ver.frozen 2
  have z3 := M1.out.ver.frozen 3
  have z1 := M1.out.ver.frozen 1
  go_wp2_with fail
  have M := M1
  clear M1 c0 c1 c2 c3 c4 c5 c6 c7 z1 z2 z3
  refine (N2 _ M.out.rd).out.mono ?_
  rintro e v2 ⟨rfl, R, g⟩
  have M1 := Lib.hid (M.out.step R g)
  clear R g M N2
  obtain ⟨c0, c1, c2, c3, c4, c5, c6, c7⟩ := ver_cells M1.out.ver
  have z2 := M1.out.ver.frozen 2
  have z3 := M1.out.ver.frozen 3
  have z1 := M1.out.ver.frozen 1
  go_wp2_with fail
  have M := Lib.hid (M1.out.set2 O)
  clear M1 c0 c1 c2 c3 c4 c5 c6 c7 z1 z2 z3
  refine (N3 _ M.out.rd).out.mono ?_
  rintro e v3 ⟨rfl, R, g⟩
  have M1 := Lib.hid (M.out.step R g)
  clear R g M N3
  obtain ⟨c0, c1, c2, c3, c4, c5, c6, c7⟩ := ver_cells M1.out.ver
  have z2 := M1.out.ver.frozen 2
  have z3 := M1.out.ver.frozen 3
  have z1 := M1.out.ver.frozen 1
  go_wp2_with fail
  have M := Lib.hid (M1.out.set3 X)
  clear M1 c0 c1 c2 c3 c4 c5 c6 c7 z1 z2 z3
  generalize v3.setCell ⟨q, 3, none⟩ (.int .i64 X) = W3 at *
  refine (V _ M.out.rd).out.mono ?_
  rintro e w9 ⟨⟨v, rfl, hN⟩, R9, g9⟩
  have M1 := Lib.hid (M.out.step R9 g9)
  have hlo : w.heap.size + 1 ≤ W3.heap.size := Nat.le_trans M.out.lq (Nat.le_of_lt M.out.ver.lt)
  have hqv : q < W3.heap.size := M.out.ver.lt
  obtain ⟨A, cp, rfl, -, -⟩ := hN.ints Hx2.out
  have HN : Hid (Nums (w9.setCell ⟨q, 1, none⟩ (.slice A xs.length cp)) (w.heap.size + 1) 3 (.slice A xs.length cp) xs) := Nums.low (show Nums _ _ _ _ _ from ownsRow_setCell_below hN (a := ⟨q, 1, none⟩) hqv (.slice A xs.length cp)) hlo
  have M9 := Lib.hid (M1.out.set1 A xs.length cp)
  obtain ⟨c0, c1, c2, c3, c4, c5, c6, c7⟩ := ver_cells M1.out.ver
  have z1 := M1.out.ver.frozen 1
  have d0 : (w9.setCell ⟨q, 1, none⟩ (.slice A xs.length cp)).cell? ⟨p, 0, none⟩ = some (.string r4) := M9.out.rd.cell 0
  clear hN R9 g9 M V hlo hqv M1
  have VI : ∀ W', Below (w9.setCell ⟨q, 1, none⟩ (.slice A xs.length cp)).heap.size (w9.setCell ⟨q, 1, none⟩ (.slice A xs.length cp)) W' → VerIn W' ⟨k.toArray⟩ A xs.length xs O X 0 0 0 ⟨#[]⟩ := by
    intro W' hb
    obtain ⟨A', c', e, hI, _⟩ := HN.out.ints Hx2.out
    cases e
    exact ⟨hI.below hb, hks, w5, w6, by decide, by decide, by decide, by decide⟩
  have VI := Lib.hid VI
  obtain ⟨y0, y1, y2, y3, y4, y5, y6, y7⟩ := ver_cells M9.out.ver
  go_wp2_with fail
  refine (VC _ _ _ (VI.out _ (Below.refl _ _))).out.mono ?_
  rintro e wa ⟨rfl, hba⟩
  have Ma := Lib.hid (M9.out.below hba)
  have Hba := Lib.hid hba
  clear hba VC c0 c1 c2 c3 c4 c5 c6 c7 z1 y0 y1 y2 y3 y4 y5 y6 y7
  obtain ⟨c0, c1, c2, c3, c4, c5, c6, c7⟩ := ver_cells Ma.out.ver
  go_wp2_with fail
  refine (TC _ _ _ (VI.out _ Hba.out)).out.mono ?_
  rintro e wb ⟨rfl, hbb⟩
  have Mb := Lib.hid (Ma.out.below hbb)
  have HNb := Lib.hid ((HN.out.below Hba.out (Nat.le_refl _)).below hbb (Nat.le_refl _))
  clear hbb TC c0 c1 c2 c3 c4 c5 c6 c7
  obtain ⟨c0, c1, c2, c3, c4, c5, c6, c7⟩ := ver_cells Mb.out.ver
  obtain ⟨e0, e1, e2, e3, e4, e5, e6, e7⟩ := ver_cells Mb.out.res
  have z0 := Mb.out.res.frozen 0
  have z1 := Mb.out.res.frozen 1
  have z2 := Mb.out.res.frozen 2
  have z3 := Mb.out.res.frozen 3
  have z4 := Mb.out.res.frozen 4
  have z5 := Mb.out.res.frozen 5
  have z6 := Mb.out.res.frozen 6
  have z7 := Mb.out.res.frozen 7
  have hst := run_sto_f64
  go_wp2_with fail
  exact kv_end (ver_set8 Mb.out.res ⟨k.toArray⟩ A xs.length cp O X 0 0 0 ⟨#[]⟩) rfl ⟨⟨A, cp, rfl, Nums.low (nums_set8 HNb.out (Nat.lt_succ_self _) _ _ _ _ _ _ _ _) (Nat.le_succ _)⟩, grow_set8 Mb.out.gr (Nat.le_refl _) _ _ _ _ _ _ _ _⟩
/-- What the reader's version tells. -/
def VersIs (w w' : World) (s : ByteArray) (e : Ending) : Prop :=
  (∃ key A c o x xs, OkV key.data.toList xs o x ∧ s.data.toList = putVL key.data.toList xs o x ∧ e = .returned (verV key A xs.length c o x 0 0 0 ⟨#[]⟩) ∧ Nums w' w.heap.size 3 (.slice A xs.length c) xs) ∨
  ((∀ (key : List UInt8) (xs : List Int) (o x : Int), OkV key xs o x → s.data.toList ≠ putVL key xs o x) ∧ e = gaveUp)

theorem krversion_any (p : Nat) (s : ByteArray) (w : World) (B : RdAt w p s) (hs : s.size ≤ 140737488351232) :
    Calls Tryd.prog 23 #[.pointer (some ⟨p, 0, none⟩)] w fun e w' => VersIs w w' s e ∧ w.grownBy w' (some p) := by
  have up : ∀ {e : Ending} {w' : World}, (∀ (key : List UInt8) (xs : List Int) (o x : Int), OkV key xs o x → s.data.toList ≠ putVL key xs o x) → (e = gaveUp ∧ w.grownBy w' (some p)) → VersIs w w' s e ∧ w.grownBy w' (some p) :=
    fun h1 h2 => ⟨Or.inr ⟨h1, h2.1⟩, h2.2⟩
  cases hk : readK s.data.toList with
  | none =>
    refine (kver_nokey p s w B hs hk).mono fun e w' h => up ?_ h
    intro key xs o x h e
    obtain ⟨r, hr, _⟩ := parts_of_put h e
    rw [hk] at hr; cases hr
  | some kr =>
    obtain ⟨k, rl⟩ := kr
    obtain ⟨r, hr⟩ : ∃ r : ByteArray, r.data.toList = rl := ⟨⟨rl.toArray⟩, by simp⟩
    rw [← hr] at hk
    have hz : r.data.toList.length = r.size := (str_size r).symm
    have no : ∀ {key : List UInt8} {xs : List Int} {o x : Int}, OkV key xs o x → s.data.toList = putVL key xs o x → key = k ∧ Parts r.data.toList xs o x := by
      intro key xs o x h e
      obtain ⟨r', hr', P⟩ := parts_of_put h e
      rw [hk] at hr'
      obtain ⟨rfl, rfl⟩ := Prod.mk.inj (Option.some.inj hr')
      exact ⟨rfl, P⟩
    have short : r.size < 14 → ∀ (key : List UInt8) (xs : List Int) (o x : Int), OkV key xs o x → s.data.toList ≠ putVL key xs o x := by
      intro hlt key xs o x h e
      have := (no h e).2.len
      omega
    by_cases h6 : r.size < 6
    · exact (kver_short0 p s w B hs k r hk h6).mono fun e w' h => up (short (by omega)) h
    · by_cases h7 : r.size < 7
      · exact (kver_short1 p s w B hs k r hk (by omega) h7).mono fun e w' h => up (short (by omega)) h
      · by_cases h13 : r.size < 13
        · exact (kver_short2 p s w B hs k r hk (by omega) h13).mono fun e w' h => up (short (by omega)) h
        · obtain ⟨r0, h0⟩ : ∃ r0 : ByteArray, r0.data.toList = r.data.toList.drop 13 := ⟨⟨(r.data.toList.drop 13).toArray⟩, by simp⟩
          obtain ⟨⟨xs, n, er⟩, hT⟩ : ∃ T, getT r0 = T := ⟨_, rfl⟩
          have vec : ∀ {key : List UInt8} {xs' : List Int} {o x : Int}, OkV key xs' o x → s.data.toList = putVL key xs' o x → xs = xs' ∧ n = (r0.size : Int) ∧ er = 0 := by
            intro key xs' o x h e
            have P := (no h e).2
            have h1 := getT_vecB h.at_ r0 (h0.trans P.vec)
            rw [hT] at h1
            obtain ⟨e1, e2⟩ := Prod.mk.inj h1
            obtain ⟨e2, e3⟩ := Prod.mk.inj e2
            refine ⟨e1, ?_, e3⟩
            rw [e2, str_size, h0, P.vec, vecB_length]
            push_cast
            rfl
          by_cases hE : er = 0
          · obtain ⟨kk, hn, hkk⟩ := getT_room hT hE
            subst hE hn
            by_cases hlt : kk < r0.size
            · refine (kver_more p s w B hs k r hk (by omega) r0 h0 xs kk hT hkk hlt).mono fun e w' h => up ?_ h
              intro key xs' o x h e
              have := (vec h e).2.1
              omega
            · have hkk : kk = r0.size := by omega
              cases hq : okV k xs (255 - (getL ((r.data.toList.drop 6).take 1) : Int)) (281474976710655 - (getL ((r.data.toList.drop 7).take 6) : Int)) with
              | false =>
                refine (kver_bad p s w B hs k r hk (by omega) r0 h0 xs kk hT hkk hq).mono fun e w' h => up ?_ h
                intro key xs' o x h e
                obtain ⟨rfl, P⟩ := no h e
                obtain ⟨rfl, _, _⟩ := vec h e
                rw [P.org, P.num, h.ok] at hq
                cases hq
              | true =>
                by_cases ht : timeN xs (255 - (getL ((r.data.toList.drop 6).take 1) : Int)) = (281474976710655 - (getL (r.data.toList.take 6) : Int))
                · refine (kver_ok p s w B hs k r hk (by omega) r0 h0 xs kk hT hkk hq ht).mono ?_
                  rintro e w' ⟨⟨A, c, he, hN⟩, g⟩
                  refine ⟨Or.inl ⟨⟨k.toArray⟩, A, c, _, _, xs, ?_, ?_, he, hN⟩, g⟩
                  · rw [mk_data]; exact okV_of hq
                  · rw [mk_data]
                    exact put_of_parts hk (by omega) (by rw [← h0]; exact vecB_of r0 xs (by rw [hT, hkk])) (okV_of hq) ht
                · refine (kver_late p s w B hs k r hk (by omega) r0 h0 xs kk hT hkk hq ht).mono fun e w' h => up ?_ h
                  intro key xs' o x h e
                  obtain ⟨rfl, P⟩ := no h e
                  obtain ⟨rfl, _, _⟩ := vec h e
                  exact ht (by rw [P.org, P.time])
          · refine (kver_novec p s w B hs k r hk (by omega) r0 h0 xs n er hT hE).mono fun e w' h => up ?_ h
            intro key xs' o x h e
            exact hE (vec h e).2.2
end Go.Proofs.YthjphiniljopgaaDoor
