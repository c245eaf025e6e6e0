/-
  Walks over package vec, part 5: Get.
-/
import Derived.Test.YthjphiniljopgaaDoorVec2
import Derived.Test.YthjphiniljopgaaDoorRaw3
import Derived.Test.YthjphiniljopgaaDoorRaw12
import Derived.Deep.RegionWith
import Derived.Deep.RegionHeld3
namespace Go.Proofs.YthjphiniljopgaaDoor
open Go.RowKit

set_option maxRecDepth 100000 in
set_option maxHeartbeats 1000000 in
theorem vnext_ok (s : ByteArray) (k : Nat) (w : World) (hk : k ≤ s.size) (h1 : 1 ≤ k) (h7 : k ≤ 7) :
    Calls Tryd.prog 51 #[.string s, .int .i64 (k : Int)] w fun e w' => e = .returned (.tuple #[.int .i64 (getL (s.data.toList.take k) : Int), .string (s.extract k s.size)]) ∧ ∃ q, w' = w.drewN q := by
  have hk1 : (k : Int) ≤ (s.size : Int) := by omega
  have hsz : (s.extract 0 k).size = k := by simp; omega
  have hget := get_ok (s.extract 0 k) w (by omega) (by omega)
  rw [show (s.extract 0 k).data.toList = s.data.toList.take k from by rw [Lib.extract_data]; simp] at hget
  have G := Lib.hid hget
  clear hget
  go_enter Tryd.func51, Tryd.ntmps51
  go_wp2_with fail
  refine G.out.mono ?_
  rintro e w' ⟨rfl, rfl⟩
  go_wp2_with fail
  go_quiet (fail)
  go_wp2_with fail
  go_ret2
  exact ⟨rfl, _, rfl⟩

set_option maxRecDepth 100000 in
set_option maxHeartbeats 1000000 in
theorem vnext_short (s : ByteArray) (k : Nat) (w : World) (hk : s.size < k) :
    Calls Tryd.prog 51 #[.string s, .int .i64 (k : Int)] w fun e w' => e = .panicked [{ v := .iface 29 (.int .i64 3), recovered := false }] ∧ w = w' := by
  have hk1 : (s.size : Int) < (k : Int) := by omega
  go_enter Tryd.func51, Tryd.ntmps51
  go_wp2_with fail
  exact ⟨rfl, rfl, rfl⟩

set_option maxHeartbeats 400000 in
theorem vget_catch (a b c : Nat) (x y z : Value) (er : Int) (older : List PanicEntry) (w : World) (ha : w.cell? ⟨a, 0, none⟩ = some x) (hb : w.cell? ⟨b, 0, none⟩ = some y) (hc : w.cell? ⟨c, 0, none⟩ = some z)
    (fa : w.frozen? ⟨a, 0, none⟩ = false) (fb : w.frozen? ⟨b, 0, none⟩ = false) (fc : w.frozen? ⟨c, 0, none⟩ = false) (hab : a ≠ b) (hbc : b ≠ c) (hac : a ≠ c) :
    CallsD Tryd.prog 50 #[.pointer (some ⟨a, 0, none⟩), .pointer (some ⟨b, 0, none⟩), .pointer (some ⟨c, 0, none⟩)] (.panicking ({ v := .iface 29 (.int .i64 er), recovered := false } :: older)) w fun e u' w' =>
      e = .returned (.tuple #[]) ∧ u' = .panicking ({ v := .iface 29 (.int .i64 er), recovered := true } :: older) ∧
        w' = ((w.setCell ⟨a, 0, none⟩ (.slice none 0 0)).setCell ⟨b, 0, none⟩ (.int .i64 0)).setCell ⟨c, 0, none⟩ (.int .i64 er) := by
  refine callsD_of_wpS Tryd.func50 rfl fun c₀ cs hu => ?_
  apply wpS_seq
  apply wpS_region
  simp [wpOpsS, go_sem, recoverD, hu, Tryd.ntmps50, Exit.thenS]
  refine wpS_of_wp ?_
  simp [Array.replicate]
  go_wp2_with fail
  refine (told_errno _ _).mono ?_
  rintro e w' ⟨rfl, rfl⟩
  go_wp2
  simp [bodyPostS, results, Tryd.results50]

set_option maxHeartbeats 400000 in
theorem vget_idle (a b c : Value) (w : World) :
    CallsD Tryd.prog 50 #[a, b, c] .returning w fun e u' w' => e = .returned (.tuple #[]) ∧ u' = .returning ∧ w' = w := by
  refine callsD_of_wpS Tryd.func50 rfl fun c₀ cs hu => ?_
  apply wpS_seq
  apply wpS_region
  simp [wpOpsS, go_sem, recoverD, hu, Tryd.ntmps50, Exit.thenS]
  refine wpS_of_wp ?_
  simp [Array.replicate]
  go_wp2
  cases c₀
  simp_all [bodyPostS, results, Tryd.results50]

/-- The call's three results lie in blocks of their own. -/
structure Cells3 (w : World) (p : Nat) (x y z : Value) : Prop where
  b0 : Blk w p 23 #[x]
  b1 : Blk w (p + 1) 3 #[y]
  b2 : Blk w (p + 1 + 1) 29 #[z]

/-- What gave up is recovered: the results are set anew. -/
theorem gend_err (w w2 : World) (p : Nat) (t : Array Value) (x y z : Value) (er : Int) (hp : w.heap.size ≤ p) (hc : Cells3 w2 p x y z) (hb : Below w.heap.size w w2)
    (t2 : t[2]?.getD undef = .pointer (some ⟨p, 0, none⟩)) (t3 : t[3]?.getD undef = .pointer (some ⟨p + 1, 0, none⟩)) (t4 : t[4]?.getD undef = .pointer (some ⟨p + 1 + 1, 0, none⟩)) :
    bodyPostD Tryd.prog Tryd.f42 (fun e w' => e = .returned (.tuple #[.slice none 0 0, .int .i64 0, .int .i64 er]) ∧ Below w.heap.size w w') (Exit.panic [{ v := .iface 29 (.int .i64 er), recovered := false }])
      { tmps := t, defers := [{ target := Target.fn (Fn.func 50) #[.pointer (some ⟨p, 0, none⟩), .pointer (some ⟨p + 1, 0, none⟩), .pointer (some ⟨p + 1 + 1, 0, none⟩)], args := #[] }] } w2 := by
  obtain ⟨b0, b1, b2⟩ := hc
  have c0 := b0.cell 0
  have f0 := b0.frozen 0
  have c1 := b1.cell 0
  have f1 := b1.frozen 0
  have c2 := b2.cell 0
  have f2 := b2.frozen 0
  have e0 := (((b0.set_ 0 (.slice none 0 0)).far (p := ⟨p + 1, 0, none⟩) (by dsimp only; omega) (.int .i64 0)).far (p := ⟨p + 1 + 1, 0, none⟩) (by dsimp only; omega) (.int .i64 er)).cell 0
  have e1 := (((b1.far (p := ⟨p, 0, none⟩) (by dsimp only; omega) (.slice none 0 0)).set_ 0 (.int .i64 0)).far (p := ⟨p + 1 + 1, 0, none⟩) (by dsimp only; omega) (.int .i64 er)).cell 0
  have e2 := (((b2.far (p := ⟨p, 0, none⟩) (by dsimp only; omega) (.slice none 0 0)).far (p := ⟨p + 1, 0, none⟩) (by dsimp only; omega) (.int .i64 0)).set_ 0 (.int .i64 er)).cell 0
  have hb3 := below_setCell (below_setCell (below_setCell hb (p := ⟨p, 0, none⟩) hp (.slice none 0 0)) (p := ⟨p + 1, 0, none⟩) (by dsimp only; omega) (.int .i64 0)) (p := ⟨p + 1 + 1, 0, none⟩) (by dsimp only; omega) (.int .i64 er)
  clear b0 b1 b2
  refine leaves_cons (f := 50) (args := #[.pointer (some ⟨p, 0, none⟩), .pointer (some ⟨p + 1, 0, none⟩), .pointer (some ⟨p + 1 + 1, 0, none⟩)]) (by simp) (by simp [go_sem]) ?_
  refine (vget_catch p (p + 1) (p + 1 + 1) x y z er [] _ c0 c1 c2 f0 f1 f2 (by omega) (by omega) (by omega)).mono ?_
  rintro e u' w'' ⟨rfl, rfl, rfl⟩
  generalize (((w2.setCell ⟨p, 0, none⟩ (.slice none 0 0)).setCell ⟨p + 1, 0, none⟩ (.int .i64 0)).setCell ⟨p + 1 + 1, 0, none⟩ (.int .i64 er)) = w3 at *
  simp at e0 e1 e2
  simp [Leaves, settle, results, Tryd.results42, go_sem, e0, e1, e2, t2, t3, t4]
  exact hb3

set_option maxRecDepth 100000 in
set_option maxHeartbeats 1000000 in
theorem vget_empty (s : ByteArray) (w : World) (hs : s.size = 0) :
    Calls Tryd.prog 42 #[.string s] w fun e w' => e = .returned (.tuple #[.slice none 0 0, .int .i64 0, .int .i64 3]) ∧ Below w.heap.size w w' := by
  have hmf : ∀ (fn : Fn) (first cap : Array Value) (w : World), (Instr.makeFunc fn first cap).run Tryd.prog w = .ok (.func fn first cap) w := fun _ _ _ _ => rfl
  go_enter_defers Tryd.func42, Tryd.ntmps42
  go_wp2_with fail
  have b0 : Blk (((w.alloc (.cells #[.slice none 0 0] 23)).alloc (.cells #[.int .i64 0] 3)).alloc (.cells #[.int .i64 0] 29)) w.heap.size 23 #[.slice none 0 0] := ((Blk.new _ _ _).alloc _).alloc _
  have b1 : Blk (((w.alloc (.cells #[.slice none 0 0] 23)).alloc (.cells #[.int .i64 0] 3)).alloc (.cells #[.int .i64 0] 29)) (w.heap.size + 1) 3 #[.int .i64 0] := (Blk.new' (by simp) _ _).alloc _
  have b2 : Blk (((w.alloc (.cells #[.slice none 0 0] 23)).alloc (.cells #[.int .i64 0] 3)).alloc (.cells #[.int .i64 0] 29)) (w.heap.size + 2) 29 #[.int .i64 0] := Blk.new' (by simp) _ _
  have hb : Below w.heap.size w (((w.alloc (.cells #[.slice none 0 0] 23)).alloc (.cells #[.int .i64 0] 3)).alloc (.cells #[.int .i64 0] 29)) := below_alloc (below_alloc (below_alloc (Below.refl _ _) (Nat.le_refl _) _) (Nat.le_refl _) _) (Nat.le_refl _) _
  generalize (((w.alloc (.cells #[.slice none 0 0] 23)).alloc (.cells #[.int .i64 0] 3)).alloc (.cells #[.int .i64 0] 29)) = w1 at *
  refine (vnext_short s 1 w1 (by omega)).mono ?_
  rintro e w2 ⟨rfl, rfl⟩
  have hc : Cells3 w1 w.heap.size (.slice none 0 0) (.int .i64 0) (.int .i64 0) := ⟨b0, b1, b2⟩
  clear b0 b1 b2
  go_wp2
  exact gend_err w w1 w.heap.size _ _ _ _ 3 (Nat.le_refl _) hc hb rfl rfl rfl

/-- What is got stands in the results. -/
theorem gend_ok (w w2 : World) (p : Nat) (t : Array Value) (v : Value) (sz : Int) (zs : List Int) (hc : Cells3 w2 p v (.int .i64 sz) (.int .i64 0)) (hb : Below w.heap.size w w2) (hN : Nums w2 w.heap.size 3 v zs)
    (t2 : t[2]?.getD undef = .pointer (some ⟨p, 0, none⟩)) (t3 : t[3]?.getD undef = .pointer (some ⟨p + 1, 0, none⟩)) (t4 : t[4]?.getD undef = .pointer (some ⟨p + 1 + 1, 0, none⟩)) :
    bodyPostD Tryd.prog Tryd.f42 (fun e w' => (∃ v, e = .returned (.tuple #[v, .int .i64 sz, .int .i64 0]) ∧ Nums w' w.heap.size 3 v zs) ∧ Below w.heap.size w w') Exit.ret
      { tmps := t, defers := [{ target := Target.fn (Fn.func 50) #[.pointer (some ⟨p, 0, none⟩), .pointer (some ⟨p + 1, 0, none⟩), .pointer (some ⟨p + 1 + 1, 0, none⟩)], args := #[] }] } w2 := by
  have e0 := hc.b0.cell 0
  have e1 := hc.b1.cell 0
  have e2 := hc.b2.cell 0
  clear hc
  refine leaves_cons (f := 50) (args := #[.pointer (some ⟨p, 0, none⟩), .pointer (some ⟨p + 1, 0, none⟩), .pointer (some ⟨p + 1 + 1, 0, none⟩)]) (by simp) (by simp [go_sem]) ?_
  refine (vget_idle _ _ _ _).mono ?_
  rintro e u' w'' ⟨rfl, rfl, rfl⟩
  simp at e0 e1 e2
  simp [Leaves, settle, results, Tryd.results42, go_sem, e0, e1, e2, t2, t3, t4]
  exact ⟨hN, hb⟩

theorem Cells3.drewN {w : World} {p : Nat} {x y z : Value} (h : Cells3 w p x y z) (q : Nat) : Cells3 (w.drewN q) p x y z := ⟨h.b0, h.b1, h.b2⟩

set_option maxRecDepth 100000 in
set_option maxHeartbeats 1000000 in
theorem vget_form (s : ByteArray) (n : Nat) (w : World) (hs : 1 ≤ s.size) (hn : getL (s.data.toList.take 1) = n) (h : n = 0 ∨ 8 < n) :
    Calls Tryd.prog 42 #[.string s] w fun e w' => e = .returned (.tuple #[.slice none 0 0, .int .i64 0, .int .i64 4]) ∧ Below w.heap.size w w' := by
  have hmf : ∀ (fn : Fn) (first cap : Array Value) (w : World), (Instr.makeFunc fn first cap).run Tryd.prog w = .ok (.func fn first cap) w := fun _ _ _ _ => rfl
  have Hn := Lib.hid hn
  clear hn
  go_enter_defers Tryd.func42, Tryd.ntmps42
  go_wp2_with fail
  have hc : Cells3 (((w.alloc (.cells #[.slice none 0 0] 23)).alloc (.cells #[.int .i64 0] 3)).alloc (.cells #[.int .i64 0] 29)) w.heap.size (.slice none 0 0) (.int .i64 0) (.int .i64 0) := ⟨((Blk.new _ _ _).alloc _).alloc _, (Blk.new' (by simp) _ _).alloc _, Blk.new' (by simp) _ _⟩
  have hb : Below w.heap.size w (((w.alloc (.cells #[.slice none 0 0] 23)).alloc (.cells #[.int .i64 0] 3)).alloc (.cells #[.int .i64 0] 29)) := below_alloc (below_alloc (below_alloc (Below.refl _ _) (Nat.le_refl _) _) (Nat.le_refl _) _) (Nat.le_refl _) _
  have hsz : (((w.alloc (.cells #[.slice none 0 0] 23)).alloc (.cells #[.int .i64 0] 3)).alloc (.cells #[.int .i64 0] 29)).heap.size = w.heap.size + 3 := by simp
  generalize (((w.alloc (.cells #[.slice none 0 0] 23)).alloc (.cells #[.int .i64 0] 3)).alloc (.cells #[.int .i64 0] 29)) = w1 at *
  refine (vnext_ok s 1 w1 hs (by decide) (by decide)).mono ?_
  rw [Hn.out]
  rintro e w2 ⟨rfl, q, hw2⟩
  have hc2 : Cells3 w2 w.heap.size (.slice none 0 0) (.int .i64 0) (.int .i64 0) := by rw [hw2]; exact hc.drewN q
  have hb2 : Below w.heap.size w w2 := by rw [hw2]; exact below_drewN hb q
  clear hw2 hc hb
  go_wp2_with fail
  refine (isCount_any n w2).mono ?_
  rw [show decide (1 ≤ (n : Int) ∧ (n : Int) ≤ 8) = false from decide_eq_false (by omega)]
  rintro e w3 ⟨rfl, rfl⟩
  go_wp2
  exact gend_err w w2 w.heap.size _ _ _ _ 4 (Nat.le_refl _) hc2 hb2 rfl rfl rfl

/-- The times that stand in bytes. -/
def timesL (l : List UInt8) (n : Nat) : List Int := (List.range n).map fun i => ((getL ((l.drop (1 + 6 * i)).take 6) : Nat) : Int)
theorem timesL_length (l : List UInt8) (n : Nat) : (timesL l n).length = n := by simp [timesL]
theorem times_step (l : List UInt8) (n k : Nat) (hk : k < n) :
    (((timesL l n).take k ++ List.replicate (n - k) (0 : Int)).map (Value.int .i64)).set k (.int .i64 (getL ((l.drop (1 + 6 * k)).take 6) : Nat))
      = ((timesL l n).take (k + 1) ++ List.replicate (n - (k + 1)) (0 : Int)).map (Value.int .i64) := by
  have hl := timesL_length l n
  have hlt : (List.take k (timesL l n)).length = k := by simp; omega
  have hg : (timesL l n)[k]? = some ((getL ((l.drop (1 + 6 * k)).take 6) : Nat) : Int) := by
    unfold timesL
    rw [List.getElem?_map, List.getElem?_range hk]
    rfl
  have ht : (timesL l n).take (k + 1) = (timesL l n).take k ++ [((getL ((l.drop (1 + 6 * k)).take 6) : Nat) : Int)] := by
    rw [List.take_add_one, hg]
    rfl
  rw [← List.map_set, List.set_append_right _ _ (by omega), hlt, Nat.sub_self, show n - k = (n - (k + 1)) + 1 from by omega, List.replicate_succ, List.set_cons_zero, ht, List.append_assoc]
  rfl

theorem rest_step (s : ByteArray) (k : Nat) (r : ByteArray) (hr : r = s.extract (1 + 6 * k) s.size) (h : 1 + 6 * (k + 1) ≤ s.size) :
    r.data.toList.take 6 = (s.data.toList.drop (1 + 6 * k)).take 6 ∧ r.extract 6 r.size = s.extract (1 + 6 * (k + 1)) s.size ∧ 6 ≤ r.size := by
  have hrs : r.size = s.size - (1 + 6 * k) := by rw [hr]; simp
  refine ⟨?_, ?_, by omega⟩
  · rw [hr, Lib.extract_data, List.take_take, Nat.min_eq_left (by omega)]
  · apply ByteArray.ext
    apply Array.ext'
    rw [Lib.extract_data, Lib.extract_data, hr, Lib.extract_data]
    simp only [ByteArray.size_extract, List.drop_take, List.drop_drop, List.take_take]
    congr 1
    omega

theorem Cells3.setOther {w : World} {p g : Nat} {x y z : Value} (h : Cells3 w p x y z) (hg : p + 1 + 1 < g) (j : Nat) (u : Value) : Cells3 (w.setCell ⟨g, j, none⟩ u) p x y z :=
  ⟨h.b0.far (by dsimp only; omega) u, h.b1.far (by dsimp only; omega) u, h.b2.far (by dsimp only; omega) u⟩

set_option maxRecDepth 100000 in
set_option maxHeartbeats 2000000 in
theorem vget_ok (s : ByteArray) (n : Nat) (w : World) (hs : 1 ≤ s.size) (hsm : s.size ≤ 9223372036854775807) (hn : getL (s.data.toList.take 1) = n) (h1 : 1 ≤ n) (h8 : n ≤ 8) (hlen : 1 + 6 * n ≤ s.size) :
    Calls Tryd.prog 42 #[.string s] w fun e w' => (∃ v, e = .returned (.tuple #[v, .int .i64 (1 + 6 * (n : Int)), .int .i64 0]) ∧ Nums w' w.heap.size 3 v (timesL s.data.toList n)) ∧ Below w.heap.size w w' := by
  have hmf : ∀ (fn : Fn) (first cap : Array Value) (w : World), (Instr.makeFunc fn first cap).run Tryd.prog w = .ok (.func fn first cap) w := fun _ _ _ _ => rfl
  have Hn := Lib.hid hn
  clear hn
  obtain ⟨i0, hi0, hz0, hz1, hz2⟩ := info_parts i64info
  go_enter_defers Tryd.func42, Tryd.ntmps42
  go_wp2_with fail
  have hc : Cells3 (((w.alloc (.cells #[.slice none 0 0] 23)).alloc (.cells #[.int .i64 0] 3)).alloc (.cells #[.int .i64 0] 29)) w.heap.size (.slice none 0 0) (.int .i64 0) (.int .i64 0) := ⟨((Blk.new _ _ _).alloc _).alloc _, (Blk.new' (by simp) _ _).alloc _, Blk.new' (by simp) _ _⟩
  have hb : Below w.heap.size w (((w.alloc (.cells #[.slice none 0 0] 23)).alloc (.cells #[.int .i64 0] 3)).alloc (.cells #[.int .i64 0] 29)) := below_alloc (below_alloc (below_alloc (Below.refl _ _) (Nat.le_refl _) _) (Nat.le_refl _) _) (Nat.le_refl _) _
  have hsz : (((w.alloc (.cells #[.slice none 0 0] 23)).alloc (.cells #[.int .i64 0] 3)).alloc (.cells #[.int .i64 0] 29)).heap.size = w.heap.size + 3 := by simp
  generalize (((w.alloc (.cells #[.slice none 0 0] 23)).alloc (.cells #[.int .i64 0] 3)).alloc (.cells #[.int .i64 0] 29)) = w1 at *
  refine (vnext_ok s 1 w1 hs (by decide) (by decide)).mono ?_
  rw [Hn.out]
  obtain ⟨r, hr⟩ : ∃ r, r = s.extract 1 s.size := ⟨_, rfl⟩
  rw [← hr]
  rintro e w2 ⟨rfl, q, hw2⟩
  have hc2 : Cells3 w2 w.heap.size (.slice none 0 0) (.int .i64 0) (.int .i64 0) := by rw [hw2]; exact hc.drewN q
  have hb2 : Below w.heap.size w w2 := by rw [hw2]; exact below_drewN hb q
  have hsz2 : w2.heap.size = w.heap.size + 3 := by rw [hw2]; exact hsz
  have Hr := Lib.hid hr
  clear hw2 hc hb hsz hr
  go_wp2_with fail
  refine (isCount_any n w2).mono ?_
  rw [show decide (1 ≤ (n : Int) ∧ (n : Int) ≤ 8) = true from decide_eq_true (by omega)]
  rintro e w3 ⟨rfl, rfl⟩
  go_wp2_with (at_make; refine wpList_make_full _ rfl (.tmp 18) (.tmp 18) 23 rfl (w.heap.size + 3) 3 i0 (.int .i64 0) 1 Tryd.underlying23 hi0 hz0 hz1 .i64 .i64 _ _ n rfl rfl rfl rfl ?b2 ?b3 ?b4 ?_)
  case b2 => rw [hz2]; omega
  case b3 => unfold maxLen; omega
  case b4 => omega
  intro w3 hown hgr
  have hc3 : Cells3 w3 w.heap.size (.slice none 0 0) (.int .i64 0) (.int .i64 0) := ⟨hc2.b0.grown hgr (by simp), hc2.b1.grown hgr (by simp), hc2.b2.grown hgr (by simp)⟩
  have hb3 : Below w.heap.size w w3 := hb2.grown hgr (by omega) (by simp)
  rw [show (madeCells #[Value.int IntKind.i64 0] n).toList = (List.replicate n (0 : Int)).map (Value.int .i64) from (toList_madeCells_one _ _).trans (by simp)] at hown
  have c0 := hc3.b0.cell 0
  have f0 := hc3.b0.frozen 0
  simp at c0
  have hown4 := ownsRow_setCell_below hown (a := ⟨w.heap.size, 0, none⟩) (by dsimp only; omega) (.slice (some ⟨w.heap.size + 3, 0, none⟩) n n)
  have hc4 : Cells3 (w3.setCell ⟨w.heap.size, 0, none⟩ (.slice (some ⟨w.heap.size + 3, 0, none⟩) n n)) w.heap.size (.slice (some ⟨w.heap.size + 3, 0, none⟩) n n) (.int .i64 0) (.int .i64 0) :=
    ⟨hc3.b0.set_ 0 _, hc3.b1.far (by dsimp only; omega) _, hc3.b2.far (by dsimp only; omega) _⟩
  have hb4 := below_setCell hb3 (p := ⟨w.heap.size, 0, none⟩) (Nat.le_refl _) (.slice (some ⟨w.heap.size + 3, 0, none⟩) n n)
  have Ho4 := Lib.hid hown4
  have Hc4 := Lib.hid hc4
  have Hb4 := Lib.hid hb4
  clear hgr hown hown4 hc3 hc4 hc2 hb2 hb3 hb4
  go_wp2_with fail
  generalize w3.setCell ⟨w.heap.size, 0, none⟩ (.slice (some ⟨w.heap.size + 3, 0, none⟩) n n) = w4 at *
  go_loopw [6, 22] (fun rs i wr => ∃ (k : Nat) (r : ByteArray), k ≤ n ∧ i = .int .i64 (k : Int) ∧ rs = .string r ∧ Hid (r = s.extract (1 + 6 * k) s.size) ∧ 1 + 6 * k ≤ s.size ∧ wr.ownsRow (w.heap.size + 3) 3 1 (.slice (some ⟨w.heap.size + 3, 0, none⟩) n n) n (((timesL s.data.toList n).take k ++ List.replicate (n - k) (0 : Int)).map (Value.int .i64)) ∧ Cells3 wr w.heap.size (.slice (some ⟨w.heap.size + 3, 0, none⟩) n n) (.int .i64 0) (.int .i64 0) ∧ Below w.heap.size w wr)
    (fun _ i _ => n - (intOf i).toNat)
  case atStart => exact ⟨0, r, by omega, rfl, rfl, Hr, by omega, by simpa using Ho4.out, Hc4.out, Hb4.out⟩
  case round =>
    obtain ⟨k, r, hk, rfl, rfl, Hr, hks, hown, hc, hb⟩ := hrel
    have c0 := hc.b0.cell 0
    have f0 := hc.b0.frozen 0
    simp at c0
    by_cases hl : k < n
    · have hsh : 1 + 6 * (k + 1) ≤ s.size := by omega
      obtain ⟨e1, e2, e3⟩ := rest_step s k r Hr.out hsh
      have hlen : ((timesL s.data.toList n).take k ++ List.replicate (n - k) (0 : Int)).length = n := by simp [timesL_length]; omega
      have hck := hown.cellAt k (by omega)
      have hfk := hown.frozenAt k
      obtain ⟨old, ho⟩ : ∃ x, (((timesL s.data.toList n).take k ++ List.replicate (n - k) (0 : Int)).map (Value.int .i64))[k]? = some x := ⟨_, List.getElem?_eq_getElem (by rw [List.length_map, hlen]; omega)⟩
      rw [ho] at hck
      have hst := World.ownsRow.stored hown k (.int .i64 (getL ((s.data.toList.drop (1 + 6 * k)).take 6) : Nat))
      rw [times_step s.data.toList n k hl] at hst
      obtain ⟨z, hz⟩ : ∃ z, z = getL ((s.data.toList.drop (1 + 6 * k)).take 6) := ⟨_, rfl⟩
      rw [← hz] at hst
      have NX : Hid (∀ W, Calls Tryd.prog 51 #[.string r, .int .i64 6] W fun e w' => e = .returned (.tuple #[.int .i64 (z : Int), .string (s.extract (1 + 6 * (k + 1)) s.size)]) ∧ ∃ q, w' = W.drewN q) := by
        intro W
        have := vnext_ok r 6 W e3 (by decide) (by decide)
        rw [e1, e2, ← hz] at this
        exact this
      have Hst := Lib.hid hst
      have Hc := Lib.hid hc
      have hl1 : (k : Int) < (n : Int) := by omega
      clear e1 e2 e3 hlen hown ho hst hz hc
      go_wp2_with fail
      refine wp_region_noPanic ?_
      go_region_with (go_at_call 51; refine (NX.out _).mono ?_; rintro e w2 ⟨rfl, q, rfl⟩)
      all_goals refine NoPanic.normal ?_
      all_goals go_wp2_with fail
      all_goals go_roundw
      all_goals first
        | exact ⟨k + 1, _, by omega, by go_num, rfl, rfl, hsh, Hst.out.1, (Hc.out.drewN _).setOther (by omega) k _, below_setCell (below_drewN hb _) (by dsimp only; omega) _⟩
        | (simp [intOf]; omega)
    · obtain rfl : k = n := by omega
      have hrs : (s.size : Int) - (r.size : Int) = 1 + 6 * (k : Int) := by
        have : r.size = s.size - (1 + 6 * k) := by rw [Hr.out]; simp
        omega
      have hrm : r.size ≤ s.size := by rw [Hr.out]; simp
      have c1 := hc.b1.cell 0
      have f1 := hc.b1.frozen 0
      have c2 := hc.b2.cell 0
      have f2 := hc.b2.frozen 0
      simp at c1 c2
      have hN : Nums wr (w.heap.size + 3) 3 (.slice (some ⟨w.heap.size + 3, 0, none⟩) k k) (timesL s.data.toList k) := by
        unfold Nums
        rw [timesL_length]
        simpa [List.take_of_length_le (Nat.le_of_eq (timesL_length s.data.toList k))] using hown
      have HN := Lib.hid hN
      have Hc := Lib.hid hc
      clear hN hown Hr hc
      go_wp2_with fail
      have hN1 := ownsRow_setCell_below (ownsRow_setCell_below (ownsRow_setCell_below HN.out (a := ⟨w.heap.size, 0, none⟩) (by dsimp only; omega) (.slice (some ⟨w.heap.size + 3, 0, none⟩) k k)) (a := ⟨w.heap.size + 1, 0, none⟩) (by dsimp only; omega) (.int .i64 (1 + 6 * (k : Int)))) (a := ⟨w.heap.size + 1 + 1, 0, none⟩) (by dsimp only; omega) (.int .i64 0)
      exact gend_ok w _ w.heap.size _ (.slice (some ⟨w.heap.size + 3, 0, none⟩) k k) (1 + 6 * (k : Int)) _
        ⟨((Hc.out.b0.set_ 0 (.slice (some ⟨w.heap.size + 3, 0, none⟩) k k)).far (by dsimp only; omega) _).far (by dsimp only; omega) _, ((Hc.out.b1.far (by dsimp only; omega) _).set_ 0 (.int .i64 (1 + 6 * (k : Int)))).far (by dsimp only; omega) _, ((Hc.out.b2.far (by dsimp only; omega) _).far (by dsimp only; omega) _).set_ 0 (.int .i64 0)⟩
        (below_setCell (below_setCell (below_setCell hb (p := ⟨w.heap.size, 0, none⟩) (Nat.le_refl _) _) (p := ⟨w.heap.size + 1, 0, none⟩) (by dsimp only; omega) _) (p := ⟨w.heap.size + 1 + 1, 0, none⟩) (by dsimp only; omega) _) (Nums.low hN1 (by omega)) rfl rfl rfl

set_option maxRecDepth 100000 in
set_option maxHeartbeats 2000000 in
theorem vget_short (s : ByteArray) (n : Nat) (w : World) (hs : 1 ≤ s.size) (hsm : s.size ≤ 9223372036854775807) (hn : getL (s.data.toList.take 1) = n) (h1 : 1 ≤ n) (h8 : n ≤ 8) (hlen : s.size < 1 + 6 * n) :
    Calls Tryd.prog 42 #[.string s] w fun e w' => e = .returned (.tuple #[.slice none 0 0, .int .i64 0, .int .i64 3]) ∧ Below w.heap.size w w' := by
  have hmf : ∀ (fn : Fn) (first cap : Array Value) (w : World), (Instr.makeFunc fn first cap).run Tryd.prog w = .ok (.func fn first cap) w := fun _ _ _ _ => rfl
  have Hn := Lib.hid hn
  clear hn
  obtain ⟨i0, hi0, hz0, hz1, hz2⟩ := info_parts i64info
  go_enter_defers Tryd.func42, Tryd.ntmps42
  go_wp2_with fail
  have hc : Cells3 (((w.alloc (.cells #[.slice none 0 0] 23)).alloc (.cells #[.int .i64 0] 3)).alloc (.cells #[.int .i64 0] 29)) w.heap.size (.slice none 0 0) (.int .i64 0) (.int .i64 0) := ⟨((Blk.new _ _ _).alloc _).alloc _, (Blk.new' (by simp) _ _).alloc _, Blk.new' (by simp) _ _⟩
  have hb : Below w.heap.size w (((w.alloc (.cells #[.slice none 0 0] 23)).alloc (.cells #[.int .i64 0] 3)).alloc (.cells #[.int .i64 0] 29)) := below_alloc (below_alloc (below_alloc (Below.refl _ _) (Nat.le_refl _) _) (Nat.le_refl _) _) (Nat.le_refl _) _
  have hsz : (((w.alloc (.cells #[.slice none 0 0] 23)).alloc (.cells #[.int .i64 0] 3)).alloc (.cells #[.int .i64 0] 29)).heap.size = w.heap.size + 3 := by simp
  generalize (((w.alloc (.cells #[.slice none 0 0] 23)).alloc (.cells #[.int .i64 0] 3)).alloc (.cells #[.int .i64 0] 29)) = w1 at *
  refine (vnext_ok s 1 w1 hs (by decide) (by decide)).mono ?_
  rw [Hn.out]
  obtain ⟨r, hr⟩ : ∃ r, r = s.extract 1 s.size := ⟨_, rfl⟩
  rw [← hr]
  rintro e w2 ⟨rfl, q, hw2⟩
  have hc2 : Cells3 w2 w.heap.size (.slice none 0 0) (.int .i64 0) (.int .i64 0) := by rw [hw2]; exact hc.drewN q
  have hb2 : Below w.heap.size w w2 := by rw [hw2]; exact below_drewN hb q
  have hsz2 : w2.heap.size = w.heap.size + 3 := by rw [hw2]; exact hsz
  have Hr := Lib.hid hr
  clear hw2 hc hb hsz hr
  go_wp2_with fail
  refine (isCount_any n w2).mono ?_
  rw [show decide (1 ≤ (n : Int) ∧ (n : Int) ≤ 8) = true from decide_eq_true (by omega)]
  rintro e w3 ⟨rfl, rfl⟩
  go_wp2_with (at_make; refine wpList_make_full _ rfl (.tmp 18) (.tmp 18) 23 rfl (w.heap.size + 3) 3 i0 (.int .i64 0) 1 Tryd.underlying23 hi0 hz0 hz1 .i64 .i64 _ _ n rfl rfl rfl rfl ?b2 ?b3 ?b4 ?_)
  case b2 => rw [hz2]; omega
  case b3 => unfold maxLen; omega
  case b4 => omega
  intro w3 hown hgr
  have hc3 : Cells3 w3 w.heap.size (.slice none 0 0) (.int .i64 0) (.int .i64 0) := ⟨hc2.b0.grown hgr (by simp), hc2.b1.grown hgr (by simp), hc2.b2.grown hgr (by simp)⟩
  have hb3 : Below w.heap.size w w3 := hb2.grown hgr (by omega) (by simp)
  rw [show (madeCells #[Value.int IntKind.i64 0] n).toList = (List.replicate n (0 : Int)).map (Value.int .i64) from (toList_madeCells_one _ _).trans (by simp)] at hown
  have c0 := hc3.b0.cell 0
  have f0 := hc3.b0.frozen 0
  simp at c0
  have hown4 := ownsRow_setCell_below hown (a := ⟨w.heap.size, 0, none⟩) (by dsimp only; omega) (.slice (some ⟨w.heap.size + 3, 0, none⟩) n n)
  have hc4 : Cells3 (w3.setCell ⟨w.heap.size, 0, none⟩ (.slice (some ⟨w.heap.size + 3, 0, none⟩) n n)) w.heap.size (.slice (some ⟨w.heap.size + 3, 0, none⟩) n n) (.int .i64 0) (.int .i64 0) :=
    ⟨hc3.b0.set_ 0 _, hc3.b1.far (by dsimp only; omega) _, hc3.b2.far (by dsimp only; omega) _⟩
  have hb4 := below_setCell hb3 (p := ⟨w.heap.size, 0, none⟩) (Nat.le_refl _) (.slice (some ⟨w.heap.size + 3, 0, none⟩) n n)
  have Ho4 := Lib.hid hown4
  have Hc4 := Lib.hid hc4
  have Hb4 := Lib.hid hb4
  clear hgr hown hown4 hc3 hc4 hc2 hb2 hb3 hb4
  go_wp2_with fail
  generalize w3.setCell ⟨w.heap.size, 0, none⟩ (.slice (some ⟨w.heap.size + 3, 0, none⟩) n n) = w4 at *
  go_loopw [6, 22] (fun rs i wr => ∃ (k : Nat) (r : ByteArray), k ≤ n ∧ i = .int .i64 (k : Int) ∧ rs = .string r ∧ Hid (r = s.extract (1 + 6 * k) s.size) ∧ 1 + 6 * k ≤ s.size ∧ wr.ownsRow (w.heap.size + 3) 3 1 (.slice (some ⟨w.heap.size + 3, 0, none⟩) n n) n (((timesL s.data.toList n).take k ++ List.replicate (n - k) (0 : Int)).map (Value.int .i64)) ∧ Cells3 wr w.heap.size (.slice (some ⟨w.heap.size + 3, 0, none⟩) n n) (.int .i64 0) (.int .i64 0) ∧ Below w.heap.size w wr)
    (fun _ i _ => n - (intOf i).toNat)
  case atStart => exact ⟨0, r, by omega, rfl, rfl, Hr, by omega, by simpa using Ho4.out, Hc4.out, Hb4.out⟩
  case round =>
    obtain ⟨k, r, hk, rfl, rfl, Hr, hks, hown, hc, hb⟩ := hrel
    have c0 := hc.b0.cell 0
    have f0 := hc.b0.frozen 0
    simp at c0
    have hl : k < n := by omega
    by_cases hsh : 1 + 6 * (k + 1) ≤ s.size
    · obtain ⟨e1, e2, e3⟩ := rest_step s k r Hr.out hsh
      have hlen : ((timesL s.data.toList n).take k ++ List.replicate (n - k) (0 : Int)).length = n := by simp [timesL_length]; omega
      have hck := hown.cellAt k (by omega)
      have hfk := hown.frozenAt k
      obtain ⟨old, ho⟩ : ∃ x, (((timesL s.data.toList n).take k ++ List.replicate (n - k) (0 : Int)).map (Value.int .i64))[k]? = some x := ⟨_, List.getElem?_eq_getElem (by rw [List.length_map, hlen]; omega)⟩
      rw [ho] at hck
      have hst := World.ownsRow.stored hown k (.int .i64 (getL ((s.data.toList.drop (1 + 6 * k)).take 6) : Nat))
      rw [times_step s.data.toList n k hl] at hst
      obtain ⟨z, hz⟩ : ∃ z, z = getL ((s.data.toList.drop (1 + 6 * k)).take 6) := ⟨_, rfl⟩
      rw [← hz] at hst
      have NX : Hid (∀ W, Calls Tryd.prog 51 #[.string r, .int .i64 6] W fun e w' => e = .returned (.tuple #[.int .i64 (z : Int), .string (s.extract (1 + 6 * (k + 1)) s.size)]) ∧ ∃ q, w' = W.drewN q) := by
        intro W
        have := vnext_ok r 6 W e3 (by decide) (by decide)
        rw [e1, e2, ← hz] at this
        exact this
      have Hst := Lib.hid hst
      have Hc := Lib.hid hc
      have hl1 : (k : Int) < (n : Int) := by omega
      clear e1 e2 e3 hlen hown ho hst hz hc
      go_wp2_with fail
      refine wp_region_noPanic ?_
      go_region_with (go_at_call 51; refine (NX.out _).mono ?_; rintro e w2 ⟨rfl, q, rfl⟩)
      all_goals refine NoPanic.normal ?_
      all_goals go_wp2_with fail
      all_goals go_roundw
      all_goals first
        | exact ⟨k + 1, _, by omega, by go_num, rfl, rfl, hsh, Hst.out.1, (Hc.out.drewN _).setOther (by omega) k _, below_setCell (below_drewN hb _) (by dsimp only; omega) _⟩
        | (simp [intOf]; omega)
    · have hr6 : r.size < 6 := by rw [Hr.out]; simp; omega
      have HcD : Hid (Cells3 wr.drew w.heap.size (.slice (some ⟨w.heap.size + 3, 0, none⟩) n n) (.int .i64 0) (.int .i64 0)) := hc.drewN 1
      have HbD : Hid (Below w.heap.size w wr.drew) := hb.drew
      have hl1 : (k : Int) < (n : Int) := by omega
      clear hc hb hown Hr
      go_wp2_with fail
      refine wp_region_any (by kernel_rfl) ?_
      change wpAny _ _ _ _ _ _ _ (World.drew _)
      refine wpAny_ready (rs := [0, 1, 2]) (by kernel_rfl) (by simp) ?_
      refine AllReady.cons rfl (fun K hK => ?_) ?_
      · go_simp
        refine hK _ _ ?_
        clear hK K
        refine wpAny_ready (rs := [1, 2]) (by kernel_rfl) (by simp) ?_
        refine AllReady.cons rfl (fun K hK => ?_) ?_
        · go_simp
          refine hK _ _ ?_
          clear hK K
          refine wpAny_ready (rs := [2]) (by kernel_rfl) (by simp) ?_
          refine AllReady.cons rfl (fun K hK => ?_) ?_
          · go_simp
            refine hK _ _ ?_
            clear hK K
            refine wpAny_ready (rs := [3]) (by kernel_rfl) (by simp) ?_
            refine AllReady.cons rfl (fun K hK => ?_) ?_
            · go_simp
              (go_wp2_with (go_at_call 51; refine (vnext_short r 6 _ hr6).mono ?_; rintro e w2 ⟨rfl, rfl⟩); exact gend_err w _ w.heap.size _ _ _ _ 3 (Nat.le_refl _) HcD.out HbD.out rfl rfl rfl)
            exact AllReady.nil
          exact AllReady.nil
        refine AllReady.cons rfl (fun K hK => ?_) ?_
        · go_simp
          refine hK _ _ ?_
          clear hK K
          refine wpAny_ready (rs := [1, 3]) (by kernel_rfl) (by simp) ?_
          refine AllReady.cons rfl (fun K hK => ?_) ?_
          · go_simp
            refine hK _ _ ?_
            clear hK K
            refine wpAny_ready (rs := [3]) (by kernel_rfl) (by simp) ?_
            refine AllReady.cons rfl (fun K hK => ?_) ?_
            · go_simp
              (go_wp2_with (go_at_call 51; refine (vnext_short r 6 _ hr6).mono ?_; rintro e w2 ⟨rfl, rfl⟩); exact gend_err w _ w.heap.size _ _ _ _ 3 (Nat.le_refl _) HcD.out HbD.out rfl rfl rfl)
            exact AllReady.nil
          refine AllReady.cons rfl (fun K hK => ?_) ?_
          · go_simp
            (go_wp2_with (go_at_call 51; refine (vnext_short r 6 _ hr6).mono ?_; rintro e w2 ⟨rfl, rfl⟩); exact gend_err w _ w.heap.size _ _ _ _ 3 (Nat.le_refl _) HcD.out HbD.out rfl rfl rfl)
          exact AllReady.nil
        exact AllReady.nil
      refine AllReady.cons rfl (fun K hK => ?_) ?_
      · go_simp
        refine hK _ _ ?_
        clear hK K
        refine wpAny_ready (rs := [0, 2]) (by kernel_rfl) (by simp) ?_
        refine AllReady.cons rfl (fun K hK => ?_) ?_
        · go_simp
          refine hK _ _ ?_
          clear hK K
          refine wpAny_ready (rs := [2]) (by kernel_rfl) (by simp) ?_
          refine AllReady.cons rfl (fun K hK => ?_) ?_
          · go_simp
            refine hK _ _ ?_
            clear hK K
            refine wpAny_ready (rs := [3]) (by kernel_rfl) (by simp) ?_
            refine AllReady.cons rfl (fun K hK => ?_) ?_
            · go_simp
              (go_wp2_with (go_at_call 51; refine (vnext_short r 6 _ hr6).mono ?_; rintro e w2 ⟨rfl, rfl⟩); exact gend_err w _ w.heap.size _ _ _ _ 3 (Nat.le_refl _) HcD.out HbD.out rfl rfl rfl)
            exact AllReady.nil
          exact AllReady.nil
        refine AllReady.cons rfl (fun K hK => ?_) ?_
        · go_simp
          refine hK _ _ ?_
          clear hK K
          refine wpAny_ready (rs := [0, 3]) (by kernel_rfl) (by simp) ?_
          refine AllReady.cons rfl (fun K hK => ?_) ?_
          · go_simp
            refine hK _ _ ?_
            clear hK K
            refine wpAny_ready (rs := [3]) (by kernel_rfl) (by simp) ?_
            refine AllReady.cons rfl (fun K hK => ?_) ?_
            · go_simp
              (go_wp2_with (go_at_call 51; refine (vnext_short r 6 _ hr6).mono ?_; rintro e w2 ⟨rfl, rfl⟩); exact gend_err w _ w.heap.size _ _ _ _ 3 (Nat.le_refl _) HcD.out HbD.out rfl rfl rfl)
            exact AllReady.nil
          refine AllReady.cons rfl (fun K hK => ?_) ?_
          · go_simp
            (go_wp2_with (go_at_call 51; refine (vnext_short r 6 _ hr6).mono ?_; rintro e w2 ⟨rfl, rfl⟩); exact gend_err w _ w.heap.size _ _ _ _ 3 (Nat.le_refl _) HcD.out HbD.out rfl rfl rfl)
          exact AllReady.nil
        exact AllReady.nil
      refine AllReady.cons rfl (fun K hK => ?_) ?_
      · go_simp
        refine hK _ _ ?_
        clear hK K
        refine wpAny_ready (rs := [0, 1, 3]) (by kernel_rfl) (by simp) ?_
        refine AllReady.cons rfl (fun K hK => ?_) ?_
        · go_simp
          refine hK _ _ ?_
          clear hK K
          refine wpAny_ready (rs := [1, 3]) (by kernel_rfl) (by simp) ?_
          refine AllReady.cons rfl (fun K hK => ?_) ?_
          · go_simp
            refine hK _ _ ?_
            clear hK K
            refine wpAny_ready (rs := [3]) (by kernel_rfl) (by simp) ?_
            refine AllReady.cons rfl (fun K hK => ?_) ?_
            · go_simp
              (go_wp2_with (go_at_call 51; refine (vnext_short r 6 _ hr6).mono ?_; rintro e w2 ⟨rfl, rfl⟩); exact gend_err w _ w.heap.size _ _ _ _ 3 (Nat.le_refl _) HcD.out HbD.out rfl rfl rfl)
            exact AllReady.nil
          refine AllReady.cons rfl (fun K hK => ?_) ?_
          · go_simp
            (go_wp2_with (go_at_call 51; refine (vnext_short r 6 _ hr6).mono ?_; rintro e w2 ⟨rfl, rfl⟩); exact gend_err w _ w.heap.size _ _ _ _ 3 (Nat.le_refl _) HcD.out HbD.out rfl rfl rfl)
          exact AllReady.nil
        refine AllReady.cons rfl (fun K hK => ?_) ?_
        · go_simp
          refine hK _ _ ?_
          clear hK K
          refine wpAny_ready (rs := [0, 3]) (by kernel_rfl) (by simp) ?_
          refine AllReady.cons rfl (fun K hK => ?_) ?_
          · go_simp
            refine hK _ _ ?_
            clear hK K
            refine wpAny_ready (rs := [3]) (by kernel_rfl) (by simp) ?_
            refine AllReady.cons rfl (fun K hK => ?_) ?_
            · go_simp
              (go_wp2_with (go_at_call 51; refine (vnext_short r 6 _ hr6).mono ?_; rintro e w2 ⟨rfl, rfl⟩); exact gend_err w _ w.heap.size _ _ _ _ 3 (Nat.le_refl _) HcD.out HbD.out rfl rfl rfl)
            exact AllReady.nil
          refine AllReady.cons rfl (fun K hK => ?_) ?_
          · go_simp
            (go_wp2_with (go_at_call 51; refine (vnext_short r 6 _ hr6).mono ?_; rintro e w2 ⟨rfl, rfl⟩); exact gend_err w _ w.heap.size _ _ _ _ 3 (Nat.le_refl _) HcD.out HbD.out rfl rfl rfl)
          exact AllReady.nil
        refine AllReady.cons rfl (fun K hK => ?_) ?_
        · go_simp
          (go_wp2_with (go_at_call 51; refine (vnext_short r 6 _ hr6).mono ?_; rintro e w2 ⟨rfl, rfl⟩); exact gend_err w _ w.heap.size _ _ _ _ 3 (Nat.le_refl _) HcD.out HbD.out rfl rfl rfl)
        exact AllReady.nil
      exact AllReady.nil
end Go.Proofs.YthjphiniljopgaaDoor
