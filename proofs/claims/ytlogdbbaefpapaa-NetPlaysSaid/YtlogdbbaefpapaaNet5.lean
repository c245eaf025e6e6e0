/-
  Package net, part 5: the steps of Send.
-/
import Derived.Test.YtlogdbbaefpapaaNet4
import Derived.Test.YtlogdbbaefpapaaOrd
import Derived.Test.YtlogdbbaefpapaaOrdG
namespace Go.Proofs.Ytlogdbbaefpapaa
open Go.RowKit Go.Maps

theorem _root_.Go.World.grownBy.drew_ {a b c : World} (g : b.grownBy c none) (h : a.grownBy b none) : a.grownBy c.drew none := ⟨g.os.trans h.os, g.tape.trans h.tape, g.output.trans h.output, Nat.le_trans h.size g.size, fun k hk _ => (g.block k (Nat.lt_of_lt_of_le hk h.size) (by simp)).trans (h.block k hk (by simp))⟩
theorem kgrow_refl (w : World) (row : Option Nat) : w.grownBy w row := ⟨rfl, rfl, rfl, Nat.le_refl _, fun _ _ _ => rfl⟩
theorem kgrow_none {a b c : World} (h : a.grownBy b none) (g : b.grownBy c none) : a.grownBy c none :=
  ⟨g.os.trans h.os, g.tape.trans h.tape, g.output.trans h.output, Nat.le_trans h.size g.size, fun k hk _ => (g.block k (Nat.lt_of_lt_of_le hk h.size) (by simp)).trans (h.block k hk (by simp))⟩
theorem kgrow_drew (w : World) : w.grownBy w.drew none := ⟨rfl, rfl, rfl, Nat.le_refl _, fun _ _ _ => rfl⟩
theorem CutMap.grown {w w' : World} {m k : Nat} {C : List (Int × Int)} {row : Option Nat} (h : CutMap w m k C) (g : w.grownBy w' row) (hne : some m ≠ row) : CutMap w' m k C := by
  obtain ⟨D, hown, hC⟩ := h
  exact ⟨D, hown.kept g hne, hC⟩
/-! ### A net, one cell of it turned; a message appended -/
theorem map_ne {w : World} {m k p : Nat} {C : List (Int × Int)} {t : TypeId} {cs : Array Value} (h : CutMap w m k C) (hb : Blk w p t cs) : m ≠ p := by
  obtain ⟨D, ⟨es, cl, h1, _⟩, _⟩ := h
  rintro rfl
  unfold Blk at hb
  rw [h1] at hb
  cases hb
theorem own_ne {w : World} {B : Nat} {e t : TypeId} {sz : Nat} {v : Value} {n : Nat} {xs : List Value} {p : Nat} {cs : Array Value} (h : w.ownsRow B e sz v n xs) (hb : Blk w p t cs) (hne : e ≠ t) : v.ownBlock ≠ some p := by
  rcases h.2 with ⟨rfl, _⟩ | ⟨g, cap, cur, rfl, _, hg, _⟩
  · intro h; cases h
  · intro h
    cases h
    unfold Blk at hb
    rw [hg] at hb
    cases hb
    exact hne rfl
theorem own_map {w : World} {B : Nat} {e : TypeId} {sz : Nat} {v : Value} {n : Nat} {xs : List Value} {m k : Nat} {C : List (Int × Int)} (h : w.ownsRow B e sz v n xs) (hm : CutMap w m k C) : some m ≠ v.ownBlock := by
  obtain ⟨D, ⟨es, cl, h1, _⟩, _⟩ := hm
  rcases h.2 with ⟨rfl, _⟩ | ⟨g, cap, cur, rfl, _, hg, _⟩
  · intro h; cases h
  · intro h
    cases h
    rw [hg] at h1
    cases h1
theorem net_set {w : World} {B p m k : Nat} {cs : Array Value} {sl : Value} {C : List (Int × Int)} {n : Nat} {xs : List Value} (hP : Blk w p 47 cs) (hM : CutMap w m k C) (hR : w.ownsRow B 58 3 sl n xs) (i : Nat) (u : Value) :
    CutMap (w.setCell ⟨p, i, none⟩ u) m k C ∧ (w.setCell ⟨p, i, none⟩ u).ownsRow B 58 3 sl n xs := by
  have g : w.grownBy (w.setCell ⟨p, i, none⟩ u) (some p) := only_setCell (kgrow_refl w (some p)) (Or.inl rfl) u
  exact ⟨hM.grown g (fun e => map_ne hM hP (Option.some.inj e)), hR.kept g (Or.inr (own_ne hR hP (by decide)))⟩
theorem app_msg {W : World} {B p m k : Nat} {n lo : Value} {sl : Value} {C : List (Int × Int)} {L : List (Int × Int × ByteArray)} (x : Int × Int × ByteArray) (hP : Blk W p 47 #[n, .map (some m), sl, lo]) (hM : CutMap W m k C) (hR : W.ownsRow B 58 3 sl L.length (rowC L)) (hL : L.length ≤ 400) (_hp : B ≤ p) (_hm : B ≤ m) (hB : B ≤ W.heap.size) :
    ∃ v' w1, (Builtin.append_ #[45, 45] 45 #[sl, .slice (some ⟨W.heap.size, 0, none⟩) 1 1]).run Try.prog (W.alloc (.cells (msgC x).toArray 58)).drew = .ok v' w1 ∧ (∃ A c, v' = .slice A (L.length + 1) c) ∧
      w1.ownsRow B 58 3 v' (L.length + 1) (rowC (L ++ [x])) ∧ Blk w1 p 47 #[n, .map (some m), sl, lo] ∧ CutMap w1 m k C ∧ Fr B netObj (W.alloc (.cells (msgC x).toArray 58)).drew w1 ∧ B ≤ W.heap.size := by
  obtain ⟨i0, hi, hz0, hz1, hz2⟩ := info_parts info_msg
  have hR' : (W.alloc (.cells (msgC x).toArray 58)).drew.ownsRow B 58 3 sl L.length (rowC L) := World.ownsRow.alloc hR _
  have hP' : Blk (W.alloc (.cells (msgC x).toArray 58)).drew p 47 #[n, .map (some m), sl, lo] := (hP.alloc _).drew
  have hM' : CutMap (W.alloc (.cells (msgC x).toArray 58)).drew m k C := (hM.grown (World.grownBy_alloc W _ none) (by simp)).grown (kgrow_drew _) (by simp)
  have hc := cells_new W 58 (msgC x)
  obtain ⟨v', w1, hr, hown, hg, _⟩ := run_append_own (P := Try.prog) (W.alloc (.cells (msgC x).toArray 58)).drew B 45 45 58 i0 _ 3 32 Try.underlying45 hi hz0 hz1 hz2 rfl (by decide) sl L.length (rowC L) hR' ⟨W.heap.size, 0, none⟩ 1 1 (msgC x) rfl hc
    (by intro u hu; simp [msgC] at hu; rcases hu with rfl | rfl | rfl <;> rfl) (by unfold maxLen; omega) (by omega) (by simp; omega)
  refine ⟨v', w1, hr, owns_shape hown, by rw [rowC_append, rowC_one]; exact hown, hP'.grown hg (fun e => own_ne hR' hP' (by decide) e.symm), hM'.grown hg (own_map hR' hM'), (Fr.refl B netObj _).row hg (fun g e => Or.inr ?_), hB⟩
  rcases hR'.2 with ⟨rfl, _⟩ | ⟨g', cap, cur, rfl, h1, h2, _⟩
  · cases e
  · cases e
    exact ⟨h1, _, h2, rfl⟩

/-- All ways through a statement meet: one frame, one world; none gives up. -/
def MeetQ (R : Act → World → Prop) : Exit → Act → World → Prop
  | .normal, a, w => R a w
  | _, _, _ => False
theorem wp_meet {P : Program} {c : Code} {Q : Exit → Act → World → Prop} {a : Act} {w : World} {A : Act} {W : World} (h : ∀ R : Act → World → Prop, R A W → c.wp P (MeetQ R) a w) (hq : Q .normal A W) : c.wp P Q a w :=
  Code.wp_mono (by
    intro e a w h
    cases e <;> first | (obtain ⟨rfl, rfl⟩ := h; exact hq) | exact h.elim) (h (fun a w => a = A ∧ w = W) ⟨rfl, rfl⟩)

/-- How steps end that are told with er. -/
def endP (er : Int) : Ending := if er = 0 then .returned (.tuple #[]) else gaveUp er
def sendP (x : N8) (f t : Int) (s : ByteArray) : Int × N8 :=
  if !wayB x.n f t then (1, x) else if decide (65536 < s.size) then (2, x) else if x.C.contains (f, t) || decide (400 ≤ x.L.length) then (0, { x with lost := x.lost + 1 }) else (0, { x with L := x.L ++ [(f, t, s)] })
/-- A new block for a message. -/
def SlotM (B : Nat) : Slot (fun w w' : World => w.grownBy w' none) := ⟨fun v w => ∃ p, v = .pointer (some ⟨p, 0, none⟩) ∧ B ≤ p ∧ Blk w p 58 #[.int .i64 0, .int .i64 0, .string ⟨#[]⟩], fun _ _ _ h hT => by
  obtain ⟨p, h1, h2, h3⟩ := h
  exact ⟨p, h1, h2, h3.grown hT (by simp)⟩, false⟩

/-! ### The map -/
theorem look_way {w : World} {m k : Nat} {C : List (Int × Int)} (h : CutMap w m k C) {a b : Int} (ha : (Lit.int .i64 a).wf = true) (hb : (Lit.int .i64 b).wf = true) :
    (Instr.lookup 44 (.map (some m)) (.agg #[.int .i64 a, .int .i64 b]) true).run Try.prog w = .ok (.tuple #[.agg #[], .bool (C.contains (a, b))]) w := by
  obtain ⟨D, hown, hC⟩ := h
  obtain ⟨v, ps, hrun, hv⟩ := hown.look_ok wayLaw Try.underlying44 (zero59 w) unitElem_mk (key_at ha hb)
  obtain ⟨rfl, _⟩ := unitElem_inv hv
  rw [hrun, hC a b ha hb]
set_option maxRecDepth 100000 in
set_option maxHeartbeats 4000000 in
/-- What is no way: it gives up. -/
theorem sendstep_arg (b0 b1 b2 b3 : Nat) (PV : Value) (f t : Int) (s : ByteArray) (w : World) (B0 : Blk w b0 24 #[PV]) (B1 : Blk w b1 3 #[.int .i64 f]) (B2 : Blk w b2 3 #[.int .i64 t]) (B3 : Blk w b3 9 #[.string s])
    (hbt : ∀ W, w.grownBy W none → Calls Try.prog 28 #[PV, .int .i64 f, .int .i64 t] W fun e w' => e = gaveUp 1 ∧ W.grownBy w' none) :
    Calls Try.prog 27 #[.pointer (some ⟨b0, 0, none⟩), .pointer (some ⟨b1, 0, none⟩), .pointer (some ⟨b2, 0, none⟩), .pointer (some ⟨b3, 0, none⟩)] w fun e w' => e = gaveUp 1 ∧ w.grownBy w' none := by
  have hbt' := fun W h => Lib.hid (hbt W h)
  clear hbt
  go_enter Try.func27, Try.ntmps27
  go_wp2_with fail
  refine Gv.wp_region_ord (G := fun c => c = [{ v := .iface 33 (.int .i64 1), recovered := false }]) (fun W => w.grownBy W none) (fun w w' => w.grownBy w' none) [Slot.is (PV), Slot.is (.int .i64 f), Slot.is (.int .i64 t), Slot.sort fun _ => False, Slot.is (.string s), Slot.any, SlotM w.heap.size] 7 1 (by kernel_rfl) (fun _ _ h => World.grownBy.size h) (fun c a w1 hd hC hc => by subst hc; exact ⟨hd, rfl, hC⟩) (by kernel_rfl) (by kernel_rfl) (by kernel_rfl) rfl (by decide) (kgrow_drew w) (fun i hi => ?_) (fun a W J => ?_)
  · rcases i with _ | _ | _ | _ | _ | _ | _ | i
    · refine Gv.ordOb_at (o := _) rfl rfl (fun a W hC hF hD => ?_)
      have g0 : a.tmps[0]? = some (.pointer (some ⟨b0, 0, none⟩)) := hF 0 _ (by kernel_rfl) rfl
      have d : W.cell? ⟨b0, 0, none⟩ = some (PV) := (B0.grown hC (by simp)).cell 0
      unfold Gv.frees
      go_simp
      exact ⟨hC, kgrow_refl _ _, rfl, fun h => by cases h⟩
    · refine Gv.ordOb_at (o := _) rfl rfl (fun a W hC hF hD => ?_)
      have g1 : a.tmps[1]? = some (.pointer (some ⟨b1, 0, none⟩)) := hF 1 _ (by kernel_rfl) rfl
      have d : W.cell? ⟨b1, 0, none⟩ = some (.int .i64 f) := (B1.grown hC (by simp)).cell 0
      unfold Gv.frees
      go_simp
      exact ⟨hC, kgrow_refl _ _, rfl, fun h => by cases h⟩
    · refine Gv.ordOb_at (o := _) rfl rfl (fun a W hC hF hD => ?_)
      have g2 : a.tmps[2]? = some (.pointer (some ⟨b2, 0, none⟩)) := hF 2 _ (by kernel_rfl) rfl
      have d : W.cell? ⟨b2, 0, none⟩ = some (.int .i64 t) := (B2.grown hC (by simp)).cell 0
      unfold Gv.frees
      go_simp
      exact ⟨hC, kgrow_refl _ _, rfl, fun h => by cases h⟩
    · refine Gv.ordOb_at (o := _) rfl rfl (fun a W hC hF hD => ?_)
      have g7 : a.tmps[7]? = some (PV) := by
        obtain ⟨v, h1, h2⟩ := hD 0 7 (by kernel_rfl) (by kernel_rfl)
        rw [h1]
        exact congrArg some h2
      have g8 : a.tmps[8]? = some (.int .i64 f) := by
        obtain ⟨v, h1, h2⟩ := hD 1 8 (by kernel_rfl) (by kernel_rfl)
        rw [h1]
        exact congrArg some h2
      have g9 : a.tmps[9]? = some (.int .i64 t) := by
        obtain ⟨v, h1, h2⟩ := hD 2 9 (by kernel_rfl) (by kernel_rfl)
        rw [h1]
        exact congrArg some h2
      unfold Gv.frees
      go_simp
      refine ⟨rfl, (hbt' W hC).out.mono ?_⟩
      rintro e W2 ⟨rfl, g⟩
      exact Or.inr ⟨_, rfl, kgrow_none hC g, rfl⟩
    · refine Gv.ordOb_at (o := _) rfl rfl (fun a W hC hF hD => ?_)
      have g3 : a.tmps[3]? = some (.pointer (some ⟨b3, 0, none⟩)) := hF 3 _ (by kernel_rfl) rfl
      have d : W.cell? ⟨b3, 0, none⟩ = some (.string s) := (B3.grown hC (by simp)).cell 0
      unfold Gv.frees
      go_simp
      exact ⟨hC, kgrow_refl _ _, rfl, fun h => by cases h⟩
    · refine Gv.ordOb_at (o := _) rfl rfl (fun a W hC hF hD => ?_)
      obtain ⟨v, h1, h2⟩ := hD 3 10 (by kernel_rfl) (by kernel_rfl)
      exact absurd h2 id
    · refine Gv.ordOb_at (o := _) rfl rfl (fun a W hC hF hD => ?_)
      unfold Gv.frees
      go_simp
      exact ⟨kgrow_none hC (World.grownBy_alloc _ _ _), World.grownBy_alloc _ _ _, ⟨W.heap.size, rfl, hC.size, Blk.new _ _ _⟩, fun h => by cases h⟩
    · omega
  · obtain ⟨vs, hln, rfl, hC, hS, hap⟩ := J.all_ (by kernel_rfl) (ds := [some 7, some 8, some 9, some 10, some 11, some 12, some 4]) (by kernel_rfl)
    exact absurd (hS 3 (by decide)) id

set_option maxRecDepth 100000 in
set_option maxHeartbeats 8000000 in
/-- What is a way: it is sent, or lost, or too long. -/
theorem sendstep_ok (b0 b1 b2 b3 : Nat) (B p k : Nat) (x8 : N8) (f t : Int) (s : ByteArray) (w : World) (B0 : Blk w b0 24 #[.pointer (some ⟨p, 0, none⟩)]) (B1 : Blk w b1 3 #[.int .i64 f]) (B2 : Blk w b2 3 #[.int .i64 t]) (B3 : Blk w b3 9 #[.string s])
    (hN : NetAt B p k w x8) (h0 : 0 ≤ x8.lost) (h1 : x8.lost < 9223372036854775807) (hL : x8.L.length ≤ 400) (hw : wayB x8.n f t = true) (hf : (Lit.int .i64 f).wf = true) (ht : (Lit.int .i64 t).wf = true) (hs : s.size ≤ 9223372036854775807) (hB : B ≤ w.heap.size) :
    Calls Try.prog 27 #[.pointer (some ⟨b0, 0, none⟩), .pointer (some ⟨b1, 0, none⟩), .pointer (some ⟨b2, 0, none⟩), .pointer (some ⟨b3, 0, none⟩)] w fun e w' => e = endP (sendP x8 f t s).1 ∧ NetAt B p k w' (sendP x8 f t s).2 ∧ Fr B netObj w w' := by
  have hbt' : ∀ W, w.grownBy W none → Hid (Calls Try.prog 28 #[.pointer (some ⟨p, 0, none⟩), .int .i64 f, .int .i64 t] W fun e w' => e = .returned (.agg #[.int .i64 f, .int .i64 t]) ∧ W.grownBy w' none) := fun W hW => by
    obtain ⟨m, sl, h2, _⟩ := hN
    refine (between_any p x8.n f t W ((h2.grown hW (by simp)).cell 0)).mono ?_
    rintro e w' ⟨h | h, g⟩
    · exact ⟨h.2, g⟩
    · rw [hw] at h; cases h.1
  obtain ⟨lg, hlg⟩ : ∃ lg, decide (65536 < s.size) = lg := ⟨_, rfl⟩
  have glg : decide ((65536 : Int) < (s.size : Int)) = lg := by rw [← hlg]; exact decide_eq_decide.2 (by omega)
  obtain ⟨ct, hct⟩ : ∃ ct, x8.C.contains (f, t) = ct := ⟨_, rfl⟩
  obtain ⟨fl, hfl⟩ : ∃ fl, decide (400 ≤ x8.L.length) = fl := ⟨_, rfl⟩
  have HN := Lib.hid hN
  have HL := Lib.hid hL
  have HS : Hid (sendP x8 f t s = (if lg then (2, x8) else if ct || fl then (0, { x8 with lost := x8.lost + 1 }) else (0, { x8 with L := x8.L ++ [(f, t, s)] }))) := by
    show sendP x8 f t s = _
    unfold sendP
    rw [hw, ← hlg, ← hct, ← hfl]
    simp
  clear hN hlg hL hw hs
  have HC := Lib.hid hct
  have HF := Lib.hid hfl
  clear hct hfl
  have H0 := Lib.hid h0
  have H1 := Lib.hid h1
  clear h0 h1
  go_enter Try.func27, Try.ntmps27
  go_wp2_with fail
  refine wp_region_ord (fun W => w.grownBy W none) (fun w w' => w.grownBy w' none) [Slot.is (.pointer (some ⟨p, 0, none⟩)), Slot.is (.int .i64 f), Slot.is (.int .i64 t), Slot.is (.agg #[.int .i64 f, .int .i64 t]), Slot.is (.string s), Slot.is (msgV (f, t, s)), SlotM w.heap.size] 7 1 (by kernel_rfl) (fun _ _ h => World.grownBy.size h) (by kernel_rfl) (by kernel_rfl) (by kernel_rfl) rfl (by decide) (kgrow_drew w) (fun i hi => ?_) (fun a W J => ?_)
  · rcases i with _ | _ | _ | _ | _ | _ | _ | i
    · refine ordOb_at (o := _) rfl rfl (fun a W hC hF hD => ?_)
      have g0 : a.tmps[0]? = some (.pointer (some ⟨b0, 0, none⟩)) := hF 0 _ (by kernel_rfl) rfl
      have d : W.cell? ⟨b0, 0, none⟩ = some (.pointer (some ⟨p, 0, none⟩)) := (B0.grown hC (by simp)).cell 0
      unfold frees
      go_simp
      exact ⟨hC, kgrow_refl _ _, rfl, fun h => by cases h⟩
    · refine ordOb_at (o := _) rfl rfl (fun a W hC hF hD => ?_)
      have g1 : a.tmps[1]? = some (.pointer (some ⟨b1, 0, none⟩)) := hF 1 _ (by kernel_rfl) rfl
      have d : W.cell? ⟨b1, 0, none⟩ = some (.int .i64 f) := (B1.grown hC (by simp)).cell 0
      unfold frees
      go_simp
      exact ⟨hC, kgrow_refl _ _, rfl, fun h => by cases h⟩
    · refine ordOb_at (o := _) rfl rfl (fun a W hC hF hD => ?_)
      have g2 : a.tmps[2]? = some (.pointer (some ⟨b2, 0, none⟩)) := hF 2 _ (by kernel_rfl) rfl
      have d : W.cell? ⟨b2, 0, none⟩ = some (.int .i64 t) := (B2.grown hC (by simp)).cell 0
      unfold frees
      go_simp
      exact ⟨hC, kgrow_refl _ _, rfl, fun h => by cases h⟩
    · refine ordOb_at (o := _) rfl rfl (fun a W hC hF hD => ?_)
      have g7 : a.tmps[7]? = some (.pointer (some ⟨p, 0, none⟩)) := by
        obtain ⟨v, h1, h2⟩ := hD 0 7 (by kernel_rfl) (by kernel_rfl)
        rw [h1]
        exact congrArg some h2
      have g8 : a.tmps[8]? = some (.int .i64 f) := by
        obtain ⟨v, h1, h2⟩ := hD 1 8 (by kernel_rfl) (by kernel_rfl)
        rw [h1]
        exact congrArg some h2
      have g9 : a.tmps[9]? = some (.int .i64 t) := by
        obtain ⟨v, h1, h2⟩ := hD 2 9 (by kernel_rfl) (by kernel_rfl)
        rw [h1]
        exact congrArg some h2
      unfold frees
      go_simp
      refine ⟨rfl, (hbt' W hC).out.mono ?_⟩
      rintro e W2 ⟨rfl, g⟩
      exact ⟨_, rfl, kgrow_none hC g, g, rfl⟩
    · refine ordOb_at (o := _) rfl rfl (fun a W hC hF hD => ?_)
      have g3 : a.tmps[3]? = some (.pointer (some ⟨b3, 0, none⟩)) := hF 3 _ (by kernel_rfl) rfl
      have d : W.cell? ⟨b3, 0, none⟩ = some (.string s) := (B3.grown hC (by simp)).cell 0
      unfold frees
      go_simp
      exact ⟨hC, kgrow_refl _ _, rfl, fun h => by cases h⟩
    · refine ordOb_at (o := _) rfl rfl (fun a W hC hF hD => ?_)
      have g10 : a.tmps[10]? = some (.agg #[.int .i64 f, .int .i64 t]) := by
        obtain ⟨v, h1, h2⟩ := hD 3 10 (by kernel_rfl) (by kernel_rfl)
        rw [h1]
        exact congrArg some h2
      have g11 : a.tmps[11]? = some (.string s) := by
        obtain ⟨v, h1, h2⟩ := hD 4 11 (by kernel_rfl) (by kernel_rfl)
        rw [h1]
        exact congrArg some h2
      unfold frees
      go_simp
      exact ⟨hC, kgrow_refl _ _, rfl, fun h => by cases h⟩
    · refine ordOb_at (o := _) rfl rfl (fun a W hC hF hD => ?_)
      unfold frees
      go_simp
      exact ⟨kgrow_none hC (World.grownBy_alloc _ _ _), World.grownBy_alloc _ _ _, ⟨W.heap.size, rfl, hC.size, Blk.new _ _ _⟩, fun h => by cases h⟩
    · omega
  · obtain ⟨vs, hln, rfl, hC, hS, hap⟩ := J.all_ (by kernel_rfl) (ds := [some 7, some 8, some 9, some 10, some 11, some 12, some 4]) (by kernel_rfl)
    clear J
    obtain ⟨v0, vs, rfl⟩ := List.exists_cons_of_length_eq_add_one hln
    replace hln := Nat.succ.inj hln
    obtain ⟨v1, vs, rfl⟩ := List.exists_cons_of_length_eq_add_one hln
    replace hln := Nat.succ.inj hln
    obtain ⟨v2, vs, rfl⟩ := List.exists_cons_of_length_eq_add_one hln
    replace hln := Nat.succ.inj hln
    obtain ⟨v3, vs, rfl⟩ := List.exists_cons_of_length_eq_add_one hln
    replace hln := Nat.succ.inj hln
    obtain ⟨v4, vs, rfl⟩ := List.exists_cons_of_length_eq_add_one hln
    replace hln := Nat.succ.inj hln
    obtain ⟨v5, vs, rfl⟩ := List.exists_cons_of_length_eq_add_one hln
    replace hln := Nat.succ.inj hln
    obtain ⟨v6, vs, rfl⟩ := List.exists_cons_of_length_eq_add_one hln
    replace hln := Nat.succ.inj hln
    obtain rfl := List.eq_nil_of_length_eq_zero hln
    have q0 : v0 = .pointer (some ⟨p, 0, none⟩) := hS 0 (by decide)
    have q1 : v1 = .int .i64 f := hS 1 (by decide)
    have q2 : v2 = .int .i64 t := hS 2 (by decide)
    have q3 : v3 = .agg #[.int .i64 f, .int .i64 t] := hS 3 (by decide)
    have q4 : v4 = .string s := hS 4 (by decide)
    have q5 : v5 = msgV (f, t, s) := hS 5 (by decide)
    obtain ⟨p6, q6, hp6, E6⟩ := hS 6 (by decide)
    have q6 : v6 = .pointer (some ⟨p6, 0, none⟩) := q6
    subst q0 q1 q2 q3 q4 q5 q6
    clear hS hap
    simp only [fillT, List.setIfInBounds_toArray, List.set_cons_zero, List.set_cons_succ]
    have e0 := E6.cell 0
    have e1 := E6.cell 1
    have e2 := E6.cell 2
    have z0 := E6.frozen 0
    have z1 := E6.frozen 1
    have z2 := E6.frozen 2
    unfold msgV
    refine wpAny_ready (rs := [7]) (by kernel_rfl) (by simp) ?_
    refine AllReady.cons rfl (fun K hK => ?_) AllReady.nil
    go_simp
    refine hK _ _ ?_
    have M4 : Hid (Blk (((W.setCell ⟨p6, 0, none⟩ (.int .i64 f)).setCell ⟨p6, 1, none⟩ (.int .i64 t)).setCell ⟨p6, 2, none⟩ (.string s)) p6 58 #[.int .i64 f, .int .i64 t, .string s]) := ((E6.set_ 0 _).set_ 1 _).set_ 2 _
    have g4 : Hid (w.grownBy (((W.setCell ⟨p6, 0, none⟩ (.int .i64 f)).setCell ⟨p6, 1, none⟩ (.int .i64 t)).setCell ⟨p6, 2, none⟩ (.string s)) none) := grown_set (grown_set (grown_set hC hp6 _) hp6 _) hp6 _
    generalize ((W.setCell ⟨p6, 0, none⟩ (.int .i64 f)).setCell ⟨p6, 1, none⟩ (.int .i64 t)).setCell ⟨p6, 2, none⟩ (.string s) = W4 at M4 g4 ⊢
    clear e0 e1 e2 z0 z1 z2 E6 hC hp6 hK
    refine wpAny_done (by kernel_rfl) ?_ _
    simp only [Exit.then]
    have d0 : W4.cell? ⟨b0, 0, none⟩ = some (.pointer (some ⟨p, 0, none⟩)) := (B0.grown g4.out (by simp)).cell 0
    have d3 : W4.cell? ⟨b3, 0, none⟩ = some (.string s) := (B3.grown g4.out (by simp)).cell 0
    cases lg
    · obtain ⟨m, sl, hP, hM, hR, hp1, hm1⟩ := HN.out.fr (Fr.of_grown (B := B) (T := fun _ => false) g4.out) (fun _ _ => rfl)
      have aP : ∀ {g : Nat} {t : TypeId} {cs : Array Value}, Blk W4 g t cs → Blk (W4.alloc (.cells #[] 59)) g t cs := fun h => h.alloc _
      have l0 := look_way (show CutMap W4.drew m k x8.C from hM.grown (kgrow_drew W4) (by simp)) hf ht
      have l1 := look_way (show CutMap (W4.alloc (.cells #[] 59)).drew m k x8.C from (hM.grown (World.grownBy_alloc W4 _ none) (by simp)).grown (kgrow_drew _) (by simp)) hf ht
      rw [HC.out] at l0 l1
      have P1 : W4.cell? ⟨p, 1, none⟩ = some (.map (some m)) := hP.cell 1
      have P1' : (W4.alloc (.cells #[] 59)).cell? ⟨p, 1, none⟩ = some (.map (some m)) := (aP hP).cell 1
      have d0' : (W4.alloc (.cells #[] 59)).cell? ⟨b0, 0, none⟩ = some (.pointer (some ⟨p, 0, none⟩)) := (aP (B0.grown g4.out (by simp))).cell 0
      have m0 := M4.out.cell 0
      have m1 := M4.out.cell 1
      have m0' := (aP M4.out).cell 0
      have m1' := (aP M4.out).cell 1
      have HP := Lib.hid hP
      have HM := Lib.hid hM
      have HR := Lib.hid hR
      clear hP hM hR
      have M5 : Hid (Blk (W4.alloc (.cells #[] 59)).drew p6 58 #[.int .i64 f, .int .i64 t, .string s]) := aP M4.out
      have g5 : Hid (w.grownBy (W4.alloc (.cells #[] 59)).drew none) := (World.grownBy_alloc W4 _ none).drew_ g4.out
      have P5 : Hid (Blk (W4.alloc (.cells #[] 59)).drew p 47 #[.int .i64 x8.n, .map (some m), sl, .int .i64 x8.lost]) := aP HP.out
      have R5 : Hid ((W4.alloc (.cells #[] 59)).drew.ownsRow B 58 3 sl x8.L.length (rowC x8.L)) := (World.ownsRow.alloc HR.out _)
      have C5 : Hid (CutMap (W4.alloc (.cells #[] 59)).drew m k x8.C) := (HM.out.grown (World.grownBy_alloc W4 _ none) (by simp)).grown (kgrow_drew _) (by simp)
      clear aP
      go_wp2_with fail
      apply wp_meet
      · intro Q8 hQ8
        go_region
        all_goals exact hQ8
      generalize (W4.alloc (.cells #[] 59)).drew = W5 at M5 g5 P5 R5 C5 ⊢
      generalize W4.heap.size = q4
      clear l0 l1 P1 P1' d0' m0 m1 m0' m1' M4 g4 d0 d3 HM HR HP W4
      have d0 : W5.cell? ⟨b0, 0, none⟩ = some (.pointer (some ⟨p, 0, none⟩)) := (B0.grown g5.out (by simp)).cell 0
      have P3 : W5.cell? ⟨p, 3, none⟩ = some (.int .i64 x8.lost) := P5.out.cell 3
      have F3 := P5.out.frozen 3
      obtain ⟨A, c, rfl⟩ := owns_shape R5.out
      have P2 : W5.cell? ⟨p, 2, none⟩ = some (.slice A x8.L.length c) := P5.out.cell 2
      have Z1 := Lib.hid (lose_any p x8.lost W5 P3 F3 H0.out H1.out)
      have Z2 := Lib.hid (full_any p A x8.L.length c W5 P2)
      rw [HF.out] at Z2
      obtain ⟨v6, w6, hr6, ⟨A6, c6, rfl⟩, R6, P6, C6, G6, GB6⟩ := app_msg (f, t, s) P5.out C5.out R5.out HL.out hp1 hm1 (Nat.le_trans hB g5.out.size)
      simp only [msgC] at hr6 G6
      have d0U : (W5.alloc (.cells #[.int .i64 f, .int .i64 t, .string s] 58)).cell? ⟨b0, 0, none⟩ = some (.pointer (some ⟨p, 0, none⟩)) := (World.grownBy_alloc W5 _ none).cell d0 (by simp)
      have d0w : w6.cell? ⟨b0, 0, none⟩ = some (.pointer (some ⟨p, 0, none⟩)) := (G6.blk (((B0.grown g5.out (by simp)).alloc _).drew) rfl).cell 0
      have P2U : (W5.alloc (.cells #[.int .i64 f, .int .i64 t, .string s] 58)).cell? ⟨p, 2, none⟩ = some (.slice A x8.L.length c) := (World.grownBy_alloc W5 _ none).cell P2 (by simp)
      have P2w : w6.cell? ⟨p, 2, none⟩ = some (.slice A x8.L.length c) := P6.cell 2
      have F2w := P6.frozen 2
      have n0 := M5.out.cell 0
      have n1 := M5.out.cell 1
      have n2 := M5.out.cell 2
      have HP6 := Lib.hid P6
      have HC6 := Lib.hid C6
      have HR6 := Lib.hid R6
      have HG6 := Lib.hid G6
      have K1 := Lib.hid (net_set P5.out C5.out R5.out 3 (.int .i64 (x8.lost + 1)))
      have K2 := Lib.hid (net_set P6 C6 R6 2 (.slice A6 (x8.L.length + 1) c6))
      have BP := Lib.hid (mayNet P5.out hp1 (Or.inl rfl))
      have BQ := Lib.hid (mayNet P6 hp1 (Or.inl rfl))
      clear P6 C6 R6 G6 B0 B1 B2 B3 hbt'
      have mixed : Try.prog.follows .mixedOrders = true := by kernel_rfl
      cases ct
      · go_wp2_with fail
        refine Z2.out.mono ?_
        rintro e w7 ⟨rfl, hw7⟩
        subst hw7
        cases fl
        · go_wp2_with fail
          apply wp_meet
          · intro Q8 hQ8
            go_region_law (refine step_append_eq rfl (.tmp 38) (.tmp 40) 45 rfl _ _ _ (by simp [Act.eval]) (by simp [Act.eval]) hr6 ?_)
            all_goals exact hQ8
          go_wp2_with fail
          go_end0
          exact ⟨by rw [HS.out]; rfl, by rw [HS.out]; exact ⟨m, _, HP6.out.set_ 2 _, K2.out.1, by simp only [Bool.false_eq_true, if_false, Bool.or_self, List.length_append, List.length_cons, List.length_nil]; exact K2.out.2, hp1, hm1⟩, ((((Fr.of_grown g5.out).alloc _).drew).trans HG6.out).setCell (Or.inr BQ.out) _⟩
        · go_wp2_with fail
          refine Z1.out.mono ?_
          rintro e w8 ⟨rfl, rfl⟩
          go_wp2
          refine bodyPost_ret (results_none rfl _ _ _) rfl ?_
          exact ⟨by rw [HS.out]; rfl, by rw [HS.out]; exact ⟨m, _, P5.out.set_ 3 _, K1.out.1, K1.out.2, hp1, hm1⟩, (Fr.of_grown g5.out).setCell (Or.inr BP.out) _⟩
      · go_wp2_with fail
        refine Z1.out.mono ?_
        rintro e w7 ⟨rfl, rfl⟩
        go_wp2
        refine bodyPost_ret (results_none rfl _ _ _) rfl ?_
        exact ⟨by rw [HS.out]; rfl, by rw [HS.out]; exact ⟨m, _, P5.out.set_ 3 _, K1.out.1, K1.out.2, hp1, hm1⟩, (Fr.of_grown g5.out).setCell (Or.inr BP.out) _⟩
    · go_wp2_with fail
      exact ⟨rfl, by rw [HS.out]; rfl, by rw [HS.out]; exact HN.out.fr (Fr.of_grown (B := B) (T := fun _ => false) g4.out) (fun _ _ => rfl), Fr.of_grown g4.out⟩
end Go.Proofs.Ytlogdbbaefpapaa
