/-
  Package net, part 11: Cut, IsCut, Len, Lost, New; what there is no net for.
-/
import Derived.Test.YtlogdbbaefpapaaNet10
namespace Go.Proofs.Ytlogdbbaefpapaa
open Go.RowKit Go.Maps

def cutC (C : List (Int × Int)) (a b : Int) (c : Bool) : List (Int × Int) := C.filter (fun x => !(x == (a, b))) ++ (if c then [(a, b)] else [])
def cutP (x : N8) (a b : Int) (c : Bool) : Int × N8 := if !wayB x.n a b then (1, x) else (0, { x with C := cutC x.C a b c })
theorem cutC_contains (C : List (Int × Int)) (a b a' b' : Int) (c : Bool) : (cutC C a b c).contains (a', b') = if (a', b') = (a, b) then c else C.contains (a', b') := by
  unfold cutC
  rw [Bool.eq_iff_iff]
  by_cases h : (a', b') = (a, b)
  · rw [if_pos h, h]
    cases c <;> simp
  · rw [if_neg h]
    simp only [List.contains_iff_mem, List.mem_append, List.mem_filter]
    constructor
    · rintro (h1 | h1)
      · exact h1.1
      · cases c
        · simp at h1
        · simp at h1; exact absurd (Prod.ext h1.1 h1.2) h
    · intro h1
      exact Or.inl ⟨h1, by simpa using h⟩
theorem put_way {w : World} {m k : Nat} {C : List (Int × Int)} (h : CutMap w m k C) (hk : k < maxLen) {a b : Int} (ha : (Lit.int .i64 a).wf = true) (hb : (Lit.int .i64 b).wf = true) :
    ∃ w', (Instr.mapUpdate 44 (.map (some m)) (.agg #[.int .i64 a, .int .i64 b]) (.agg #[])).run Try.prog w = .ok () w' ∧ CutMap w' m (k + 1) (cutC C a b true) ∧ w.grownBy w' (some m) := by
  obtain ⟨D, hown, hC⟩ := h
  obtain ⟨w', hrun, hown', hg⟩ := hown.update wayLaw Try.underlying44 hk (key_at ha hb) unitElem_mk
  refine ⟨w', hrun, ⟨_, hown', fun a' b' ha' hb' => ?_⟩, hg⟩
  rw [cutC_contains]
  by_cases e : klit a' b' = klit a b
  · obtain ⟨rfl, rfl⟩ := klit_inj ha' hb' ha hb e
    rw [if_pos rfl]
    exact Maps.has_put_same hown.isMap (wayLaw.key (key_at ha hb)) _
  · rw [Maps.has_put_other e, hC a' b' ha' hb', if_neg (fun h => e (by injection h with h1 h2; rw [h1, h2]))]
theorem del_way {w : World} {m k : Nat} {C : List (Int × Int)} (h : CutMap w m k C) {a b : Int} (ha : (Lit.int .i64 a).wf = true) (hb : (Lit.int .i64 b).wf = true) (ty : TypeId) :
    ∃ w', (Builtin.delete_ #[44, 55] ty #[.map (some m), .agg #[.int .i64 a, .int .i64 b]]).run Try.prog w = .ok (.tuple #[]) w' ∧ CutMap w' m k (cutC C a b false) ∧ w.grownBy w' (some m) := by
  obtain ⟨D, hown, hC⟩ := h
  obtain ⟨w', hrun, hown', hg⟩ := hown.drop wayLaw Try.underlying44 (key_at ha hb) ty
  refine ⟨w', hrun, ⟨_, hown', fun a' b' ha' hb' => ?_⟩, hg.grown⟩
  rw [cutC_contains]
  by_cases e : klit a' b' = klit a b
  · obtain ⟨rfl, rfl⟩ := klit_inj ha' hb' ha hb e
    rw [if_pos rfl]
    exact Maps.has_del_same
  · rw [Maps.has_del_other e, hC a' b' ha' hb', if_neg (fun h => e (by injection h with h1 h2; rw [h1, h2]))]
/-- A delete whose run is known, at the operation. -/
theorem step_delete_eq {P : Program} {ops : Array Oper} {o : Oper} {a : Act} {w w' : World} {K : Act → World → Prop} {Q : Exit → Act → World → Prop} {E : Prop}
    (hg : o.guard = none) (s x : Operand) (t u : TypeId) (hop : o.op = Op.call { callee := Callee.builtin Builtin.delete, args := #[s, x], argTypes := #[t, u] })
    (vs vx v : Value) (hs : a.eval s = vs) (hx : a.eval x = vx) (hrun : (Builtin.delete_ #[t, u] o.type #[vs, vx]).run P w = .ok v w') (hK : K (a.put o.dst v) w') :
    if Region.wanted o (yielded ops a.tmps) = true then Oper.wp P o a w K Q else E := by
  have hw : Region.wanted o (yielded ops a.tmps) = true := by simp [Region.wanted, hg]
  rw [if_pos hw]
  unfold Oper.wp
  simp [execOp, hop, resolve, invoke, builtin, hs, hx, hrun, Result.andThen]
  exact hK

/-- The map of a net, turned. -/
theorem NetAt.turn {B p k k' m : Nat} {x : N8} {sl : Value} {W W' : World} {C' : List (Int × Int)} (hP : Blk W p 47 #[.int .i64 x.n, .map (some m), sl, .int .i64 x.lost]) (hM : CutMap W m k x.C) (hR : W.ownsRow B 58 3 sl x.L.length (rowC x.L)) (hp : B ≤ p) (hm : B ≤ m)
    (hM' : CutMap W' m k' C') (hg : W.grownBy W' (some m)) : NetAt B p k' W' { x with C := C' } ∧ Fr B netObj W W' := by
  have hmay : ∃ o, W.heap[m]? = some o ∧ netObj o = true := by
    obtain ⟨D, ⟨es, cl, h1, _⟩, _⟩ := hM
    exact ⟨_, h1, rfl⟩
  exact ⟨⟨m, sl, hP.grown hg (fun e => map_ne hM hP (Option.some.inj e).symm), hM', hR.kept hg (Or.inr (fun e => own_map hR hM e.symm)), hp, hm⟩, (Fr.refl B netObj W).row hg (fun y hy => by cases hy; exact Or.inr ⟨hm, hmay⟩)⟩

set_option maxRecDepth 100000 in
set_option maxHeartbeats 2000000 in
theorem cutstep_no (b0 b1 b2 b3 : Nat) (PV : Value) (f t : Int) (w : World) (B0 : Blk w b0 24 #[PV]) (B1 : Blk w b1 3 #[.int .i64 f]) (B2 : Blk w b2 3 #[.int .i64 t])
    (hnb : Calls Try.prog 28 #[PV, .int .i64 f, .int .i64 t] w fun e w' => e = gaveUp 1 ∧ w.grownBy w' none) :
    Calls Try.prog 38 #[.pointer (some ⟨b0, 0, none⟩), .pointer (some ⟨b1, 0, none⟩), .pointer (some ⟨b2, 0, none⟩), .pointer (some ⟨b3, 0, none⟩)] w fun e w' => e = gaveUp 1 ∧ w.grownBy w' none := by
  have d0 : w.cell? ⟨b0, 0, none⟩ = some PV := B0.cell 0
  have d1 : w.cell? ⟨b1, 0, none⟩ = some (.int .i64 f) := B1.cell 0
  have d2 : w.cell? ⟨b2, 0, none⟩ = some (.int .i64 t) := B2.cell 0
  have H := Lib.hid hnb
  clear hnb
  go_enter Try.func38, Try.ntmps38
  go_wp2_with fail
  refine H.out.mono ?_
  rintro e w1 ⟨rfl, g⟩
  exact ⟨rfl, rfl, g⟩

set_option maxRecDepth 100000 in
set_option maxHeartbeats 8000000 in
theorem cutstep_ok (b0 b1 b2 b3 B p k : Nat) (x : N8) (f t : Int) (c : Bool) (w : World) (B0 : Blk w b0 24 #[.pointer (some ⟨p, 0, none⟩)]) (B1 : Blk w b1 3 #[.int .i64 f]) (B2 : Blk w b2 3 #[.int .i64 t]) (B3 : Blk w b3 4 #[.bool c])
    (hN : NetAt B p k w x) (hw : wayB x.n f t = true) (hk : k < maxLen) (hf : (Lit.int .i64 f).wf = true) (ht : (Lit.int .i64 t).wf = true) :
    Calls Try.prog 38 #[.pointer (some ⟨b0, 0, none⟩), .pointer (some ⟨b1, 0, none⟩), .pointer (some ⟨b2, 0, none⟩), .pointer (some ⟨b3, 0, none⟩)] w fun e w' =>
      e = .returned (.tuple #[]) ∧ NetAt B p (k + 1) w' { x with C := cutC x.C f t c } ∧ Fr B netObj w w' := by
  have d0 : w.cell? ⟨b0, 0, none⟩ = some (.pointer (some ⟨p, 0, none⟩)) := B0.cell 0
  have d1 : w.cell? ⟨b1, 0, none⟩ = some (.int .i64 f) := B1.cell 0
  have d2 : w.cell? ⟨b2, 0, none⟩ = some (.int .i64 t) := B2.cell 0
  have H : Hid (Calls Try.prog 28 #[.pointer (some ⟨p, 0, none⟩), .int .i64 f, .int .i64 t] w fun e w' => e = .returned (.agg #[.int .i64 f, .int .i64 t]) ∧ w.grownBy w' none) := by
    obtain ⟨m, sl, h2, _⟩ := hN
    refine (between_any p x.n f t w (h2.cell 0)).mono ?_
    rintro e w' ⟨h | h, g⟩
    · exact ⟨h.2, g⟩
    · rw [hw] at h; cases h.1
  have HN := Lib.hid hN
  have HK := Lib.hid hk
  clear hN hw hk
  have mixed : Try.prog.follows .mixedOrders = true := by kernel_rfl
  go_enter Try.func38, Try.ntmps38
  go_wp2_with fail
  refine H.out.mono ?_
  rintro e w1 ⟨rfl, g⟩
  have M5 : Hid (Blk (w1.alloc (.cells #[.int .i64 f, .int .i64 t] 55)) w1.heap.size 55 #[.int .i64 f, .int .i64 t]) := Blk.new _ _ _
  have g5 : Hid (w.grownBy (w1.alloc (.cells #[.int .i64 f, .int .i64 t] 55)) none) := kgrow_none g (World.grownBy_alloc _ _ _)
  clear d0 d1 d2
  go_upto_region 1 with fail
  generalize w1.alloc (.cells #[.int .i64 f, .int .i64 t] 55) = W5 at M5 g5 ⊢
  have d0 : W5.cell? ⟨b0, 0, none⟩ = some (.pointer (some ⟨p, 0, none⟩)) := (B0.grown g5.out (by simp)).cell 0
  have d3 : W5.cell? ⟨b3, 0, none⟩ = some (.bool c) := (B3.grown g5.out (by simp)).cell 0
  obtain ⟨m, sl, hP, hM, hR, hp1, hm1⟩ := HN.out.up g5.out
  have P1 : W5.cell? ⟨p, 1, none⟩ = some (.map (some m)) := hP.cell 1
  have n0 := M5.out.cell 0
  have n1 := M5.out.cell 1
  have hM' : CutMap W5.drew m k x.C := hM.grown (kgrow_drew W5) (by simp)
  obtain ⟨wa, ha, hCa, hga⟩ := put_way hM' HK.out hf ht
  obtain ⟨wd, hd, hCd, hgd⟩ := del_way hM' hf ht 0
  have KA := Lib.hid (NetAt.turn (x := x) hP.drew hM' hR hp1 hm1 hCa hga)
  have KD := Lib.hid (NetAt.turn (x := x) hP.drew hM' hR hp1 hm1 hCd hgd)
  clear hP hM hR hM' hCa hga hCd hgd B0 B1 B2 B3 M5
  have G6 := Lib.hid ((Fr.of_grown (B := B) (T := netObj) g5.out).drew)
  cases c
  · go_wp2_with fail
    apply wp_meet
    · intro Q8 hQ8
      go_region_law_o (refine step_delete_eq rfl (.tmp 19) (.tmp 20) 44 55 rfl _ _ _ (by simp [Act.eval]) (by simp [Act.eval]) hd ?_)
      all_goals exact hQ8
    go_wp2_with fail
    go_end0
    exact ⟨rfl, KD.out.1.mono (Nat.le_succ k), G6.out.trans KD.out.2⟩
  · go_wp2_with fail
    apply wp_meet
    · intro Q8 hQ8
      go_region
      all_goals exact hQ8
    go_wp2_with fail
    go_end0
    exact ⟨rfl, KA.out.1, G6.out.trans KA.out.2⟩

/-- Four new blocks. -/
def w4c (w : World) (PV : Value) (f t : Int) (c : Bool) : World := (((w.alloc (.cells #[PV] 24)).alloc (.cells #[.int .i64 f] 3)).alloc (.cells #[.int .i64 t] 3)).alloc (.cells #[.bool c] 4)
theorem w4c_grown (w : World) (PV : Value) (f t : Int) (c : Bool) : w.grownBy (w4c w PV f t c) none := kgrow_none (kgrow_none (kgrow_none (World.grownBy_alloc _ _ _) (World.grownBy_alloc _ _ _)) (World.grownBy_alloc _ _ _)) (World.grownBy_alloc _ _ _)
theorem w4c_b0 (w : World) (PV : Value) (f t : Int) (c : Bool) : Blk (w4c w PV f t c) w.heap.size 24 #[PV] := (((Blk.new _ _ _).alloc _).alloc _).alloc _
theorem w4c_b1 (w : World) (PV : Value) (f t : Int) (c : Bool) : Blk (w4c w PV f t c) (w.heap.size + 1) 3 #[.int .i64 f] := ((Blk.new' (by simp) _ _).alloc _).alloc _
theorem w4c_b2 (w : World) (PV : Value) (f t : Int) (c : Bool) : Blk (w4c w PV f t c) (w.heap.size + 2) 3 #[.int .i64 t] := (Blk.new' (by simp) _ _).alloc _
theorem w4c_b3 (w : World) (PV : Value) (f t : Int) (c : Bool) : Blk (w4c w PV f t c) (w.heap.size + 3) 4 #[.bool c] := Blk.new' (by simp) _ _
def w4s (w : World) (PV : Value) (f t : Int) (s : ByteArray) : World := (((w.alloc (.cells #[PV] 24)).alloc (.cells #[.int .i64 f] 3)).alloc (.cells #[.int .i64 t] 3)).alloc (.cells #[.string s] 9)
theorem w4s_grown (w : World) (PV : Value) (f t : Int) (s : ByteArray) : w.grownBy (w4s w PV f t s) none := kgrow_none (kgrow_none (kgrow_none (World.grownBy_alloc _ _ _) (World.grownBy_alloc _ _ _)) (World.grownBy_alloc _ _ _)) (World.grownBy_alloc _ _ _)
theorem w4s_b0 (w : World) (PV : Value) (f t : Int) (s : ByteArray) : Blk (w4s w PV f t s) w.heap.size 24 #[PV] := (((Blk.new _ _ _).alloc _).alloc _).alloc _
theorem w4s_b1 (w : World) (PV : Value) (f t : Int) (s : ByteArray) : Blk (w4s w PV f t s) (w.heap.size + 1) 3 #[.int .i64 f] := ((Blk.new' (by simp) _ _).alloc _).alloc _
theorem w4s_b2 (w : World) (PV : Value) (f t : Int) (s : ByteArray) : Blk (w4s w PV f t s) (w.heap.size + 2) 3 #[.int .i64 t] := (Blk.new' (by simp) _ _).alloc _
theorem w4s_b3 (w : World) (PV : Value) (f t : Int) (s : ByteArray) : Blk (w4s w PV f t s) (w.heap.size + 3) 9 #[.string s] := Blk.new' (by simp) _ _

set_option maxRecDepth 100000 in
set_option maxHeartbeats 2000000 in
/-- Cut, whatever its steps do. -/
theorem cut_of (PV : Value) (f t : Int) (c : Bool) (er : Int) (w : World) (Z : World → Prop) (hPV : (∃ p, PV = .pointer (some ⟨p, 0, none⟩)) ∨ PV = .pointer none)
    (T : Calls Try.prog 26 #[.func (Fn.func 38) #[] #[.pointer (some ⟨w.heap.size, 0, none⟩), .pointer (some ⟨w.heap.size + 1, 0, none⟩), .pointer (some ⟨w.heap.size + 2, 0, none⟩), .pointer (some ⟨w.heap.size + 3, 0, none⟩)]]
      ((((w.alloc (.cells #[PV] 24)).alloc (.cells #[.int .i64 f] 3)).alloc (.cells #[.int .i64 t] 3)).alloc (.cells #[.bool c] 4)) fun e w' => e = .returned (.int .i64 er) ∧ Z w') :
    Calls Try.prog 20 #[PV, .int .i64 f, .int .i64 t, .bool c] w fun e w' => e = .returned (.int .i64 er) ∧ Z w' := by
  have hmf : ∀ (fn : Fn) (first cap : Array Value) (w : World), (Instr.makeFunc fn first cap).run Try.prog w = .ok (.func fn first cap) w := fun _ _ _ _ => rfl
  have T := Lib.hid T
  rcases hPV with ⟨p, rfl⟩ | rfl
  · go_enter Try.func20, Try.ntmps20
    go_wp2_with fail
    refine T.out.mono ?_
    rintro e w1 ⟨rfl, h⟩
    have H := Lib.hid h
    clear h
    go_wp2_with fail
    go_ret
    exact ⟨rfl, H.out⟩
  · go_enter Try.func20, Try.ntmps20
    go_wp2_with fail
    refine T.out.mono ?_
    rintro e w1 ⟨rfl, h⟩
    have H := Lib.hid h
    clear h
    go_wp2_with fail
    go_ret
    exact ⟨rfl, H.out⟩

theorem cut_no (PV : Value) (f t : Int) (c : Bool) (w : World) (hPV : (∃ p, PV = .pointer (some ⟨p, 0, none⟩)) ∨ PV = .pointer none)
    (hnb : ∀ W, w.grownBy W none → Calls Try.prog 28 #[PV, .int .i64 f, .int .i64 t] W fun e w' => e = gaveUp 1 ∧ W.grownBy w' none) :
    Calls Try.prog 20 #[PV, .int .i64 f, .int .i64 t, .bool c] w fun e w' => e = .returned (.int .i64 1) ∧ w.grownBy w' none := by
  refine cut_of PV f t c 1 w (fun w' => w.grownBy w' none) hPV ?_
  have h3 := w4c_grown w PV f t c
  have b0 := (w4c_b0 w PV f t c).alloc (.cells #[.int .i64 0] 33)
  have b1 := (w4c_b1 w PV f t c).alloc (.cells #[.int .i64 0] 33)
  have b2 := (w4c_b2 w PV f t c).alloc (.cells #[.int .i64 0] 33)
  show Calls _ _ _ (w4c w PV f t c) _
  generalize w4c w PV f t c = w4 at *
  exact tried_none _ _ w w4 1 (fun _ => rfl) h3 (cutstep_no _ _ _ _ PV f t _ b0 b1 b2 (hnb _ (kgrow_none h3 (World.grownBy_alloc _ _ _))))

/-- Cut, of a net. -/
theorem cut_any {B p k : Nat} {x : N8} {w : World} (hN : NetAt B p k w x) (f t : Int) (c : Bool) (hk : k < maxLen) (hf : (Lit.int .i64 f).wf = true) (ht : (Lit.int .i64 t).wf = true) :
    Calls Try.prog 20 #[.pointer (some ⟨p, 0, none⟩), .int .i64 f, .int .i64 t, .bool c] w fun e w' => e = .returned (.int .i64 (cutP x f t c).1) ∧ NetAt B p (k + 1) w' (cutP x f t c).2 ∧ Fr B netObj w w' := by
  cases hw : wayB x.n f t with
  | false =>
    have e1 : cutP x f t c = (1, x) := by unfold cutP; rw [hw]; rfl
    rw [e1]
    refine (cut_no (.pointer (some ⟨p, 0, none⟩)) f t c w (Or.inl ⟨p, rfl⟩) (fun W hW => ?_)).mono ?_
    · obtain ⟨m, sl, h2, _⟩ := hN.up hW
      refine (between_any p x.n f t W (h2.cell 0)).mono ?_
      rintro e w' ⟨h | h, g⟩
      · rw [hw] at h; cases h.1
      · exact ⟨h.2, g⟩
    · rintro e w' ⟨rfl, hg⟩
      exact ⟨rfl, (hN.up hg).mono (Nat.le_succ k), Fr.of_grown hg⟩
  | true =>
    have e1 : cutP x f t c = (0, { x with C := cutC x.C f t c }) := by unfold cutP; rw [hw]; rfl
    rw [e1]
    refine cut_of (.pointer (some ⟨p, 0, none⟩)) f t c 0 w (fun w' => NetAt B p (k + 1) w' { x with C := cutC x.C f t c } ∧ Fr B netObj w w') (Or.inl ⟨p, rfl⟩) ?_
    have h3 := w4c_grown w (.pointer (some ⟨p, 0, none⟩)) f t c
    have b0 := (w4c_b0 w (.pointer (some ⟨p, 0, none⟩)) f t c).alloc (.cells #[.int .i64 0] 33)
    have b1 := (w4c_b1 w (.pointer (some ⟨p, 0, none⟩)) f t c).alloc (.cells #[.int .i64 0] 33)
    have b2 := (w4c_b2 w (.pointer (some ⟨p, 0, none⟩)) f t c).alloc (.cells #[.int .i64 0] 33)
    have b3 := (w4c_b3 w (.pointer (some ⟨p, 0, none⟩)) f t c).alloc (.cells #[.int .i64 0] 33)
    show Calls _ _ _ (w4c w (.pointer (some ⟨p, 0, none⟩)) f t c) _
    generalize w4c w (.pointer (some ⟨p, 0, none⟩)) f t c = w4 at *
    refine tried_net _ _ w w4 B p (k + 1) _ 0 (fun _ => rfl) h3 ?_
    refine (cutstep_ok _ _ _ _ B p k x f t c _ b0 b1 b2 b3 (hN.up (kgrow_none h3 (World.grownBy_alloc _ _ _))) hw hk hf ht).mono ?_
    rintro e w' ⟨rfl, h⟩
    exact ⟨rfl, h⟩

set_option maxRecDepth 100000 in
set_option maxHeartbeats 2000000 in
/-- Send, where there is no such way. -/
theorem send_no (PV : Value) (f t : Int) (s : ByteArray) (w : World) (hPV : (∃ p, PV = .pointer (some ⟨p, 0, none⟩)) ∨ PV = .pointer none)
    (hnb : ∀ W, w.grownBy W none → Calls Try.prog 28 #[PV, .int .i64 f, .int .i64 t] W fun e w' => e = gaveUp 1 ∧ W.grownBy w' none) :
    Calls Try.prog 10 #[PV, .int .i64 f, .int .i64 t, .string s] w fun e w' => e = .returned (.int .i64 1) ∧ w.grownBy w' none := by
  have hmf : ∀ (fn : Fn) (first cap : Array Value) (w : World), (Instr.makeFunc fn first cap).run Try.prog w = .ok (.func fn first cap) w := fun _ _ _ _ => rfl
  have h3 := w4s_grown w PV f t s
  have b0 := (w4s_b0 w PV f t s).alloc (.cells #[.int .i64 0] 33)
  have b1 := (w4s_b1 w PV f t s).alloc (.cells #[.int .i64 0] 33)
  have b2 := (w4s_b2 w PV f t s).alloc (.cells #[.int .i64 0] 33)
  have b3 := (w4s_b3 w PV f t s).alloc (.cells #[.int .i64 0] 33)
  have h5 := kgrow_none h3 (World.grownBy_alloc (w4s w PV f t s) (.cells #[.int .i64 0] 33) none)
  have T := Lib.hid (tried_none 27 _ w (w4s w PV f t s) 1 (fun _ => rfl) h3 (sendstep_arg _ _ _ _ PV f t s _ b0 b1 b2 b3 (fun W hW => hnb _ (kgrow_none h5 hW))))
  clear h3 b0 b1 b2 b3 h5 hnb
  unfold w4s at T
  rcases hPV with ⟨p, rfl⟩ | rfl
  · go_enter Try.func10, Try.ntmps10
    go_wp2_with fail
    refine T.out.mono ?_
    rintro e w1 ⟨rfl, h⟩
    have H := Lib.hid h
    clear h
    go_wp2_with fail
    go_ret
    exact ⟨rfl, H.out⟩
  · go_enter Try.func10, Try.ntmps10
    go_wp2_with fail
    refine T.out.mono ?_
    rintro e w1 ⟨rfl, h⟩
    have H := Lib.hid h
    clear h
    go_wp2_with fail
    go_ret
    exact ⟨rfl, H.out⟩
end Go.Proofs.Ytlogdbbaefpapaa
