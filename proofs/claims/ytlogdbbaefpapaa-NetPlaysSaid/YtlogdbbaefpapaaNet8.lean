/-
  Package net, part 8: Peek, Deliver.
-/
import Derived.Test.YtlogdbbaefpapaaNet7
namespace Go.Proofs.Ytlogdbbaefpapaa
open Go.RowKit Go.Maps

theorem results_tmp4 {fn : Func} {t u v x : Tmp} (h : fn.results = #[.tmp t, .tmp u, .tmp v, .tmp x]) (tmps : Array Value) (P : Program) (w : World) :
    (results fn tmps).run P w = .ok (.tuple #[tmps.getD t undef, tmps.getD u undef, tmps.getD v undef, tmps.getD x undef]) w := by
  simp [results, h]
/-- What Peek and Deliver answer. -/
def ansP (er : Int) (m : Int × Int × ByteArray) : Ending := .returned (.tuple #[.int .i64 m.1, .int .i64 m.2.1, .string m.2.2, .int .i64 er])

/-- Steps that set a message, tried: 'Z' is what is kept besides. -/
theorem tried_msg (fn : Nat) (caps : Array Value) (w4 : World) (q : Nat) (m : Int × Int × ByteArray) (er : Int) (Z : World → Prop) (hcf : ∀ w, (callFunc fn caps).run Try.prog w = .ok (.enter fn caps) w) (hq : q < w4.heap.size)
    (hZ : ∀ w', Z w' → Blk w' w4.heap.size 33 #[.int .i64 0] → Z (w'.setCell ⟨w4.heap.size, 0, none⟩ (.int .i64 er)))
    (hc : Calls Try.prog fn caps (w4.alloc (.cells #[.int .i64 0] 33)) fun e w' => e = endP er ∧ Blk w' q 58 (msgC m).toArray ∧ Blk w' w4.heap.size 33 #[.int .i64 0] ∧ Z w') :
    Calls Try.prog 26 #[.func (Fn.func fn) #[] caps] w4 fun e w' => e = .returned (.int .i64 er) ∧ Blk w' q 58 (msgC m).toArray ∧ Z w' := by
  refine (tried_any fn caps w4 (fun y w' => y = er ∧ Blk w' q 58 (msgC m).toArray ∧ Blk w' w4.heap.size 33 #[.int .i64 0] ∧ Z w') hcf (hc.mono ?_)).mono ?_
  · rintro e w' ⟨he, hb, hs, hz⟩
    exact ⟨er, endP_cases er he, hs, rfl, hb, hs, hz⟩
  · rintro e w' ⟨y, w1, rfl, ⟨rfl, hb, hs, hz⟩, rfl⟩
    exact ⟨rfl, hb.far (p := ⟨w4.heap.size, 0, none⟩) (by dsimp only; omega) _, hZ _ hz hs⟩

set_option maxRecDepth 100000 in
set_option maxHeartbeats 2000000 in
/-- Peek, whatever its steps do. -/
theorem peek_of (PV : Value) (i : Int) (m : Int × Int × ByteArray) (er : Int) (w : World) (Z : World → Prop)
    (T : Calls Try.prog 26 #[.func (Fn.func 32) #[] #[.pointer (some ⟨w.heap.size, 0, none⟩), .pointer (some ⟨w.heap.size + 1, 0, none⟩), .pointer (some ⟨w.heap.size + 2, 0, none⟩)]]
      (((w.alloc (.cells #[PV] 24)).alloc (.cells #[.int .i64 i] 3)).alloc (.cells #[.int .i64 0, .int .i64 0, .string ⟨#[]⟩] 58)) fun e w' => e = .returned (.int .i64 er) ∧ Blk w' (w.heap.size + 2) 58 (msgC m).toArray ∧ Z w')
    (hZ : ∀ w' n, Z w' → Z (w'.drewN n)) (hPV : (∃ p, PV = .pointer (some ⟨p, 0, none⟩)) ∨ PV = .pointer none) :
    Calls Try.prog 12 #[PV, .int .i64 i] w fun e w' => e = ansP er m ∧ Z w' := by
  have hmf : ∀ (fn : Fn) (first cap : Array Value) (w : World), (Instr.makeFunc fn first cap).run Try.prog w = .ok (.func fn first cap) w := fun _ _ _ _ => rfl
  have T := Lib.hid T
  obtain ⟨a, b, s⟩ := m
  have HZ := Lib.hid hZ
  clear hZ
  rcases hPV with ⟨p, rfl⟩ | rfl
  · go_enter Try.func12, Try.ntmps12
    go_wp2_with fail
    refine T.out.mono ?_
    rintro e w1 ⟨rfl, hb, hz⟩
    have c0 : w1.cell? ⟨w.heap.size + 2, 0, none⟩ = some (.int .i64 a) := hb.cell 0
    have c1 : w1.cell? ⟨w.heap.size + 2, 1, none⟩ = some (.int .i64 b) := hb.cell 1
    have c2 : w1.cell? ⟨w.heap.size + 2, 2, none⟩ = some (.string s) := hb.cell 2
    have K := Lib.hid hz
    clear hb hz
    go_wp2_with fail
    go_quiet (fail)
    go_wp2_with fail
    refine bodyPost_ret (results_tmp4 rfl _ _ _) rfl ?_
    exact ⟨rfl, HZ.out _ _ K.out⟩
  · go_enter Try.func12, Try.ntmps12
    go_wp2_with fail
    refine T.out.mono ?_
    rintro e w1 ⟨rfl, hb, hz⟩
    have c0 : w1.cell? ⟨w.heap.size + 2, 0, none⟩ = some (.int .i64 a) := hb.cell 0
    have c1 : w1.cell? ⟨w.heap.size + 2, 1, none⟩ = some (.int .i64 b) := hb.cell 1
    have c2 : w1.cell? ⟨w.heap.size + 2, 2, none⟩ = some (.string s) := hb.cell 2
    have K := Lib.hid hz
    clear hb hz
    go_wp2_with fail
    go_quiet (fail)
    go_wp2_with fail
    refine bodyPost_ret (results_tmp4 rfl _ _ _) rfl ?_
    exact ⟨rfl, HZ.out _ _ K.out⟩
set_option maxRecDepth 100000 in
set_option maxHeartbeats 2000000 in
/-- Deliver, whatever its steps do. -/
theorem deliver_of (PV : Value) (i : Int) (m : Int × Int × ByteArray) (er : Int) (w : World) (Z : World → Prop)
    (T : Calls Try.prog 26 #[.func (Fn.func 34) #[] #[.pointer (some ⟨w.heap.size, 0, none⟩), .pointer (some ⟨w.heap.size + 1, 0, none⟩), .pointer (some ⟨w.heap.size + 2, 0, none⟩)]]
      (((w.alloc (.cells #[PV] 24)).alloc (.cells #[.int .i64 i] 3)).alloc (.cells #[.int .i64 0, .int .i64 0, .string ⟨#[]⟩] 58)) fun e w' => e = .returned (.int .i64 er) ∧ Blk w' (w.heap.size + 2) 58 (msgC m).toArray ∧ Z w')
    (hZ : ∀ w' n, Z w' → Z (w'.drewN n)) (hPV : (∃ p, PV = .pointer (some ⟨p, 0, none⟩)) ∨ PV = .pointer none) :
    Calls Try.prog 14 #[PV, .int .i64 i] w fun e w' => e = ansP er m ∧ Z w' := by
  have hmf : ∀ (fn : Fn) (first cap : Array Value) (w : World), (Instr.makeFunc fn first cap).run Try.prog w = .ok (.func fn first cap) w := fun _ _ _ _ => rfl
  have T := Lib.hid T
  obtain ⟨a, b, s⟩ := m
  have HZ := Lib.hid hZ
  clear hZ
  rcases hPV with ⟨p, rfl⟩ | rfl
  · go_enter Try.func14, Try.ntmps14
    go_wp2_with fail
    refine T.out.mono ?_
    rintro e w1 ⟨rfl, hb, hz⟩
    have c0 : w1.cell? ⟨w.heap.size + 2, 0, none⟩ = some (.int .i64 a) := hb.cell 0
    have c1 : w1.cell? ⟨w.heap.size + 2, 1, none⟩ = some (.int .i64 b) := hb.cell 1
    have c2 : w1.cell? ⟨w.heap.size + 2, 2, none⟩ = some (.string s) := hb.cell 2
    have K := Lib.hid hz
    clear hb hz
    go_wp2_with fail
    go_quiet (fail)
    go_wp2_with fail
    refine bodyPost_ret (results_tmp4 rfl _ _ _) rfl ?_
    exact ⟨rfl, HZ.out _ _ K.out⟩
  · go_enter Try.func14, Try.ntmps14
    go_wp2_with fail
    refine T.out.mono ?_
    rintro e w1 ⟨rfl, hb, hz⟩
    have c0 : w1.cell? ⟨w.heap.size + 2, 0, none⟩ = some (.int .i64 a) := hb.cell 0
    have c1 : w1.cell? ⟨w.heap.size + 2, 1, none⟩ = some (.int .i64 b) := hb.cell 1
    have c2 : w1.cell? ⟨w.heap.size + 2, 2, none⟩ = some (.string s) := hb.cell 2
    have K := Lib.hid hz
    clear hb hz
    go_wp2_with fail
    go_quiet (fail)
    go_wp2_with fail
    refine bodyPost_ret (results_tmp4 rfl _ _ _) rfl ?_
    exact ⟨rfl, HZ.out _ _ K.out⟩

/-- Three new blocks. -/
def w3 (w : World) (PV : Value) (i : Int) : World := ((w.alloc (.cells #[PV] 24)).alloc (.cells #[.int .i64 i] 3)).alloc (.cells #[.int .i64 0, .int .i64 0, .string ⟨#[]⟩] 58)
theorem w3_grown (w : World) (PV : Value) (i : Int) : w.grownBy (w3 w PV i) none := kgrow_none (kgrow_none (World.grownBy_alloc _ _ _) (World.grownBy_alloc _ _ _)) (World.grownBy_alloc _ _ _)
theorem w3_size (w : World) (PV : Value) (i : Int) : (w3 w PV i).heap.size = w.heap.size + 3 := by simp [w3]
theorem w3_b0 (w : World) (PV : Value) (i : Int) : Blk (w3 w PV i) w.heap.size 24 #[PV] := ((Blk.new _ _ _).alloc _).alloc _
theorem w3_b1 (w : World) (PV : Value) (i : Int) : Blk (w3 w PV i) (w.heap.size + 1) 3 #[.int .i64 i] := (Blk.new' (by simp) _ _).alloc _
theorem w3_b2 (w : World) (PV : Value) (i : Int) : Blk (w3 w PV i) (w.heap.size + 2) 58 #[.int .i64 0, .int .i64 0, .string ⟨#[]⟩] := Blk.new' (by simp) _ _

theorem peek_gen (PV : Value) (i er : Int) (o : Option (Int × Int × ByteArray)) (w : World) (hne : er ≠ 0) (hPV : (∃ p, PV = .pointer (some ⟨p, 0, none⟩)) ∨ PV = .pointer none)
    (hnb : ∀ W, w.grownBy W none → Calls Try.prog 33 #[PV, .int .i64 i] W fun e w' => ((∃ m, o = some m ∧ e = .returned (msgV m)) ∨ (o = none ∧ e = gaveUp er)) ∧ W.grownBy w' none) :
    Calls Try.prog 12 #[PV, .int .i64 i] w fun e w' => e = ansP (erOf er o) (o.getD noMsg) ∧ w.grownBy w' none := by
  refine peek_of PV i (o.getD noMsg) (erOf er o) w (fun w' => w.grownBy w' none) ?_ (fun w' n h => only_drewN h n) hPV
  have h3 := w3_grown w PV i
  have hz := w3_size w PV i
  have b0 := (w3_b0 w PV i).alloc (.cells #[.int .i64 0] 33)
  have b1 := (w3_b1 w PV i).alloc (.cells #[.int .i64 0] 33)
  have b2 := (w3_b2 w PV i).alloc (.cells #[.int .i64 0] 33)
  show Calls _ _ _ (w3 w PV i) _
  generalize w3 w PV i = w4 at *
  have h5 : w.grownBy (w4.alloc (.cells #[.int .i64 0] 33)) none := kgrow_none h3 (World.grownBy_alloc _ _ _)
  refine tried_msg _ _ w4 (w.heap.size + 2) (o.getD noMsg) (erOf er o) (fun w' => w.grownBy w' none) (fun _ => rfl) (by omega) (fun w' hw _ => grown_set hw (by dsimp only; omega) _) ?_
  refine (peekstep_any _ _ _ PV i er o _ b0 b1 b2 hne (hnb _ h5)).mono ?_
  rintro e w' ⟨he, hb, hg⟩
  exact ⟨he, hb, (Blk.new w4 33 #[.int .i64 0]).grown hg (fun e => by have := Option.some.inj e; omega), grow_down h5 hg (by omega)⟩

/-- Peek, of a net. -/
theorem peek_any {B p k : Nat} {x : N8} {w : World} (hN : NetAt B p k w x) (hn : x.n ≠ 0) (i : Int) :
    Calls Try.prog 12 #[.pointer (some ⟨p, 0, none⟩), .int .i64 i] w fun e w' => e = ansP (peekP x i).1 (peekP x i).2 ∧ w.grownBy w' none := by
  refine (peek_gen (.pointer (some ⟨p, 0, none⟩)) i 5 (atP x i) w (by decide) (Or.inl ⟨p, rfl⟩) (fun W hW => number_net (hN.fr (Fr.of_grown (B := B) (T := fun _ => false) hW) (fun _ _ => rfl)) hn i)).mono ?_
  rintro e w' ⟨rfl, hg⟩
  refine ⟨?_, hg⟩
  unfold peekP
  cases atP x i <;> rfl

theorem deliver_no (PV : Value) (i er : Int) (w : World) (hne : er ≠ 0) (hPV : (∃ p, PV = .pointer (some ⟨p, 0, none⟩)) ∨ PV = .pointer none)
    (hnb : ∀ W, w.grownBy W none → Calls Try.prog 33 #[PV, .int .i64 i] W fun e w' => e = gaveUp er ∧ W.grownBy w' none) :
    Calls Try.prog 14 #[PV, .int .i64 i] w fun e w' => e = ansP er noMsg ∧ w.grownBy w' none := by
  refine deliver_of PV i noMsg er w (fun w' => w.grownBy w' none) ?_ (fun w' n h => only_drewN h n) hPV
  have h3 := w3_grown w PV i
  have hz := w3_size w PV i
  have b0 := (w3_b0 w PV i).alloc (.cells #[.int .i64 0] 33)
  have b1 := (w3_b1 w PV i).alloc (.cells #[.int .i64 0] 33)
  have b2 := (w3_b2 w PV i).alloc (.cells #[.int .i64 0] 33)
  show Calls _ _ _ (w3 w PV i) _
  generalize w3 w PV i = w4 at *
  have h5 : w.grownBy (w4.alloc (.cells #[.int .i64 0] 33)) none := kgrow_none h3 (World.grownBy_alloc _ _ _)
  refine tried_msg _ _ w4 (w.heap.size + 2) noMsg er (fun w' => w.grownBy w' none) (fun _ => rfl) (by omega) (fun w' hw _ => grown_set hw (by dsimp only; omega) _) ?_
  refine (deliverstep_no _ _ _ PV i er _ b0 b1 (hnb _ h5)).mono ?_
  rintro e w' ⟨rfl, hg⟩
  refine ⟨?_, b2.grown hg (by simp), (Blk.new w4 33 #[.int .i64 0]).grown hg (by simp), kgrow_none h5 hg⟩
  unfold endP
  rw [if_neg hne]

/-- Deliver, of a net. -/
theorem deliver_any {B p k : Nat} {x : N8} {w : World} (hN : NetAt B p k w x) (hn : x.n ≠ 0) (i : Int) (hB : B ≤ w.heap.size) :
    Calls Try.prog 14 #[.pointer (some ⟨p, 0, none⟩), .int .i64 i] w fun e w' => e = ansP (peekP x i).1 (peekP x i).2 ∧ NetAt B p k w' (deliverP x i) ∧ Fr B netObj w w' := by
  have fr : ∀ {W W' : World}, NetAt B p k W x → W.grownBy W' none → NetAt B p k W' x := fun h hW => h.fr (Fr.of_grown (B := B) (T := fun _ => false) hW) (fun _ _ => rfl)
  by_cases ho : i < 0 ∨ (x.L.length : Int) ≤ i
  · have ha := atP_out ho
    refine (deliver_no (.pointer (some ⟨p, 0, none⟩)) i 5 w (by decide) (Or.inl ⟨p, rfl⟩) (fun W hW => (number_net (fr hN hW) hn i).mono ?_)).mono ?_
    · rintro e w' ⟨⟨m, h, _⟩ | ⟨_, he⟩, hg⟩
      · rw [ha] at h; cases h
      · exact ⟨he, hg⟩
    · rintro e w' ⟨rfl, hg⟩
      unfold peekP deliverP
      rw [ha]
      exact ⟨rfl, fr hN hg, Fr.of_grown hg⟩
  · obtain ⟨j, rfl⟩ : ∃ j : Nat, i = (j : Int) := ⟨i.toNat, by omega⟩
    have hj : j < x.L.length := by omega
    have hm : x.L[j]? = some x.L[j] := List.getElem?_eq_getElem hj
    generalize x.L[j] = m at hm
    have e1 : peekP x (j : Int) = (0, m) := by unfold peekP; rw [atP_in hm]
    have e2 : deliverP x (j : Int) = outP x (j : Int) := by unfold deliverP; rw [atP_in hm]
    rw [e1, e2]
    refine deliver_of (.pointer (some ⟨p, 0, none⟩)) j m 0 w (fun w' => NetAt B p k w' (outP x (j : Int)) ∧ Fr B netObj w w') ?_ (fun w' n h => ⟨h.1.fr (Fr.of_grown (B := B) (T := fun _ => false) (only_drewN (kgrow_refl w' none) n)) (fun _ _ => rfl), h.2.drewN n⟩) (Or.inl ⟨p, rfl⟩)
    have h3 := w3_grown w (.pointer (some ⟨p, 0, none⟩)) j
    have hz := w3_size w (.pointer (some ⟨p, 0, none⟩)) j
    have b0 := (w3_b0 w (.pointer (some ⟨p, 0, none⟩)) j).alloc (.cells #[.int .i64 0] 33)
    have b1 := (w3_b1 w (.pointer (some ⟨p, 0, none⟩)) j).alloc (.cells #[.int .i64 0] 33)
    have b2 := (w3_b2 w (.pointer (some ⟨p, 0, none⟩)) j).alloc (.cells #[.int .i64 0] 33)
    show Calls _ _ _ (w3 w (.pointer (some ⟨p, 0, none⟩)) j) _
    generalize w3 w (.pointer (some ⟨p, 0, none⟩)) j = w4 at *
    have h5 : w.grownBy (w4.alloc (.cells #[.int .i64 0] 33)) none := kgrow_none h3 (World.grownBy_alloc _ _ _)
    refine tried_msg _ _ w4 (w.heap.size + 2) m 0 (fun w' => NetAt B p k w' (outP x (j : Int)) ∧ Fr B netObj w w') (fun _ => rfl) (by omega) (fun w' hw hb => ⟨hw.1.far hb rfl _ _, hw.2.setCell (Or.inl (by dsimp only; omega)) _⟩) ?_
    refine (deliverstep_ok _ _ _ B p k x j m w _ b0 b1 b2 hN hn hm h5 (by omega) (by omega) (by omega) (by omega)).mono ?_
    rintro e w' ⟨rfl, h1, h2, h4⟩
    exact ⟨rfl, h2, h4.blk (Blk.new w4 33 #[.int .i64 0]) rfl, h1, (Fr.of_grown h5).trans h4⟩
end Go.Proofs.Ytlogdbbaefpapaa
