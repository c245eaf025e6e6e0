/-
  Package skip, part 13: From of a nil list; the laws' first call.
-/
import Derived.Test.YtmagkkkecihgmaaGreatSp10
import Derived.Test.YtmagkkkecihgmaaGreatSp12
namespace Go.Proofs.YtmagkkkecihgmaaGreat
open Go.RowKit Go.Shelf


set_option maxRecDepth 100000 in
set_option maxHeartbeats 2000000 in
theorem from1_nil {n : Nat} {w0 : World} (_key : ByteArray) (b0 b1 : Nat) (h0 : b0 < w0.heap.size) (c0 : w0.cell? ⟨b0, 0, none⟩ = some (.pointer none)) :
    SeqStopsK Fence.wide n Tryz.prog 103 #[.pointer (some ⟨b0, 0, none⟩), .pointer (some ⟨b1, 0, none⟩)] (fun x : Nat => #[Value.pointer (some ⟨x, 0, none⟩)]) (Below 0) (fun ys => ys = []) (fun _ => False) 0 w0 := by
  intro l J Jx W hW hJ _ hY hJ0
  have c := (hW.cell (p := ⟨b0, 0, none⟩) h0).trans c0
  refine callsIn_of_wp Tryz.func103 rfl trivial ?_ rfl
  simp only [Tryz.ntmps103, List.size_toArray, List.length_cons, List.length_nil, Nat.reduceAdd, Nat.reduceSub, Array.replicate_succ, Array.replicate_zero, List.push_toArray, List.append_toArray, List.nil_append, List.cons_append]
  gi_wp2
  refine bodyPost_ret (results_none rfl _ _ _) rfl ?_
  exact ⟨⟨_, rfl⟩, hJ0⟩

set_option maxRecDepth 100000 in
set_option maxHeartbeats 4000000 in
theorem skfrom_nil (key : ByteArray) (most : Int) (w : World) :
    Calls Tryz.prog 10 #[.pointer none, .string key, .int .i64 most] w fun e w' => e = .returned (.slice none 0 0) ∧ w.grownBy w' none := by
  have CF := fun W => Lib.hid (from_any none key W)
  refine (callsIn_wide (n := 5)).1 ?_
  refine callsIn_of_wp_marks Tryz.func10 rfl trivial ?_ rfl
  simp only [Tryz.ntmps10, List.size_toArray, List.length_cons, List.length_nil, Nat.reduceAdd, Nat.reduceSub, Array.replicate_succ, Array.replicate_zero, List.push_toArray, List.append_toArray, List.nil_append, List.cons_append]
  gi_wp2_with (refine ⟨trivial, ?_⟩; gi_at_call 35; refine (callsIn_wide.2 (CF _).out).mono ?_; rintro e w' ⟨rfl, rfl⟩)
  have D1 : Blk ((((w.alloc (.cells #[.int .i64 most] 3)).alloc (.cells #[.slice none 0 0] 60)).alloc (.cells #[.pointer none] 24)).alloc (.cells #[.string key] 9)) (w.heap.size + 1) 60 #[.slice none 0 0] := ((Blk.new' (by simp) _ _).alloc _).alloc _
  have D2 : Blk ((((w.alloc (.cells #[.int .i64 most] 3)).alloc (.cells #[.slice none 0 0] 60)).alloc (.cells #[.pointer none] 24)).alloc (.cells #[.string key] 9)) (w.heap.size + 1 + 1) 24 #[.pointer none] := (Blk.new' (by simp) _ _).alloc _
  have g4 : w.grownBy ((((w.alloc (.cells #[.int .i64 most] 3)).alloc (.cells #[.slice none 0 0] 60)).alloc (.cells #[.pointer none] 24)).alloc (.cells #[.string key] 9)) none := gnone (gnone (gnone (World.grownBy_alloc _ _ _) (World.grownBy_alloc _ _ _)) (World.grownBy_alloc _ _ _)) (World.grownBy_alloc _ _ _)
  have hs4 : ((((w.alloc (.cells #[.int .i64 most] 3)).alloc (.cells #[.slice none 0 0] 60)).alloc (.cells #[.pointer none] 24)).alloc (.cells #[.string key] 9)).heap.size = w.heap.size + 4 := by simp
  generalize ((((w.alloc (.cells #[.int .i64 most] 3)).alloc (.cells #[.slice none 0 0] 60)).alloc (.cells #[.pointer none] 24)).alloc (.cells #[.string key] 9)) = w4 at *
  have hb4 := below_g g4
  have hS := from1_nil (n := 4) (w0 := w4) key (w.heap.size + 1 + 1) (w.heap.size + 1 + 1 + 1) (by omega) (D2.cell 0)
  clear CF D2
  refine wpIn_rangeFunc_ownF (α := Nat) rfl (by decide) (gf := 103) (lb := #[.pointer (some ⟨w.heap.size + 1 + 1, 0, none⟩), .pointer (some ⟨w.heap.size + 1 + 1 + 1, 0, none⟩)]) rfl trivial (enters_of Tryz.func103 (by kernel_rfl) rfl)
    hS belowK_t (belowK_b (by omega)) (Below.refl _ _) (fun _ => rfl)
    (fun pre W => Blk W (w.heap.size + 1) 60 #[.slice none 0 0] ∧ Below w.heap.size w W)
    (fun _ _ _ => False)
    (fun pre A C row hs hg hr => ⟨hs.1.grown hg (blk_row hs.1 hr), hs.2.grown hg hs.2.size (fun k hk => by have := (hr k hk).1; omega)⟩)
    (fun c pre A C row hs hg hr => hs)
    ⟨D1, hb4⟩
    (fun x => { tmps := #[.pointer none, .string key, .int .i64 most, undef, undef, .pointer (some ⟨w.heap.size, 0, none⟩), .slice none 0 0, .pointer (some ⟨w.heap.size + 1, 0, none⟩), .pointer (some ⟨x, 0, none⟩), .pointer none, .string key, .func (.func 103) #[] #[.pointer (some ⟨w.heap.size + 1 + 1, 0, none⟩), .pointer (some ⟨w.heap.size + 1 + 1 + 1, 0, none⟩)], .pointer (some ⟨x, 0, none⟩), undef, undef, undef, undef, undef, undef, undef, undef, undef, undef, undef, undef, undef, undef, undef, undef, undef], defers := [] }) ?assign ?body ?done ?stop
  case assign =>
    intro l x W K hK
    have hsem := @Oper.semAt_some
    gi_wp2
    exact hK
  case body =>
    intro l pre x W _ hlt
    omega
  case done =>
    rintro D xs W hD rfl ⟨h1, h5⟩ hK
    have hc := h1.cell 0
    gi_wp2
    refine ⟨by simp, .inl ⟨_, _, rfl, run_takeDeferred hK, ?_⟩⟩
    exact ⟨_, results_tmp rfl _ _ _, rfl, g_below (h5.trans (belowK_b (w := w) (Nat.le_refl _) W D _ _ (by omega) hK rfl rfl))⟩
  case stop =>
    rintro D c xs W hD hpre h hK
    exact h.elim

/-! ### The first call -/
def tA : ByteArray := ⟨#[97]⟩
def tB : ByteArray := ⟨#[98]⟩
def tC : ByteArray := ⟨#[99]⟩
def t1 : ByteArray := ⟨#[49]⟩
def t2 : ByteArray := ⟨#[50]⟩
def tX : ByteArray := ⟨#[120]⟩
def sB : S10 := ⟨[(tB, t2, 3)], false⟩
def sAB : S10 := ⟨[(tA, t1, 1), (tB, t2, 3)], false⟩
theorem put_1 : putL ⟨[], false⟩ tB t2 3 = (0, sB) := by rfl
theorem put_2 : putL sB tA t1 0 = (0, sAB) := by rfl
theorem put_3 : putL sAB tA tX 1 = (23, sAB) := by rfl
theorem get_1 : getL sAB.L tA = (t1, 0) := by rfl
theorem steps_1 : stepsL sAB.L tC = 1 := by rfl
theorem hi_1 : hiL sAB.L = 3 := by rfl

/-- What turned were new blocks alone. -/
theorem tu_new {S : Nat → Prop} {w w1 w2 : World} (h : w.grownBy w1 none) (g : Tu S w1 w2) (hS : ∀ k, S k → w.heap.size ≤ k) : w.grownBy w2 none :=
  ⟨g.os.trans h.os, g.tape.trans h.tape, g.output.trans h.output, Nat.le_trans h.size g.size, fun k hk _ => (g.block k (Nat.lt_of_lt_of_le hk h.size) (fun s => by have := hS k s; omega)).trans (h.block k hk (by simp))⟩
set_option maxRecDepth 100000 in
set_option maxHeartbeats 4000000 in
theorem alive10_any (w : World) : Calls Tryz.prog 4 #[] w fun e w' => e = .returned (.bool true) ∧ w.grownBy w' none := by
  have C0 := Lib.hid (sknew_any w)
  have C1 := fun (Z : List Z10) (s : S10) (W : World) (h : SkZ w.heap.size w.heap.size W s Z) (hs : w.heap.size ≤ W.heap.size) (hL : s.L.length ≤ 100000) (k v : ByteArray) (t : Int) => Lib.hid (skput_any h k v t hs hL)
  have et : (t1.toList == [49]) = true := by rw [Lib.toList_data]; rfl
  go_enter Tryz.func4, Tryz.ntmps4
  go_wp2_with fail
  refine C0.out.mono ?_
  rintro e w1 ⟨rfl, rfl⟩
  have hZ := skz_new (B := w.heap.size) (Blk.new w 36 newC) (Nat.le_refl _)
  have hg := World.grownBy_alloc w (.cells newC 36) none
  generalize w.alloc (.cells newC 36) = w1 at *
  have G1 := Lib.hid hg
  have D1 := (C1 _ _ _ hZ hg.size (by decide) tB t2 3).out
  rw [put_1] at D1
  have HD1 := Lib.hid D1
  clear hZ hg C0 D1
  go_wp2_with fail
  refine HD1.out.mono ?_
  rintro e w2 ⟨rfl, Z2, hZ, hT, -⟩
  have G2 := Lib.hid (tu_new G1.out hT (fun k hk => by rcases hk with rfl | ⟨m, hm, _⟩; exact Nat.le_refl _; simp at hm))
  have F2 : Hid (∀ k, Foot w.heap.size Z2 k → w.heap.size ≤ k) := fun k hk => (hZ.foot_lt hk).1
  have D1 := (C1 _ _ _ hZ G2.out.size (by decide) tA t1 0).out
  rw [put_2] at D1
  replace HD1 := Lib.hid D1
  clear hZ hT D1 G1
  go_wp2_with fail
  refine HD1.out.mono ?_
  rintro e w3 ⟨rfl, Z3, hZ, hT, -⟩
  have G3 := Lib.hid (tu_new G2.out hT F2.out)
  have F3 : Hid (∀ k, Foot w.heap.size Z3 k → w.heap.size ≤ k) := fun k hk => (hZ.foot_lt hk).1
  have D1 := (C1 _ _ _ hZ G3.out.size (by decide) tA tX 1).out
  rw [put_3] at D1
  replace HD1 := Lib.hid D1
  clear hZ hT D1 G2 F2
  go_wp2_with fail
  refine HD1.out.mono ?_
  rintro e w4 ⟨rfl, Z4, hZ, hT, -⟩
  have G4 := Lib.hid (tu_new G3.out hT F3.out)
  have D2 := skget_any hZ tA (by decide)
  rw [get_1] at D2
  have HD2 := Lib.hid D2
  have HZ := Lib.hid hZ
  clear hZ hT HD1 G3 F3 D2 C1
  go_wp2_with fail
  refine HD2.out.mono ?_
  rintro e w5 ⟨rfl, g5⟩
  have G5 := Lib.hid (gnone G4.out g5)
  have HZ5 := Lib.hid (HZ.out.up g5)
  have HC := Lib.hid (skcount_any HZ5.out)
  have D3 := sksteps_any HZ5.out tC (by decide)
  rw [steps_1] at D3
  have HD3 := Lib.hid D3
  clear g5 HZ HD2 D3 G4
  go_wp2_with fail
  refine HC.out.mono ?_
  rintro e w' ⟨rfl, rfl⟩
  go_wp2_with fail
  refine HD3.out.mono ?_
  rintro e w6 ⟨rfl, g6⟩
  have G6 := Lib.hid (gnone G5.out g6)
  have D4 := sklanes_any (HZ5.out.up g6)
  rw [hi_1] at D4
  have HD4 := Lib.hid D4
  clear g6 G5 HD3 HC D4
  go_wp2_with fail
  refine HD4.out.mono ?_
  rintro e w7 ⟨v, rfl, hv, g7⟩
  obtain ⟨av, cv, rfl⟩ := hv.slice
  rw [lanesTo_length]
  have G7 := gnone G6.out g7
  clear hv g7 G6
  go_wp2_with fail
  go_ret
  exact ⟨rfl, G7⟩
end Go.Proofs.YtmagkkkecihgmaaGreat
