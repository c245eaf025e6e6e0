/-
  Package skip, part 6: New; Lanes; what a nil list tells.
-/
import Derived.Test.YtmagkkkecihgmaaGreatSp5
import Derived.Test.YtmagkkkecihgmaaGreatBkInts1
import Derived.Lib.BufferMore
namespace Go.Proofs.YtmagkkkecihgmaaGreat
open Go.RowKit

/-- A list with nothing in it. -/
def newC : Array Value := #[.string ⟨#[]⟩, .string ⟨#[]⟩, .pointer none, .pointer none, .pointer none, .pointer none, .pointer none, .pointer none, .pointer none, .pointer none, .pointer none, .pointer none, .pointer none, .pointer none, .int .i64 0, .int .i64 0, .int .i64 0, .int .i64 0, .int .i64 0, .int .i64 0, .int .i64 0, .int .i64 0, .int .i64 0, .int .i64 0, .int .i64 0, .int .i64 0, .int .i64 0, .bool false]
theorem skz_new {w : World} {p B : Nat} (h : Blk w p 36 newC) (hB : B ≤ p) : SkZ B p w ⟨[], false⟩ [] := by
  refine ⟨rfl, ⟨⟨newC, h, rfl, rfl, rfl, fun t ht => ?_, fun t ht => ?_, rfl, rfl⟩, fun i m hm => by simp at hm, ⟨hB, fun m hm => by simp at hm⟩, fun i j m n hm => by simp at hm⟩, fun i j m n _ hm => by simp at hm, fun m hm => by simp at hm⟩
  · have e : lnk [] 0 t = none := by rw [lnk_pos (Or.inl rfl)]; rfl
    rw [e]
    unfold newC
    rcases t with _ | _ | _ | _ | _ | _ | _ | _ | _ | _ | _ | _ | t <;> first | rfl | omega
  · unfold newC
    rcases t with _ | _ | _ | _ | _ | _ | _ | _ | _ | _ | _ | _ | t <;> first | rfl | omega
set_option maxHeartbeats 400000 in
theorem sknew_any (w : World) : Calls Tryz.prog 5 #[] w fun e w' => e = .returned (.pointer (some ⟨w.heap.size, 0, none⟩)) ∧ w' = w.alloc (.cells newC 36) := by
  go_enter Tryz.func5, Tryz.ntmps5
  go_wp2_with fail
  go_ret
  exact ⟨rfl, rfl⟩

set_option maxRecDepth 100000 in
set_option maxHeartbeats 1000000 in
theorem clone_ints (a : Addr) (n c : Nat) (M : List Int) (w : World) (hn : M.length = n) (hM : ∀ j u, (elInts.row M)[j]? = some u → w.cell? (a.add j) = some u) (hl : n ≤ 100000) :
    Calls Tryz.prog 38 #[.slice (some a) n c] w fun e w' => ∃ v, e = .returned v ∧ Own elInts w' w.heap.size 3 v M ∧ w.grownBy w' none := by
  have G0 := World.grownBy_alloc w (.cells #[] 3) none
  have hown : Own elInts (w.alloc (.cells #[] 3)) w.heap.size 3 (.slice (some ⟨w.heap.size, 0, none⟩) 0 0) [] := ⟨rfl, Or.inr ⟨w.heap.size, 0, #[], rfl, Nat.le_refl _, heap_alloc_new w _, Nat.le_refl _, Nat.zero_le _, rfl, rfl⟩⟩
  obtain ⟨v', w2, hr, ho, hg, _, _⟩ := app_own (P := Tryz.prog) elInts 68 3 (.int .i64 0) 8 underInts infoInts rfl (w.alloc (.cells #[] 3)) w.heap.size (.slice (some ⟨w.heap.size, 0, none⟩) 0 0) [] M hown (some a) c (fun h => by cases h) (fun a' ha j u hu => by
    cases ha
    exact G0.cell (hM j u hu) (by simp)) (by unfold maxLen; simp; omega) (by simp; omega) G0.size n hn.symm
  have HR := fun ty => Lib.hid (hr ty)
  have HO := Lib.hid ho
  have HG := Lib.hid (grow_k G0 hown (Nat.le_refl _) hg)
  clear hr ho hg hown G0 hM hn
  have hnil : ∀ W, (binOp .eql 68 (.slice (some a) n c) (.slice none 0 0)).run Tryz.prog W = .ok (.bool false) W := fun W => Lib.run_eql_slice_some_nil W _ _ _ underInts
  go_enter Tryz.func38, Tryz.ntmps38
  go_wp2_with (at_builtin; refine wpList_append_k _ w2 rfl (.tmp 5) (.tmp 6) 68 rfl _ _ v' rfl rfl (fun ty => (HR ty).out) ?_)
  go_ret
  exact ⟨v', rfl, by simpa using HO.out, HG.out⟩

theorem lanesTo_at (L : List P10) (k j : Nat) (hj : j < k) : (lanesTo L k)[j]? = some (cntL L j : Int) := by
  unfold lanesTo
  rw [List.getElem?_map, List.getElem?_range hj]
  rfl
theorem row_ints (M : List Int) (j : Nat) : (elInts.row M)[j]? = (M[j]?).map (fun x => .int .i64 x) := by
  have e : elInts.row M = M.map (fun x => .int .i64 x) := by
    unfold El.row elInts
    induction M with
    | nil => rfl
    | cons x M ih => rw [List.flatMap_cons, ih]; rfl
  rw [e, List.getElem?_map]
set_option maxRecDepth 100000 in
set_option maxHeartbeats 1000000 in
theorem sklanes_any {B p : Nat} {s : S10} {w : World} {Z : List Z10} (h : SkZ B p w s Z) :
    Calls Tryz.prog 21 #[.pointer (some ⟨p, 0, none⟩)] w fun e w' => ∃ v, e = .returned v ∧ Own elInts w' w.heap.size 3 v (lanesTo s.L (hiL s.L)) ∧ w.grownBy w' none := by
  have hc := fun t ht => h.at_.hd.count (t := t) ht
  have hhi := hiL_le s.L
  obtain ⟨h1, h2⟩ := hiL_spec s.L
  obtain ⟨L, hL⟩ : ∃ L, s.L = L := ⟨_, rfl⟩
  rw [hL] at hc hhi h1 h2 ⊢
  obtain ⟨r, hr⟩ : ∃ r, hiL L = r := ⟨_, rfl⟩
  rw [hr] at hhi h1 h2 ⊢
  have CL := Lib.hid (clone_ints ⟨p, 14, none⟩ r 12 (lanesTo L r) w (lanesTo_length _ _) (fun j u hu => by
    rw [row_ints] at hu
    obtain ⟨x, hx, rfl⟩ := Option.map_eq_some_iff.1 hu
    have hj := (List.getElem?_eq_some_iff.1 hx).1
    rw [lanesTo_length] at hj
    rw [lanesTo_at L r j hj] at hx
    cases hx
    rw [Addr.add_lit]
    exact hc j (by omega)) (by omega))
  have Hc := Lib.hid hc
  have Hhi := Lib.hid hhi
  have H1 := Lib.hid h1
  have H2 := Lib.hid h2
  clear h hL hr hc hhi h1 h2
  go_enter Tryz.func21, Tryz.ntmps21
  go_wp2_with fail
  go_loopw [3] (fun s3 wr => ∃ k : Nat, s3 = .int .i64 (k : Int) ∧ Hid (k ≤ r) ∧ wr = w) (fun s3 _ => 12 - (intOf s3).toNat)
  case atStart => exact ⟨0, rfl, Lib.hid (Nat.zero_le _), rfl⟩
  case round =>
    obtain ⟨k, rfl, hk, rfl⟩ := hrel
    have hk1 := hk.out
    have hk2 := Hhi.out
    by_cases hl : k < r
    · have c0 := Hc.out k (by omega)
      have g0 := H1.out k hl
      have g1 : (k : Int) < 12 := by omega
      have g2 : (0 : Int) < (cntL L k : Int) := by omega
      have hk3 : Hid (k + 1 ≤ r) := hl
      generalize cntL L k = x at *
      clear hk1 hk2 hl hk
      go_wp2_with fail
      go_roundw
      case rel => exact ⟨k + 1, by go_num, hk3, by first | rfl | trivial⟩
      case measure => simp [intOf]; omega
    · obtain rfl : k = r := by omega
      by_cases h12 : k < 12
      · have c0 := Hc.out k h12
        have g0 := H2.out h12
        rw [g0] at c0
        have g1 : (k : Int) < 12 := by omega
        have g3 : (0 : Int) ≤ (k : Int) := by omega
        have g4 : (k : Int) ≤ 12 := by omega
        have g5 : k ≤ 12 := by omega
        clear hk1 hk2 hl hk g0
        go_wp2_with fail
        refine CL.out.mono ?_
        rintro e w1 ⟨v, rfl, HO, HG⟩
        go_wp2_with fail
        go_ret
        exact ⟨v, rfl, HO, HG⟩
      · obtain rfl : k = 12 := by omega
        clear hk1 hk2 hl hk h12
        go_wp2_with fail
        refine CL.out.mono ?_
        rintro e w1 ⟨v, rfl, HO, HG⟩
        go_wp2_with fail
        go_ret
        exact ⟨v, rfl, HO, HG⟩

/-! ### A nil list -/
set_option maxHeartbeats 400000 in
theorem skget_nil (key : ByteArray) (w : World) : Calls Tryz.prog 8 #[.pointer none, .string key] w fun e w' => e = .returned (.tuple #[.string ⟨#[]⟩, .int .i64 22]) ∧ w' = w := by
  go_enter Tryz.func8, Tryz.ntmps8
  go_wp2_with fail
  go_ret2
  exact ⟨rfl, rfl⟩
set_option maxHeartbeats 400000 in
theorem sklast_nil (key : ByteArray) (w : World) : Calls Tryz.prog 14 #[.pointer none, .string key] w fun e w' => e = .returned (.tuple #[.string ⟨#[]⟩, .string ⟨#[]⟩, .bool false]) ∧ w' = w := by
  go_enter Tryz.func14, Tryz.ntmps14
  go_wp2_with fail
  go_ret3
  exact ⟨rfl, rfl⟩
set_option maxHeartbeats 400000 in
theorem skcount_nil (w : World) : Calls Tryz.prog 19 #[.pointer none] w fun e w' => e = .returned (.int .i64 0) ∧ w' = w := by
  go_enter Tryz.func19, Tryz.ntmps19
  go_wp2_with fail
  go_ret
  exact ⟨rfl, rfl⟩
set_option maxHeartbeats 400000 in
theorem skbytes_nil (w : World) : Calls Tryz.prog 25 #[.pointer none] w fun e w' => e = .returned (.int .i64 0) ∧ w' = w := by
  go_enter Tryz.func25, Tryz.ntmps25
  go_wp2_with fail
  go_ret
  exact ⟨rfl, rfl⟩
set_option maxHeartbeats 400000 in
theorem sklanes_nil (w : World) : Calls Tryz.prog 21 #[.pointer none] w fun e w' => e = .returned (.slice none 0 0) ∧ w' = w := by
  go_enter Tryz.func21, Tryz.ntmps21
  go_wp2_with fail
  go_ret
  exact ⟨rfl, rfl⟩
set_option maxHeartbeats 400000 in
theorem sksteps_nil (key : ByteArray) (w : World) : Calls Tryz.prog 17 #[.pointer none, .string key] w fun e w' => e = .returned (.int .i64 0) ∧ w' = w := by
  go_enter Tryz.func17, Tryz.ntmps17
  go_wp2_with fail
  go_ret
  exact ⟨rfl, rfl⟩
set_option maxHeartbeats 400000 in
theorem skfrozen_nil (w : World) : Calls Tryz.prog 20 #[.pointer none] w fun e w' => e = .returned (.bool false) ∧ w' = w := by
  go_enter Tryz.func20, Tryz.ntmps20
  go_wp2_with fail
  go_ret
  exact ⟨rfl, rfl⟩
set_option maxHeartbeats 400000 in
theorem skfreeze_nil (w : World) : Calls Tryz.prog 16 #[.pointer none] w fun e w' => e = .returned (.tuple #[]) ∧ w' = w := by
  go_enter Tryz.func16, Tryz.ntmps16
  go_wp2_with fail
  go_end0
  exact ⟨rfl, rfl⟩
end Go.Proofs.YtmagkkkecihgmaaGreat
