/-
  The book of lists, Keys: marks, copies, are two alike? (Written by wip/gen/gen_bk.py.)
-/
import Derived.Test.YtmagkkkecihgmaaGreatBkN
import Derived.LoopTactic
import Derived.DeepKeys
namespace Go.Proofs.YtmagkkkecihgmaaGreat
open Go.RowKit

def elKeys : El (ByteArray × ByteArray) := ⟨fun x => [.string x.1, .string x.2], 2, by decide, fun _ => rfl, fun x u hu => by simp at hu; rcases hu with rfl | rfl <;> rfl, fun i k => (bname i k, ⟨#[]⟩)⟩
def okKeys (x : ByteArray × ByteArray) : Prop := x.1.size ≤ 9223372036854775807 ∧ x.2.size ≤ 9223372036854775807
theorem okmKeys (i start n : Nat) : ∀ x ∈ elKeys.marks i start n, okKeys x := by
  intro x hx
  obtain ⟨k, _, rfl⟩ := List.mem_map.1 hx
  exact ⟨by show (6 : Nat) ≤ _; decide, by show (0 : Nat) ≤ _; decide⟩
theorem infoKeys : (Tryz.prog.info? 78).map (fun i => (i.zero, i.size, i.bytes)) = some (some (.agg #[.string ⟨#[]⟩, .string ⟨#[]⟩]), elKeys.sz, 32) := by kernel_rfl
theorem underKeys : Tryz.prog.underlying 60 = some (.slice 78) := by kernel_rfl
set_option maxRecDepth 100000 in
set_option maxHeartbeats 1000000 in
theorem markKeys_any (i start n : Nat) (w : World) (hi : i ≤ 1000) (hn : start + n ≤ 1000000) :
    Calls Tryz.prog 125 #[.int .i64 (i : Int), .int .i64 (start : Int), .int .i64 (n : Int)] w fun e w' => ∃ v, e = .returned v ∧ Own elKeys w' w.heap.size 78 v (elKeys.marks i start n) ∧ w.grownBy w' none := by
  have a1 : (i : Int) ≤ 1000 := by omega
  have a2 : (start : Int) + (n : Int) ≤ 1000000 := by omega
  go_enter Tryz.func125, Tryz.ntmps125
  go_wp2_with fail
  go_loopw [7, 8] (fun o k wr => ∃ j : Nat, j ≤ n ∧ k = .int .i64 ((start : Int) + (j : Int)) ∧ Hid (Own elKeys wr w.heap.size 78 o (elKeys.marks i start j)) ∧ Hid (w.grownBy wr none)) (fun _ k _ => start + n - (intOf k).toNat)
  case atStart => exact ⟨0, by omega, by simp, World.ownsRow_nil _ _ _ _, grefl _ _⟩
  case round =>
    obtain ⟨j, hj, rfl, HN, HG⟩ := hrel
    by_cases hl : j < n
    · obtain ⟨ao, co, eo⟩ := HN.out.slice
      rw [El.marks_length] at eo
      subst eo
      have hl1 : (start : Int) + (j : Int) < (start : Int) + (n : Int) := by omega
      have hjn : j ≤ 1000000 := by omega
      have NM := fun W => Lib.hid (bname_any i (start + j) W hi (by omega))
      push_cast at NM
      clear hjn
      go_wp2_with fail
      refine (NM _).out.mono ?_
      rintro e w1 ⟨rfl, hb1⟩
      have HN1 := Lib.hid (HN.out.below hb1)
      have HG1 := Lib.hid (gnone HG.out (g_below hb1))
      clear hb1 NM
      have Ha : Own elKeys (w1.alloc (.cells #[.string (bname i (start + j)), .string ⟨#[]⟩] 78)) w.heap.size 78 (.slice ao j co) (elKeys.marks i start j) := World.ownsRow.alloc HN1.out _
      obtain ⟨v', w2, hr, hown, hgr, _, _⟩ := app_own (P := Tryz.prog) elKeys 60 78 (.agg #[.string ⟨#[]⟩, .string ⟨#[]⟩]) 32 underKeys infoKeys rfl (w1.alloc (.cells #[.string (bname i (start + j)), .string ⟨#[]⟩] 78)) w.heap.size (.slice ao j co) (elKeys.marks i start j) [elKeys.mark i (start + j)] Ha (some ⟨w1.heap.size, 0, none⟩) 1 (fun h => by cases h) (fun a ha j' u hu => by
        cases ha
        rw [El.row_one] at hu
        refine cells_new w1 78 [.string (bname i (start + j)), .string ⟨#[]⟩] j' u ?_
        skip
        exact hu) (by rw [El.marks_length]; unfold maxLen; simp; omega) (by rw [El.marks_length]; simp; omega) (Nat.le_trans HG1.out.size (by simp)) 1 rfl
      rw [← El.marks_succ] at hown
      have HR := fun ty => Lib.hid (hr ty)
      have HN2 := Lib.hid hown
      have HG2 := Lib.hid (grow_k (gnone HG1.out (World.grownBy_alloc w1 (.cells #[.string (bname i (start + j)), .string ⟨#[]⟩] 78) none)) Ha (Nat.le_refl _) hgr)
      clear hr hown hgr Ha HN HG HN1 HG1
      go_wp2_with (at_builtin; refine wpList_append_k _ w2 rfl (.tmp 17) (.tmp 22) 60 rfl _ _ v' rfl rfl (fun ty => (HR ty).out) ?_)
      go_roundw
      case rel => exact ⟨j + 1, by omega, by go_num, HN2, HG2⟩
      case measure => simp [intOf]; omega
    · obtain rfl : j = n := by omega
      go_wp2_with fail
      go_ret
      exact ⟨_, rfl, HN.out, HG.out⟩
theorem keysS2 (x y : ByteArray) (hx : x.size ≤ maxLen) (hy : y.size ≤ maxLen) : Tryz.prog.keyLits 2 78 [.string x, .string y] = some [.string x.data.toList, .string y.data.toList] := by
  have hc : Tryz.prog.cellsOf 9 = 1 := by kernel_rfl
  have r2 : List.range 2 = [0, 1] := rfl
  have hl : Tryz.prog.cellsOf 78 = 2 := by kernel_rfl
  unfold Program.keyLits
  rw [Tryz.underlying78]
  simp [hl, r2, hc, Program.keyLits, Tryz.underlying9, hx, hy]
theorem eqS2 (x y : ByteArray) (hx : x.size ≤ maxLen) (hy : y.size ≤ maxLen) (W : World) : (binOp .eql 78 (.agg #[.string x, .string y]) (.agg #[.string x, .string y])).run Tryz.prog W = .ok (.bool true) W := by
  rw [run_eql_struct]
  obtain ⟨r, hr, hiff⟩ := run_equalIn_deep (P := Tryz.prog) 9998 2 78 (by kernel_rfl) W 2 2 (.agg #[.string x, .string y]) (.agg #[.string x, .string y]) _ _ (by kernel_rfl) (by kernel_rfl) (keysS2 x y hx hy) (keysS2 x y hx hy)
  rw [show (10000 : Nat) = 9998 + 2 from rfl, hr]
  have : r = true := hiff.2 rfl
  subst this
  rfl

set_option maxRecDepth 100000 in
set_option maxHeartbeats 1000000 in
theorem sameKeys_any (A1 A2 : Option Addr) (n1 n2 c1 c2 B1 B2 : Nat) (L : List (ByteArray × ByteArray)) (w : World) (h1 : Own elKeys w B1 78 (.slice A1 n1 c1) L) (h2 : Own elKeys w B2 78 (.slice A2 n2 c2) L) (hL : L.length ≤ 1000000) (hok : ∀ x ∈ L, okKeys x) :
    Calls Tryz.prog 12 #[.slice A1 n1 c1, .slice A2 n2 c2] w fun e w' => e = .returned (.bool true) ∧ ∃ q, w' = w.drewN q := by
  have r1 := own_reads h1
  have r2 := own_reads h2
  obtain ⟨rfl, _, rd1⟩ := r1
  obtain ⟨rfl, _, rd2⟩ := r2
  have f1 := fun hn => Own.some_ h1 hn
  have f2 := fun hn => Own.some_ h2 hn
  obtain ⟨n, hn⟩ : ∃ n, n = L.length := ⟨_, rfl⟩
  have HL := Lib.hid hn
  rw [← hn] at f1 f2 hL ⊢
  have H1 := Lib.hid h1
  have H2 := Lib.hid h2
  have F1 := Lib.hid f1
  have F2 := Lib.hid f2
  have hL' : (n : Int) ≤ 1000000 := by omega
  clear h1 h2 rd1 rd2 f1 f2 hn
  go_enter Tryz.func12, Tryz.ntmps12
  go_wp2_with fail
  go_loopw [5] (fun i wr => ∃ k q : Nat, k ≤ n ∧ i = .int .i64 (k : Int) ∧ Hid (wr = w.drewN q)) (fun i _ => n - (intOf i).toNat)
  case atStart => exact ⟨0, 0, by omega, rfl, rfl⟩
  case round =>
    obtain ⟨k, q, hk, rfl, Hw⟩ := hrel
    by_cases hl : k < n
    · obtain ⟨g1, d1, cur1, e1, _⟩ := F1.out (by omega)
      obtain ⟨g2, d2, cur2, e2, _⟩ := F2.out (by omega)
      injection e1 with e1 e1b e1c
      injection e2 with e2 e2b e2c
      clear e1b e1c e2b e2c
      subst e1 e2
      have hkL : k < L.length := by rw [← HL.out]; exact hl
      obtain ⟨x, hx⟩ : ∃ x, L[k]? = some x := ⟨_, List.getElem?_eq_getElem hkL⟩
      have y0 : wr.cell? ⟨g1, k * 2, none⟩ = some (.string x.1) := by
        rw [Hw.out]
        have h9 := Own.cells (j := 0) H1.out hx (by decide) rfl
        rwa [show k * elKeys.sz + 0 = k * 2 from by show k * 2 + 0 = _; omega] at h9
      have y1 : wr.cell? ⟨g1, k * 2 + 1, none⟩ = some (.string x.2) := by
        rw [Hw.out]
        have h9 := Own.cells (j := 1) H1.out hx (by decide) rfl
        rwa [show k * elKeys.sz + 1 = k * 2 + 1 from by show k * 2 + 1 = _; omega] at h9
      have z0 : wr.cell? ⟨g2, k * 2, none⟩ = some (.string x.1) := by
        rw [Hw.out]
        have h9 := Own.cells (j := 0) H2.out hx (by decide) rfl
        rwa [show k * elKeys.sz + 0 = k * 2 from by show k * 2 + 0 = _; omega] at h9
      have z1 : wr.cell? ⟨g2, k * 2 + 1, none⟩ = some (.string x.2) := by
        rw [Hw.out]
        have h9 := Own.cells (j := 1) H2.out hx (by decide) rfl
        rwa [show k * elKeys.sz + 1 = k * 2 + 1 from by show k * 2 + 1 = _; omega] at h9
      have ox := hok x (List.mem_of_getElem? hx)
      obtain ⟨xa, xb⟩ := x
      have EQ := eqS2 xa xb ox.1 ox.2
      have hl1 : (k : Int) < (n : Int) := by omega
      clear hx hkL
      go_wp2_with fail
      go_quiet (fail)
      go_wp2_with fail
      go_roundw
      case rel => exact ⟨k + 1, _, by omega, by go_num, (by rw [Hw.out, World.drewN_drewN]; rfl)⟩
      case measure => simp [intOf]; omega
    · obtain rfl : k = n := by omega
      go_wp2_with fail
      go_ret
      exact ⟨rfl, q, Hw.out⟩
set_option maxRecDepth 100000 in
set_option maxHeartbeats 1000000 in
theorem copyKeys_any (A : Option Addr) (n c B : Nat) (L : List (ByteArray × ByteArray)) (w : World) (h : Own elKeys w B 78 (.slice A n c) L) (hL : L.length ≤ 1000000) :
    Calls Tryz.prog 36 #[.slice A n c] w fun e w' => ∃ A2 c2, e = .returned (.slice A2 n c2) ∧ Own elKeys w' w.heap.size 78 (.slice A2 n c2) L ∧ w.grownBy w' none := by
  obtain ⟨rfl, hA, hM⟩ := own_reads h
  obtain ⟨v', w2, hr, hown, hgr, _, _⟩ := app_own (P := Tryz.prog) elKeys 60 78 (.agg #[.string ⟨#[]⟩, .string ⟨#[]⟩]) 32 underKeys infoKeys rfl w w.heap.size (.slice none 0 0) [] L (World.ownsRow_nil _ _ _ _) A c hA hM (by unfold maxLen; simp; omega) (by simp; omega) (Nat.le_refl _) L.length rfl
  rw [List.nil_append] at hown
  obtain ⟨a2, c2, rfl⟩ := hown.slice
  have HO := Lib.hid hown
  have HG : Hid (w.grownBy w2 none) := hgr
  have HR := fun ty => Lib.hid (hr ty)
  clear h hA hM hr hown hgr hL
  generalize L.length = n at *
  go_enter Tryz.func36, Tryz.ntmps36
  go_wp2_with (at_builtin; refine wpList_append_k _ w2 rfl (.const (.slice none 0 0)) (.tmp 3) 60 rfl _ _ (.slice a2 n c2) rfl rfl (fun ty => (HR ty).out) ?_)
  go_ret
  exact ⟨_, _, rfl, HO.out, HG.out⟩
end Go.Proofs.YtmagkkkecihgmaaGreat
