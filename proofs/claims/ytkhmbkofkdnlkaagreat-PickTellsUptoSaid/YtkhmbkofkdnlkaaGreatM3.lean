/-
  Several texts in one: The book of lists, Reals: marks, copies, are two alike? (Written by wip/gen/gen_bk.py.)
  The landed package pick, part 5: Scores, the fullest level.
  The landed package pick, part 6: fullest; slices.Grow, slices.Concat; slices.MinFunc by number; due, reach.
  The landed package pick, part 7: slices.MinFunc by number; due, reach.
  The landed package pick, part 8: due, reach.
  The landed package pick, part 9: Pick.
  The laws of chapter 15: their first call.
  '<' of texts is the order of cmpT (no program is named).
  Slices of files, and a file, that came in: what a walk asks of them, out of how they read. No program is named.
  The document's own answer to chapter 15, part 1: Bytes, count, Overlap.
  The document's own answer to chapter 15, part 2: Scores.
-/
import Derived.Test.YtkhmbkofkdnlkaaGreatM1
import Derived.Test.YtkhmbkofkdnlkaaGreatM2
import Derived.Deep.QuietTactic
import Derived.LoopTactic
import Derived.DeepKeys
import Derived.Lib.AppendZerosOnto
import Derived.BigQuiet
import Derived.StillTailTactics
import Derived.Lib.Strings
import Derived.Lib.SmallJoins
import Derived.Deep.Slices
import Derived.Deep.Strs
namespace Go.Proofs.YtkhmbkofkdnlkaaGreat
open Go.RowKit

theorem flt_lt64 (n : Int) : floatOfInt .f64 n < 18446744073709551616 := by
  show Ieee.double.write (.number (decide (n < 0)) n.natAbs 0) < _
  exact (write_lt rfl).1
def elReals : El (Nat) := ⟨fun x => [.float .f64 x], 1, by decide, fun _ => rfl, fun x u hu => by simp at hu; subst hu; rfl, fun i k => floatOfInt .f64 (-1000000 * (i : Int) - (k : Int) - 7)⟩
def okReals (x : Nat) : Prop := x < 18446744073709551616
theorem okmReals (i start n : Nat) : ∀ x ∈ elReals.marks i start n, okReals x := by
  intro x hx
  obtain ⟨k, _, rfl⟩ := List.mem_map.1 hx
  exact flt_lt64 _
theorem infoReals : (Tryz.prog.info? 23).map (fun i => (i.zero, i.size, i.bytes)) = some (some (.float .f64 0), elReals.sz, 8) := by kernel_rfl
theorem underReals : Tryz.prog.underlying 43 = some (.slice 23) := by kernel_rfl
set_option maxRecDepth 100000 in
set_option maxHeartbeats 1000000 in
theorem markReals_any (i start n : Nat) (w : World) (hi : i ≤ 1000) (hn : start + n ≤ 1000000) :
    Calls Tryz.prog 130 #[.int .i64 (i : Int), .int .i64 (start : Int), .int .i64 (n : Int)] w fun e w' => ∃ v, e = .returned v ∧ Own elReals w' w.heap.size 23 v (elReals.marks i start n) ∧ w.grownBy w' none := by
  have a1 : (i : Int) ≤ 1000 := by omega
  have a2 : (start : Int) + (n : Int) ≤ 1000000 := by omega
  go_enter Tryz.func130, Tryz.ntmps130
  go_wp2_with fail
  go_loopw [7, 8] (fun o k wr => ∃ j : Nat, j ≤ n ∧ k = .int .i64 ((start : Int) + (j : Int)) ∧ Hid (Own elReals wr w.heap.size 23 o (elReals.marks i start j)) ∧ Hid (w.grownBy wr none)) (fun _ k _ => start + n - (intOf k).toNat)
  case atStart => exact ⟨0, by omega, by simp, World.ownsRow_nil _ _ _ _, grefl _ _⟩
  case round =>
    obtain ⟨j, hj, rfl, HN, HG⟩ := hrel
    by_cases hl : j < n
    · obtain ⟨ao, co, eo⟩ := HN.out.slice
      rw [El.marks_length] at eo
      subst eo
      have hl1 : (start : Int) + (j : Int) < (start : Int) + (n : Int) := by omega
      have hjn : j ≤ 1000000 := by omega
      obtain ⟨w1, hw1⟩ : ∃ w1, w1 = wr := ⟨_, rfl⟩
      have HN1 : Hid (Own elReals w1 w.heap.size 23 (.slice ao j co) (elReals.marks i start j)) := by rw [hw1]; exact HN
      have HG1 : Hid (w.grownBy w1 none) := by rw [hw1]; exact HG
      have Ha : Own elReals (w1.alloc (.cells #[.float .f64 (floatOfInt .f64 (-1000000 * (i : Int) - ((start : Int) + (j : Int)) - 7))] 23)) w.heap.size 23 (.slice ao j co) (elReals.marks i start j) := World.ownsRow.alloc HN1.out _
      obtain ⟨v', w2, hr, hown, hgr, _, _⟩ := app_own (P := Tryz.prog) elReals 43 23 (.float .f64 0) 8 underReals infoReals rfl (w1.alloc (.cells #[.float .f64 (floatOfInt .f64 (-1000000 * (i : Int) - ((start : Int) + (j : Int)) - 7))] 23)) w.heap.size (.slice ao j co) (elReals.marks i start j) [elReals.mark i (start + j)] Ha (some ⟨w1.heap.size, 0, none⟩) 1 (fun h => by cases h) (fun a ha j' u hu => by
        cases ha
        rw [El.row_one] at hu
        refine cells_new w1 23 [.float .f64 (floatOfInt .f64 (-1000000 * (i : Int) - ((start : Int) + (j : Int)) - 7))] j' u ?_
        have e1 : ((start + j : Nat) : Int) = (start : Int) + (j : Int) := by push_cast; rfl
        rw [show elReals.mark i (start + j) = floatOfInt .f64 (-1000000 * (i : Int) - ((start + j : Nat) : Int) - 7) from rfl, e1] at hu
        exact hu) (by rw [El.marks_length]; unfold maxLen; simp; omega) (by rw [El.marks_length]; simp; omega) (Nat.le_trans HG1.out.size (by simp)) 1 rfl
      rw [← El.marks_succ] at hown
      have HR := fun ty => Lib.hid (hr ty)
      have HN2 := Lib.hid hown
      have HG2 := Lib.hid (grow_k (gnone HG1.out (World.grownBy_alloc w1 (.cells #[.float .f64 (floatOfInt .f64 (-1000000 * (i : Int) - ((start : Int) + (j : Int)) - 7))] 23) none)) Ha (Nat.le_refl _) hgr)
      clear hr hown hgr Ha HN HG HN1 HG1
      subst hw1
      go_wp2_with (at_builtin; refine wpList_append_k _ w2 rfl (.tmp 17) (.tmp 24) 43 rfl _ _ v' rfl rfl (fun ty => (HR ty).out) ?_)
      go_roundw
      case rel => exact ⟨j + 1, by omega, by go_num, HN2, HG2⟩
      case measure => simp [intOf]; omega
    · obtain rfl : j = n := by omega
      go_wp2_with fail
      go_ret
      exact ⟨_, rfl, HN.out, HG.out⟩

set_option maxRecDepth 100000 in
set_option maxHeartbeats 1000000 in
theorem sameReals_any (A1 A2 : Option Addr) (n1 n2 c1 c2 B1 B2 : Nat) (L : List (Nat)) (w : World) (h1 : Own elReals w B1 23 (.slice A1 n1 c1) L) (h2 : Own elReals w B2 23 (.slice A2 n2 c2) L) (hL : L.length ≤ 1000000) (hok : ∀ x ∈ L, okReals x) :
    Calls Tryz.prog 10 #[.slice A1 n1 c1, .slice A2 n2 c2] w fun e w' => e = .returned (.bool true) ∧ ∃ q, w' = w.drewN q := by
  have r1 := own_reads h1
  have r2 := own_reads h2
  obtain ⟨rfl, _, rd1⟩ := r1
  obtain ⟨rfl, _, rd2⟩ := r2
  have f1 := fun hn => Own.some_ h1 hn
  have f2 := fun hn => Own.some_ h2 hn
  obtain ⟨n, hn⟩ : ∃ n, n = L.length := ⟨_, rfl⟩
  have HL := Lib.hid hn
  rw [← hn] at f1 f2 hL ⊢
  have H1 := Lib.hid h1
  have H2 := Lib.hid h2
  have F1 := Lib.hid f1
  have F2 := Lib.hid f2
  have hL' : (n : Int) ≤ 1000000 := by omega
  clear h1 h2 rd1 rd2 f1 f2 hn
  go_enter Tryz.func10, Tryz.ntmps10
  go_wp2_with fail
  go_loopw [5] (fun i wr => ∃ k q : Nat, k ≤ n ∧ i = .int .i64 (k : Int) ∧ Hid (wr = w.drewN q)) (fun i _ => n - (intOf i).toNat)
  case atStart => exact ⟨0, 0, by omega, rfl, rfl⟩
  case round =>
    obtain ⟨k, q, hk, rfl, Hw⟩ := hrel
    by_cases hl : k < n
    · obtain ⟨g1, d1, cur1, e1, _⟩ := F1.out (by omega)
      obtain ⟨g2, d2, cur2, e2, _⟩ := F2.out (by omega)
      injection e1 with e1 e1b e1c
      injection e2 with e2 e2b e2c
      clear e1b e1c e2b e2c
      subst e1 e2
      have hkL : k < L.length := by rw [← HL.out]; exact hl
      obtain ⟨x, hx⟩ : ∃ x, L[k]? = some x := ⟨_, List.getElem?_eq_getElem hkL⟩
      have y0 : wr.cell? ⟨g1, k, none⟩ = some (.float .f64 x) := by
        rw [Hw.out]
        have h9 := Own.cells (j := 0) H1.out hx (by decide) rfl
        rwa [show k * elReals.sz + 0 = k from by show k * 1 + 0 = _; omega] at h9
      have z0 : wr.cell? ⟨g2, k, none⟩ = some (.float .f64 x) := by
        rw [Hw.out]
        have h9 := Own.cells (j := 0) H2.out hx (by decide) rfl
        rwa [show k * elReals.sz + 0 = k from by show k * 1 + 0 = _; omega] at h9
      have hl1 : (k : Int) < (n : Int) := by omega
      have hox := hok x (List.mem_of_getElem? hx)
      have CS := fun W => Lib.hid (qsame_any x x hox hox W)
      rw [cmpN_self] at CS
      clear hx hkL hox
      go_wp2_with fail
      go_quiet (first | (go_at_call 33; refine Calls.quiet_of_same ((CS _).out.mono fun e w1 h => ⟨h.1, h.2.symm⟩)))
      go_wp2_with fail
      go_roundw
      case rel => exact ⟨k + 1, _, by omega, by go_num, (by rw [Hw.out, World.drewN_drewN]; rfl)⟩
      case measure => simp [intOf]; omega
    · obtain rfl : k = n := by omega
      go_wp2_with fail
      go_ret
      exact ⟨rfl, q, Hw.out⟩
set_option maxRecDepth 100000 in
set_option maxHeartbeats 1000000 in
theorem copyReals_any (A : Option Addr) (n c B : Nat) (L : List (Nat)) (w : World) (h : Own elReals w B 23 (.slice A n c) L) (hL : L.length ≤ 1000000) :
    Calls Tryz.prog 35 #[.slice A n c] w fun e w' => ∃ A2 c2, e = .returned (.slice A2 n c2) ∧ Own elReals w' w.heap.size 23 (.slice A2 n c2) L ∧ w.grownBy w' none := by
  obtain ⟨rfl, hA, hM⟩ := own_reads h
  obtain ⟨v', w2, hr, hown, hgr, _, _⟩ := app_own (P := Tryz.prog) elReals 43 23 (.float .f64 0) 8 underReals infoReals rfl w w.heap.size (.slice none 0 0) [] L (World.ownsRow_nil _ _ _ _) A c hA hM (by unfold maxLen; simp; omega) (by simp; omega) (Nat.le_refl _) L.length rfl
  rw [List.nil_append] at hown
  obtain ⟨a2, c2, rfl⟩ := hown.slice
  have HO := Lib.hid hown
  have HG : Hid (w.grownBy w2 none) := hgr
  have HR := fun ty => Lib.hid (hr ty)
  clear h hA hM hr hown hgr hL
  generalize L.length = n at *
  go_enter Tryz.func35, Tryz.ntmps35
  go_wp2_with (at_builtin; refine wpList_append_k _ w2 rfl (.const (.slice none 0 0)) (.tmp 3) 43 rfl _ _ (.slice a2 n c2) rfl rfl (fun ty => (HR ty).out) ?_)
  go_ret
  exact ⟨_, _, rfl, HO.out, HG.out⟩
end Go.Proofs.YtkhmbkofkdnlkaaGreat

namespace Go.Proofs.YtkhmbkofkdnlkaaGreat
open Go.RowKit

def scoresP (L : List FileM) (base ratio : Nat) : List Nat := (List.range 6).map (scoreP ((ofP L 0).length : Nat) (fun k => bytesP L (k : Nat)) base ratio)
theorem scoresP_len (L : List FileM) (base ratio : Nat) : (scoresP L base ratio).length = 6 := by simp [scoresP]
theorem scoresP_at (L : List FileM) (base ratio j : Nat) (h : j < 6) : (scoresP L base ratio)[j]? = some (scoreP ((ofP L 0).length : Nat) (fun k => bytesP L (k : Nat)) base ratio j) := by
  unfold scoresP
  rw [List.getElem?_map, List.getElem?_range h]
  rfl
theorem realRow_set (S : List Nat) (j : Nat) (x : Nat) : (elReals.row S).set j (.float .f64 x) = elReals.row (S.set j x) := by
  have h : ∀ S : List Nat, elReals.row S = S.map (Value.float .f64) := fun S => by
    induction S with
    | nil => rfl
    | cons y r ih =>
      have e : elReals.row (y :: r) = Value.float .f64 y :: elReals.row r := rfl
      rw [e, ih, List.map_cons]
  rw [h, h, List.map_set]
theorem own_setR {w : World} {B g c n j : Nat} {e : TypeId} {S : List Nat} (h : Own elReals w B e (.slice (some ⟨g, 0, none⟩) n c) S) (x : Nat) :
    Own elReals (w.setCell ⟨g, j, none⟩ (.float .f64 x)) B e (.slice (some ⟨g, 0, none⟩) n c) (S.set j x) ∧ w.grownBy (w.setCell ⟨g, j, none⟩ (.float .f64 x)) (some g) := by
  obtain ⟨hn, _, _⟩ := own_reads h
  subst hn
  have h1 := World.ownsRow.stored h j (.float .f64 x)
  rw [realRow_set] at h1
  refine ⟨?_, h1.2⟩
  unfold Own
  rw [List.length_set]
  exact h1.1
theorem own_cellR {w : World} {B g c n j x : Nat} {e : TypeId} {S : List Nat} (h : Own elReals w B e (.slice (some ⟨g, 0, none⟩) n c) S) (hx : S[j]? = some x) : w.cell? ⟨g, j, none⟩ = some (.float .f64 x) := by
  have := Own.cells (j := 0) (u := .float .f64 x) h hx (by decide) rfl
  rwa [show j * elReals.sz + 0 = j by show j * 1 + 0 = j; omega] at this
set_option maxRecDepth 100000 in
theorem pratio_any (a b : Int) (w : World) : Calls Tryz.prog 21 #[.int .i64 a, .int .i64 b] w fun e w' => ∃ z, e = .returned (.float .f64 z) ∧ SameF z (fq (floatOfInt .f64 a) (floatOfInt .f64 b)) ∧ z < 18446744073709551616 ∧ w.grownBy w' none := by
  refine (fratio_any a b w).mono ?_
  intro e w' h
  unfold RatP at h
  unfold fq
  cases hq : floatBits .quo .f64 (floatOfInt .f64 a) (floatOfInt .f64 b) with
  | some r =>
    rw [hq] at h
    obtain ⟨h1, rfl⟩ := h
    exact ⟨r, h1, Or.inl rfl, quo_lt hq, grefl _ _⟩
  | none =>
    rw [hq] at h
    obtain ⟨z, h1, h2, h3, h4⟩ := h
    exact ⟨z, h1, Or.inr ⟨h2.out, nanW_is⟩, h3, g_below h4⟩
set_option maxRecDepth 100000 in
set_option maxHeartbeats 4000000 in
theorem pscores_any (A : Option Addr) (n c : Nat) (L : List FileM) (base ratio : Nat) (w : World) (hI : FilesAt w A n L) (hn : n ≤ 1000000) (hb64 : base < 18446744073709551616) :
    Calls Tryz.prog 6 #[.slice A n c, .float .f64 base, .float .f64 ratio] w fun e w' => ∃ g S, e = .returned (.slice (some ⟨g, 0, none⟩) 6 6) ∧ Own elReals w' w.heap.size 23 (.slice (some ⟨g, 0, none⟩) 6 6) S ∧ SameL S (scoresP L base ratio) ∧ (∀ x ∈ S, x < 18446744073709551616) ∧ w.grownBy w' none := by
  obtain ⟨i0, hi0, hz0, hz1, hz2⟩ := info_parts infoReals
  have CO := fun W (h : w.grownBy W none) => Lib.hid (pof_any A n c L 0 W (hI.below (below_g h)) hn)
  have CB := fun W (h : w.grownBy W none) (k : Int) => Lib.hid (pbytes_any A n c L k W (hI.below (below_g h)) hn)
  have CR := fun W => Lib.hid (pratio_any ((ofP L 0).length : Nat) 4 W)
  have hst := run_store_f64P
  obtain ⟨sc, hsc⟩ : ∃ sc, sc = scoreP ((ofP L 0).length : Nat) (fun k => bytesP L (k : Nat)) base ratio := ⟨_, rfl⟩
  have SC0 : Hid (sc 0 = fq (floatOfInt .f64 ((ofP L 0).length : Nat)) (floatOfInt .f64 4)) := Lib.hid (by rw [hsc]; rfl)
  have SC1 : Hid (∀ k, sc (k + 1) = fq (floatOfInt .f64 (bytesP L ((k + 1 : Nat) : Int))) (roomP base ratio k)) := Lib.hid (by rw [hsc]; intro k; rfl)
  have SCL : Hid (∀ S : List Nat, S.length = 6 → (∀ j, j < 6 → SameF (S.getD j 0) (sc j)) → SameL S (scoresP L base ratio)) := Lib.hid fun S h1 h2 => ⟨by rw [h1, scoresP_len], fun j x y hx hy => by
    have hj : j < 6 := by rw [← h1]; exact (List.getElem?_eq_some_iff.1 hx).1
    rw [scoresP_at L base ratio j hj, ← hsc] at hy
    cases hy
    have := h2 j hj
    rwa [List.getD_eq_getElem?_getD, hx] at this⟩
  generalize scoresP L base ratio = TS at *
  clear hsc hI
  go_enter Tryz.func6, Tryz.ntmps6
  go_wp2_with (at_make; refine wpList_make_full _ rfl (.const (.int .i64 6)) (.const (.int .i64 6)) 43 rfl w.heap.size 23 i0 (.float .f64 0) 1 Tryz.underlying43 hi0 hz0 hz1 .i64 .i64 _ _ 6 rfl rfl rfl rfl ?b2 ?b3 ?b4 ?_)
  case b2 => rw [hz2]; omega
  case b3 => unfold maxLen; omega
  case b4 => exact Nat.le_refl _
  intro w2 hown hgr
  have hmade : (madeCells #[Value.float .f64 0] (6 * 1)).toList = elReals.row (List.replicate 6 0) := toList_madeCells_one _ _
  have hown : Own elReals w2 w.heap.size 23 (.slice (some ⟨w.heap.size, 0, none⟩) 6 6) (List.replicate 6 0) := by unfold Own; rw [← hmade]; exact hown
  have HG2 := Lib.hid hgr
  have HO2 := Lib.hid hown
  clear hown hgr hmade
  go_wp2_with fail
  refine (CO w2 HG2.out).out.mono ?_
  rintro e w3 ⟨v3, rfl, ho3, hg3⟩
  obtain ⟨a3, c3, rfl⟩ := ho3.slice
  have HG3 := Lib.hid (gnone HG2.out hg3)
  have HO3 := Lib.hid (HO2.out.below (below_g hg3))
  clear ho3 hg3 HO2 CO
  go_wp2_with fail
  refine (CR w3).out.mono ?_
  rintro e w4 ⟨z, rfl, hz, hz64, hg4⟩
  have HG4 := Lib.hid (gnone HG3.out hg4)
  have HO4 := Lib.hid (HO3.out.below (below_g hg4))
  have c4 := own_cellR (j := 0) HO4.out rfl
  have f4 := HO4.out.frozen_ 0
  have st4 := own_setR (j := 0) HO4.out z
  have HS5 := Lib.hid st4.1
  have HG5 : Hid (w.grownBy (w4.setCell ⟨w.heap.size, 0, none⟩ (.float .f64 z)) none) := Lib.hid (grow_k HG4.out HO4.out (Nat.le_refl _) st4.2)
  have HZ : Hid (SameF z (sc 0)) := Lib.hid (by rw [SC0.out]; exact hz)
  have HZ64 := Lib.hid hz64
  have HB64 := Lib.hid hb64
  clear hz hg4 HO3 HO4 HG3 HG4 st4 CR hz64 HG2 hb64
  go_wp2_with fail
  go_loopw [8, 9] (fun r i wr => ∃ (k : Nat) (q : Nat) (S : List Nat), 1 ≤ k ∧ k ≤ 6 ∧ i = .int .i64 (k : Int) ∧ r = .float .f64 q ∧ Hid (SameF q (roomP base ratio (k - 1))) ∧ Hid (q < 18446744073709551616) ∧ Hid (S.length = 6) ∧ Hid (∀ j, j < k → SameF (S.getD j 0) (sc j)) ∧ Hid (∀ x ∈ S, x < 18446744073709551616) ∧ Hid (Own elReals wr w.heap.size 23 (.slice (some ⟨w.heap.size, 0, none⟩) 6 6) S) ∧ Hid (w.grownBy wr none)) (fun _ i _ => 6 - (intOf i).toNat)
  case atStart =>
    refine ⟨1, base, _, by omega, by omega, rfl, rfl, Lib.hid (SameF.refl _), HB64, Lib.hid (by simp), Lib.hid fun j hj => ?_, Lib.hid fun x hx => ?_, HS5, HG5⟩
    · obtain rfl : j = 0 := by omega
      exact HZ.out
    · rcases List.mem_or_eq_of_mem_set hx with h | h
      · rw [List.mem_replicate] at h; omega
      · rw [h]; exact HZ64.out
  case round =>
    obtain ⟨k, q, S, k1, k6, rfl, rfl, HQ, HQ64, HSl, HSC, HS64, HO, HG⟩ := hrel
    clear HS5 HG5 HZ HZ64 HB64 c4 f4
    by_cases hl : k < 6
    · have g1 : (k : Int) < 6 := by omega
      have g2 : (0 : Int) ≤ (k : Int) := by omega
      have w1 : wrap64 ((k : Int) + 1) = (k : Int) + 1 := by unfold wrap64; omega
      have CBk := CB wr HG.out (k : Int)
      have SCk : Hid (sc k = fq (floatOfInt .f64 (bytesP L (k : Int))) (roomP base ratio (k - 1))) := Lib.hid (by
        have := SC1.out (k - 1)
        rwa [show k - 1 + 1 = k by omega] at this)
      have HRm : Hid (roomP base ratio k = fm (roomP base ratio (k - 1)) ratio) := Lib.hid (by
        obtain ⟨m, rfl⟩ : ∃ m, k = m + 1 := ⟨k - 1, by omega⟩
        rfl)
      generalize bytesP L (k : Int) = by_ at *
      go_wp2_with fail
      refine CBk.out.mono ?_
      rintro e w5 ⟨rfl, hg5⟩
      have HO5 := HO.out.below (below_g hg5)
      have hgg := gnone HG.out hg5
      obtain ⟨z1, w6, hr1, hs1, hl1, hg6⟩ := run_fq (floatOfInt .f64 by_) q w5
      have HO6 := HO5.below (below_g hg6)
      have hgg6 := gnone hgg hg6
      have hkS : k < S.length := by rw [HSl.out]; exact hl
      have c6 := own_cellR (j := k) HO6 (List.getElem?_eq_getElem hkS)
      generalize S[k] = old at c6
      have f6 := HO6.frozen_ k
      have st6 := own_setR (j := k) HO6 z1
      have hg7 : w.grownBy (w6.setCell ⟨w.heap.size, k, none⟩ (.float .f64 z1)) none := grow_k hgg6 HO6 (Nat.le_refl _) st6.2
      obtain ⟨z2, w8, hr2, hs2, hl2, hg8⟩ := run_fm q ratio (w6.setCell ⟨w.heap.size, k, none⟩ (.float .f64 z1))
      have HO8 := Lib.hid (st6.1.below (below_g hg8))
      have HG8 := Lib.hid (gnone hg7 hg8)
      have HL8 : Hid ((S.set k z1).length = 6) := Lib.hid (by rw [List.length_set]; exact HSl.out)
      have HQ8 : Hid (SameF z2 (roomP base ratio (k + 1 - 1))) := Lib.hid (by
        rw [Nat.add_sub_cancel, HRm.out]
        exact hs2.trans (fm_left HQ.out))
      have HC8 : Hid (∀ j, j < k + 1 → SameF ((S.set k z1).getD j 0) (sc j)) := Lib.hid fun j hj => by
        rw [List.getD_eq_getElem?_getD]
        by_cases e : j = k
        · subst e
          rw [List.getElem?_set_self hkS, SCk.out]
          exact hs1.trans (fq_right HQ.out)
        · rw [List.getElem?_set_ne (fun h => e h.symm), ← List.getD_eq_getElem?_getD]
          exact HSC.out j (by omega)
      have H64 : Hid (∀ x ∈ S.set k z1, x < 18446744073709551616) := Lib.hid fun x hx => by
        rcases List.mem_or_eq_of_mem_set hx with h | h
        · exact HS64.out x h
        · rw [h]; exact hl1
      have HL2 := Lib.hid hl2
      clear CBk hg5 HO5 hgg hs1 hl1 hg6 HO6 hgg6 hkS st6 hg7 hs2 hl2 hg8 HO HG
      go_wp2_with fail
      go_roundw
      case rel => exact ⟨k + 1, z2, S.set k z1, by omega, by omega, by go_num, rfl, HQ8, HL2, HL8, HC8, H64, HO8, HG8⟩
      case measure => exact meas_ltP hl
    · obtain rfl : k = 6 := by omega
      have hX := Lib.hid (SCL.out S HSl.out HSC.out)
      go_wp2_with fail
      go_ret
      exact ⟨_, S, rfl, HO.out, hX.out, HS64.out, HG.out⟩
end Go.Proofs.YtkhmbkofkdnlkaaGreat

namespace Go.Proofs.YtkhmbkofkdnlkaaGreat
open Go.RowKit

set_option maxRecDepth 100000 in
set_option maxHeartbeats 2000000 in
theorem pfullest_any (B g c n : Nat) (S : List Nat) (w : World) (hO : Own elReals w B 23 (.slice (some ⟨g, 0, none⟩) n c) S) (hn : n ≤ 1000000) :
    Calls Tryz.prog 27 #[.slice (some ⟨g, 0, none⟩) n c] w fun e w' => e = .returned (.tuple #[.int .i64 ((fullP S n).getD 0 : Nat), .bool (fullP S n).isSome]) ∧ w = w' := by
  have HO := Lib.hid hO
  have hlen := (own_reads hO).1
  have HLn := Lib.hid hlen
  obtain ⟨fu, hfu⟩ : ∃ fu, fu = fullP S := ⟨_, rfl⟩
  have F0 : Hid (fu 0 = none) := Lib.hid (by rw [hfu]; rfl)
  have F1 : Hid (∀ k, fu (k + 1) = if (geF (S.getD k 0) oneW && overP0 S (S.getD k 0) (fu k)) = true then some k else fu k) := Lib.hid (by rw [hfu]; intro k; rfl)
  have FL : Hid (∀ k b, fu k = some b → b < k) := Lib.hid fun k b h => (fullP_lt (by rw [hfu] at h; exact h)).1
  rw [← hfu]
  clear hO hlen hfu
  go_enter Tryz.func27, Tryz.ntmps27
  go_wp2_with fail
  go_loopw [2, 3, 4, 5, 8] (fun l f _ _ i wr => ∃ (k b : Nat) (t : Bool), k ≤ n ∧ i = .int .i64 (k : Int) ∧ l = .int .i64 (b : Int) ∧ f = .bool t ∧ Hid (fu k = if t = true then some b else none) ∧ Hid (t = false → b = 0) ∧ wr = w) (fun _ _ _ _ i _ => n - (intOf i).toNat)
  case atStart => exact ⟨0, 0, false, by omega, rfl, rfl, rfl, Lib.hid F0.out, Lib.hid (fun _ => rfl), rfl⟩
  case round =>
    obtain ⟨k, b, t, hk, rfl, rfl, rfl, HF, HZ, rfl⟩ := hrel
    by_cases hl : k < n
    · have g1 : (k : Int) < (n : Int) := by omega
      have g2 : (0 : Int) ≤ (k : Int) := by omega
      have w1 : wrap64 ((k : Int) + 1) = (k : Int) + 1 := wrap_sucP hl hn
      have hkS : k < S.length := by rw [← HLn.out]; exact hl
      have x0 := own_cellR (j := k) HO.out (List.getElem?_eq_getElem hkS)
      have hF1 := F1.out k
      have hgd : S.getD k 0 = S[k] := by rw [List.getD_eq_getElem?_getD, List.getElem?_eq_getElem hkS]; rfl
      rw [hgd] at hF1
      generalize S[k] = x at *
      cases hg : geF x oneW with
      | false =>
        have o1 : (FloatKind.f64.format.order x 4607182418800017408 == some .gt || FloatKind.f64.format.order x 4607182418800017408 == some .eq) = false := hg
        rw [hg, Bool.false_and, if_neg Bool.false_ne_true] at hF1
        have HF2 : Hid (fu (k + 1) = if t = true then some b else none) := Lib.hid (by rw [hF1]; exact HF.out)
        clear hF1 hgd hkS F1 FL F0 hg
        go_wp2_with fail
        go_roundw
        case rel => exact ⟨k + 1, b, t, by omega, by go_num, rfl, rfl, HF2, HZ, trivial⟩
        case measure => exact meas_ltP hl
      | true =>
        have o1 : (FloatKind.f64.format.order x 4607182418800017408 == some .gt || FloatKind.f64.format.order x 4607182418800017408 == some .eq) = true := hg
        rw [hg, Bool.true_and] at hF1
        cases t with
        | false =>
          rw [HF.out, if_neg Bool.false_ne_true] at hF1
          rw [show overP0 S x none = true from rfl, if_pos rfl] at hF1
          have HF2 : Hid (fu (k + 1) = if true = true then some k else none) := Lib.hid (by rw [hF1, if_pos rfl])
          clear hF1 hgd hkS F1 FL F0 hg
          go_wp2_with fail
          go_roundw
          case rel => exact ⟨k + 1, k, true, by omega, by go_num, rfl, rfl, HF2, Lib.hid (fun h => by cases h), trivial⟩
          case measure => exact meas_ltP hl
        | true =>
          have hfb : fu k = some b := by rw [HF.out, if_pos rfl]
          have hbk := FL.out k b hfb
          have hbS : b < S.length := by omega
          have y0 := own_cellR (j := b) HO.out (List.getElem?_eq_getElem hbS)
          have hbd : S.getD b 0 = S[b] := by rw [List.getD_eq_getElem?_getD, List.getElem?_eq_getElem hbS]; rfl
          rw [hfb, show overP0 S x (some b) = gtF x (S.getD b 0) from rfl, hbd] at hF1
          generalize S[b] = y at *
          have g5 : (b : Int) < (n : Int) := by omega
          have g6 : (0 : Int) ≤ (b : Int) := by omega
          cases hgt : gtF x y with
          | true =>
            have o2 : (FloatKind.f64.format.order x y == some .gt) = true := hgt
            rw [hgt, if_pos rfl] at hF1
            have HF2 : Hid (fu (k + 1) = if true = true then some k else none) := Lib.hid (by rw [hF1, if_pos rfl])
            clear hF1 hgd hkS F1 FL F0 hg hgt hbd hbS hbk hfb
            go_wp2_with fail
            go_roundw
            case rel => exact ⟨k + 1, k, true, by omega, by go_num, rfl, rfl, HF2, Lib.hid (fun h => by cases h), trivial⟩
            case measure => exact meas_ltP hl
          | false =>
            have o2 : (FloatKind.f64.format.order x y == some .gt) = false := hgt
            rw [hgt, if_neg Bool.false_ne_true] at hF1
            have HF2 : Hid (fu (k + 1) = if true = true then some b else none) := Lib.hid (by rw [hF1, if_pos rfl])
            clear hF1 hgd hkS F1 FL F0 hg hgt hbd hbS hbk hfb
            go_wp2_with fail
            go_roundw
            case rel => exact ⟨k + 1, b, true, by omega, by go_num, rfl, rfl, HF2, Lib.hid (fun h => by cases h), trivial⟩
            case measure => exact meas_ltP hl
    · obtain rfl : k = n := by omega
      have g3 : ¬ (k : Int) < (k : Int) := by omega
      have hX : Hid (((fu k).getD 0 : Nat) = b ∧ (fu k).isSome = t) := Lib.hid (by
        rw [HF.out]
        cases t with
        | true => exact ⟨rfl, rfl⟩
        | false => exact ⟨(HZ.out rfl).symm, rfl⟩)
      go_wp2_with fail
      go_ret2
      exact ⟨by rw [hX.out.1, hX.out.2]; rfl, rfl⟩

/-! ### slices.Grow of nothing, slices.Concat of two -/
set_option maxRecDepth 100000 in
set_option maxHeartbeats 2000000 in
theorem pgrow_any (n : Nat) (w : World) (hn : n ≤ 10000000) :
    Calls Tryz.prog 102 #[.slice none 0 0, .int .i64 (n : Int)] w fun e w' => ∃ v, e = .returned v ∧ Own elInts w' w.heap.size 3 v [] ∧ w.grownBy w' none := by
  obtain ⟨i0, hi0, hz0, hz1, hz2⟩ := info_parts infoInts
  by_cases h0 : n = 0
  · subst h0
    go_enter Tryz.func102, Tryz.ntmps102
    go_wp2_with fail
    go_ret
    exact ⟨_, rfl, World.ownsRow_nil _ _ _ _, grefl _ _⟩
  · have h4 : (0 : Int) < (n : Int) := by omega
    have h1 : ¬ ((n : Int) < 0) := by omega
    have hz1' : i0.size = 1 := hz1
    have hold : (Builtin.firstCells i0.size 0 (.slice none 0 0)).run Tryz.prog w.drew = .ok ([] : List Value).toArray w.drew := run_firstCells_none w.drew i0.size 0 0 0
    have hrz : ∀ ty, (Builtin.append_ #[45, 3] ty #[.slice none 0 0, .int .i64 (n : Int)]).run Tryz.prog w = _ := fun ty => Lib.run_append_grow_zeros w 45 3 ty 3 i0 (.int .i64 0) .i64 .i64 Tryz.underlying45 Tryz.underlying3 hi0 hz0 none 0 0 [] hold n (by omega) (by rw [hz1']; decide) (by omega) (by omega) (by rw [hz2]; omega)
        (by rw [Nat.zero_add]; exact growslice_fits (by omega) (by rw [hz2]; omega))
    have hGn : 0 + n ≤ grownCap w (0 + n) 0 3 := grownCap_ge w _ _ _
    have hG9 := grownCap_le_maxLen w (0 + n) 0 3 (by unfold maxLen; omega)
    generalize grownCap w (0 + n) 0 3 = G at *
    rw [Nat.zero_add] at hrz hGn
    have hG63 : G ≤ 9223372036854775807 := by unfold maxLen at hG9; omega
    obtain ⟨cur, hcur⟩ : ∃ cur, cur = ([] : List Value).toArray ++ Builtin.zeroCells (Value.int .i64 0).cells n ++ Builtin.zeroCells (Value.int .i64 0).cells (G - n) := ⟨_, rfl⟩
    have hcs : cur.size = G * 1 := by rw [hcur]; simp [Builtin.zeroCells, Value.cells]; omega
    rw [← hcur] at hrz
    obtain ⟨W, hW⟩ : ∃ W, W = w.drew.alloc (.cells cur 3) := ⟨_, rfl⟩
    rw [← hW] at hrz
    have HO : Hid (Own elInts W w.heap.size 3 (.slice (some ⟨w.heap.size, 0, none⟩) 0 G) []) := Lib.hid (by
      refine ⟨rfl, Or.inr ⟨w.heap.size, G, cur, rfl, Nat.le_refl _, ?_, Nat.zero_le _, hG9, hcs, by simp [El.row]⟩⟩
      rw [hW]
      exact heap_alloc_new w.drew _)
    have HG : Hid (w.grownBy W none) := Lib.hid (by
      rw [hW]
      exact gnone (b := w.drew) ⟨rfl, rfl, rfl, Nat.le_refl _, fun _ _ _ => rfl⟩ (World.grownBy_alloc w.drew _ none))
    clear hold hcur hcs hW hz0 hi0 hz1 hz2 hz1' h0 hG9
    go_enter Tryz.func102, Tryz.ntmps102
    go_wp2_with (at_builtin; refine Lib.wpList_append_run _ rfl _ _ _ _ rfl _ _ rfl rfl _ _ (hrz _) ?_)
    all_goals
      go_ret
      exact ⟨_, rfl, HO.out, HG.out⟩
set_option maxRecDepth 100000 in
set_option maxHeartbeats 4000000 in
theorem pconcat_any (q B1 B2 n1 c1 n2 c2 : Nat) (A1 A2 : Option Addr) (L1 L2 : List Int) (w : World) (h1 : w.cell? ⟨q, 0, none⟩ = some (.slice A1 n1 c1)) (h2 : w.cell? ⟨q, 1, none⟩ = some (.slice A2 n2 c2)) (o1 : Own elInts w B1 3 (.slice A1 n1 c1) L1) (o2 : Own elInts w B2 3 (.slice A2 n2 c2) L2) (hn1 : n1 ≤ 1000000) (hn2 : n2 ≤ 1000000) :
    Calls Tryz.prog 30 #[.slice (some ⟨q, 0, none⟩) 2 2] w fun e w' => ∃ v, e = .returned v ∧ Own elInts w' w.heap.size 3 v (L1 ++ L2) ∧ w.grownBy w' none := by
  have k1 : n1 = L1.length := (own_reads o1).1
  have k2 : n2 = L2.length := (own_reads o2).1
  have HK1 := Lib.hid k1
  have HK2 := Lib.hid k2
  have H1 := Lib.hid h1
  have H2 := Lib.hid h2
  have O1 := Lib.hid o1
  have O2 := Lib.hid o2
  have CG := fun W => Lib.hid (pgrow_any (n1 + n2) W (by omega))
  have cs : ((n1 + n2 : Nat) : Int) = (n1 : Int) + (n2 : Int) := by omega
  rw [cs] at CG
  clear k1 k2 h1 h2 o1 o2 cs
  go_enter Tryz.func30, Tryz.ntmps30
  go_wp2_with fail
  go_loopw [3, 5, 11] (fun s _ i wr => ∃ k : Nat, k ≤ 2 ∧ i = .int .i64 (k : Int) ∧ s = .int .i64 (if k = 0 then 0 else if k = 1 then (n1 : Int) else (n1 : Int) + (n2 : Int)) ∧ wr = w) (fun _ _ i _ => 2 - (intOf i).toNat)
  case atStart => exact ⟨0, by omega, rfl, rfl, rfl⟩
  case round =>
    obtain ⟨k, hk, rfl, rfl, rfl⟩ := hrel
    rcases (by omega : k = 0 ∨ k = 1 ∨ k = 2) with rfl | rfl | rfl
    · have c0 := H1.out
      go_wp2_with fail
      go_roundw
      case rel => exact ⟨0 + 1, by omega, by rfl, by simp, trivial⟩
      case measure => simp [intOf]
    · have c0 := H2.out
      have t1 : wrap64 ((n1 : Int) + (n2 : Int)) = (n1 : Int) + (n2 : Int) := by unfold wrap64; omega
      have t2 : ¬ ((n1 : Int) + (n2 : Int) < 0) := by omega
      go_wp2_with fail
      go_roundw
      case rel => exact ⟨1 + 1, by omega, by rfl, by simp, trivial⟩
      case measure => simp [intOf]
    · obtain ⟨w0, hw0⟩ : ∃ w0, w0 = wr := ⟨_, rfl⟩
      subst hw0
      go_wp2_with fail
      refine (CG _).out.mono ?_
      rintro e w2 ⟨v, rfl, ho, hg⟩
      obtain ⟨a0, c0, rfl⟩ := ho.slice
      have HO := Lib.hid ho
      have HG := Lib.hid hg
      clear ho hg CG
      go_wp2_with fail
      go_loopw [6, 8, 27] (fun v _ i wr => ∃ k : Nat, k ≤ 2 ∧ i = .int .i64 (k : Int) ∧ Hid (Own elInts wr w0.heap.size 3 v (if k = 0 then [] else if k = 1 then L1 else L1 ++ L2)) ∧ Hid (w0.grownBy wr none)) (fun _ _ i _ => 2 - (intOf i).toNat)
      case atStart => exact ⟨0, by omega, rfl, HO, HG⟩
      case round =>
        obtain ⟨k, hk, rfl, HOw, HGw⟩ := hrel
        clear HO HG
        rcases (by omega : k = 0 ∨ k = 1 ∨ k = 2) with rfl | rfl | rfl
        · have hown : Own elInts wr w0.heap.size 3 _ [] := HOw.out
          obtain ⟨av, cv, ev⟩ := hown.slice
          subst ev
          have r1 := own_reads (O1.out.below (below_g HGw.out))
          obtain ⟨v', w3, hr, hown2, hgr, _, _⟩ := app_own (P := Tryz.prog) elInts 45 3 (.int .i64 0) 8 underInts infoInts rfl wr w0.heap.size (.slice av ([] : List Int).length cv) [] L1 hown A1 c1 r1.2.1 r1.2.2 (by rw [← HK1.out]; unfold maxLen; simp; omega) (by rw [← HK1.out]; simp; omega) HGw.out.size n1 HK1.out
          have HR := fun ty => Lib.hid (hr ty)
          have HO3 : Hid (Own elInts w3 w0.heap.size 3 v' (if 0 + 1 = 0 then [] else if 0 + 1 = 1 then L1 else L1 ++ L2)) := Lib.hid hown2
          have HG3 := Lib.hid (grow_k HGw.out hown (Nat.le_refl _) hgr)
          have c0 := HGw.out.cell H1.out (by simp)
          clear hr hown2 hgr r1 hown HOw HGw
          go_wp2_with (at_builtin; refine wpList_append_k _ w3 rfl (.tmp 31) (.tmp 32) 45 rfl _ _ v' rfl rfl (fun ty => (HR ty).out) ?_)
          go_roundw
          case rel => exact ⟨0 + 1, by omega, by rfl, HO3, HG3⟩
          case measure => simp [intOf]
        · have hown : Own elInts wr w0.heap.size 3 _ L1 := HOw.out
          obtain ⟨av, cv, ev⟩ := hown.slice
          subst ev
          have r2 := own_reads (O2.out.below (below_g HGw.out))
          obtain ⟨v', w3, hr, hown2, hgr, _, _⟩ := app_own (P := Tryz.prog) elInts 45 3 (.int .i64 0) 8 underInts infoInts rfl wr w0.heap.size (.slice av L1.length cv) L1 L2 hown A2 c2 r2.2.1 r2.2.2 (by rw [← HK1.out, ← HK2.out]; unfold maxLen; omega) (by rw [← HK1.out, ← HK2.out]; omega) HGw.out.size n2 HK2.out
          have HR := fun ty => Lib.hid (hr ty)
          have HO3 : Hid (Own elInts w3 w0.heap.size 3 v' (if 1 + 1 = 0 then [] else if 1 + 1 = 1 then L1 else L1 ++ L2)) := Lib.hid hown2
          have HG3 := Lib.hid (grow_k HGw.out hown (Nat.le_refl _) hgr)
          have c0 := HGw.out.cell H2.out (by simp)
          clear hr hown2 hgr r2 hown HOw HGw
          generalize L1.length = m1 at *
          go_wp2_with (at_builtin; refine wpList_append_k _ w3 rfl (.tmp 31) (.tmp 32) 45 rfl _ _ v' rfl rfl (fun ty => (HR ty).out) ?_)
          go_roundw
          case rel => exact ⟨1 + 1, by omega, by rfl, HO3, HG3⟩
          case measure => simp [intOf]
        · go_wp2_with fail
          go_ret
          exact ⟨_, rfl, HOw.out, HGw.out⟩
end Go.Proofs.YtkhmbkofkdnlkaaGreat

namespace Go.Proofs.YtkhmbkofkdnlkaaGreat
open Go.RowKit

def cmpI2 (a b : Int) : Int := if a < b then -1 else if b < a then 1 else 0
/-- The file of the least number; of several the first. -/
def minFrom (m : FileM) : List FileM → FileM
  | [] => m
  | x :: r => minFrom (if x.nu < m.nu then x else m) r
theorem minFrom_snoc (r : List FileM) : ∀ (m x : FileM), minFrom m (r ++ [x]) = if x.nu < (minFrom m r).nu then x else minFrom m r := by
  induction r with
  | nil => intro m x; rfl
  | cons y r ih => intro m x; exact ih _ x
def minP : List FileM → List FileM
  | [] => []
  | f :: r => [minFrom f r]
def dueP (L : List FileM) (lv : Int) : List FileM := if lv = 0 then ofP L lv else minP (ofP L lv)
def firstP (s : ByteArray) : List FileM → ByteArray
  | [] => s
  | f :: r => firstP (if cmpT f.fi s < 0 then f.fi else s) r
def lastP' (s : ByteArray) : List FileM → ByteArray
  | [] => s
  | f :: r => lastP' (if 0 < cmpT f.la s then f.la else s) r
theorem firstP_snoc (r : List FileM) : ∀ (s : ByteArray) (x : FileM), firstP s (r ++ [x]) = if cmpT x.fi (firstP s r) < 0 then x.fi else firstP s r := by
  induction r with
  | nil => intro s x; rfl
  | cons y r ih => intro s x; exact ih _ x
theorem lastP_snoc (r : List FileM) : ∀ (s : ByteArray) (x : FileM), lastP' s (r ++ [x]) = if 0 < cmpT x.la (lastP' s r) then x.la else lastP' s r := by
  induction r with
  | nil => intro s x; rfl
  | cons y r ih => intro s x; exact ih _ x
def cellsF (f : FileM) : Array Value := #[.int .i64 f.lv, .int .i64 f.nu, .int .i64 f.co, .int .i64 f.sz, .string f.fi, .string f.la]
set_option maxRecDepth 100000 in
set_option maxHeartbeats 1000000 in
theorem pbynumber_any (a b : FileM) (w : World) :
    Calls Tryz.prog 101 #[.agg #[.int .i64 a.lv, .int .i64 a.nu, .int .i64 a.co, .int .i64 a.sz, .string a.fi, .string a.la], .agg #[.int .i64 b.lv, .int .i64 b.nu, .int .i64 b.co, .int .i64 b.sz, .string b.fi, .string b.la]] w fun e w' => e = .returned (.int .i64 (cmpI2 a.nu b.nu)) ∧ w.grownBy w' none := by
  have CL := fun W => Lib.hid (Tryz.cmp_Compare_int a.nu b.nu W)
  have hc : Lib.compareInt a.nu b.nu = cmpI2 a.nu b.nu := rfl
  rw [hc] at CL
  have HG := Lib.hid (gnone (World.grownBy_alloc w (.cells #[.int .i64 a.lv, .int .i64 a.nu, .int .i64 a.co, .int .i64 a.sz, .string a.fi, .string a.la] 57) none) (World.grownBy_alloc _ (.cells #[.int .i64 b.lv, .int .i64 b.nu, .int .i64 b.co, .int .i64 b.sz, .string b.fi, .string b.la] 57) none))
  generalize cmpI2 a.nu b.nu = cc at *
  clear hc
  go_enter Tryz.func101, Tryz.ntmps101
  go_wp2_with fail
  refine (CL _).out.mono ?_
  rintro e w' ⟨rfl, rfl⟩
  go_wp2_with fail
  go_ret
  exact ⟨rfl, HG.out⟩
theorem min_end {w : World} {p : Nat} {t : Array Value} {R : Ending → World → Prop} {f : FileM} (B : Blk w p 57 (cellsF f)) (h4 : t[4]?.getD undef = .pointer (some ⟨p, 0, none⟩))
    (h : R (.returned (.agg #[.int .i64 f.lv, .int .i64 f.nu, .int .i64 f.co, .int .i64 f.sz, .string f.fi, .string f.la])) w) : bodyPost Tryz.prog Tryz.f100 R .ret { tmps := t, defers := [] } w := by
  have q0 := B.cell 0
  have q1 := B.cell 1
  have q2 := B.cell 2
  have q3 := B.cell 3
  have q4 := B.cell 4
  have q5 := B.cell 5
  refine bodyPost_ret (v := .agg #[.int .i64 f.lv, .int .i64 f.nu, .int .i64 f.co, .int .i64 f.sz, .string f.fi, .string f.la]) ?_ rfl h
  simp [cellsF] at q0 q1 q2 q3 q4 q5
  simp [results, Tryz.results100, go_sem, q0, q1, q2, q3, q4, q5, h4]
set_option maxRecDepth 100000 in
set_option maxHeartbeats 4000000 in
theorem pmin_any (A : Option Addr) (n c : Nat) (f : FileM) (r : List FileM) (w : World) (hI : FilesAt w A n (f :: r)) (hn : n ≤ 1000000) :
    Calls Tryz.prog 100 #[.slice A n c, .func (.func 101) #[] #[]] w fun e w' => e = .returned (.agg (cellsF (minFrom f r))) ∧ w.grownBy w' none := by
  have HI := Lib.hid hI
  have hlen := hI.len
  have HLn := Lib.hid hlen
  have h1 : 1 ≤ n := by rw [hlen]; simp
  obtain ⟨g, off, rfl, hg, z0, z1, z2, z3, z4, z5⟩ := hI.at_ 0 f rfl
  rw [Nat.zero_mul, Nat.add_zero] at z0 z1 z2 z3 z4 z5
  obtain ⟨Z, hZ⟩ : ∃ Z, Z = Obj.cells #[.int .i64 0, .int .i64 0, .int .i64 0, .int .i64 0, .string ⟨#[]⟩, .string ⟨#[]⟩] 57 := ⟨_, rfl⟩
  have g0 := World.grownBy_alloc w Z none
  have y0 := g0.cell z0 (by simp)
  have y1 := g0.cell z1 (by simp)
  have y2 := g0.cell z2 (by simp)
  have y3 := g0.cell z3 (by simp)
  have y4 := g0.cell z4 (by simp)
  have y5 := g0.cell z5 (by simp)
  have t1 : ¬ ((n : Int) < 1) := by omega
  have t2 : (0 : Int) < (n : Int) := by omega
  have P0 : Hid (Blk ((w.alloc Z).alloc (.cells (cellsF f) 57)) w.heap.size 57 #[.int .i64 0, .int .i64 0, .int .i64 0, .int .i64 0, .string ⟨#[]⟩, .string ⟨#[]⟩]) := Lib.hid (by rw [hZ]; exact (Blk.new w _ _).alloc _)
  have P1 : Hid (Blk ((w.alloc Z).alloc (.cells (cellsF f) 57)) (w.heap.size + 1) 57 (cellsF f)) := Lib.hid (Blk.new' (by simp) _ _)
  have G1 : Hid (Below w.heap.size w ((w.alloc Z).alloc (.cells (cellsF f) 57))) := Lib.hid (below_g (gnone g0 (World.grownBy_alloc _ _ none)))
  unfold cellsF at P0 P1 G1
  rw [hZ] at y0 y1 y2 y3 y4 y5 P0 P1 G1
  clear hI hlen hZ g0 z0 z1 z2 z3 z4 z5
  go_enter Tryz.func100, Tryz.ntmps100
  go_wp2_with fail
  clear y0 y1 y2 y3 y4 y5
  go_loopw [6] (fun i wr => ∃ (k : Nat) (m : FileM), 1 ≤ k ∧ k ≤ n ∧ i = .int .i64 (k : Int) ∧ Hid (m = minFrom f (r.take (k - 1))) ∧ Hid (Blk wr w.heap.size 57 #[.int .i64 0, .int .i64 0, .int .i64 0, .int .i64 0, .string ⟨#[]⟩, .string ⟨#[]⟩]) ∧ Hid (Blk wr (w.heap.size + 1) 57 (cellsF m)) ∧ Hid (Below w.heap.size w wr)) (fun i _ => n - (intOf i).toNat)
  case atStart => exact ⟨1, f, by omega, h1, rfl, Lib.hid rfl, P0, P1, G1⟩
  case round =>
    obtain ⟨k, m, hk1, hk, rfl, HM, HP0, HP1, HB⟩ := hrel
    clear P0 P1 G1
    by_cases hl : k < n
    · have g3 : (k : Int) < (n : Int) := by omega
      have g4 : (0 : Int) ≤ (k : Int) := by omega
      have w1 : wrap64 ((k : Int) + 1) = (k : Int) + 1 := wrap_sucP hl hn
      have hkL : k < (f :: r).length := by rw [← HLn.out]; exact hl
      have hs := List.getElem?_eq_getElem hkL
      generalize (f :: r)[k] = x at hs
      obtain ⟨g', off', eA, hg', z0, z1, z2, z3, z4, z5⟩ := (HI.out.below HB.out).at_ k x hs
      injection eA with eA
      injection eA with eg eo
      subst eg eo
      have hsr : r[k - 1]? = some x := by
        obtain ⟨j, rfl⟩ : ∃ j, k = j + 1 := ⟨k - 1, by omega⟩
        simpa using hs
      have hsn : minFrom f (r.take (k + 1 - 1)) = if x.nu < m.nu then x else m := by
        rw [show k + 1 - 1 = (k - 1) + 1 by omega, ftake_snoc hsr, minFrom_snoc, ← HM.out]
      have CN := fun W => Lib.hid (pbynumber_any x m W)
      have q0 := HP1.out.cell 0
      have q1 := HP1.out.cell 1
      have q2 := HP1.out.cell 2
      have q3 := HP1.out.cell 3
      have q4 := HP1.out.cell 4
      have q5 := HP1.out.cell 5
      simp only [cellsF] at q0 q1 q2 q3 q4 q5
      have hc : cmpI2 x.nu m.nu < 0 ↔ x.nu < m.nu := by unfold cmpI2; split <;> (try split) <;> omega
      obtain ⟨cc, hcc⟩ : ∃ cc, cmpI2 x.nu m.nu = cc := ⟨_, rfl⟩
      rw [hcc] at CN hc
      have d0 : wr.drew.cell? ⟨w.heap.size + 1, 0, none⟩ = _ := q0
      have d1 : wr.drew.cell? ⟨w.heap.size + 1, 1, none⟩ = _ := q1
      have d2 : wr.drew.cell? ⟨w.heap.size + 1, 2, none⟩ = _ := q2
      have d3 : wr.drew.cell? ⟨w.heap.size + 1, 3, none⟩ = _ := q3
      have d4 : wr.drew.cell? ⟨w.heap.size + 1, 4, none⟩ = _ := q4
      have d5 : wr.drew.cell? ⟨w.heap.size + 1, 5, none⟩ = _ := q5
      have e0 : wr.drew.cell? ⟨g, off + k * 6, none⟩ = _ := z0
      have e1 : wr.drew.cell? ⟨g, off + k * 6 + 1, none⟩ = _ := z1
      have e2 : wr.drew.cell? ⟨g, off + k * 6 + 2, none⟩ = _ := z2
      have e3 : wr.drew.cell? ⟨g, off + k * 6 + 3, none⟩ = _ := z3
      have e4 : wr.drew.cell? ⟨g, off + k * 6 + 4, none⟩ = _ := z4
      have e5 : wr.drew.cell? ⟨g, off + k * 6 + 5, none⟩ = _ := z5
      have HX : Hid (FilesAt wr (some ⟨g, off, none⟩) n (f :: r)) := Lib.hid (HI.out.below HB.out)
      have Hs := Lib.hid hs
      have HSN := Lib.hid hsn
      have HCC := Lib.hid hc
      clear q0 q1 q2 q3 q4 q5 z0 z1 z2 z3 z4 z5 hs hsr hsn hc hcc hkL hg'
      go_wp2_with fail
      go_still_tail 6, (by kernel_rfl)
      go_wp2_with fail
      refine (CN _).out.mono ?_
      rintro e w3 ⟨rfl, hg3⟩
      have hg3' : wr.grownBy w3 none := ⟨hg3.os, hg3.tape, hg3.output, hg3.size, hg3.block⟩
      have hP0 := HP0.out.grown hg3' (by simp)
      have hP1 := HP1.out.grown hg3' (by simp)
      have hB3 := HB.out.trans ((below_g hg3').mono HB.out.size)
      have hX3 := HX.out.below (below_g hg3')
      clear d0 d1 d2 d3 d4 d5 e0 e1 e2 e3 e4 e5 hg3 hg3'
      by_cases hlt : x.nu < m.nu
      · have tc : decide (cc < 0) = true := decide_eq_true (HCC.out.2 hlt)
        have HM2 : Hid (x = minFrom f (r.take (k + 1 - 1))) := Lib.hid (by rw [HSN.out, if_pos hlt])
        obtain ⟨g', off', eA, hg', z0, z1, z2, z3, z4, z5⟩ := hX3.at_ k x Hs.out
        injection eA with eA
        injection eA with eg eo
        subst eg eo
        have q0 := hP1.cell 0
        have q1 := hP1.cell 1
        have q2 := hP1.cell 2
        have q3 := hP1.cell 3
        have q4 := hP1.cell 4
        have q5 := hP1.cell 5
        have f0 := hP1.frozen 0
        have f1 := hP1.frozen 1
        have f2 := hP1.frozen 2
        have f3 := hP1.frozen 3
        have f4 := hP1.frozen 4
        have f5 := hP1.frozen 5
        simp only [cellsF] at q0 q1 q2 q3 q4 q5
        have st := ((((((hP1.set_ 0 (.int .i64 x.lv)).set_ 1 (.int .i64 x.nu)).set_ 2 (.int .i64 x.co)).set_ 3 (.int .i64 x.sz)).set_ 4 (.string x.fi)).set_ 5 (.string x.la))
        have HST := Lib.hid st
        have s0 := hP0.far (p := ⟨w.heap.size + 1, 0, none⟩) (by simp) (.int .i64 x.lv)
        have s1 := s0.far (p := ⟨w.heap.size + 1, 1, none⟩) (by simp) (.int .i64 x.nu)
        have s2 := s1.far (p := ⟨w.heap.size + 1, 2, none⟩) (by simp) (.int .i64 x.co)
        have s3 := s2.far (p := ⟨w.heap.size + 1, 3, none⟩) (by simp) (.int .i64 x.sz)
        have s4 := s3.far (p := ⟨w.heap.size + 1, 4, none⟩) (by simp) (.string x.fi)
        have HS0 := Lib.hid (s4.far (p := ⟨w.heap.size + 1, 5, none⟩) (by simp) (.string x.la))
        have hb1 := below_setCell hB3 (p := ⟨w.heap.size + 1, 0, none⟩) (Nat.le_succ _) (.int .i64 x.lv)
        have hb2 := below_setCell hb1 (p := ⟨w.heap.size + 1, 1, none⟩) (Nat.le_succ _) (.int .i64 x.nu)
        have hb3 := below_setCell hb2 (p := ⟨w.heap.size + 1, 2, none⟩) (Nat.le_succ _) (.int .i64 x.co)
        have hb4 := below_setCell hb3 (p := ⟨w.heap.size + 1, 3, none⟩) (Nat.le_succ _) (.int .i64 x.sz)
        have hb5 := below_setCell hb4 (p := ⟨w.heap.size + 1, 4, none⟩) (Nat.le_succ _) (.string x.fi)
        have HB9 := Lib.hid (below_setCell hb5 (p := ⟨w.heap.size + 1, 5, none⟩) (Nat.le_succ _) (.string x.la))
        clear hP0 hP1 hB3 hX3 st s0 s1 s2 s3 s4 hb1 hb2 hb3 hb4 hb5 hlt hg'
        go_wp2_with fail
        go_roundw
        case rel => exact ⟨k + 1, x, by omega, by omega, by go_num, HM2, HS0, HST, HB9⟩
        case measure => exact meas_ltP hl
      · have tc : decide (cc < 0) = false := decide_eq_false (fun h => hlt (HCC.out.1 h))
        have HM2 : Hid (m = minFrom f (r.take (k + 1 - 1))) := Lib.hid (by rw [HSN.out, if_neg hlt])
        have HP0' := Lib.hid hP0
        have HP1' := Lib.hid hP1
        have HB' := Lib.hid hB3
        clear hP0 hP1 hB3 hX3 hlt
        go_wp2_with fail
        go_roundw
        case rel => exact ⟨k + 1, m, by omega, by omega, by go_num, HM2, HP0', HP1', HB'⟩
        case measure => exact meas_ltP hl
    · obtain rfl : k = n := by omega
      have hX : Hid (m = minFrom f r) := Lib.hid (by
        have h := HM.out
        rwa [List.take_of_length_le (by have := HLn.out; simp at this; omega)] at h)
      have q0 := HP1.out.cell 0
      have q1 := HP1.out.cell 1
      have q2 := HP1.out.cell 2
      have q3 := HP1.out.cell 3
      have q4 := HP1.out.cell 4
      have q5 := HP1.out.cell 5
      simp only [cellsF] at q0 q1 q2 q3 q4 q5
      have x0 := HP0.out.cell 0
      have x1 := HP0.out.cell 1
      have x2 := HP0.out.cell 2
      have x3 := HP0.out.cell 3
      have x4 := HP0.out.cell 4
      have x5 := HP0.out.cell 5
      have f0 := HP0.out.frozen 0
      have f1 := HP0.out.frozen 1
      have f2 := HP0.out.frozen 2
      have f3 := HP0.out.frozen 3
      have f4 := HP0.out.frozen 4
      have f5 := HP0.out.frozen 5
      have st := ((((((HP0.out.set_ 0 (.int .i64 m.lv)).set_ 1 (.int .i64 m.nu)).set_ 2 (.int .i64 m.co)).set_ 3 (.int .i64 m.sz)).set_ 4 (.string m.fi)).set_ 5 (.string m.la))
      have HST := Lib.hid st
      have hb1 := below_setCell HB.out (p := ⟨w.heap.size, 0, none⟩) (Nat.le_refl _) (.int .i64 m.lv)
      have hb2 := below_setCell hb1 (p := ⟨w.heap.size, 1, none⟩) (Nat.le_refl _) (.int .i64 m.nu)
      have hb3 := below_setCell hb2 (p := ⟨w.heap.size, 2, none⟩) (Nat.le_refl _) (.int .i64 m.co)
      have hb4 := below_setCell hb3 (p := ⟨w.heap.size, 3, none⟩) (Nat.le_refl _) (.int .i64 m.sz)
      have hb5 := below_setCell hb4 (p := ⟨w.heap.size, 4, none⟩) (Nat.le_refl _) (.string m.fi)
      have HB9 := Lib.hid (below_setCell hb5 (p := ⟨w.heap.size, 5, none⟩) (Nat.le_refl _) (.string m.la))
      have t3 : ¬ (k : Int) < (k : Int) := by omega
      clear st hb1 hb2 hb3 hb4 hb5
      go_wp2_with fail
      refine min_end (f := m) HST.out rfl ⟨by rw [hX.out]; rfl, g_below HB9.out⟩
end Go.Proofs.YtkhmbkofkdnlkaaGreat

namespace Go.Proofs.YtkhmbkofkdnlkaaGreat
open Go.RowKit

theorem own_newF (w : World) (f : FileM) : Own elFl (w.alloc (.cells (cellsF f) 57)) w.heap.size 57 (.slice (some ⟨w.heap.size, 0, none⟩) 1 1) [f] :=
  ⟨rfl, Or.inr ⟨w.heap.size, 1, cellsF f, rfl, Nat.le_refl _, heap_alloc_new w _, Nat.le_refl _, by unfold maxLen; decide, rfl, rfl⟩⟩
set_option maxRecDepth 100000 in
set_option maxHeartbeats 2000000 in
theorem pdue_any (A : Option Addr) (n c : Nat) (L : List FileM) (lv : Int) (w : World) (hI : FilesAt w A n L) (hn : n ≤ 1000000) (hne : lv ≠ 0 → ofP L lv ≠ []) :
    Calls Tryz.prog 28 #[.slice A n c, .int .i64 lv] w fun e w' => ∃ v, e = .returned v ∧ Own elFl w' w.heap.size 57 v (dueP L lv) ∧ w.grownBy w' none := by
  have CO := Lib.hid (pof_any A n c L lv w hI hn)
  have hlen : (ofP L lv).length ≤ 1000000 := by
    unfold ofP
    refine Nat.le_trans (List.length_filter_le _ _) ?_
    rw [← hI.len]; exact hn
  unfold dueP
  generalize ofP L lv = M at *
  by_cases h0 : lv = 0
  · subst h0
    rw [if_pos rfl]
    clear hne hlen hI
    go_enter Tryz.func28, Tryz.ntmps28
    go_wp2_with fail
    refine CO.out.mono ?_
    rintro e w1 ⟨v, rfl, ho, hg⟩
    obtain ⟨a, c1, rfl⟩ := ho.slice
    have HO := Lib.hid ho
    have HG := Lib.hid hg
    clear ho hg
    go_wp2_with fail
    go_ret
    exact ⟨_, rfl, HO.out, HG.out⟩
  · rw [if_neg h0]
    have e0 : (lv == 0) = false := beq_eq_false_iff_ne.2 h0
    obtain ⟨f, r, rfl⟩ : ∃ f r, M = f :: r := by
      cases M with
      | nil => exact absurd rfl (hne h0)
      | cons f r => exact ⟨f, r, rfl⟩
    clear hne hI h0
    go_enter Tryz.func28, Tryz.ntmps28
    go_wp2_with fail
    refine CO.out.mono ?_
    rintro e w1 ⟨v, rfl, ho, hg⟩
    obtain ⟨a, c1, rfl⟩ := ho.slice
    have CM := Lib.hid (pmin_any a _ c1 f r w1 (own_files ho).1 hlen)
    have HG := Lib.hid hg
    clear ho hg CO hlen
    generalize (f :: r).length = m at *
    go_wp2_with fail
    refine CM.out.mono ?_
    rintro e w2 ⟨rfl, hg2⟩
    have HG2 := Lib.hid (gnone HG.out hg2)
    have HO := Lib.hid (own_newF w2 (minFrom f r))
    have HG3 : Hid (w.grownBy (w2.alloc (.cells (cellsF (minFrom f r)) 57)) none) := Lib.hid (gnone HG2.out (World.grownBy_alloc _ _ none))
    clear hg2 CM
    generalize hm : minFrom f r = m0 at *
    unfold cellsF at *
    go_wp2_with fail
    go_ret
    exact ⟨_, rfl, by rw [show minP (f :: r) = [m0] from by rw [← hm]; rfl]; exact HO.out.low HG2.out.size, HG3.out⟩
set_option maxRecDepth 100000 in
set_option maxHeartbeats 4000000 in
theorem preach_any (A : Option Addr) (n c : Nat) (f : FileM) (r : List FileM) (w : World) (hI : FilesAt w A n (f :: r)) (hn : n ≤ 1000000) :
    Calls Tryz.prog 29 #[.slice A n c] w fun e w' => e = .returned (.tuple #[.string (firstP f.fi (f :: r)), .string (lastP' f.la (f :: r))]) ∧ w.grownBy w' none := by
  have HI := Lib.hid hI
  have hlen := hI.len
  have HLn := Lib.hid hlen
  have h1 : 1 ≤ n := by rw [hlen]; simp
  obtain ⟨g, off, rfl, hg, z0, z1, z2, z3, z4, z5⟩ := hI.at_ 0 f rfl
  rw [Nat.zero_mul, Nat.add_zero] at z0 z1 z2 z3 z4 z5
  have t2 : (0 : Int) < (n : Int) := by omega
  obtain ⟨L, hL⟩ : ∃ L, L = f :: r := ⟨_, rfl⟩
  rw [← hL] at HI HLn ⊢
  clear hI hlen hL z0 z1 z2 z3
  go_enter Tryz.func29, Tryz.ntmps29
  go_wp2_with fail
  go_quiet (fail)
  go_wp2_with fail
  go_loopw [2, 3, 5, 16] (fun a b _ i wr => ∃ k : Nat, k ≤ n ∧ i = .int .i64 (k : Int) ∧ a = .string (firstP f.fi (L.take k)) ∧ b = .string (lastP' f.la (L.take k)) ∧ Hid (w.grownBy wr none)) (fun _ _ _ i _ => n - (intOf i).toNat)
  case atStart => exact ⟨0, by omega, rfl, rfl, rfl, Lib.hid (only_drewN (grefl _ _) _)⟩
  case round =>
    obtain ⟨k, hk, rfl, rfl, rfl, HG⟩ := hrel
    by_cases hl : k < n
    · have g3 : (k : Int) < (n : Int) := by omega
      have g4 : (0 : Int) ≤ (k : Int) := by omega
      have w1 : wrap64 ((k : Int) + 1) = (k : Int) + 1 := wrap_sucP hl hn
      have hkL : k < L.length := by rw [← HLn.out]; exact hl
      have hs := List.getElem?_eq_getElem hkL
      generalize L[k] = x at hs
      obtain ⟨g', off', eA, hg', z0, z1, z2, z3, z4, z5⟩ := (HI.out.below (below_g HG.out)).at_ k x hs
      injection eA with eA
      injection eA with eg eo
      subst eg eo
      have hf := firstP_snoc (L.take k) f.fi x
      have hz := lastP_snoc (L.take k) f.la x
      rw [← ftake_snoc hs] at hf hz
      obtain ⟨F2, hF2⟩ : ∃ F2, firstP f.fi (L.take (k + 1)) = F2 := ⟨_, rfl⟩
      obtain ⟨Z2, hZ2⟩ : ∃ Z2, lastP' f.la (L.take (k + 1)) = Z2 := ⟨_, rfl⟩
      rw [hF2] at hf
      rw [hZ2] at hz
      have HF := Lib.hid hf
      have HZ := Lib.hid hz
      have HF2 := Lib.hid hF2
      have HZ2 := Lib.hid hZ2
      clear hf hz hF2 hZ2
      generalize firstP f.fi (L.take k) = F at *
      generalize lastP' f.la (L.take k) = Z at *
      have C1 := fun W => Lib.hid (compare_any x.fi F W)
      have C2 := fun W => Lib.hid (compare_any x.la Z W)
      have hc1 : Lib.compareBytes x.fi.data.toList F.data.toList = cmpT x.fi F := rfl
      have hc2 : Lib.compareBytes x.la.data.toList Z.data.toList = cmpT x.la Z := rfl
      rw [hc1] at C1
      rw [hc2] at C2
      generalize cmpT x.fi F = c1 at *
      generalize cmpT x.la Z = c2 at *
      have HG2 := Lib.hid (gnone HG.out (World.grownBy_alloc wr (.cells #[.int .i64 x.lv, .int .i64 x.nu, .int .i64 x.co, .int .i64 x.sz, .string x.fi, .string x.la] 57) none))
      clear hc1 hc2 hs hkL hg' HG
      by_cases h1 : c1 < 0
      · have d1 : decide (c1 < 0) = true := decide_eq_true h1
        by_cases h2 : 0 < c2
        · have d2 : decide (0 < c2) = true := decide_eq_true h2
          have e1 : F2 = x.fi := by rw [HF.out, if_pos h1]
          have e2 : Z2 = x.la := by rw [HZ.out, if_pos h2]
          have E1 := Lib.hid e1
          have E2 := Lib.hid e2
          clear h1 h2 e1 e2 HF HZ
          go_wp2_with fail
          refine (C1 _).out.mono ?_
          rintro e w' ⟨rfl, rfl⟩
          go_wp2_with fail
          refine (C2 _).out.mono ?_
          rintro e w' ⟨rfl, rfl⟩
          go_wp2_with fail
          go_roundw
          case rel => exact ⟨k + 1, by omega, by go_num, by rw [HF2.out, E1.out], by rw [HZ2.out, E2.out], HG2⟩
          case measure => exact meas_ltP hl
        · have d2 : decide (0 < c2) = false := decide_eq_false h2
          have e1 : F2 = x.fi := by rw [HF.out, if_pos h1]
          have e2 : Z2 = Z := by rw [HZ.out, if_neg h2]
          have E1 := Lib.hid e1
          have E2 := Lib.hid e2
          clear h1 h2 e1 e2 HF HZ
          go_wp2_with fail
          refine (C1 _).out.mono ?_
          rintro e w' ⟨rfl, rfl⟩
          go_wp2_with fail
          refine (C2 _).out.mono ?_
          rintro e w' ⟨rfl, rfl⟩
          go_wp2_with fail
          go_roundw
          case rel => exact ⟨k + 1, by omega, by go_num, by rw [HF2.out, E1.out], by rw [HZ2.out, E2.out], HG2⟩
          case measure => exact meas_ltP hl
      · have d1 : decide (c1 < 0) = false := decide_eq_false h1
        by_cases h2 : 0 < c2
        · have d2 : decide (0 < c2) = true := decide_eq_true h2
          have e1 : F2 = F := by rw [HF.out, if_neg h1]
          have e2 : Z2 = x.la := by rw [HZ.out, if_pos h2]
          have E1 := Lib.hid e1
          have E2 := Lib.hid e2
          clear h1 h2 e1 e2 HF HZ
          go_wp2_with fail
          refine (C1 _).out.mono ?_
          rintro e w' ⟨rfl, rfl⟩
          go_wp2_with fail
          refine (C2 _).out.mono ?_
          rintro e w' ⟨rfl, rfl⟩
          go_wp2_with fail
          go_roundw
          case rel => exact ⟨k + 1, by omega, by go_num, by rw [HF2.out, E1.out], by rw [HZ2.out, E2.out], HG2⟩
          case measure => exact meas_ltP hl
        · have d2 : decide (0 < c2) = false := decide_eq_false h2
          have e1 : F2 = F := by rw [HF.out, if_neg h1]
          have e2 : Z2 = Z := by rw [HZ.out, if_neg h2]
          have E1 := Lib.hid e1
          have E2 := Lib.hid e2
          clear h1 h2 e1 e2 HF HZ
          go_wp2_with fail
          refine (C1 _).out.mono ?_
          rintro e w' ⟨rfl, rfl⟩
          go_wp2_with fail
          refine (C2 _).out.mono ?_
          rintro e w' ⟨rfl, rfl⟩
          go_wp2_with fail
          go_roundw
          case rel => exact ⟨k + 1, by omega, by go_num, by rw [HF2.out, E1.out], by rw [HZ2.out, E2.out], HG2⟩
          case measure => exact meas_ltP hl
    · obtain rfl : k = n := by omega
      have g3 : ¬ (k : Int) < (k : Int) := by omega
      have hX : Hid (L.take k = L) := Lib.hid (List.take_of_length_le (by rw [← HLn.out]; exact Nat.le_refl _))
      rw [hX.out]
      go_wp2_with fail
      go_ret2
      exact ⟨rfl, HG.out⟩
end Go.Proofs.YtkhmbkofkdnlkaaGreat

namespace Go.Proofs.YtkhmbkofkdnlkaaGreat
open Go.RowKit

/-- What is picked of a level: the files that are due, then those of the next level that have keys of their range. -/
def picksP (L : List FileM) (lv : Int) : List Int :=
  match dueP L lv with
  | [] => []
  | f :: r => (f :: r).map (·.nu) ++ overP L (lv + 1) (firstP f.fi (f :: r)) (lastP' f.la (f :: r))
theorem minP_ne {M : List FileM} (h : M ≠ []) : minP M ≠ [] := by
  cases M with
  | nil => exact absurd rfl h
  | cons f r => exact fun e => by cases e
theorem bytesP_nil {L : List FileM} {lv : Int} (h : ofP L lv = []) : bytesP L lv = 0 := by unfold bytesP; rw [h]; rfl
/-- The fullest level has a file. -/
theorem full_has {L : List FileM} {base ratio : Nat} {S : List Nat} (hS : SameL S (scoresP L base ratio)) {b : Nat} (h : fullP S 6 = some b) : b < 6 ∧ ofP L (b : Int) ≠ [] := by
  obtain ⟨h1, h2⟩ := fullP_lt h
  refine ⟨h1, fun e => ?_⟩
  have h3 := hS.getD b
  rw [geF_same oneW h3, List.getD_eq_getElem?_getD, scoresP_at L base ratio b h1] at h2
  have h2 : geF (scoreP ((ofP L 0).length : Nat) (fun k => bytesP L (k : Nat)) base ratio b) oneW = true := h2
  cases b with
  | zero =>
    have e0 : (ofP L 0).length = 0 := by rw [show (0 : Int) = ((0 : Nat) : Int) from rfl, e]; rfl
    rw [scoreP, e0, show ((0 : Nat) : Int) = 0 from rfl, zero_small] at h2
    cases h2
  | succ k =>
    rw [scoreP, bytesP_nil e, zero_small] at h2
    cases h2
theorem due_ne {L : List FileM} {lv : Int} (h : ofP L lv ≠ []) : dueP L lv ≠ [] := by
  unfold dueP
  split
  · exact h
  · exact minP_ne h
theorem due_len (L : List FileM) (lv : Int) : (dueP L lv).length ≤ L.length := by
  unfold dueP
  have h : (ofP L lv).length ≤ L.length := List.length_filter_le _ _
  split
  · exact h
  · cases hM : ofP L lv with
    | nil => exact Nat.zero_le _
    | cons f r => rw [hM] at h; show 1 ≤ _; simp at h; omega
theorem over_len (L : List FileM) (lv : Int) (fi la : ByteArray) : (overP L lv fi la).length ≤ L.length := by
  unfold overP rangeP
  rw [List.length_map]
  exact Nat.le_trans (List.length_filter_le _ _) (List.length_filter_le _ _)
def PickP (L : List FileM) (base ratio : Nat) (w : World) (e : Ending) (w' : World) : Prop :=
  w.grownBy w' none ∧ match fullP (scoresP L base ratio) 6 with
  | none => e = .returned (.tuple #[.int .i64 0, .slice none 0 0, .bool false])
  | some b => ∃ v, e = .returned (.tuple #[.int .i64 (b : Int), v, .bool true]) ∧ Own elInts w' w.heap.size 3 v (picksP L (b : Int))
set_option maxRecDepth 100000 in
set_option maxHeartbeats 4000000 in
theorem ppick_any (A : Option Addr) (n c : Nat) (L : List FileM) (base ratio : Nat) (w : World) (hI : FilesAt w A n L) (hn : n ≤ 1000000) (hb64 : base < 18446744073709551616) :
    Calls Tryz.prog 8 #[.slice A n c, .float .f64 base, .float .f64 ratio] w (PickP L base ratio w) := by
  have CS := Lib.hid (pscores_any A n c L base ratio w hI hn hb64)
  have HI := Lib.hid hI
  have hLn : L.length ≤ 1000000 := by rw [← hI.len]; exact hn
  cases hf : fullP (scoresP L base ratio) 6 with
  | none =>
    have HR : Hid (∀ e w', w.grownBy w' none → e = .returned (.tuple #[.int .i64 0, .slice none 0 0, .bool false]) → PickP L base ratio w e w') := Lib.hid fun e w' h1 h2 => by
      refine ⟨h1, ?_⟩
      rw [hf]
      exact h2
    have HF : Hid (∀ S, SameL S (scoresP L base ratio) → fullP S 6 = none) := Lib.hid fun S h => by rw [fullP_same h, hf]
    clear hf hI hLn HI
    go_enter Tryz.func8, Tryz.ntmps8
    go_wp2_with fail
    refine CS.out.mono ?_
    rintro e w1 ⟨g, S, rfl, ho, hs, _, hg⟩
    have CF := Lib.hid (pfullest_any _ g 6 6 S w1 ho (by omega))
    rw [HF.out S hs] at CF
    have HG := Lib.hid hg
    clear ho hs hg CS HF
    go_wp2_with fail
    refine CF.out.mono ?_
    rintro e w2 ⟨rfl, rfl⟩
    go_wp2_with fail
    go_ret3
    exact HR.out _ _ HG.out rfl
  | some b =>
    have HR : Hid (∀ e w', w.grownBy w' none → (∃ v, e = .returned (.tuple #[.int .i64 (b : Int), v, .bool true]) ∧ Own elInts w' w.heap.size 3 v (picksP L (b : Int))) → PickP L base ratio w e w') := Lib.hid fun e w' h1 h2 => by
      refine ⟨h1, ?_⟩
      rw [hf]
      exact h2
    have HF : Hid (∀ S, SameL S (scoresP L base ratio) → fullP S 6 = some b) := Lib.hid fun S h => by rw [fullP_same h, hf]
    obtain ⟨hb6, hne⟩ := full_has (SameL.refl _) hf
    obtain ⟨f, r, hfr⟩ : ∃ f r, dueP L (b : Int) = f :: r := by
      have := due_ne hne
      cases hd : dueP L (b : Int) with
      | nil => exact absurd hd this
      | cons f r => exact ⟨f, r, rfl⟩
    have hdl : (f :: r).length ≤ 1000000 := by rw [← hfr]; exact Nat.le_trans (due_len L _) hLn
    have hpk : picksP L (b : Int) = (f :: r).map (·.nu) ++ overP L ((b : Int) + 1) (firstP f.fi (f :: r)) (lastP' f.la (f :: r)) := by unfold picksP; rw [hfr]
    have hol := over_len L ((b : Int) + 1) (firstP f.fi (f :: r)) (lastP' f.la (f :: r))
    have CD : ∀ W, w.grownBy W none → Hid _ := fun W h => Lib.hid (pdue_any A n c L (b : Int) W (hI.below (below_g h)) hn (fun _ => hne))
    have CV : ∀ W, w.grownBy W none → Hid _ := fun W h => Lib.hid (poverlap_any A n c L ((b : Int) + 1) (firstP f.fi (f :: r)) (lastP' f.la (f :: r)) W (hI.below (below_g h)) hn)
    rw [hpk] at HR
    rw [hfr] at CD
    have w9 : wrap64 ((b : Int) + 1) = (b : Int) + 1 := by unfold wrap64; omega
    have HOL := Lib.hid hol
    have HLN := Lib.hid hLn
    clear hf hI HI hpk hne hfr hol hLn
    go_enter Tryz.func8, Tryz.ntmps8
    go_wp2_with fail
    refine CS.out.mono ?_
    rintro e w1 ⟨g, S, rfl, ho, hs, _, hg⟩
    have CF := Lib.hid (pfullest_any _ g 6 6 S w1 ho (by omega))
    rw [HF.out S hs] at CF
    have HG := Lib.hid hg
    clear ho hs hg CS HF
    go_wp2_with fail
    refine CF.out.mono ?_
    rintro e w2 ⟨rfl, rfl⟩
    clear CF
    go_wp2_with fail
    refine (CD _ HG.out).out.mono ?_
    rintro e w3 ⟨v3, rfl, ho3, hg3⟩
    obtain ⟨a3, c3, rfl⟩ := ho3.slice
    have HG3 := Lib.hid (gnone HG.out hg3)
    have HO3 := Lib.hid ho3
    have CRE := Lib.hid (preach_any a3 _ c3 f r w3 (own_files ho3).1 hdl)
    clear ho3 hg3 CD HG
    generalize (f :: r).length = m at *
    go_wp2_with fail
    refine CRE.out.mono ?_
    rintro e w4 ⟨rfl, hg4⟩
    have HG4 := Lib.hid (gnone HG3.out hg4)
    have HO4 := Lib.hid (HO3.out.below (below_g hg4))
    have CN := Lib.hid (pnumbers_any a3 m c3 (f :: r) w4 (own_files HO4.out).1 hdl)
    clear hg4 CRE HO3 HG3
    go_wp2_with fail
    refine CN.out.mono ?_
    rintro e w5 ⟨v5, rfl, ho5, hg5⟩
    obtain ⟨a5, c5, rfl⟩ := ho5.slice
    have HG5 := Lib.hid (gnone HG4.out hg5)
    have HO5 := Lib.hid ho5
    have CVV := CV w5 HG5.out
    have hl5 : ((f :: r).map (·.nu)).length ≤ 1000000 := by rw [List.length_map, (own_reads HO4.out).1.symm]; exact hdl
    clear ho5 hg5 CN HG4 HO4 CV
    generalize (f :: r).map (·.nu) = N1 at *
    go_wp2_with fail
    refine CVV.out.mono ?_
    rintro e w6 ⟨v6, rfl, ho6, hg6⟩
    obtain ⟨a6, c6, rfl⟩ := ho6.slice
    have HG6 := Lib.hid (gnone HG5.out hg6)
    have ho5' := HO5.out.below (below_g hg6)
    have hl6 := Nat.le_trans HOL.out HLN.out
    have HG7 := Lib.hid (gnone HG6.out (World.grownBy_alloc w6 (.cells #[.slice a5 N1.length c5, .slice a6 (overP L ((b : Int) + 1) (firstP f.fi (f :: r)) (lastP' f.la (f :: r))).length c6] 45) none))
    have hnb := Blk.new w6 45 #[.slice a5 N1.length c5, .slice a6 (overP L ((b : Int) + 1) (firstP f.fi (f :: r)) (lastP' f.la (f :: r))).length c6]
    have CC := Lib.hid (pconcat_any w6.heap.size _ _ _ c5 _ c6 a5 a6 N1 _ _ (hnb.cell 0) (hnb.cell 1) (ho5'.alc _) (ho6.alc _) hl5 hl6)
    clear ho5' ho6 hg6 hnb HOL HLN CVV HO5 HG5
    generalize overP L ((b : Int) + 1) (firstP f.fi (f :: r)) (lastP' f.la (f :: r)) = N2 at *
    generalize N1.length = m1 at *
    generalize N2.length = m2 at *
    go_wp2_with fail
    refine CC.out.mono ?_
    rintro e w8 ⟨v8, rfl, ho8, hg8⟩
    obtain ⟨a8, c8, rfl⟩ := ho8.slice
    have HO8 := Lib.hid (ho8.low HG7.out.size)
    have HG8 := Lib.hid (gnone HG7.out hg8)
    clear ho8 hg8 CC
    generalize (N1 ++ N2).length = m8 at *
    go_wp2_with fail
    go_ret3
    exact HR.out _ _ HG8.out ⟨_, rfl, HO8.out⟩
end Go.Proofs.YtkhmbkofkdnlkaaGreat

namespace Go.Proofs.YtkhmbkofkdnlkaaGreat
open Go.RowKit

def aFile : FileM := ⟨1, 3, 0, 10, ⟨#[97]⟩, ⟨#[98]⟩⟩
theorem alive_scores : scoreP ((ofP [aFile] 0).length : Nat) (fun k => bytesP [aFile] (k : Nat)) 0 4621819117588971520 1 = 9218868437227405312 ∧ isN (scoreP ((ofP [aFile] 0).length : Nat) (fun k => bytesP [aFile] (k : Nat)) 0 4621819117588971520 2) = true := by decide +kernel
theorem alive_full : fullP (scoresP [aFile] 0 4621819117588971520) 6 = some 1 := by decide +kernel
theorem alive_pick : picksP [aFile] 1 = [3] := by decide +kernel
theorem alive_none : fullP (scoresP [] 0 0) 6 = none := by decide +kernel
theorem alive_bytes : bytesP [aFile] 1 = 10 := by decide +kernel
set_option maxRecDepth 100000 in
theorem pisinf_any (w : World) : Calls Tryz.prog 20 #[.float .f64 9218868437227405312, .int .i64 1] w fun e w' => e = .returned (.bool true) ∧ w = w' := by
  have h : (FloatKind.f64.format.order 9218868437227405312 9218868437227405311 == some .gt) = true := by decide +kernel
  go_enter Tryz.func20, Tryz.ntmps20
  go_wp2_with fail
  go_ret
  exact ⟨rfl, rfl⟩
set_option maxRecDepth 100000 in
set_option maxHeartbeats 4000000 in
theorem alive15_any (w : World) : Calls Tryz.prog 4 #[] w fun e w' => e = .returned (.bool true) ∧ w.grownBy w' none := by
  have mixed : Tryz.prog.follows .mixedOrders = true := by kernel_rfl
  obtain ⟨w1, hw1⟩ : ∃ w1, w1 = w.alloc (.cells (cellsF aFile) 57) := ⟨_, rfl⟩
  have ho := own_newF w aFile
  rw [← hw1] at ho
  have hg : w.grownBy w1 none := by rw [hw1]; exact World.grownBy_alloc _ _ none
  have FA := Lib.hid (own_files ho).1
  have CS := Lib.hid (pscores_any _ 1 1 [aFile] 0 4621819117588971520 w1 FA.out (by omega) (by omega))
  have CP := fun W (h : w1.grownBy W none) => Lib.hid (ppick_any _ 1 1 [aFile] 0 4621819117588971520 W (FA.out.below (below_g h)) (by omega) (by omega))
  have CN := fun W => Lib.hid (ppick_any none 0 0 [] 0 0 W ⟨rfl, fun i m h => by simp at h⟩ (by omega) (by omega))
  have CB := fun W (h : w1.grownBy W none) => Lib.hid (pbytes_any _ 1 1 [aFile] 1 W (FA.out.below (below_g h)) (by omega))
  rw [alive_bytes] at CB
  have CI := fun W => Lib.hid ((pisinf_any W).mono fun e w' h => (⟨h.1, h.2.symm⟩ : e = .returned (.bool true) ∧ w' = W))
  have HG := Lib.hid hg
  unfold cellsF aFile at hw1
  have HW := Lib.hid hw1
  clear ho hg hw1
  go_enter Tryz.func4, Tryz.ntmps4
  go_wp2_with fail
  rw [← HW.out]
  refine CS.out.mono ?_
  rintro e w2 ⟨g, S, rfl, ho, hs, _, hg2⟩
  have HO := Lib.hid ho
  have HG2 := Lib.hid hg2
  have hs1 : S[1]? = some 9218868437227405312 := by
    have h1 := hs.getD 1
    rw [List.getD_eq_getElem?_getD, List.getD_eq_getElem?_getD, scoresP_at _ _ _ 1 (by decide)] at h1
    have hl : 1 < S.length := by rw [hs.1, scoresP_len]; decide
    rw [List.getElem?_eq_getElem hl] at h1 ⊢
    rcases h1 with h1 | ⟨_, h1⟩
    · exact congrArg some (h1.trans alive_scores.1)
    · have h1 : isN (scoreP ((ofP [aFile] 0).length : Nat) (fun k => bytesP [aFile] (k : Nat)) 0 4621819117588971520 1) = true := h1
      rw [alive_scores.1] at h1
      exact absurd h1 (by decide)
  obtain ⟨z, hs2, hz⟩ : ∃ z, S[2]? = some z ∧ isN z = true := by
    have h1 := hs.getD 2
    rw [List.getD_eq_getElem?_getD, List.getD_eq_getElem?_getD, scoresP_at _ _ _ 2 (by decide)] at h1
    have hl : 2 < S.length := by rw [hs.1, scoresP_len]; decide
    rw [List.getElem?_eq_getElem hl] at h1 ⊢
    refine ⟨_, rfl, ?_⟩
    rcases h1 with h1 | ⟨h1, _⟩
    · have h1 : S[2] = scoreP ((ofP [aFile] 0).length : Nat) (fun k => bytesP [aFile] (k : Nat)) 0 4621819117588971520 2 := h1
      rw [h1]; exact alive_scores.2
    · exact h1
  have HS1 := Lib.hid hs1
  have HS2 := Lib.hid hs2
  have hnz : (FloatKind.f64.format.order z z != some .eq) = true := by rw [neq_self]; exact hz
  clear ho hs hg2 hs1 hs2 hz CS
  go_wp2_with fail
  refine (CP _ HG2.out).out.mono ?_
  rintro e w3 ⟨hg3, hp⟩
  rw [alive_full] at hp
  obtain ⟨v3, rfl, ho3⟩ := hp
  rw [show ((1 : Nat) : Int) = 1 from rfl, alive_pick] at ho3
  obtain ⟨g3, c3, cur3, e3, _, _⟩ := ho3.some_ (by simp)
  subst e3
  have HO3 := Lib.hid ho3
  have HG3 := Lib.hid (gnone HG2.out hg3)
  have HO2 := Lib.hid (HO.out.below (below_g hg3))
  clear hg3 ho3 CP HO
  go_wp2_with fail
  refine (CN _).out.mono ?_
  rintro e w4 ⟨hg4, hp⟩
  rw [alive_none] at hp
  subst hp
  have HG4 := Lib.hid (gnone HG3.out hg4)
  have b1 := own_cellR (HO2.out.below (below_g hg4)) HS1.out
  have a1 : w4.drew.cell? ⟨g, 1, none⟩ = some (.float .f64 9218868437227405312) := b1
  have b2 := own_cellR (HO2.out.below (below_g hg4)) HS2.out
  have a2 : w4.drew.cell? ⟨g, 2, none⟩ = some (.float .f64 z) := b2
  have a3 : w4.drew.cell? ⟨g3, 0, none⟩ = some (.int .i64 3) := by
    have h := Own.cells (j := 0) (i := 0) (HO3.out.below (below_g hg4)) rfl (by decide) rfl
    rw [Nat.zero_mul, Nat.zero_add] at h
    exact h
  have HG5 : Hid (w1.grownBy w4.drew none) := Lib.hid (gnone HG4.out ⟨rfl, rfl, rfl, Nat.le_refl _, fun _ _ _ => rfl⟩)
  clear hg4 CN HO2 HO3 HG3 HG4 HS1 HS2 b1 b2
  go_wp2_with fail
  go_still_tail 42, (by kernel_rfl)
  still_call ((CI _).out)
  repeat still_step
  refine wpStill_nil ?_
  go_wp2_with fail
  refine (CB _ HG5.out).out.mono ?_
  rintro e w6 ⟨rfl, hg6⟩
  have HG6 := Lib.hid (gnone HG.out (gnone HG5.out hg6))
  clear hg6
  go_wp2_with fail
  go_ret
  exact ⟨rfl, HG6.out⟩
end Go.Proofs.YtkhmbkofkdnlkaaGreat

namespace Go.Proofs.YtkhmbkofkdnlkaaGreat
open Go.RowKit

theorem blessP_is : ∀ x y : List UInt8, Op.bytesLess x y = decide (Lib.compareBytes x y < 0)
  | [], [] => by simp [Op.bytesLess, Lib.compareBytes]
  | _ :: _, [] => by simp [Op.bytesLess, Lib.compareBytes]
  | [], _ :: _ => by simp [Op.bytesLess, Lib.compareBytes]
  | a :: x, b :: y => by
    rw [Op.bytesLess, blessP_is x y, cmp9_cons]
    by_cases h : a.toNat < b.toNat
    · rw [if_pos h]
      have h2 : a < b := UInt8.lt_iff_toNat_lt.2 h
      simp [h2]
    · rw [if_neg h]
      have h2 : ¬ a < b := fun e => h (UInt8.lt_iff_toNat_lt.1 e)
      by_cases h3 : b.toNat < a.toNat
      · rw [if_pos h3]
        have h4 : ¬ a = b := fun e => by rw [e] at h3; omega
        simp [h2, h4]
      · rw [if_neg h3]
        have h4 : a = b := UInt8.toNat_inj.1 (by omega)
        subst h4
        simp
theorem blessP (a b : ByteArray) : Op.bytesLess a.toList b.toList = decide (cmpT a b < 0) := by
  rw [Lib.toList_data, Lib.toList_data, blessP_is]
  rfl
theorem eqlP (a b : ByteArray) : (a.toList == b.toList) = decide (cmpT a b = 0) := by
  rw [Bool.eq_iff_iff, beq_iff_eq, decide_eq_true_eq, cmpT_eq, Lib.toList_data, Lib.toList_data]
  constructor
  · intro h
    cases a; cases b
    congr 1
    exact Array.toList_inj.1 h
  · rintro rfl; rfl
/-- '>' of texts. -/
theorem gtrP (a b : ByteArray) : (!Op.bytesLess a.toList b.toList && !(a.toList == b.toList)) = decide (0 < cmpT a b) := by
  rw [blessP, eqlP, Bool.eq_iff_iff]
  simp only [Bool.and_eq_true, Bool.not_eq_true', decide_eq_false_iff_not, decide_eq_true_eq]
  omega
theorem meas_lt2P {n k : Nat} (e : wrap64 ((k : Int) + 1) = (k : Int) + 1) (h : k < n) : n - (intOf (Value.int IntKind.i64 (wrap64 ((k : Int) + 1)))).toNat < n - (intOf (Value.int IntKind.i64 (k : Int))).toNat := by
  rw [e]
  simp only [intOf]
  omega
end Go.Proofs.YtkhmbkofkdnlkaaGreat

namespace Go.Proofs.YtkhmbkofkdnlkaaGreat
open Go.RowKit Go.WideShapes Go.ChangeShapes Go.Deep

theorem list6 {α : Type} {l : List α} (h : l.length = 6) : ∃ c0 c1 c2 c3 c4 c5, l = [c0, c1, c2, c3, c4, c5] := by
  match l, h with
  | [c0, c1, c2, c3, c4, c5], _ => exact ⟨c0, c1, c2, c3, c4, c5, rfl⟩
theorem array6 {α : Type} {a : Array α} (h : a.size = 6) : ∃ x0 x1 x2 x3 x4 x5, a = #[x0, x1, x2, x3, x4, x5] := by
  obtain ⟨l⟩ := a
  match l, h with
  | [x0, x1, x2, x3, x4, x5], _ => exact ⟨x0, x1, x2, x3, x4, x5, rfl⟩
section
variable {H : Type} {enc : TypeId × Value → H} {P : Program} {w : World} {t s : TypeId} {f0 f1 f2 f3 f4 f5 : Field}
/-- What a file asks: its numbers are whole numbers of the machine, its texts as long as they can be read. -/
structure FileOk (f : FileM) : Prop where
  lv : (Lit.int .i64 f.lv).wf = true
  nu : (Lit.int .i64 f.nu).wf = true
  co : (Lit.int .i64 f.co).wf = true
  sz : (Lit.int .i64 f.sz).wf = true
  fi : f.fi.size ≤ 9223372036854775807
  la : f.la.size ≤ 9223372036854775807
def cellsV (f : FileM) : List Value := [.int .i64 f.lv, .int .i64 f.nu, .int .i64 f.co, .int .i64 f.sz, .string f.fi, .string f.la]
/-- One file, out of its cells. -/
theorem file_trod {fuel : Nat} {cs : List Value} {z : DataW H × List MemPlace} (ht : P.underlying t = some (.struct #[f0, f1, f2, f3, f4, f5]))
    (offs : [f0.offset, f1.offset, f2.offset, f3.offset, f4.offset, f5.offset] = [0, 1, 2, 3, 4, 5])
    (cells : [f0.type, f1.type, f2.type, f3.type, f4.type, f5.type].map P.cellsOf = [1, 1, 1, 1, 1, 1])
    (u0 : P.underlying f0.type = some (.int .i64)) (u1 : P.underlying f1.type = some (.int .i64)) (u2 : P.underlying f2.type = some (.int .i64)) (u3 : P.underlying f3.type = some (.int .i64)) (u4 : P.underlying f4.type = some .string) (u5 : P.underlying f5.type = some .string)
    (hl : cs.length = 6) (h : DataW.trod enc P w 0 (fun _ => true) true fuel t cs = some z) :
    ∃ f : FileM, cs = cellsV f ∧ FileOk f ∧ z = (.agg [.lit (.int .i64 f.lv), .lit (.int .i64 f.nu), .lit (.int .i64 f.co), .lit (.int .i64 f.sz), .lit (.string f.fi.data.toList), .lit (.string f.la.data.toList)], []) := by
  simp only [List.cons.injEq, and_true, List.map_cons, List.map_nil] at offs cells
  obtain ⟨o0, o1, o2, o3, o4, o5⟩ := offs
  obtain ⟨c0, c1, c2, c3, c4, c5⟩ := cells
  obtain ⟨a0, a1, a2, a3, a4, a5, rfl⟩ := list6 hl
  obtain ⟨ys, m, _, hx, _, hlen, hg⟩ := DataW.trod_struct ht h
  match ys, hlen, hg, hx with
  | [y0, y1, y2, y3, y4, y5], _, hg, hx =>
    have h0 := hg 0 f0 rfl
    have h1 := hg 1 f1 rfl
    have h2 := hg 2 f2 rfl
    have h3 := hg 3 f3 rfl
    have h4 := hg 4 f4 rfl
    have h5 := hg 5 f5 rfl
    simp [o0, o1, o2, o3, o4, o5, c0, c1, c2, c3, c4, c5] at h0 h1 h2 h3 h4 h5
    obtain ⟨lv, e0, d0, w0⟩ := DataW.trod_int u0 h0
    obtain ⟨nu, e1, d1, w1⟩ := DataW.trod_int u1 h1
    obtain ⟨co, e2, d2, w2⟩ := DataW.trod_int u2 h2
    obtain ⟨sz, e3, d3, w3⟩ := DataW.trod_int u3 h3
    obtain ⟨fi, e4, d4, w4⟩ := DataW.trod_string u4 h4
    obtain ⟨la, e5, d5, w5⟩ := DataW.trod_string u5 h5
    simp at e0 e1 e2 e3 e4 e5
    subst e0 e1 e2 e3 e4 e5 d0 d1 d2 d3 d4 d5
    unfold maxLen at w4 w5
    exact ⟨⟨lv, nu, co, sz, fi, la⟩, rfl, ⟨w0, w1, w2, w3, by simp only []; omega, by simp only []; omega⟩, hx⟩
/-- A slice of files, out of how it reads. -/
theorem files_view {A : Option Addr} {n cp : Nat} {d : DataW H} {p : List MemPlace} (hs : P.underlying s = some (.slice t)) (ht : P.underlying t = some (.struct #[f0, f1, f2, f3, f4, f5])) (hct : P.cellsOf t = 6)
    (offs : [f0.offset, f1.offset, f2.offset, f3.offset, f4.offset, f5.offset] = [0, 1, 2, 3, 4, 5])
    (cells : [f0.type, f1.type, f2.type, f3.type, f4.type, f5.type].map P.cellsOf = [1, 1, 1, 1, 1, 1])
    (u0 : P.underlying f0.type = some (.int .i64)) (u1 : P.underlying f1.type = some (.int .i64)) (u2 : P.underlying f2.type = some (.int .i64)) (u3 : P.underlying f3.type = some (.int .i64)) (u4 : P.underlying f4.type = some .string) (u5 : P.underlying f5.type = some .string)
    (h : DataW.Trod enc P w 0 (fun _ => true) true s (.slice A n cp) d p) : ∃ L, FilesAt w A n L ∧ n ≤ 9223372036854775807 ∧ ∀ f ∈ L, FileOk f := by
  obtain ⟨fuel, hf⟩ := h
  rcases open_slice hs hf with ⟨hcs, _⟩ | ⟨a, len', cap', m, k, D, Pl, hcs, _, hl, hm, hmm, _, hx⟩
  · simp [Value.cells] at hcs
    obtain ⟨rfl, rfl, rfl⟩ := hcs
    exact ⟨[], ⟨rfl, fun i m hm => by simp at hm⟩, by decide, fun f hf => by cases hf⟩
  · simp [Value.cells] at hcs
    obtain ⟨rfl, rfl, rfl⟩ := hcs
    rw [if_pos rfl] at hmm
    unfold maxLen at hm
    have each : ∀ j, j < n → ∃ q : FileM, (∀ k, k < 6 → w.cell? (a.add (j * 6 + k)) = (cellsV q)[k]?) ∧ FileOk q := by
      intro j hj
      obtain ⟨cs', h1, h2⟩ := hx j (by omega)
      rw [hct] at h1
      obtain ⟨_, hlen, hcell⟩ := World.cells?_some h1
      obtain ⟨q, rfl, hq, _⟩ := file_trod ht offs cells u0 u1 u2 u3 u4 u5 hlen h2
      refine ⟨q, fun k hk => ?_, hq⟩
      have hk' : k < (cellsV q).length := by rw [hlen]; exact hk
      have h3 := hcell k (by first | exact hk' | exact hk | (rw [hlen]; exact hk))
      simpa [Go.Deep.add_add] using h3
    haveI : Inhabited FileM := ⟨⟨0, 0, 0, 0, ⟨#[]⟩, ⟨#[]⟩⟩⟩
    obtain ⟨q, hq⟩ := choose_lt each
    have hget : ∀ (i : Nat) (m : FileM), ((List.range n).map q)[i]? = some m → i < n ∧ m = q i := by
      intro i m hm
      have hi : i < n := by
        have := (List.getElem?_eq_some_iff.1 hm).1
        simpa using this
      rw [List.getElem?_map, List.getElem?_range hi] at hm
      cases hm
      exact ⟨hi, rfl⟩
    refine ⟨(List.range n).map q, ⟨by simp, fun i m hm => ?_⟩, by omega, fun m hm => ?_⟩
    · obtain ⟨hi, rfl⟩ := hget i m hm
      obtain ⟨b, off, spot⟩ := a
      have z0 := (hq i hi).1 0 (by decide)
      have hspot : spot = none := by
        have h0 := (hq 0 (by omega)).1 0 (by decide)
        simpa [Addr.add] using World.cell?_spot (show w.cell? (({ block := b, off := off, spot := spot } : Addr).add (0 * 6 + 0)) = some (.int .i64 (q 0).lv) from h0)
      subst hspot
      have z1 := (hq i hi).1 1 (by decide)
      have z2 := (hq i hi).1 2 (by decide)
      have z3 := (hq i hi).1 3 (by decide)
      have z4 := (hq i hi).1 4 (by decide)
      have z5 := (hq i hi).1 5 (by decide)
      rw [Go.WideShapes.add_plain, ← Nat.add_assoc] at z0 z1 z2 z3 z4 z5
      rw [Nat.add_zero] at z0
      exact ⟨b, off, rfl, block_lt (show w.cell? _ = some (.int .i64 (q i).lv) from z0), z0, z1, z2, z3, z4, z5⟩
    · obtain ⟨i, hi⟩ := List.mem_iff_getElem?.1 hm
      obtain ⟨hj, rfl⟩ := hget i m hi
      exact (hq i hj).2
/-- A file that came in. -/
theorem file_view {r : Reach} {b0 : Nat} {v : Value} {d : DataW H} {p : List MemPlace} (ht : P.underlying t = some (.struct #[f0, f1, f2, f3, f4, f5])) (hct : P.cellsOf t = 6)
    (offs : [f0.offset, f1.offset, f2.offset, f3.offset, f4.offset, f5.offset] = [0, 1, 2, 3, 4, 5])
    (cells : [f0.type, f1.type, f2.type, f3.type, f4.type, f5.type].map P.cellsOf = [1, 1, 1, 1, 1, 1])
    (u0 : P.underlying f0.type = some (.int .i64)) (u1 : P.underlying f1.type = some (.int .i64)) (u2 : P.underlying f2.type = some (.int .i64)) (u3 : P.underlying f3.type = some (.int .i64)) (u4 : P.underlying f4.type = some .string) (u5 : P.underlying f5.type = some .string)
    (hval : Value.okWide P w r b0 t v) (h : DataW.Trod enc P w 0 (fun _ => true) true t v d p) :
    ∃ f : FileM, v = .agg (cellsV f).toArray ∧ d = .agg [.lit (.int .i64 f.lv), .lit (.int .i64 f.nu), .lit (.int .i64 f.co), .lit (.int .i64 f.sz), .lit (.string f.fi.data.toList), .lit (.string f.la.data.toList)] ∧ p = [] ∧ FileOk f := by
  obtain ⟨cs, rfl, hsz⟩ := okWide_struct ht hval
  obtain ⟨fuel, hf⟩ := h
  obtain ⟨f, e1, e2, e3⟩ := file_trod ht offs cells u0 u1 u2 u3 u4 u5 (by simpa [Value.cells] using hsz.trans hct) hf
  obtain ⟨rfl, rfl⟩ := Prod.mk.inj e3
  refine ⟨f, ?_, rfl, rfl, e2⟩
  rw [← e1]
  simp [Value.cells]
end
end Go.Proofs.YtkhmbkofkdnlkaaGreat

namespace Go.Proofs.YtkhmbkofkdnlkaaGreat
open Go.RowKit

theorem sumP_stays (A B : List FileM) (h : sumP A = 2147483647) : sumP (A ++ B) = 2147483647 := by
  have key : ∀ (B : List FileM), B.foldl (fun n f => n + min (max f.sz 0) (2147483647 - n)) 2147483647 = 2147483647 := by
    intro B
    induction B with
    | nil => rfl
    | cons x r ih =>
      have e : (2147483647 : Int) + min (max x.sz 0) (2147483647 - 2147483647) = 2147483647 := by omega
      rw [List.foldl_cons, e]; exact ih
  unfold sumP at *
  rw [List.foldl_append, h]
  exact key B
theorem ofP_append (A B : List FileM) (lv : Int) : ofP (A ++ B) lv = ofP A lv ++ ofP B lv := by unfold ofP; rw [List.filter_append]
theorem bytesP_snoc (A : List FileM) (f : FileM) (lv : Int) : bytesP (A ++ [f]) lv = if f.lv = lv then bytesP A lv + min (max f.sz 0) (2147483647 - bytesP A lv) else bytesP A lv := by
  unfold bytesP
  rw [ofP_snoc]
  split
  · rw [sumP_snoc]
  · rfl
theorem bytesP_full {L : List FileM} {k : Nat} {lv : Int} (h : bytesP (L.take k) lv = 2147483647) : bytesP L lv = 2147483647 := by
  have e := List.take_append_drop k L
  rw [← e]
  unfold bytesP at *
  rw [ofP_append]
  exact sumP_stays _ _ h
set_option maxRecDepth 100000 in
set_option maxHeartbeats 4000000 in
theorem qbytes_any (A : Option Addr) (n c : Nat) (L : List FileM) (lv : Int) (w : World) (hI : FilesAt w A n L) (hn : n ≤ 1000000) :
    Calls Tryz.prog 15 #[.slice A n c, .int .i64 lv] w fun e w' => e = .returned (.int .i64 (bytesP L lv)) ∧ w.grownBy w' none := by
  have HI := Lib.hid hI
  have HLn := Lib.hid hI.len
  obtain ⟨R, hR⟩ : ∃ R, bytesP L lv = R := ⟨_, rfl⟩
  have HF : Hid (∀ k, bytesP (L.take k) lv = 2147483647 → R = 2147483647) := Lib.hid fun k h => by rw [← hR]; exact bytesP_full h
  have HE : Hid (bytesP (L.take n) lv = R) := Lib.hid (by rw [List.take_of_length_le (by rw [← HLn.out]; exact Nat.le_refl _)]; exact hR)
  rw [hR]
  clear hI hR
  go_enter Tryz.func15, Tryz.ntmps15
  go_wp2_with fail
  go_loopw [5, 6] (fun s i wr => ∃ (k : Nat) (z : Int), k ≤ n ∧ i = .int .i64 (k : Int) ∧ s = .int .i64 z ∧ 0 ≤ z ∧ z ≤ 2147483647 ∧ Hid (bytesP (L.take k) lv = z) ∧ Hid (w.grownBy wr none)) (fun _ i _ => n - (intOf i).toNat)
  case atStart => exact ⟨0, 0, by omega, rfl, rfl, by omega, by omega, Lib.hid rfl, grefl _ _⟩
  case round =>
    obtain ⟨k, z, hk, rfl, rfl, z0, z1, HS, HG⟩ := hrel
    by_cases hl : k < n
    · have g3 : (k : Int) < (n : Int) := Int.ofNat_lt.2 hl
      have g4 : (0 : Int) ≤ (k : Int) := Int.natCast_nonneg k
      have w1 := wrap_sucP hl hn
      have hkL : k < L.length := by rw [← HLn.out]; exact hl
      have hs := List.getElem?_eq_getElem hkL
      generalize L[k] = f at hs
      have hsn := bytesP_snoc (L.take k) f lv
      rw [← ftake_snoc hs, HS.out] at hsn
      obtain ⟨g, off, rfl, hg, y0, y1, y2, y3, y4, y5⟩ := (HI.out.below (below_g HG.out)).at_ k f hs
      have w2 : wrap64 (2147483647 - z) = 2147483647 - z := by unfold wrap64; omega
      clear hs hkL hg HE
      by_cases he : f.lv = lv
      · have e1 : (f.lv == lv) = true := beq_iff_eq.2 he
        rw [if_pos he] at hsn
        by_cases h0 : 0 < f.sz
        · have e2 : decide (0 < f.sz) = true := decide_eq_true h0
          by_cases h9 : 2147483647 - z < f.sz
          · have e3 : decide (2147483647 - z < f.sz) = true := decide_eq_true h9
            have hX := Lib.hid (HF.out (k + 1) (by rw [hsn]; omega))
            clear hsn he h0 HF
            go_wp2_with fail
            go_ret
            exact ⟨by rw [hX.out]; rfl, HG.out⟩
          · have e3 : decide (2147483647 - z < f.sz) = false := decide_eq_false h9
            have w3 : wrap64 (z + f.sz) = z + f.sz := by unfold wrap64; omega
            have HS2 : Hid (bytesP (L.take (k + 1)) lv = z + f.sz) := Lib.hid (by rw [hsn]; omega)
            have b1 : 0 ≤ z + f.sz := by omega
            have b2 : z + f.sz ≤ 2147483647 := by omega
            clear hsn he h0 h9 HF
            go_wp2_with fail
            go_roundw
            case rel => exact ⟨k + 1, z + f.sz, hl, by go_num, rfl, b1, b2, HS2, HG⟩
            case measure => exact meas_ltP hl
        · have e2 : decide (0 < f.sz) = false := decide_eq_false h0
          have HS2 : Hid (bytesP (L.take (k + 1)) lv = z) := Lib.hid (by rw [hsn]; omega)
          clear hsn he h0 HF
          go_wp2_with fail
          go_roundw
          case rel => exact ⟨k + 1, z, hl, by go_num, rfl, z0, z1, HS2, HG⟩
          case measure => exact meas_ltP hl
      · have e1 : (f.lv == lv) = false := beq_eq_false_iff_ne.2 he
        rw [if_neg he] at hsn
        have HS2 : Hid (bytesP (L.take (k + 1)) lv = z) := Lib.hid hsn
        clear hsn he HF
        go_wp2_with fail
        go_roundw
        case rel => exact ⟨k + 1, z, hl, by go_num, rfl, z0, z1, HS2, HG⟩
        case measure => exact meas_ltP hl
    · obtain rfl : k = n := by omega
      have hX : Hid (z = R) := Lib.hid (by rw [← HS.out]; exact HE.out)
      have g3 : ¬ (k : Int) < (k : Int) := Int.lt_irrefl _
      go_wp2_with fail
      go_ret
      exact ⟨by rw [hX.out]; rfl, HG.out⟩
set_option maxRecDepth 100000 in
set_option maxHeartbeats 2000000 in
theorem qcount_any (A : Option Addr) (n c : Nat) (L : List FileM) (lv : Int) (w : World) (hI : FilesAt w A n L) (hn : n ≤ 1000000) :
    Calls Tryz.prog 31 #[.slice A n c, .int .i64 lv] w fun e w' => e = .returned (.int .i64 ((ofP L lv).length : Nat)) ∧ w' = w := by
  have HI := Lib.hid hI
  have HLn := Lib.hid hI.len
  have HE : Hid (L.take n = L) := Lib.hid (List.take_of_length_le (by rw [← HLn.out]; exact Nat.le_refl _))
  have HLE : Hid (∀ k, (ofP (L.take k) lv).length ≤ k) := Lib.hid fun k => Nat.le_trans (List.length_filter_le _ _) (by rw [List.length_take]; omega)
  clear hI
  go_enter Tryz.func31, Tryz.ntmps31
  go_wp2_with fail
  go_loopw [5, 6] (fun s i wr => ∃ (k z : Nat), k ≤ n ∧ i = .int .i64 (k : Int) ∧ s = .int .i64 (z : Int) ∧ Hid ((ofP (L.take k) lv).length = z) ∧ wr = w) (fun _ i _ => n - (intOf i).toNat)
  case atStart => exact ⟨0, 0, by omega, rfl, rfl, Lib.hid rfl, rfl⟩
  case round =>
    obtain ⟨k, z, hk, rfl, rfl, HS, rfl⟩ := hrel
    by_cases hl : k < n
    · have g3 : (k : Int) < (n : Int) := Int.ofNat_lt.2 hl
      have g4 : (0 : Int) ≤ (k : Int) := Int.natCast_nonneg k
      have w1 := wrap_sucP hl hn
      have hzk : z < n := by have := HLE.out k; rw [HS.out] at this; omega
      have w2 := wrap_sucP hzk hn
      have hkL : k < L.length := by rw [← HLn.out]; exact hl
      have hs := List.getElem?_eq_getElem hkL
      generalize L[k] = f at hs
      have hsn := ofP_snoc (L.take k) f lv
      rw [← ftake_snoc hs] at hsn
      obtain ⟨g, off, rfl, hg, y0, y1, y2, y3, y4, y5⟩ := HI.out.at_ k f hs
      clear hs hkL hg hzk
      by_cases he : f.lv = lv
      · have e1 : (f.lv == lv) = true := beq_iff_eq.2 he
        have HS2 : Hid ((ofP (L.take (k + 1)) lv).length = z + 1) := Lib.hid (by rw [hsn, if_pos he, List.length_append, HS.out]; rfl)
        clear hsn he
        go_wp2_with fail
        go_roundw
        case rel => exact ⟨k + 1, z + 1, hl, by go_num, by go_num, HS2, trivial⟩
        case measure => exact meas_ltP hl
      · have e1 : (f.lv == lv) = false := beq_eq_false_iff_ne.2 he
        have HS2 : Hid ((ofP (L.take (k + 1)) lv).length = z) := Lib.hid (by rw [hsn, if_neg he]; exact HS.out)
        clear hsn he
        go_wp2_with fail
        go_roundw
        case rel => exact ⟨k + 1, z, hl, by go_num, rfl, HS2, trivial⟩
        case measure => exact meas_ltP hl
    · obtain rfl : k = n := by omega
      have g3 : ¬ (k : Int) < (k : Int) := Int.lt_irrefl _
      have hX : Hid ((ofP L lv).length = z) := Lib.hid (by rw [← HS.out, HE.out])
      go_wp2_with fail
      go_ret
      exact ⟨by rw [hX.out]; rfl, rfl⟩
theorem overP_snoc (A : List FileM) (f : FileM) (lv : Int) (fi la : ByteArray) : overP (A ++ [f]) lv fi la = if f.lv = lv ∧ cmpT f.fi la ≤ 0 ∧ 0 ≤ cmpT f.la fi then overP A lv fi la ++ [f.nu] else overP A lv fi la := by
  unfold overP rangeP
  rw [ofP_snoc]
  by_cases h1 : f.lv = lv
  · rw [if_pos h1, List.filter_append, List.map_append]
    by_cases h2 : cmpT f.fi la ≤ 0
    · by_cases h3 : 0 ≤ cmpT f.la fi
      · rw [if_pos ⟨h1, h2, h3⟩]
        simp [show ¬ 0 < cmpT f.fi la by omega, show ¬ cmpT f.la fi < 0 by omega]
      · rw [if_neg (fun h => h3 h.2.2)]
        simp [show cmpT f.la fi < 0 by omega]
    · rw [if_neg (fun h => h2 h.2.1)]
      simp [show 0 < cmpT f.fi la by omega]
  · rw [if_neg h1, if_neg (fun h => h1 h.1)]
set_option maxRecDepth 100000 in
set_option maxHeartbeats 4000000 in
theorem qoverlap_any (A : Option Addr) (n c : Nat) (L : List FileM) (lv : Int) (fi la : ByteArray) (w : World) (hI : FilesAt w A n L) (hn : n ≤ 1000000) (hok : ∀ f ∈ L, FileOk f) (hfi : fi.size ≤ 9223372036854775807) (hla : la.size ≤ 9223372036854775807) :
    Calls Tryz.prog 13 #[.slice A n c, .int .i64 lv, .string fi, .string la] w fun e w' => ∃ v, e = .returned v ∧ Own elInts w' w.heap.size 3 v (overP L lv fi la) ∧ Below w.heap.size w w' := by
  have HI := Lib.hid hI
  have HLn := Lib.hid hI.len
  have HOK := Lib.hid hok
  have HE : Hid (L.take n = L) := Lib.hid (List.take_of_length_le (by rw [← HLn.out]; exact Nat.le_refl _))
  clear hI hok
  go_enter Tryz.func13, Tryz.ntmps13
  go_wp2_with fail
  go_loopw [9, 10, 11] (fun o i y wr => ∃ (k : Nat), k ≤ n ∧ i = .int .i64 (k : Int) ∧ Hid (Own elInts wr w.heap.size 3 o (overP (L.take k) lv fi la)) ∧ Hid (Below w.heap.size w wr)) (fun _ i _ _ => n - (intOf i).toNat)
  case atStart => exact ⟨0, by omega, rfl, World.ownsRow_nil _ _ _ _, Below.refl _ _⟩
  case round =>
    obtain ⟨k, hk, rfl, HN, HB⟩ := hrel
    by_cases hl : k < n
    · have g3 : (k : Int) < (n : Int) := Int.ofNat_lt.2 hl
      have g4 : (0 : Int) ≤ (k : Int) := Int.natCast_nonneg k
      have w1 := wrap_sucP hl hn
      have hkL : k < L.length := by rw [← HLn.out]; exact hl
      have hs := List.getElem?_eq_getElem hkL
      generalize L[k] = f at hs
      have hf := HOK.out f (List.mem_of_getElem? hs)
      have hsn := overP_snoc (L.take k) f lv fi la
      rw [← ftake_snoc hs] at hsn
      obtain ⟨g, off, rfl, hg, y0, y1, y2, y3, y4, y5⟩ := (HI.out.below HB.out).at_ k f hs
      obtain ⟨W1, hW1⟩ : ∃ W1, W1 = wr.alloc (.cells #[.int .i64 f.lv, .int .i64 f.nu, .int .i64 f.co, .int .i64 f.sz, .string f.fi, .string f.la] 57) := ⟨_, rfl⟩
      have hBk : Blk W1 wr.heap.size 57 #[.int .i64 f.lv, .int .i64 f.nu, .int .i64 f.co, .int .i64 f.sz, .string f.fi, .string f.la] := by rw [hW1]; exact Blk.new _ _ _
      have C1 := fun W => Lib.hid (rcompare9 f.fi la W hf.fi hla)
      have C2 := fun W => Lib.hid (rcompare9 f.la fi W hf.la hfi)
      have hlen : (overP (L.take k) lv fi la).length ≤ 1000000 := by
        unfold overP rangeP ofP
        rw [List.length_map]
        exact Nat.le_trans (List.length_filter_le _ _) (Nat.le_trans (List.length_filter_le _ _) (by rw [List.length_take]; omega))
      have hN1 := HN.out.alc (.cells #[.int .i64 f.lv, .int .i64 f.nu, .int .i64 f.co, .int .i64 f.sz, .string f.fi, .string f.la] 57)
      rw [← hW1] at hN1
      have hB1 : Below w.heap.size w W1 := by rw [hW1]; exact HB.out.alloc HB.out.size _
      obtain ⟨ao, co, eo⟩ := hN1.slice
      have HBk := Lib.hid hBk
      have HS := Lib.hid hsn
      have EO := Lib.hid eo
      clear eo
      generalize cmpT f.fi la = u at *
      generalize cmpT f.la fi = v at *
      by_cases he : f.lv = lv
      · have e1 : (f.lv == lv) = true := beq_iff_eq.2 he
        have HN1 := Lib.hid hN1
        have HB1 := Lib.hid hB1
        rw [he] at hW1 hBk
        replace HBk := Lib.hid hBk
        have HW1 := Lib.hid hW1
        clear hs hkL hg hf hBk hN1 hB1 hW1 hsn HN HB
        go_wp2_with fail
        rw [← HW1.out]
        refine (C1 _).out.mono ?_
        rintro e w5 ⟨rfl, j5, hw5⟩
        have hK5 : Blk (W1.drewN j5) wr.heap.size 57 _ := HBk.out
        rw [← hw5] at hK5
        have hN5 : Own elInts (W1.drewN j5) w.heap.size 3 _ (overP (L.take k) lv fi la) := HN1.out
        rw [← hw5] at hN5
        have hB5 : Below w.heap.size w w5 := by rw [hw5]; exact HB1.out.trans ⟨rfl, rfl, rfl, Nat.le_refl _, fun _ _ => rfl⟩
        have c1 := hK5.cell 1
        have c5 := hK5.cell 5
        by_cases h2 : u ≤ 0
        · have e2 : decide (u ≤ 0) = true := decide_eq_true h2
          have HK5 := Lib.hid hK5
          have HN5 := Lib.hid hN5
          have HB5 := Lib.hid hB5
          clear hw5 hK5 hN5 hB5 HN1 HB1
          go_wp2_with fail
          refine (C2 _).out.mono ?_
          rintro e w6 ⟨rfl, j6, hw6⟩
          have hK6 : Blk (w5.drewN j6) wr.heap.size 57 _ := HK5.out
          rw [← hw6] at hK6
          have hN6 : Own elInts (w5.drewN j6) w.heap.size 3 _ (overP (L.take k) lv fi la) := HN5.out
          rw [← hw6] at hN6
          have hB6 : Below w.heap.size w w6 := by rw [hw6]; exact HB5.out.trans ⟨rfl, rfl, rfl, Nat.le_refl _, fun _ _ => rfl⟩
          have d1 := hK6.cell 1
          clear c1 c5
          by_cases h3 : 0 ≤ v
          · have e3 : decide (0 ≤ v) = true := decide_eq_true h3
            have hS := HS.out
            rw [if_pos ⟨he, h2, h3⟩] at hS
            have eo := EO.out
            rw [eo] at hN6
            have Ha : Own elInts (w6.alloc (.cells #[.int .i64 f.nu] 3)) w.heap.size 3 (.slice ao (overP (L.take k) lv fi la).length co) (overP (L.take k) lv fi la) := World.ownsRow.alloc hN6 _
            obtain ⟨v', w7, hr, hown, hgr, _, _⟩ := app_own (P := Tryz.prog) elInts 45 3 (.int .i64 0) 8 underInts infoInts rfl (w6.alloc (.cells #[.int .i64 f.nu] 3)) w.heap.size (.slice ao (overP (L.take k) lv fi la).length co) (overP (L.take k) lv fi la) [f.nu] Ha (some ⟨w6.heap.size, 0, none⟩) 1 (fun h => by cases h) (fun a ha j' x hx => by
              cases ha
              rw [El.row_one] at hx
              exact cells_new w6 3 [.int .i64 f.nu] j' x hx) (by unfold maxLen; simp only [List.length_singleton]; omega) (by simp only [List.length_singleton]; omega) (Nat.le_trans hB6.size (by simp)) 1 rfl
            rw [← hS] at hown
            have HN7 := Lib.hid hown
            have hB7 : Below w.heap.size w w7 := (hB6.alloc hB6.size _).grown hgr (Nat.le_trans hB6.size (by simp)) (fun j e => (Ha.lt e).1)
            have HB7 := Lib.hid hB7
            have HR := fun ty => Lib.hid (hr ty)
            clear EO
            subst eo
            clear hw6 hK6 hN6 hB6 Ha hr hown hgr hB7 hS HK5 HN5 HB5 he h2 h3
            generalize (overP (L.take k) lv fi la).length = m0 at *
            go_wp2_with (at_builtin; refine wpList_append_k _ w7 rfl (.tmp 40) (.tmp 43) 45 rfl _ _ v' rfl rfl (fun ty => (HR ty).out) ?_)
            go_roundw
            case rel => exact ⟨k + 1, hl, by go_num, HN7, HB7⟩
            case measure => exact meas_ltP hl
          · have e3 : decide (0 ≤ v) = false := decide_eq_false h3
            have hS := HS.out
            rw [if_neg (fun h => h3 h.2.2)] at hS
            rw [← hS] at hN6
            have HN6 := Lib.hid hN6
            have HB6 := Lib.hid hB6
            clear hw6 hK6 hN6 hB6 hS HK5 HN5 HB5 he h2 h3
            go_wp2_with fail
            go_roundw
            case rel => exact ⟨k + 1, hl, by go_num, HN6, HB6⟩
            case measure => exact meas_ltP hl
        · have e2 : decide (u ≤ 0) = false := decide_eq_false h2
          have hS := HS.out
          rw [if_neg (fun h => h2 h.2.1)] at hS
          rw [← hS] at hN5
          have HN5 := Lib.hid hN5
          have HB5 := Lib.hid hB5
          clear hw5 hK5 hN5 hB5 HN1 HB1 hS he h2
          go_wp2_with fail
          go_roundw
          case rel => exact ⟨k + 1, hl, by go_num, HN5, HB5⟩
          case measure => exact meas_ltP hl
      · have e1 : (f.lv == lv) = false := beq_eq_false_iff_ne.2 he
        rw [if_neg (fun h => he h.1)] at hsn
        rw [← hsn] at hN1
        rw [hW1] at hN1 hB1
        have HN1 := Lib.hid hN1
        have HB1 := Lib.hid hB1
        clear hs hkL hg hf hBk hN1 hB1 hW1 hsn HN HB HS HBk he
        go_wp2_with fail
        go_roundw
        case rel => exact ⟨k + 1, hl, by go_num, HN1, HB1⟩
        case measure => exact meas_ltP hl
    · obtain rfl : k = n := by omega
      have g3 : ¬ (k : Int) < (k : Int) := Int.lt_irrefl _
      rw [HE.out] at HN
      go_wp2_with fail
      go_ret
      exact ⟨_, rfl, HN.out, HB.out⟩
end Go.Proofs.YtkhmbkofkdnlkaaGreat

namespace Go.Proofs.YtkhmbkofkdnlkaaGreat
open Go.RowKit

set_option maxRecDepth 100000 in
set_option maxHeartbeats 4000000 in
theorem qscores_any (A : Option Addr) (n c : Nat) (L : List FileM) (base ratio : Nat) (w : World) (hI : FilesAt w A n L) (hn : n ≤ 1000000) :
    Calls Tryz.prog 11 #[.slice A n c, .float .f64 base, .float .f64 ratio] w fun e w' => ∃ g cc S, e = .returned (.slice (some ⟨g, 0, none⟩) 6 cc) ∧ Own elReals w' w.heap.size 23 (.slice (some ⟨g, 0, none⟩) 6 cc) S ∧ SameL S (scoresP L base ratio) ∧ (∀ x ∈ S, x < 18446744073709551616) ∧ w.grownBy w' none := by
  have CC := Lib.hid (qcount_any A n c L 0 w hI hn)
  have CB := fun W (h : w.grownBy W none) (k : Int) => Lib.hid (qbytes_any A n c L k W (hI.below (below_g h)) hn)
  have hst := run_store_f64P
  have q4 : floatOfInt .f64 4 = 4616189618054758400 := by decide +kernel
  obtain ⟨sc, hsc⟩ : ∃ sc, sc = scoreP ((ofP L 0).length : Nat) (fun k => bytesP L (k : Nat)) base ratio := ⟨_, rfl⟩
  have SC0 : Hid (sc 0 = fq (floatOfInt .f64 ((ofP L 0).length : Nat)) 4616189618054758400) := Lib.hid (by rw [hsc, ← q4]; rfl)
  have SC1 : Hid (∀ k, sc (k + 1) = fq (floatOfInt .f64 (bytesP L ((k + 1 : Nat) : Int))) (roomP base ratio k)) := Lib.hid (by rw [hsc]; intro k; rfl)
  have SCL : Hid (∀ S : List Nat, S.length = 6 → (∀ j, j < 6 → SameF (S.getD j 0) (sc j)) → SameL S (scoresP L base ratio)) := Lib.hid fun S h1 h2 => ⟨by rw [h1, scoresP_len], fun j x y hx hy => by
    have hj : j < 6 := by rw [← h1]; exact (List.getElem?_eq_some_iff.1 hx).1
    rw [scoresP_at L base ratio j hj, ← hsc] at hy
    cases hy
    have := h2 j hj
    rwa [List.getD_eq_getElem?_getD, hx] at this⟩
  generalize scoresP L base ratio = TS at *
  obtain ⟨cnt, hcnt⟩ : ∃ cnt, (ofP L 0).length = cnt := ⟨_, rfl⟩
  rw [hcnt] at CC SC0
  obtain ⟨z, w2, hr0, hs0, hz0, hg0⟩ := run_fq (floatOfInt .f64 (cnt : Int)) 4616189618054758400 w
  have hBk := Blk.new w2 23 #[.float .f64 z]
  have HG2 := Lib.hid (gnone hg0 (World.grownBy_alloc w2 (.cells #[.float .f64 z] 23) none))
  have HO2 : Hid (Own elReals (w2.alloc (.cells #[.float .f64 z] 23)) w.heap.size 23 (.slice (some ⟨w2.heap.size, 0, none⟩) 1 1) [z]) := Lib.hid ⟨rfl, Or.inr ⟨w2.heap.size, 1, #[.float .f64 z], rfl, hg0.size, hBk, Nat.le_refl _, by unfold maxLen; decide, rfl, rfl⟩⟩
  have HZ : Hid (SameF z (sc 0)) := Lib.hid (by rw [SC0.out]; exact hs0)
  have HZ64 := Lib.hid hz0
  clear hI hsc hcnt hs0 hz0 hg0 hBk q4
  go_enter Tryz.func11, Tryz.ntmps11
  go_wp2_with fail
  refine CC.out.mono ?_
  rintro e w1 ⟨rfl, rfl⟩
  go_wp2_with fail
  go_loopw [1, 7, 8] (fun r l i wr => ∃ (k q : Nat) (S : List Nat), 1 ≤ k ∧ k ≤ 6 ∧ i = .int .i64 (k : Int) ∧ r = .float .f64 q ∧ Hid (SameF q (roomP base ratio (k - 1))) ∧ Hid (S.length = k) ∧ Hid (∀ j, j < k → SameF (S.getD j 0) (sc j)) ∧ Hid (∀ x ∈ S, x < 18446744073709551616) ∧ Hid (Own elReals wr w1.heap.size 23 l S) ∧ Hid (w1.grownBy wr none)) (fun _ _ i _ => 6 - (intOf i).toNat)
  case atStart =>
    refine ⟨1, base, [z], by omega, by omega, rfl, rfl, Lib.hid (SameF.refl _), Lib.hid rfl, Lib.hid fun j hj => ?_, Lib.hid fun x hx => ?_, HO2, HG2⟩
    · obtain rfl : j = 0 := by omega
      exact HZ.out
    · simp at hx; rw [hx]; exact HZ64.out
  case round =>
    obtain ⟨k, q, S, k1, k6, rfl, rfl, HQ, HSl, HSC, HS64, HO, HG⟩ := hrel
    clear HO2 HG2 HZ HZ64 hr0
    by_cases hl : k < 6
    · have g1 : (k : Int) < 6 := by omega
      have w1' := wrap_sucP hl (by decide)
      have CBk := CB wr HG.out (k : Int)
      have SCk : Hid (sc k = fq (floatOfInt .f64 (bytesP L (k : Int))) (roomP base ratio (k - 1))) := Lib.hid (by
        have := SC1.out (k - 1)
        rwa [show k - 1 + 1 = k by omega] at this)
      have HRm : Hid (roomP base ratio k = fm (roomP base ratio (k - 1)) ratio) := Lib.hid (by
        obtain ⟨m, rfl⟩ : ∃ m, k = m + 1 := ⟨k - 1, by omega⟩
        rfl)
      generalize bytesP L (k : Int) = by_ at *
      obtain ⟨ao, co, eo⟩ := HO.out.slice
      rw [HSl.out] at eo
      have EO := Lib.hid eo
      clear eo
      go_wp2_with fail
      refine CBk.out.mono ?_
      rintro e w5 ⟨rfl, hg5⟩
      have HO5 := HO.out.below (below_g hg5)
      have hgg := gnone HG.out hg5
      obtain ⟨z1, w6, hr1, hs1, hl1, hg6⟩ := run_fq (floatOfInt .f64 by_) q w5
      have HO6 := HO5.below (below_g hg6)
      have hgg6 := gnone hgg hg6
      have eo := EO.out
      rw [eo] at HO6
      have Ha : Own elReals (w6.alloc (.cells #[.float .f64 z1] 23)) w1.heap.size 23 (.slice ao k co) S := HO6.alc _
      obtain ⟨v', w7, hr7, hown, hgr, _, _⟩ := app_own (P := Tryz.prog) elReals 43 23 (.float .f64 0) 8 underReals infoReals rfl (w6.alloc (.cells #[.float .f64 z1] 23)) w1.heap.size (.slice ao k co) S [z1] Ha (some ⟨w6.heap.size, 0, none⟩) 1 (fun h => by cases h) (fun a ha j' x hx => by
        cases ha
        rw [El.row_one] at hx
        exact cells_new w6 23 [.float .f64 z1] j' x hx) (by rw [HSl.out]; unfold maxLen; simp only [List.length_singleton]; omega) (by rw [HSl.out]; simp only [List.length_singleton]; omega) (Nat.le_trans hgg6.size (by simp)) 1 rfl
      have hg7 := grow_k (gnone hgg6 (World.grownBy_alloc w6 (.cells #[.float .f64 z1] 23) none)) Ha (Nat.le_refl _) hgr
      obtain ⟨z2, w8, hr2, hs2, hl2, hg8⟩ := run_fm q ratio w7
      have HO8 := Lib.hid (Own.below hown (below_g hg8))
      have HG8 := Lib.hid (gnone hg7 hg8)
      have HL8 : Hid ((S ++ [z1]).length = k + 1) := Lib.hid (by rw [List.length_append, HSl.out]; rfl)
      have HQ8 : Hid (SameF z2 (roomP base ratio (k + 1 - 1))) := Lib.hid (by
        rw [Nat.add_sub_cancel, HRm.out]
        exact hs2.trans (fm_left HQ.out))
      have HC8 : Hid (∀ j, j < k + 1 → SameF ((S ++ [z1]).getD j 0) (sc j)) := Lib.hid fun j hj => by
        rw [List.getD_eq_getElem?_getD]
        by_cases e : j = k
        · subst e
          rw [List.getElem?_append_right (by rw [HSl.out]; exact Nat.le_refl _), HSl.out, Nat.sub_self, SCk.out]
          exact hs1.trans (fq_right HQ.out)
        · rw [List.getElem?_append_left (by rw [HSl.out]; omega), ← List.getD_eq_getElem?_getD]
          exact HSC.out j (by omega)
      have H64 : Hid (∀ x ∈ S ++ [z1], x < 18446744073709551616) := Lib.hid fun x hx => by
        rcases List.mem_append.1 hx with h | h
        · exact HS64.out x h
        · simp at h; rw [h]; exact hl1
      have HR := fun ty => Lib.hid (hr7 ty)
      clear CBk hg5 HO5 hgg hs1 hl1 hg6 HO6 hgg6 Ha hr7 hown hgr hg7 hs2 hl2 hg8 HO HG EO
      subst eo
      go_wp2_with (at_builtin; refine wpList_append_k _ w7 rfl (.tmp 18) (.tmp 25) 43 rfl _ _ v' rfl rfl (fun ty => (HR ty).out) ?_)
      go_roundw
      case rel => exact ⟨k + 1, z2, S ++ [z1], by omega, by omega, by go_num, rfl, HQ8, HL8, HC8, H64, HO8, HG8⟩
      case measure => exact meas_ltP hl
    · obtain rfl : k = 6 := by omega
      have hX := Lib.hid (SCL.out S HSl.out HSC.out)
      obtain ⟨g, cc, cur, e1, _, _⟩ := HO.out.some_ (by rw [HSl.out]; decide)
      rw [HSl.out] at e1
      subst e1
      go_wp2_with fail
      go_ret
      exact ⟨_, _, S, rfl, HO.out, hX.out, HS64.out, HG.out⟩
end Go.Proofs.YtkhmbkofkdnlkaaGreat
