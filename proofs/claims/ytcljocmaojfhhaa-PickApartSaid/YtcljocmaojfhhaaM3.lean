/-
  Several texts in one: The landed package pick, part 6: fullest; slices.Grow, slices.Concat; slices.MinFunc by number; due, reach.
  The landed package pick, part 7: slices.MinFunc by number; due, reach.
  The landed package pick, part 8: due, reach.
  The landed package pick, part 9: Pick.
  The laws of chapter 15: their first call.
  The law PickApart, ahead of its walk: among.
  '<' of texts is the order of cmpT (no program is named).
  The law PickApart, ahead of its walk: within.
  The law PickApart, ahead of its walk: what is picked of files whose numbers are distinct (plain).
  Slices of files, and a file, that came in: what a walk asks of them, out of how they read. No program is named.
  The last step of a law's row: the call leaves all that was there as it was.
-/
import Derived.Test.YtcljocmaojfhhaaM2
import Derived.Test.YtcljocmaojfhhaaM1
import Derived.Lib.AppendZerosOnto
import Derived.BigQuiet
import Derived.StillTailTactics
import Derived.LoopTactic
import Derived.Lib.Strings
import Derived.Lib.SmallJoins
import Derived.Deep.Slices
import Derived.Deep.Strs
import Derived.Below
import Derived.ChangeSame
import Derived.ProofKit
namespace Go.Proofs.Ytcljocmaojfhhaa
open Go.RowKit

set_option maxRecDepth 100000 in
set_option maxHeartbeats 2000000 in
theorem pfullest_any (B g c n : Nat) (S : List Nat) (w : World) (hO : Own elReals w B 23 (.slice (some ⟨g, 0, none⟩) n c) S) (hn : n ≤ 1000000) :
    Calls Try.prog 11 #[.slice (some ⟨g, 0, none⟩) n c] w fun e w' => e = .returned (.tuple #[.int .i64 ((fullP S n).getD 0 : Nat), .bool (fullP S n).isSome]) ∧ w = w' := by
  have HO := Lib.hid hO
  have hlen := (own_reads hO).1
  have HLn := Lib.hid hlen
  obtain ⟨fu, hfu⟩ : ∃ fu, fu = fullP S := ⟨_, rfl⟩
  have F0 : Hid (fu 0 = none) := Lib.hid (by rw [hfu]; rfl)
  have F1 : Hid (∀ k, fu (k + 1) = if (geF (S.getD k 0) oneW && overP0 S (S.getD k 0) (fu k)) = true then some k else fu k) := Lib.hid (by rw [hfu]; intro k; rfl)
  have FL : Hid (∀ k b, fu k = some b → b < k) := Lib.hid fun k b h => (fullP_lt (by rw [hfu] at h; exact h)).1
  rw [← hfu]
  clear hO hlen hfu
  go_enter Try.func11, Try.ntmps11
  go_wp2_with fail
  go_loopw [2, 3, 4, 5, 8] (fun l f _ _ i wr => ∃ (k b : Nat) (t : Bool), k ≤ n ∧ i = .int .i64 (k : Int) ∧ l = .int .i64 (b : Int) ∧ f = .bool t ∧ Hid (fu k = if t = true then some b else none) ∧ Hid (t = false → b = 0) ∧ wr = w) (fun _ _ _ _ i _ => n - (intOf i).toNat)
  case atStart => exact ⟨0, 0, false, by omega, rfl, rfl, rfl, Lib.hid F0.out, Lib.hid (fun _ => rfl), rfl⟩
  case round =>
    obtain ⟨k, b, t, hk, rfl, rfl, rfl, HF, HZ, rfl⟩ := hrel
    by_cases hl : k < n
    · have g1 : (k : Int) < (n : Int) := by omega
      have g2 : (0 : Int) ≤ (k : Int) := by omega
      have w1 : wrap64 ((k : Int) + 1) = (k : Int) + 1 := wrap_sucP hl hn
      have hkS : k < S.length := by rw [← HLn.out]; exact hl
      have x0 := own_cellR (j := k) HO.out (List.getElem?_eq_getElem hkS)
      have hF1 := F1.out k
      have hgd : S.getD k 0 = S[k] := by rw [List.getD_eq_getElem?_getD, List.getElem?_eq_getElem hkS]; rfl
      rw [hgd] at hF1
      generalize S[k] = x at *
      cases hg : geF x oneW with
      | false =>
        have o1 : (FloatKind.f64.format.order x 4607182418800017408 == some .gt || FloatKind.f64.format.order x 4607182418800017408 == some .eq) = false := hg
        rw [hg, Bool.false_and, if_neg Bool.false_ne_true] at hF1
        have HF2 : Hid (fu (k + 1) = if t = true then some b else none) := Lib.hid (by rw [hF1]; exact HF.out)
        clear hF1 hgd hkS F1 FL F0 hg
        go_wp2_with fail
        go_roundw
        case rel => exact ⟨k + 1, b, t, by omega, by go_num, rfl, rfl, HF2, HZ, trivial⟩
        case measure => exact meas_ltP hl
      | true =>
        have o1 : (FloatKind.f64.format.order x 4607182418800017408 == some .gt || FloatKind.f64.format.order x 4607182418800017408 == some .eq) = true := hg
        rw [hg, Bool.true_and] at hF1
        cases t with
        | false =>
          rw [HF.out, if_neg Bool.false_ne_true] at hF1
          rw [show overP0 S x none = true from rfl, if_pos rfl] at hF1
          have HF2 : Hid (fu (k + 1) = if true = true then some k else none) := Lib.hid (by rw [hF1, if_pos rfl])
          clear hF1 hgd hkS F1 FL F0 hg
          go_wp2_with fail
          go_roundw
          case rel => exact ⟨k + 1, k, true, by omega, by go_num, rfl, rfl, HF2, Lib.hid (fun h => by cases h), trivial⟩
          case measure => exact meas_ltP hl
        | true =>
          have hfb : fu k = some b := by rw [HF.out, if_pos rfl]
          have hbk := FL.out k b hfb
          have hbS : b < S.length := by omega
          have y0 := own_cellR (j := b) HO.out (List.getElem?_eq_getElem hbS)
          have hbd : S.getD b 0 = S[b] := by rw [List.getD_eq_getElem?_getD, List.getElem?_eq_getElem hbS]; rfl
          rw [hfb, show overP0 S x (some b) = gtF x (S.getD b 0) from rfl, hbd] at hF1
          generalize S[b] = y at *
          have g5 : (b : Int) < (n : Int) := by omega
          have g6 : (0 : Int) ≤ (b : Int) := by omega
          cases hgt : gtF x y with
          | true =>
            have o2 : (FloatKind.f64.format.order x y == some .gt) = true := hgt
            rw [hgt, if_pos rfl] at hF1
            have HF2 : Hid (fu (k + 1) = if true = true then some k else none) := Lib.hid (by rw [hF1, if_pos rfl])
            clear hF1 hgd hkS F1 FL F0 hg hgt hbd hbS hbk hfb
            go_wp2_with fail
            go_roundw
            case rel => exact ⟨k + 1, k, true, by omega, by go_num, rfl, rfl, HF2, Lib.hid (fun h => by cases h), trivial⟩
            case measure => exact meas_ltP hl
          | false =>
            have o2 : (FloatKind.f64.format.order x y == some .gt) = false := hgt
            rw [hgt, if_neg Bool.false_ne_true] at hF1
            have HF2 : Hid (fu (k + 1) = if true = true then some b else none) := Lib.hid (by rw [hF1, if_pos rfl])
            clear hF1 hgd hkS F1 FL F0 hg hgt hbd hbS hbk hfb
            go_wp2_with fail
            go_roundw
            case rel => exact ⟨k + 1, b, true, by omega, by go_num, rfl, rfl, HF2, Lib.hid (fun h => by cases h), trivial⟩
            case measure => exact meas_ltP hl
    · obtain rfl : k = n := by omega
      have g3 : ¬ (k : Int) < (k : Int) := by omega
      have hX : Hid (((fu k).getD 0 : Nat) = b ∧ (fu k).isSome = t) := Lib.hid (by
        rw [HF.out]
        cases t with
        | true => exact ⟨rfl, rfl⟩
        | false => exact ⟨(HZ.out rfl).symm, rfl⟩)
      go_wp2_with fail
      go_ret2
      exact ⟨by rw [hX.out.1, hX.out.2]; rfl, rfl⟩

/-! ### slices.Grow of nothing, slices.Concat of two -/
set_option maxRecDepth 100000 in
set_option maxHeartbeats 2000000 in
theorem pgrow_any (n : Nat) (w : World) (hn : n ≤ 10000000) :
    Calls Try.prog 23 #[.slice none 0 0, .int .i64 (n : Int)] w fun e w' => ∃ v, e = .returned v ∧ Own elInts w' w.heap.size 3 v [] ∧ w.grownBy w' none := by
  obtain ⟨i0, hi0, hz0, hz1, hz2⟩ := info_parts infoInts
  by_cases h0 : n = 0
  · subst h0
    go_enter Try.func23, Try.ntmps23
    go_wp2_with fail
    go_ret
    exact ⟨_, rfl, World.ownsRow_nil _ _ _ _, grefl _ _⟩
  · have h4 : (0 : Int) < (n : Int) := by omega
    have h1 : ¬ ((n : Int) < 0) := by omega
    have hz1' : i0.size = 1 := hz1
    have hold : (Builtin.firstCells i0.size 0 (.slice none 0 0)).run Try.prog w.drew = .ok ([] : List Value).toArray w.drew := run_firstCells_none w.drew i0.size 0 0 0
    have hrz : ∀ ty, (Builtin.append_ #[27, 3] ty #[.slice none 0 0, .int .i64 (n : Int)]).run Try.prog w = _ := fun ty => Lib.run_append_grow_zeros w 27 3 ty 3 i0 (.int .i64 0) .i64 .i64 Try.underlying27 Try.underlying3 hi0 hz0 none 0 0 [] hold n (by omega) (by rw [hz1']; decide) (by omega) (by omega) (by rw [hz2]; omega)
        (by rw [Nat.zero_add]; exact growslice_fits (by omega) (by rw [hz2]; omega))
    have hGn : 0 + n ≤ grownCap w (0 + n) 0 3 := grownCap_ge w _ _ _
    have hG9 := grownCap_le_maxLen w (0 + n) 0 3 (by unfold maxLen; omega)
    generalize grownCap w (0 + n) 0 3 = G at *
    rw [Nat.zero_add] at hrz hGn
    have hG63 : G ≤ 9223372036854775807 := by unfold maxLen at hG9; omega
    obtain ⟨cur, hcur⟩ : ∃ cur, cur = ([] : List Value).toArray ++ Builtin.zeroCells (Value.int .i64 0).cells n ++ Builtin.zeroCells (Value.int .i64 0).cells (G - n) := ⟨_, rfl⟩
    have hcs : cur.size = G * 1 := by rw [hcur]; simp [Builtin.zeroCells, Value.cells]; omega
    rw [← hcur] at hrz
    obtain ⟨W, hW⟩ : ∃ W, W = w.drew.alloc (.cells cur 3) := ⟨_, rfl⟩
    rw [← hW] at hrz
    have HO : Hid (Own elInts W w.heap.size 3 (.slice (some ⟨w.heap.size, 0, none⟩) 0 G) []) := Lib.hid (by
      refine ⟨rfl, Or.inr ⟨w.heap.size, G, cur, rfl, Nat.le_refl _, ?_, Nat.zero_le _, hG9, hcs, by simp [El.row]⟩⟩
      rw [hW]
      exact heap_alloc_new w.drew _)
    have HG : Hid (w.grownBy W none) := Lib.hid (by
      rw [hW]
      exact gnone (b := w.drew) ⟨rfl, rfl, rfl, Nat.le_refl _, fun _ _ _ => rfl⟩ (World.grownBy_alloc w.drew _ none))
    clear hold hcur hcs hW hz0 hi0 hz1 hz2 hz1' h0 hG9
    go_enter Try.func23, Try.ntmps23
    go_wp2_with (at_builtin; refine Lib.wpList_append_run _ rfl _ _ _ _ rfl _ _ rfl rfl _ _ (hrz _) ?_)
    all_goals
      go_ret
      exact ⟨_, rfl, HO.out, HG.out⟩
set_option maxRecDepth 100000 in
set_option maxHeartbeats 4000000 in
theorem pconcat_any (q B1 B2 n1 c1 n2 c2 : Nat) (A1 A2 : Option Addr) (L1 L2 : List Int) (w : World) (h1 : w.cell? ⟨q, 0, none⟩ = some (.slice A1 n1 c1)) (h2 : w.cell? ⟨q, 1, none⟩ = some (.slice A2 n2 c2)) (o1 : Own elInts w B1 3 (.slice A1 n1 c1) L1) (o2 : Own elInts w B2 3 (.slice A2 n2 c2) L2) (hn1 : n1 ≤ 1000000) (hn2 : n2 ≤ 1000000) :
    Calls Try.prog 14 #[.slice (some ⟨q, 0, none⟩) 2 2] w fun e w' => ∃ v, e = .returned v ∧ Own elInts w' w.heap.size 3 v (L1 ++ L2) ∧ w.grownBy w' none := by
  have k1 : n1 = L1.length := (own_reads o1).1
  have k2 : n2 = L2.length := (own_reads o2).1
  have HK1 := Lib.hid k1
  have HK2 := Lib.hid k2
  have H1 := Lib.hid h1
  have H2 := Lib.hid h2
  have O1 := Lib.hid o1
  have O2 := Lib.hid o2
  have CG := fun W => Lib.hid (pgrow_any (n1 + n2) W (by omega))
  have cs : ((n1 + n2 : Nat) : Int) = (n1 : Int) + (n2 : Int) := by omega
  rw [cs] at CG
  clear k1 k2 h1 h2 o1 o2 cs
  go_enter Try.func14, Try.ntmps14
  go_wp2_with fail
  go_loopw [3, 5, 11] (fun s _ i wr => ∃ k : Nat, k ≤ 2 ∧ i = .int .i64 (k : Int) ∧ s = .int .i64 (if k = 0 then 0 else if k = 1 then (n1 : Int) else (n1 : Int) + (n2 : Int)) ∧ wr = w) (fun _ _ i _ => 2 - (intOf i).toNat)
  case atStart => exact ⟨0, by omega, rfl, rfl, rfl⟩
  case round =>
    obtain ⟨k, hk, rfl, rfl, rfl⟩ := hrel
    rcases (by omega : k = 0 ∨ k = 1 ∨ k = 2) with rfl | rfl | rfl
    · have c0 := H1.out
      go_wp2_with fail
      go_roundw
      case rel => exact ⟨0 + 1, by omega, by rfl, by simp, trivial⟩
      case measure => simp [intOf]
    · have c0 := H2.out
      have t1 : wrap64 ((n1 : Int) + (n2 : Int)) = (n1 : Int) + (n2 : Int) := by unfold wrap64; omega
      have t2 : ¬ ((n1 : Int) + (n2 : Int) < 0) := by omega
      go_wp2_with fail
      go_roundw
      case rel => exact ⟨1 + 1, by omega, by rfl, by simp, trivial⟩
      case measure => simp [intOf]
    · obtain ⟨w0, hw0⟩ : ∃ w0, w0 = wr := ⟨_, rfl⟩
      subst hw0
      go_wp2_with fail
      refine (CG _).out.mono ?_
      rintro e w2 ⟨v, rfl, ho, hg⟩
      obtain ⟨a0, c0, rfl⟩ := ho.slice
      have HO := Lib.hid ho
      have HG := Lib.hid hg
      clear ho hg CG
      go_wp2_with fail
      go_loopw [6, 8, 27] (fun v _ i wr => ∃ k : Nat, k ≤ 2 ∧ i = .int .i64 (k : Int) ∧ Hid (Own elInts wr w0.heap.size 3 v (if k = 0 then [] else if k = 1 then L1 else L1 ++ L2)) ∧ Hid (w0.grownBy wr none)) (fun _ _ i _ => 2 - (intOf i).toNat)
      case atStart => exact ⟨0, by omega, rfl, HO, HG⟩
      case round =>
        obtain ⟨k, hk, rfl, HOw, HGw⟩ := hrel
        clear HO HG
        rcases (by omega : k = 0 ∨ k = 1 ∨ k = 2) with rfl | rfl | rfl
        · have hown : Own elInts wr w0.heap.size 3 _ [] := HOw.out
          obtain ⟨av, cv, ev⟩ := hown.slice
          subst ev
          have r1 := own_reads (O1.out.below (below_g HGw.out))
          obtain ⟨v', w3, hr, hown2, hgr, _, _⟩ := app_own (P := Try.prog) elInts 27 3 (.int .i64 0) 8 underInts infoInts rfl wr w0.heap.size (.slice av ([] : List Int).length cv) [] L1 hown A1 c1 r1.2.1 r1.2.2 (by rw [← HK1.out]; unfold maxLen; simp; omega) (by rw [← HK1.out]; simp; omega) HGw.out.size n1 HK1.out
          have HR := fun ty => Lib.hid (hr ty)
          have HO3 : Hid (Own elInts w3 w0.heap.size 3 v' (if 0 + 1 = 0 then [] else if 0 + 1 = 1 then L1 else L1 ++ L2)) := Lib.hid hown2
          have HG3 := Lib.hid (grow_k HGw.out hown (Nat.le_refl _) hgr)
          have c0 := HGw.out.cell H1.out (by simp)
          clear hr hown2 hgr r1 hown HOw HGw
          go_wp2_with (at_builtin; refine wpList_append_k _ w3 rfl (.tmp 31) (.tmp 32) 27 rfl _ _ v' rfl rfl (fun ty => (HR ty).out) ?_)
          go_roundw
          case rel => exact ⟨0 + 1, by omega, by rfl, HO3, HG3⟩
          case measure => simp [intOf]
        · have hown : Own elInts wr w0.heap.size 3 _ L1 := HOw.out
          obtain ⟨av, cv, ev⟩ := hown.slice
          subst ev
          have r2 := own_reads (O2.out.below (below_g HGw.out))
          obtain ⟨v', w3, hr, hown2, hgr, _, _⟩ := app_own (P := Try.prog) elInts 27 3 (.int .i64 0) 8 underInts infoInts rfl wr w0.heap.size (.slice av L1.length cv) L1 L2 hown A2 c2 r2.2.1 r2.2.2 (by rw [← HK1.out, ← HK2.out]; unfold maxLen; omega) (by rw [← HK1.out, ← HK2.out]; omega) HGw.out.size n2 HK2.out
          have HR := fun ty => Lib.hid (hr ty)
          have HO3 : Hid (Own elInts w3 w0.heap.size 3 v' (if 1 + 1 = 0 then [] else if 1 + 1 = 1 then L1 else L1 ++ L2)) := Lib.hid hown2
          have HG3 := Lib.hid (grow_k HGw.out hown (Nat.le_refl _) hgr)
          have c0 := HGw.out.cell H2.out (by simp)
          clear hr hown2 hgr r2 hown HOw HGw
          generalize L1.length = m1 at *
          go_wp2_with (at_builtin; refine wpList_append_k _ w3 rfl (.tmp 31) (.tmp 32) 27 rfl _ _ v' rfl rfl (fun ty => (HR ty).out) ?_)
          go_roundw
          case rel => exact ⟨1 + 1, by omega, by rfl, HO3, HG3⟩
          case measure => simp [intOf]
        · go_wp2_with fail
          go_ret
          exact ⟨_, rfl, HOw.out, HGw.out⟩
end Go.Proofs.Ytcljocmaojfhhaa

namespace Go.Proofs.Ytcljocmaojfhhaa
open Go.RowKit

def cmpI2 (a b : Int) : Int := if a < b then -1 else if b < a then 1 else 0
/-- The file of the least number; of several the first. -/
def minFrom (m : FileM) : List FileM → FileM
  | [] => m
  | x :: r => minFrom (if x.nu < m.nu then x else m) r
theorem minFrom_snoc (r : List FileM) : ∀ (m x : FileM), minFrom m (r ++ [x]) = if x.nu < (minFrom m r).nu then x else minFrom m r := by
  induction r with
  | nil => intro m x; rfl
  | cons y r ih => intro m x; exact ih _ x
def minP : List FileM → List FileM
  | [] => []
  | f :: r => [minFrom f r]
def dueP (L : List FileM) (lv : Int) : List FileM := if lv = 0 then ofP L lv else minP (ofP L lv)
def firstP (s : ByteArray) : List FileM → ByteArray
  | [] => s
  | f :: r => firstP (if cmpT f.fi s < 0 then f.fi else s) r
def lastP' (s : ByteArray) : List FileM → ByteArray
  | [] => s
  | f :: r => lastP' (if 0 < cmpT f.la s then f.la else s) r
theorem firstP_snoc (r : List FileM) : ∀ (s : ByteArray) (x : FileM), firstP s (r ++ [x]) = if cmpT x.fi (firstP s r) < 0 then x.fi else firstP s r := by
  induction r with
  | nil => intro s x; rfl
  | cons y r ih => intro s x; exact ih _ x
theorem lastP_snoc (r : List FileM) : ∀ (s : ByteArray) (x : FileM), lastP' s (r ++ [x]) = if 0 < cmpT x.la (lastP' s r) then x.la else lastP' s r := by
  induction r with
  | nil => intro s x; rfl
  | cons y r ih => intro s x; exact ih _ x
def cellsF (f : FileM) : Array Value := #[.int .i64 f.lv, .int .i64 f.nu, .int .i64 f.co, .int .i64 f.sz, .string f.fi, .string f.la]
set_option maxRecDepth 100000 in
set_option maxHeartbeats 1000000 in
theorem pbynumber_any (a b : FileM) (w : World) :
    Calls Try.prog 21 #[.agg #[.int .i64 a.lv, .int .i64 a.nu, .int .i64 a.co, .int .i64 a.sz, .string a.fi, .string a.la], .agg #[.int .i64 b.lv, .int .i64 b.nu, .int .i64 b.co, .int .i64 b.sz, .string b.fi, .string b.la]] w fun e w' => e = .returned (.int .i64 (cmpI2 a.nu b.nu)) ∧ w.grownBy w' none := by
  have CL := fun W => Lib.hid (Try.cmp_Compare_int a.nu b.nu W)
  have hc : Lib.compareInt a.nu b.nu = cmpI2 a.nu b.nu := rfl
  rw [hc] at CL
  have HG := Lib.hid (gnone (World.grownBy_alloc w (.cells #[.int .i64 a.lv, .int .i64 a.nu, .int .i64 a.co, .int .i64 a.sz, .string a.fi, .string a.la] 26) none) (World.grownBy_alloc _ (.cells #[.int .i64 b.lv, .int .i64 b.nu, .int .i64 b.co, .int .i64 b.sz, .string b.fi, .string b.la] 26) none))
  generalize cmpI2 a.nu b.nu = cc at *
  clear hc
  go_enter Try.func21, Try.ntmps21
  go_wp2_with fail
  refine (CL _).out.mono ?_
  rintro e w' ⟨rfl, rfl⟩
  go_wp2_with fail
  go_ret
  exact ⟨rfl, HG.out⟩
theorem min_end {w : World} {p : Nat} {t : Array Value} {R : Ending → World → Prop} {f : FileM} (B : Blk w p 26 (cellsF f)) (h4 : t[4]?.getD undef = .pointer (some ⟨p, 0, none⟩))
    (h : R (.returned (.agg #[.int .i64 f.lv, .int .i64 f.nu, .int .i64 f.co, .int .i64 f.sz, .string f.fi, .string f.la])) w) : bodyPost Try.prog Try.f20 R .ret { tmps := t, defers := [] } w := by
  have q0 := B.cell 0
  have q1 := B.cell 1
  have q2 := B.cell 2
  have q3 := B.cell 3
  have q4 := B.cell 4
  have q5 := B.cell 5
  refine bodyPost_ret (v := .agg #[.int .i64 f.lv, .int .i64 f.nu, .int .i64 f.co, .int .i64 f.sz, .string f.fi, .string f.la]) ?_ rfl h
  simp [cellsF] at q0 q1 q2 q3 q4 q5
  simp [results, Try.results20, go_sem, q0, q1, q2, q3, q4, q5, h4]
set_option maxRecDepth 100000 in
set_option maxHeartbeats 4000000 in
theorem pmin_any (A : Option Addr) (n c : Nat) (f : FileM) (r : List FileM) (w : World) (hI : FilesAt w A n (f :: r)) (hn : n ≤ 1000000) :
    Calls Try.prog 20 #[.slice A n c, .func (.func 21) #[] #[]] w fun e w' => e = .returned (.agg (cellsF (minFrom f r))) ∧ w.grownBy w' none := by
  have HI := Lib.hid hI
  have hlen := hI.len
  have HLn := Lib.hid hlen
  have h1 : 1 ≤ n := by rw [hlen]; simp
  obtain ⟨g, off, rfl, hg, z0, z1, z2, z3, z4, z5⟩ := hI.at_ 0 f rfl
  rw [Nat.zero_mul, Nat.add_zero] at z0 z1 z2 z3 z4 z5
  obtain ⟨Z, hZ⟩ : ∃ Z, Z = Obj.cells #[.int .i64 0, .int .i64 0, .int .i64 0, .int .i64 0, .string ⟨#[]⟩, .string ⟨#[]⟩] 26 := ⟨_, rfl⟩
  have g0 := World.grownBy_alloc w Z none
  have y0 := g0.cell z0 (by simp)
  have y1 := g0.cell z1 (by simp)
  have y2 := g0.cell z2 (by simp)
  have y3 := g0.cell z3 (by simp)
  have y4 := g0.cell z4 (by simp)
  have y5 := g0.cell z5 (by simp)
  have t1 : ¬ ((n : Int) < 1) := by omega
  have t2 : (0 : Int) < (n : Int) := by omega
  have P0 : Hid (Blk ((w.alloc Z).alloc (.cells (cellsF f) 26)) w.heap.size 26 #[.int .i64 0, .int .i64 0, .int .i64 0, .int .i64 0, .string ⟨#[]⟩, .string ⟨#[]⟩]) := Lib.hid (by rw [hZ]; exact (Blk.new w _ _).alloc _)
  have P1 : Hid (Blk ((w.alloc Z).alloc (.cells (cellsF f) 26)) (w.heap.size + 1) 26 (cellsF f)) := Lib.hid (Blk.new' (by simp) _ _)
  have G1 : Hid (Below w.heap.size w ((w.alloc Z).alloc (.cells (cellsF f) 26))) := Lib.hid (below_g (gnone g0 (World.grownBy_alloc _ _ none)))
  unfold cellsF at P0 P1 G1
  rw [hZ] at y0 y1 y2 y3 y4 y5 P0 P1 G1
  clear hI hlen hZ g0 z0 z1 z2 z3 z4 z5
  go_enter Try.func20, Try.ntmps20
  go_wp2_with fail
  clear y0 y1 y2 y3 y4 y5
  go_loopw [6] (fun i wr => ∃ (k : Nat) (m : FileM), 1 ≤ k ∧ k ≤ n ∧ i = .int .i64 (k : Int) ∧ Hid (m = minFrom f (r.take (k - 1))) ∧ Hid (Blk wr w.heap.size 26 #[.int .i64 0, .int .i64 0, .int .i64 0, .int .i64 0, .string ⟨#[]⟩, .string ⟨#[]⟩]) ∧ Hid (Blk wr (w.heap.size + 1) 26 (cellsF m)) ∧ Hid (Below w.heap.size w wr)) (fun i _ => n - (intOf i).toNat)
  case atStart => exact ⟨1, f, by omega, h1, rfl, Lib.hid rfl, P0, P1, G1⟩
  case round =>
    obtain ⟨k, m, hk1, hk, rfl, HM, HP0, HP1, HB⟩ := hrel
    clear P0 P1 G1
    by_cases hl : k < n
    · have g3 : (k : Int) < (n : Int) := by omega
      have g4 : (0 : Int) ≤ (k : Int) := by omega
      have w1 : wrap64 ((k : Int) + 1) = (k : Int) + 1 := wrap_sucP hl hn
      have hkL : k < (f :: r).length := by rw [← HLn.out]; exact hl
      have hs := List.getElem?_eq_getElem hkL
      generalize (f :: r)[k] = x at hs
      obtain ⟨g', off', eA, hg', z0, z1, z2, z3, z4, z5⟩ := (HI.out.below HB.out).at_ k x hs
      injection eA with eA
      injection eA with eg eo
      subst eg eo
      have hsr : r[k - 1]? = some x := by
        obtain ⟨j, rfl⟩ : ∃ j, k = j + 1 := ⟨k - 1, by omega⟩
        simpa using hs
      have hsn : minFrom f (r.take (k + 1 - 1)) = if x.nu < m.nu then x else m := by
        rw [show k + 1 - 1 = (k - 1) + 1 by omega, ftake_snoc hsr, minFrom_snoc, ← HM.out]
      have CN := fun W => Lib.hid (pbynumber_any x m W)
      have q0 := HP1.out.cell 0
      have q1 := HP1.out.cell 1
      have q2 := HP1.out.cell 2
      have q3 := HP1.out.cell 3
      have q4 := HP1.out.cell 4
      have q5 := HP1.out.cell 5
      simp only [cellsF] at q0 q1 q2 q3 q4 q5
      have hc : cmpI2 x.nu m.nu < 0 ↔ x.nu < m.nu := by unfold cmpI2; split <;> (try split) <;> omega
      obtain ⟨cc, hcc⟩ : ∃ cc, cmpI2 x.nu m.nu = cc := ⟨_, rfl⟩
      rw [hcc] at CN hc
      have d0 : wr.drew.cell? ⟨w.heap.size + 1, 0, none⟩ = _ := q0
      have d1 : wr.drew.cell? ⟨w.heap.size + 1, 1, none⟩ = _ := q1
      have d2 : wr.drew.cell? ⟨w.heap.size + 1, 2, none⟩ = _ := q2
      have d3 : wr.drew.cell? ⟨w.heap.size + 1, 3, none⟩ = _ := q3
      have d4 : wr.drew.cell? ⟨w.heap.size + 1, 4, none⟩ = _ := q4
      have d5 : wr.drew.cell? ⟨w.heap.size + 1, 5, none⟩ = _ := q5
      have e0 : wr.drew.cell? ⟨g, off + k * 6, none⟩ = _ := z0
      have e1 : wr.drew.cell? ⟨g, off + k * 6 + 1, none⟩ = _ := z1
      have e2 : wr.drew.cell? ⟨g, off + k * 6 + 2, none⟩ = _ := z2
      have e3 : wr.drew.cell? ⟨g, off + k * 6 + 3, none⟩ = _ := z3
      have e4 : wr.drew.cell? ⟨g, off + k * 6 + 4, none⟩ = _ := z4
      have e5 : wr.drew.cell? ⟨g, off + k * 6 + 5, none⟩ = _ := z5
      have HX : Hid (FilesAt wr (some ⟨g, off, none⟩) n (f :: r)) := Lib.hid (HI.out.below HB.out)
      have Hs := Lib.hid hs
      have HSN := Lib.hid hsn
      have HCC := Lib.hid hc
      clear q0 q1 q2 q3 q4 q5 z0 z1 z2 z3 z4 z5 hs hsr hsn hc hcc hkL hg'
      go_wp2_with fail
      go_still_tail 6, (by kernel_rfl)
      go_wp2_with fail
      refine (CN _).out.mono ?_
      rintro e w3 ⟨rfl, hg3⟩
      have hg3' : wr.grownBy w3 none := ⟨hg3.os, hg3.tape, hg3.output, hg3.size, hg3.block⟩
      have hP0 := HP0.out.grown hg3' (by simp)
      have hP1 := HP1.out.grown hg3' (by simp)
      have hB3 := HB.out.trans ((below_g hg3').mono HB.out.size)
      have hX3 := HX.out.below (below_g hg3')
      clear d0 d1 d2 d3 d4 d5 e0 e1 e2 e3 e4 e5 hg3 hg3'
      by_cases hlt : x.nu < m.nu
      · have tc : decide (cc < 0) = true := decide_eq_true (HCC.out.2 hlt)
        have HM2 : Hid (x = minFrom f (r.take (k + 1 - 1))) := Lib.hid (by rw [HSN.out, if_pos hlt])
        obtain ⟨g', off', eA, hg', z0, z1, z2, z3, z4, z5⟩ := hX3.at_ k x Hs.out
        injection eA with eA
        injection eA with eg eo
        subst eg eo
        have q0 := hP1.cell 0
        have q1 := hP1.cell 1
        have q2 := hP1.cell 2
        have q3 := hP1.cell 3
        have q4 := hP1.cell 4
        have q5 := hP1.cell 5
        have f0 := hP1.frozen 0
        have f1 := hP1.frozen 1
        have f2 := hP1.frozen 2
        have f3 := hP1.frozen 3
        have f4 := hP1.frozen 4
        have f5 := hP1.frozen 5
        simp only [cellsF] at q0 q1 q2 q3 q4 q5
        have st := ((((((hP1.set_ 0 (.int .i64 x.lv)).set_ 1 (.int .i64 x.nu)).set_ 2 (.int .i64 x.co)).set_ 3 (.int .i64 x.sz)).set_ 4 (.string x.fi)).set_ 5 (.string x.la))
        have HST := Lib.hid st
        have s0 := hP0.far (p := ⟨w.heap.size + 1, 0, none⟩) (by simp) (.int .i64 x.lv)
        have s1 := s0.far (p := ⟨w.heap.size + 1, 1, none⟩) (by simp) (.int .i64 x.nu)
        have s2 := s1.far (p := ⟨w.heap.size + 1, 2, none⟩) (by simp) (.int .i64 x.co)
        have s3 := s2.far (p := ⟨w.heap.size + 1, 3, none⟩) (by simp) (.int .i64 x.sz)
        have s4 := s3.far (p := ⟨w.heap.size + 1, 4, none⟩) (by simp) (.string x.fi)
        have HS0 := Lib.hid (s4.far (p := ⟨w.heap.size + 1, 5, none⟩) (by simp) (.string x.la))
        have hb1 := below_setCell hB3 (p := ⟨w.heap.size + 1, 0, none⟩) (Nat.le_succ _) (.int .i64 x.lv)
        have hb2 := below_setCell hb1 (p := ⟨w.heap.size + 1, 1, none⟩) (Nat.le_succ _) (.int .i64 x.nu)
        have hb3 := below_setCell hb2 (p := ⟨w.heap.size + 1, 2, none⟩) (Nat.le_succ _) (.int .i64 x.co)
        have hb4 := below_setCell hb3 (p := ⟨w.heap.size + 1, 3, none⟩) (Nat.le_succ _) (.int .i64 x.sz)
        have hb5 := below_setCell hb4 (p := ⟨w.heap.size + 1, 4, none⟩) (Nat.le_succ _) (.string x.fi)
        have HB9 := Lib.hid (below_setCell hb5 (p := ⟨w.heap.size + 1, 5, none⟩) (Nat.le_succ _) (.string x.la))
        clear hP0 hP1 hB3 hX3 st s0 s1 s2 s3 s4 hb1 hb2 hb3 hb4 hb5 hlt hg'
        go_wp2_with fail
        go_roundw
        case rel => exact ⟨k + 1, x, by omega, by omega, by go_num, HM2, HS0, HST, HB9⟩
        case measure => exact meas_ltP hl
      · have tc : decide (cc < 0) = false := decide_eq_false (fun h => hlt (HCC.out.1 h))
        have HM2 : Hid (m = minFrom f (r.take (k + 1 - 1))) := Lib.hid (by rw [HSN.out, if_neg hlt])
        have HP0' := Lib.hid hP0
        have HP1' := Lib.hid hP1
        have HB' := Lib.hid hB3
        clear hP0 hP1 hB3 hX3 hlt
        go_wp2_with fail
        go_roundw
        case rel => exact ⟨k + 1, m, by omega, by omega, by go_num, HM2, HP0', HP1', HB'⟩
        case measure => exact meas_ltP hl
    · obtain rfl : k = n := by omega
      have hX : Hid (m = minFrom f r) := Lib.hid (by
        have h := HM.out
        rwa [List.take_of_length_le (by have := HLn.out; simp at this; omega)] at h)
      have q0 := HP1.out.cell 0
      have q1 := HP1.out.cell 1
      have q2 := HP1.out.cell 2
      have q3 := HP1.out.cell 3
      have q4 := HP1.out.cell 4
      have q5 := HP1.out.cell 5
      simp only [cellsF] at q0 q1 q2 q3 q4 q5
      have x0 := HP0.out.cell 0
      have x1 := HP0.out.cell 1
      have x2 := HP0.out.cell 2
      have x3 := HP0.out.cell 3
      have x4 := HP0.out.cell 4
      have x5 := HP0.out.cell 5
      have f0 := HP0.out.frozen 0
      have f1 := HP0.out.frozen 1
      have f2 := HP0.out.frozen 2
      have f3 := HP0.out.frozen 3
      have f4 := HP0.out.frozen 4
      have f5 := HP0.out.frozen 5
      have st := ((((((HP0.out.set_ 0 (.int .i64 m.lv)).set_ 1 (.int .i64 m.nu)).set_ 2 (.int .i64 m.co)).set_ 3 (.int .i64 m.sz)).set_ 4 (.string m.fi)).set_ 5 (.string m.la))
      have HST := Lib.hid st
      have hb1 := below_setCell HB.out (p := ⟨w.heap.size, 0, none⟩) (Nat.le_refl _) (.int .i64 m.lv)
      have hb2 := below_setCell hb1 (p := ⟨w.heap.size, 1, none⟩) (Nat.le_refl _) (.int .i64 m.nu)
      have hb3 := below_setCell hb2 (p := ⟨w.heap.size, 2, none⟩) (Nat.le_refl _) (.int .i64 m.co)
      have hb4 := below_setCell hb3 (p := ⟨w.heap.size, 3, none⟩) (Nat.le_refl _) (.int .i64 m.sz)
      have hb5 := below_setCell hb4 (p := ⟨w.heap.size, 4, none⟩) (Nat.le_refl _) (.string m.fi)
      have HB9 := Lib.hid (below_setCell hb5 (p := ⟨w.heap.size, 5, none⟩) (Nat.le_refl _) (.string m.la))
      have t3 : ¬ (k : Int) < (k : Int) := by omega
      clear st hb1 hb2 hb3 hb4 hb5
      go_wp2_with fail
      refine min_end (f := m) HST.out rfl ⟨by rw [hX.out]; rfl, g_below HB9.out⟩
end Go.Proofs.Ytcljocmaojfhhaa

namespace Go.Proofs.Ytcljocmaojfhhaa
open Go.RowKit

theorem own_newF (w : World) (f : FileM) : Own elFl (w.alloc (.cells (cellsF f) 26)) w.heap.size 26 (.slice (some ⟨w.heap.size, 0, none⟩) 1 1) [f] :=
  ⟨rfl, Or.inr ⟨w.heap.size, 1, cellsF f, rfl, Nat.le_refl _, heap_alloc_new w _, Nat.le_refl _, by unfold maxLen; decide, rfl, rfl⟩⟩
set_option maxRecDepth 100000 in
set_option maxHeartbeats 2000000 in
theorem pdue_any (A : Option Addr) (n c : Nat) (L : List FileM) (lv : Int) (w : World) (hI : FilesAt w A n L) (hn : n ≤ 1000000) (hne : lv ≠ 0 → ofP L lv ≠ []) :
    Calls Try.prog 12 #[.slice A n c, .int .i64 lv] w fun e w' => ∃ v, e = .returned v ∧ Own elFl w' w.heap.size 26 v (dueP L lv) ∧ w.grownBy w' none := by
  have CO := Lib.hid (pof_any A n c L lv w hI hn)
  have hlen : (ofP L lv).length ≤ 1000000 := by
    unfold ofP
    refine Nat.le_trans (List.length_filter_le _ _) ?_
    rw [← hI.len]; exact hn
  unfold dueP
  generalize ofP L lv = M at *
  by_cases h0 : lv = 0
  · subst h0
    rw [if_pos rfl]
    clear hne hlen hI
    go_enter Try.func12, Try.ntmps12
    go_wp2_with fail
    refine CO.out.mono ?_
    rintro e w1 ⟨v, rfl, ho, hg⟩
    obtain ⟨a, c1, rfl⟩ := ho.slice
    have HO := Lib.hid ho
    have HG := Lib.hid hg
    clear ho hg
    go_wp2_with fail
    go_ret
    exact ⟨_, rfl, HO.out, HG.out⟩
  · rw [if_neg h0]
    have e0 : (lv == 0) = false := beq_eq_false_iff_ne.2 h0
    obtain ⟨f, r, rfl⟩ : ∃ f r, M = f :: r := by
      cases M with
      | nil => exact absurd rfl (hne h0)
      | cons f r => exact ⟨f, r, rfl⟩
    clear hne hI h0
    go_enter Try.func12, Try.ntmps12
    go_wp2_with fail
    refine CO.out.mono ?_
    rintro e w1 ⟨v, rfl, ho, hg⟩
    obtain ⟨a, c1, rfl⟩ := ho.slice
    have CM := Lib.hid (pmin_any a _ c1 f r w1 (own_files ho).1 hlen)
    have HG := Lib.hid hg
    clear ho hg CO hlen
    generalize (f :: r).length = m at *
    go_wp2_with fail
    refine CM.out.mono ?_
    rintro e w2 ⟨rfl, hg2⟩
    have HG2 := Lib.hid (gnone HG.out hg2)
    have HO := Lib.hid (own_newF w2 (minFrom f r))
    have HG3 : Hid (w.grownBy (w2.alloc (.cells (cellsF (minFrom f r)) 26)) none) := Lib.hid (gnone HG2.out (World.grownBy_alloc _ _ none))
    clear hg2 CM
    generalize hm : minFrom f r = m0 at *
    unfold cellsF at *
    go_wp2_with fail
    go_ret
    exact ⟨_, rfl, by rw [show minP (f :: r) = [m0] from by rw [← hm]; rfl]; exact HO.out.low HG2.out.size, HG3.out⟩
set_option maxRecDepth 100000 in
set_option maxHeartbeats 4000000 in
theorem preach_any (A : Option Addr) (n c : Nat) (f : FileM) (r : List FileM) (w : World) (hI : FilesAt w A n (f :: r)) (hn : n ≤ 1000000) :
    Calls Try.prog 13 #[.slice A n c] w fun e w' => e = .returned (.tuple #[.string (firstP f.fi (f :: r)), .string (lastP' f.la (f :: r))]) ∧ w.grownBy w' none := by
  have HI := Lib.hid hI
  have hlen := hI.len
  have HLn := Lib.hid hlen
  have h1 : 1 ≤ n := by rw [hlen]; simp
  obtain ⟨g, off, rfl, hg, z0, z1, z2, z3, z4, z5⟩ := hI.at_ 0 f rfl
  rw [Nat.zero_mul, Nat.add_zero] at z0 z1 z2 z3 z4 z5
  have t2 : (0 : Int) < (n : Int) := by omega
  obtain ⟨L, hL⟩ : ∃ L, L = f :: r := ⟨_, rfl⟩
  rw [← hL] at HI HLn ⊢
  clear hI hlen hL z0 z1 z2 z3
  go_enter Try.func13, Try.ntmps13
  go_wp2_with fail
  go_quiet (fail)
  go_wp2_with fail
  go_loopw [2, 3, 5, 16] (fun a b _ i wr => ∃ k : Nat, k ≤ n ∧ i = .int .i64 (k : Int) ∧ a = .string (firstP f.fi (L.take k)) ∧ b = .string (lastP' f.la (L.take k)) ∧ Hid (w.grownBy wr none)) (fun _ _ _ i _ => n - (intOf i).toNat)
  case atStart => exact ⟨0, by omega, rfl, rfl, rfl, Lib.hid (only_drewN (grefl _ _) _)⟩
  case round =>
    obtain ⟨k, hk, rfl, rfl, rfl, HG⟩ := hrel
    by_cases hl : k < n
    · have g3 : (k : Int) < (n : Int) := by omega
      have g4 : (0 : Int) ≤ (k : Int) := by omega
      have w1 : wrap64 ((k : Int) + 1) = (k : Int) + 1 := wrap_sucP hl hn
      have hkL : k < L.length := by rw [← HLn.out]; exact hl
      have hs := List.getElem?_eq_getElem hkL
      generalize L[k] = x at hs
      obtain ⟨g', off', eA, hg', z0, z1, z2, z3, z4, z5⟩ := (HI.out.below (below_g HG.out)).at_ k x hs
      injection eA with eA
      injection eA with eg eo
      subst eg eo
      have hf := firstP_snoc (L.take k) f.fi x
      have hz := lastP_snoc (L.take k) f.la x
      rw [← ftake_snoc hs] at hf hz
      obtain ⟨F2, hF2⟩ : ∃ F2, firstP f.fi (L.take (k + 1)) = F2 := ⟨_, rfl⟩
      obtain ⟨Z2, hZ2⟩ : ∃ Z2, lastP' f.la (L.take (k + 1)) = Z2 := ⟨_, rfl⟩
      rw [hF2] at hf
      rw [hZ2] at hz
      have HF := Lib.hid hf
      have HZ := Lib.hid hz
      have HF2 := Lib.hid hF2
      have HZ2 := Lib.hid hZ2
      clear hf hz hF2 hZ2
      generalize firstP f.fi (L.take k) = F at *
      generalize lastP' f.la (L.take k) = Z at *
      have C1 := fun W => Lib.hid (compare_any x.fi F W)
      have C2 := fun W => Lib.hid (compare_any x.la Z W)
      have hc1 : Lib.compareBytes x.fi.data.toList F.data.toList = cmpT x.fi F := rfl
      have hc2 : Lib.compareBytes x.la.data.toList Z.data.toList = cmpT x.la Z := rfl
      rw [hc1] at C1
      rw [hc2] at C2
      generalize cmpT x.fi F = c1 at *
      generalize cmpT x.la Z = c2 at *
      have HG2 := Lib.hid (gnone HG.out (World.grownBy_alloc wr (.cells #[.int .i64 x.lv, .int .i64 x.nu, .int .i64 x.co, .int .i64 x.sz, .string x.fi, .string x.la] 26) none))
      clear hc1 hc2 hs hkL hg' HG
      by_cases h1 : c1 < 0
      · have d1 : decide (c1 < 0) = true := decide_eq_true h1
        by_cases h2 : 0 < c2
        · have d2 : decide (0 < c2) = true := decide_eq_true h2
          have e1 : F2 = x.fi := by rw [HF.out, if_pos h1]
          have e2 : Z2 = x.la := by rw [HZ.out, if_pos h2]
          have E1 := Lib.hid e1
          have E2 := Lib.hid e2
          clear h1 h2 e1 e2 HF HZ
          go_wp2_with fail
          refine (C1 _).out.mono ?_
          rintro e w' ⟨rfl, rfl⟩
          go_wp2_with fail
          refine (C2 _).out.mono ?_
          rintro e w' ⟨rfl, rfl⟩
          go_wp2_with fail
          go_roundw
          case rel => exact ⟨k + 1, by omega, by go_num, by rw [HF2.out, E1.out], by rw [HZ2.out, E2.out], HG2⟩
          case measure => exact meas_ltP hl
        · have d2 : decide (0 < c2) = false := decide_eq_false h2
          have e1 : F2 = x.fi := by rw [HF.out, if_pos h1]
          have e2 : Z2 = Z := by rw [HZ.out, if_neg h2]
          have E1 := Lib.hid e1
          have E2 := Lib.hid e2
          clear h1 h2 e1 e2 HF HZ
          go_wp2_with fail
          refine (C1 _).out.mono ?_
          rintro e w' ⟨rfl, rfl⟩
          go_wp2_with fail
          refine (C2 _).out.mono ?_
          rintro e w' ⟨rfl, rfl⟩
          go_wp2_with fail
          go_roundw
          case rel => exact ⟨k + 1, by omega, by go_num, by rw [HF2.out, E1.out], by rw [HZ2.out, E2.out], HG2⟩
          case measure => exact meas_ltP hl
      · have d1 : decide (c1 < 0) = false := decide_eq_false h1
        by_cases h2 : 0 < c2
        · have d2 : decide (0 < c2) = true := decide_eq_true h2
          have e1 : F2 = F := by rw [HF.out, if_neg h1]
          have e2 : Z2 = x.la := by rw [HZ.out, if_pos h2]
          have E1 := Lib.hid e1
          have E2 := Lib.hid e2
          clear h1 h2 e1 e2 HF HZ
          go_wp2_with fail
          refine (C1 _).out.mono ?_
          rintro e w' ⟨rfl, rfl⟩
          go_wp2_with fail
          refine (C2 _).out.mono ?_
          rintro e w' ⟨rfl, rfl⟩
          go_wp2_with fail
          go_roundw
          case rel => exact ⟨k + 1, by omega, by go_num, by rw [HF2.out, E1.out], by rw [HZ2.out, E2.out], HG2⟩
          case measure => exact meas_ltP hl
        · have d2 : decide (0 < c2) = false := decide_eq_false h2
          have e1 : F2 = F := by rw [HF.out, if_neg h1]
          have e2 : Z2 = Z := by rw [HZ.out, if_neg h2]
          have E1 := Lib.hid e1
          have E2 := Lib.hid e2
          clear h1 h2 e1 e2 HF HZ
          go_wp2_with fail
          refine (C1 _).out.mono ?_
          rintro e w' ⟨rfl, rfl⟩
          go_wp2_with fail
          refine (C2 _).out.mono ?_
          rintro e w' ⟨rfl, rfl⟩
          go_wp2_with fail
          go_roundw
          case rel => exact ⟨k + 1, by omega, by go_num, by rw [HF2.out, E1.out], by rw [HZ2.out, E2.out], HG2⟩
          case measure => exact meas_ltP hl
    · obtain rfl : k = n := by omega
      have g3 : ¬ (k : Int) < (k : Int) := by omega
      have hX : Hid (L.take k = L) := Lib.hid (List.take_of_length_le (by rw [← HLn.out]; exact Nat.le_refl _))
      rw [hX.out]
      go_wp2_with fail
      go_ret2
      exact ⟨rfl, HG.out⟩
end Go.Proofs.Ytcljocmaojfhhaa

namespace Go.Proofs.Ytcljocmaojfhhaa
open Go.RowKit

/-- What is picked of a level: the files that are due, then those of the next level that have keys of their range. -/
def picksP (L : List FileM) (lv : Int) : List Int :=
  match dueP L lv with
  | [] => []
  | f :: r => (f :: r).map (·.nu) ++ overP L (lv + 1) (firstP f.fi (f :: r)) (lastP' f.la (f :: r))
theorem minP_ne {M : List FileM} (h : M ≠ []) : minP M ≠ [] := by
  cases M with
  | nil => exact absurd rfl h
  | cons f r => exact fun e => by cases e
theorem bytesP_nil {L : List FileM} {lv : Int} (h : ofP L lv = []) : bytesP L lv = 0 := by unfold bytesP; rw [h]; rfl
/-- The fullest level has a file. -/
theorem full_has {L : List FileM} {base ratio : Nat} {S : List Nat} (hS : SameL S (scoresP L base ratio)) {b : Nat} (h : fullP S 6 = some b) : b < 6 ∧ ofP L (b : Int) ≠ [] := by
  obtain ⟨h1, h2⟩ := fullP_lt h
  refine ⟨h1, fun e => ?_⟩
  have h3 := hS.getD b
  rw [geF_same oneW h3, List.getD_eq_getElem?_getD, scoresP_at L base ratio b h1] at h2
  have h2 : geF (scoreP ((ofP L 0).length : Nat) (fun k => bytesP L (k : Nat)) base ratio b) oneW = true := h2
  cases b with
  | zero =>
    have e0 : (ofP L 0).length = 0 := by rw [show (0 : Int) = ((0 : Nat) : Int) from rfl, e]; rfl
    rw [scoreP, e0, show ((0 : Nat) : Int) = 0 from rfl, zero_small] at h2
    cases h2
  | succ k =>
    rw [scoreP, bytesP_nil e, zero_small] at h2
    cases h2
theorem due_ne {L : List FileM} {lv : Int} (h : ofP L lv ≠ []) : dueP L lv ≠ [] := by
  unfold dueP
  split
  · exact h
  · exact minP_ne h
theorem due_len (L : List FileM) (lv : Int) : (dueP L lv).length ≤ L.length := by
  unfold dueP
  have h : (ofP L lv).length ≤ L.length := List.length_filter_le _ _
  split
  · exact h
  · cases hM : ofP L lv with
    | nil => exact Nat.zero_le _
    | cons f r => rw [hM] at h; show 1 ≤ _; simp at h; omega
theorem over_len (L : List FileM) (lv : Int) (fi la : ByteArray) : (overP L lv fi la).length ≤ L.length := by
  unfold overP rangeP
  rw [List.length_map]
  exact Nat.le_trans (List.length_filter_le _ _) (List.length_filter_le _ _)
def PickP (L : List FileM) (base ratio : Nat) (w : World) (e : Ending) (w' : World) : Prop :=
  w.grownBy w' none ∧ match fullP (scoresP L base ratio) 6 with
  | none => e = .returned (.tuple #[.int .i64 0, .slice none 0 0, .bool false])
  | some b => ∃ v, e = .returned (.tuple #[.int .i64 (b : Int), v, .bool true]) ∧ Own elInts w' w.heap.size 3 v (picksP L (b : Int))
set_option maxRecDepth 100000 in
set_option maxHeartbeats 4000000 in
theorem ppick_any (A : Option Addr) (n c : Nat) (L : List FileM) (base ratio : Nat) (w : World) (hI : FilesAt w A n L) (hn : n ≤ 1000000) (hb64 : base < 18446744073709551616) :
    Calls Try.prog 5 #[.slice A n c, .float .f64 base, .float .f64 ratio] w (PickP L base ratio w) := by
  have CS := Lib.hid (pscores_any A n c L base ratio w hI hn hb64)
  have HI := Lib.hid hI
  have hLn : L.length ≤ 1000000 := by rw [← hI.len]; exact hn
  cases hf : fullP (scoresP L base ratio) 6 with
  | none =>
    have HR : Hid (∀ e w', w.grownBy w' none → e = .returned (.tuple #[.int .i64 0, .slice none 0 0, .bool false]) → PickP L base ratio w e w') := Lib.hid fun e w' h1 h2 => by
      refine ⟨h1, ?_⟩
      rw [hf]
      exact h2
    have HF : Hid (∀ S, SameL S (scoresP L base ratio) → fullP S 6 = none) := Lib.hid fun S h => by rw [fullP_same h, hf]
    clear hf hI hLn HI
    go_enter Try.func5, Try.ntmps5
    go_wp2_with fail
    refine CS.out.mono ?_
    rintro e w1 ⟨g, S, rfl, ho, hs, _, hg⟩
    have CF := Lib.hid (pfullest_any _ g 6 6 S w1 ho (by omega))
    rw [HF.out S hs] at CF
    have HG := Lib.hid hg
    clear ho hs hg CS HF
    go_wp2_with fail
    refine CF.out.mono ?_
    rintro e w2 ⟨rfl, rfl⟩
    go_wp2_with fail
    go_ret3
    exact HR.out _ _ HG.out rfl
  | some b =>
    have HR : Hid (∀ e w', w.grownBy w' none → (∃ v, e = .returned (.tuple #[.int .i64 (b : Int), v, .bool true]) ∧ Own elInts w' w.heap.size 3 v (picksP L (b : Int))) → PickP L base ratio w e w') := Lib.hid fun e w' h1 h2 => by
      refine ⟨h1, ?_⟩
      rw [hf]
      exact h2
    have HF : Hid (∀ S, SameL S (scoresP L base ratio) → fullP S 6 = some b) := Lib.hid fun S h => by rw [fullP_same h, hf]
    obtain ⟨hb6, hne⟩ := full_has (SameL.refl _) hf
    obtain ⟨f, r, hfr⟩ : ∃ f r, dueP L (b : Int) = f :: r := by
      have := due_ne hne
      cases hd : dueP L (b : Int) with
      | nil => exact absurd hd this
      | cons f r => exact ⟨f, r, rfl⟩
    have hdl : (f :: r).length ≤ 1000000 := by rw [← hfr]; exact Nat.le_trans (due_len L _) hLn
    have hpk : picksP L (b : Int) = (f :: r).map (·.nu) ++ overP L ((b : Int) + 1) (firstP f.fi (f :: r)) (lastP' f.la (f :: r)) := by unfold picksP; rw [hfr]
    have hol := over_len L ((b : Int) + 1) (firstP f.fi (f :: r)) (lastP' f.la (f :: r))
    have CD : ∀ W, w.grownBy W none → Hid _ := fun W h => Lib.hid (pdue_any A n c L (b : Int) W (hI.below (below_g h)) hn (fun _ => hne))
    have CV : ∀ W, w.grownBy W none → Hid _ := fun W h => Lib.hid (poverlap_any A n c L ((b : Int) + 1) (firstP f.fi (f :: r)) (lastP' f.la (f :: r)) W (hI.below (below_g h)) hn)
    rw [hpk] at HR
    rw [hfr] at CD
    have w9 : wrap64 ((b : Int) + 1) = (b : Int) + 1 := by unfold wrap64; omega
    have HOL := Lib.hid hol
    have HLN := Lib.hid hLn
    clear hf hI HI hpk hne hfr hol hLn
    go_enter Try.func5, Try.ntmps5
    go_wp2_with fail
    refine CS.out.mono ?_
    rintro e w1 ⟨g, S, rfl, ho, hs, _, hg⟩
    have CF := Lib.hid (pfullest_any _ g 6 6 S w1 ho (by omega))
    rw [HF.out S hs] at CF
    have HG := Lib.hid hg
    clear ho hs hg CS HF
    go_wp2_with fail
    refine CF.out.mono ?_
    rintro e w2 ⟨rfl, rfl⟩
    clear CF
    go_wp2_with fail
    refine (CD _ HG.out).out.mono ?_
    rintro e w3 ⟨v3, rfl, ho3, hg3⟩
    obtain ⟨a3, c3, rfl⟩ := ho3.slice
    have HG3 := Lib.hid (gnone HG.out hg3)
    have HO3 := Lib.hid ho3
    have CRE := Lib.hid (preach_any a3 _ c3 f r w3 (own_files ho3).1 hdl)
    clear ho3 hg3 CD HG
    generalize (f :: r).length = m at *
    go_wp2_with fail
    refine CRE.out.mono ?_
    rintro e w4 ⟨rfl, hg4⟩
    have HG4 := Lib.hid (gnone HG3.out hg4)
    have HO4 := Lib.hid (HO3.out.below (below_g hg4))
    have CN := Lib.hid (pnumbers_any a3 m c3 (f :: r) w4 (own_files HO4.out).1 hdl)
    clear hg4 CRE HO3 HG3
    go_wp2_with fail
    refine CN.out.mono ?_
    rintro e w5 ⟨v5, rfl, ho5, hg5⟩
    obtain ⟨a5, c5, rfl⟩ := ho5.slice
    have HG5 := Lib.hid (gnone HG4.out hg5)
    have HO5 := Lib.hid ho5
    have CVV := CV w5 HG5.out
    have hl5 : ((f :: r).map (·.nu)).length ≤ 1000000 := by rw [List.length_map, (own_reads HO4.out).1.symm]; exact hdl
    clear ho5 hg5 CN HG4 HO4 CV
    generalize (f :: r).map (·.nu) = N1 at *
    go_wp2_with fail
    refine CVV.out.mono ?_
    rintro e w6 ⟨v6, rfl, ho6, hg6⟩
    obtain ⟨a6, c6, rfl⟩ := ho6.slice
    have HG6 := Lib.hid (gnone HG5.out hg6)
    have ho5' := HO5.out.below (below_g hg6)
    have hl6 := Nat.le_trans HOL.out HLN.out
    have HG7 := Lib.hid (gnone HG6.out (World.grownBy_alloc w6 (.cells #[.slice a5 N1.length c5, .slice a6 (overP L ((b : Int) + 1) (firstP f.fi (f :: r)) (lastP' f.la (f :: r))).length c6] 27) none))
    have hnb := Blk.new w6 27 #[.slice a5 N1.length c5, .slice a6 (overP L ((b : Int) + 1) (firstP f.fi (f :: r)) (lastP' f.la (f :: r))).length c6]
    have CC := Lib.hid (pconcat_any w6.heap.size _ _ _ c5 _ c6 a5 a6 N1 _ _ (hnb.cell 0) (hnb.cell 1) (ho5'.alc _) (ho6.alc _) hl5 hl6)
    clear ho5' ho6 hg6 hnb HOL HLN CVV HO5 HG5
    generalize overP L ((b : Int) + 1) (firstP f.fi (f :: r)) (lastP' f.la (f :: r)) = N2 at *
    generalize N1.length = m1 at *
    generalize N2.length = m2 at *
    go_wp2_with fail
    refine CC.out.mono ?_
    rintro e w8 ⟨v8, rfl, ho8, hg8⟩
    obtain ⟨a8, c8, rfl⟩ := ho8.slice
    have HO8 := Lib.hid (ho8.low HG7.out.size)
    have HG8 := Lib.hid (gnone HG7.out hg8)
    clear ho8 hg8 CC
    generalize (N1 ++ N2).length = m8 at *
    go_wp2_with fail
    go_ret3
    exact HR.out _ _ HG8.out ⟨_, rfl, HO8.out⟩
end Go.Proofs.Ytcljocmaojfhhaa

namespace Go.Proofs.Ytcljocmaojfhhaa
open Go.RowKit

def aFile : FileM := ⟨1, 3, 0, 10, ⟨#[97]⟩, ⟨#[98]⟩⟩
theorem alive_scores : scoreP ((ofP [aFile] 0).length : Nat) (fun k => bytesP [aFile] (k : Nat)) 0 4621819117588971520 1 = 9218868437227405312 ∧ isN (scoreP ((ofP [aFile] 0).length : Nat) (fun k => bytesP [aFile] (k : Nat)) 0 4621819117588971520 2) = true := by decide +kernel
theorem alive_full : fullP (scoresP [aFile] 0 4621819117588971520) 6 = some 1 := by decide +kernel
theorem alive_pick : picksP [aFile] 1 = [3] := by decide +kernel
theorem alive_none : fullP (scoresP [] 0 0) 6 = none := by decide +kernel
theorem alive_bytes : bytesP [aFile] 1 = 10 := by decide +kernel
set_option maxRecDepth 100000 in
theorem pisinf_any (w : World) : Calls Try.prog 9 #[.float .f64 9218868437227405312, .int .i64 1] w fun e w' => e = .returned (.bool true) ∧ w = w' := by
  have h : (FloatKind.f64.format.order 9218868437227405312 9218868437227405311 == some .gt) = true := by decide +kernel
  go_enter Try.func9, Try.ntmps9
  go_wp2_with fail
  go_ret
  exact ⟨rfl, rfl⟩
set_option maxRecDepth 100000 in
set_option maxHeartbeats 4000000 in
theorem alive15_any (w : World) : Calls Try.prog 4 #[] w fun e w' => e = .returned (.bool true) ∧ w.grownBy w' none := by
  have mixed : Try.prog.follows .mixedOrders = true := by kernel_rfl
  obtain ⟨w1, hw1⟩ : ∃ w1, w1 = w.alloc (.cells (cellsF aFile) 26) := ⟨_, rfl⟩
  have ho := own_newF w aFile
  rw [← hw1] at ho
  have hg : w.grownBy w1 none := by rw [hw1]; exact World.grownBy_alloc _ _ none
  have FA := Lib.hid (own_files ho).1
  have CS := Lib.hid (pscores_any _ 1 1 [aFile] 0 4621819117588971520 w1 FA.out (by omega) (by omega))
  have CP := fun W (h : w1.grownBy W none) => Lib.hid (ppick_any _ 1 1 [aFile] 0 4621819117588971520 W (FA.out.below (below_g h)) (by omega) (by omega))
  have CN := fun W => Lib.hid (ppick_any none 0 0 [] 0 0 W ⟨rfl, fun i m h => by simp at h⟩ (by omega) (by omega))
  have CB := fun W (h : w1.grownBy W none) => Lib.hid (pbytes_any _ 1 1 [aFile] 1 W (FA.out.below (below_g h)) (by omega))
  rw [alive_bytes] at CB
  have CI := fun W => Lib.hid ((pisinf_any W).mono fun e w' h => (⟨h.1, h.2.symm⟩ : e = .returned (.bool true) ∧ w' = W))
  have HG := Lib.hid hg
  unfold cellsF aFile at hw1
  have HW := Lib.hid hw1
  clear ho hg hw1
  go_enter Try.func4, Try.ntmps4
  go_wp2_with fail
  rw [← HW.out]
  refine CS.out.mono ?_
  rintro e w2 ⟨g, S, rfl, ho, hs, _, hg2⟩
  have HO := Lib.hid ho
  have HG2 := Lib.hid hg2
  have hs1 : S[1]? = some 9218868437227405312 := by
    have h1 := hs.getD 1
    rw [List.getD_eq_getElem?_getD, List.getD_eq_getElem?_getD, scoresP_at _ _ _ 1 (by decide)] at h1
    have hl : 1 < S.length := by rw [hs.1, scoresP_len]; decide
    rw [List.getElem?_eq_getElem hl] at h1 ⊢
    rcases h1 with h1 | ⟨_, h1⟩
    · exact congrArg some (h1.trans alive_scores.1)
    · have h1 : isN (scoreP ((ofP [aFile] 0).length : Nat) (fun k => bytesP [aFile] (k : Nat)) 0 4621819117588971520 1) = true := h1
      rw [alive_scores.1] at h1
      exact absurd h1 (by decide)
  obtain ⟨z, hs2, hz⟩ : ∃ z, S[2]? = some z ∧ isN z = true := by
    have h1 := hs.getD 2
    rw [List.getD_eq_getElem?_getD, List.getD_eq_getElem?_getD, scoresP_at _ _ _ 2 (by decide)] at h1
    have hl : 2 < S.length := by rw [hs.1, scoresP_len]; decide
    rw [List.getElem?_eq_getElem hl] at h1 ⊢
    refine ⟨_, rfl, ?_⟩
    rcases h1 with h1 | ⟨h1, _⟩
    · have h1 : S[2] = scoreP ((ofP [aFile] 0).length : Nat) (fun k => bytesP [aFile] (k : Nat)) 0 4621819117588971520 2 := h1
      rw [h1]; exact alive_scores.2
    · exact h1
  have HS1 := Lib.hid hs1
  have HS2 := Lib.hid hs2
  have hnz : (FloatKind.f64.format.order z z != some .eq) = true := by rw [neq_self]; exact hz
  clear ho hs hg2 hs1 hs2 hz CS
  go_wp2_with fail
  refine (CP _ HG2.out).out.mono ?_
  rintro e w3 ⟨hg3, hp⟩
  rw [alive_full] at hp
  obtain ⟨v3, rfl, ho3⟩ := hp
  rw [show ((1 : Nat) : Int) = 1 from rfl, alive_pick] at ho3
  obtain ⟨g3, c3, cur3, e3, _, _⟩ := ho3.some_ (by simp)
  subst e3
  have HO3 := Lib.hid ho3
  have HG3 := Lib.hid (gnone HG2.out hg3)
  have HO2 := Lib.hid (HO.out.below (below_g hg3))
  clear hg3 ho3 CP HO
  go_wp2_with fail
  refine (CN _).out.mono ?_
  rintro e w4 ⟨hg4, hp⟩
  rw [alive_none] at hp
  subst hp
  have HG4 := Lib.hid (gnone HG3.out hg4)
  have b1 := own_cellR (HO2.out.below (below_g hg4)) HS1.out
  have a1 : w4.drew.cell? ⟨g, 1, none⟩ = some (.float .f64 9218868437227405312) := b1
  have b2 := own_cellR (HO2.out.below (below_g hg4)) HS2.out
  have a2 : w4.drew.cell? ⟨g, 2, none⟩ = some (.float .f64 z) := b2
  have a3 : w4.drew.cell? ⟨g3, 0, none⟩ = some (.int .i64 3) := by
    have h := Own.cells (j := 0) (i := 0) (HO3.out.below (below_g hg4)) rfl (by decide) rfl
    rw [Nat.zero_mul, Nat.zero_add] at h
    exact h
  have HG5 : Hid (w1.grownBy w4.drew none) := Lib.hid (gnone HG4.out ⟨rfl, rfl, rfl, Nat.le_refl _, fun _ _ _ => rfl⟩)
  clear hg4 CN HO2 HO3 HG3 HG4 HS1 HS2 b1 b2
  go_wp2_with fail
  go_still_tail 42, (by kernel_rfl)
  still_call ((CI _).out)
  repeat still_step
  refine wpStill_nil ?_
  go_wp2_with fail
  refine (CB _ HG5.out).out.mono ?_
  rintro e w6 ⟨rfl, hg6⟩
  have HG6 := Lib.hid (gnone HG.out (gnone HG5.out hg6))
  clear hg6
  go_wp2_with fail
  go_ret
  exact ⟨rfl, HG6.out⟩
end Go.Proofs.Ytcljocmaojfhhaa

namespace Go.Proofs.Ytcljocmaojfhhaa
open Go.RowKit

theorem own_cellI' {w : World} {B n c j : Nat} {A : Option Addr} {x : Int} {e : TypeId} {S : List Int} (h : Own elInts w B e (.slice A n c) S) (hx : S[j]? = some x) : ∃ g, A = some ⟨g, 0, none⟩ ∧ w.cell? ⟨g, j, none⟩ = some (.int .i64 x) := by
  obtain ⟨g, c', cur, e1, _, _⟩ := h.some_ (by have := (List.getElem?_eq_some_iff.1 hx).1; omega)
  injection e1 with e1 e2 e3
  subst e1
  have := Own.cells (j := 0) (u := .int .i64 x) h hx (by decide) rfl
  exact ⟨g, rfl, by rwa [show j * elInts.sz + 0 = j by show j * 1 + 0 = j; omega] at this⟩
set_option maxRecDepth 100000 in
set_option maxHeartbeats 2000000 in
theorem among_any (A : Option Addr) (n c B : Nat) (M : List Int) (x : Int) (w : World) (h : Own elInts w B 3 (.slice A n c) M) (hn : n ≤ 1000000) :
    Calls Try.prog 6 #[.slice A n c, .int .i64 x] w fun e w' => e = .returned (.bool (decide (x ∈ M))) ∧ ∃ q, w' = w.drewN q := by
  have HM := Lib.hid h
  have HL := Lib.hid (own_reads h).1
  clear h
  go_enter Try.func6, Try.ntmps6
  go_wp2_with fail
  go_loopw [5] (fun i wr => ∃ k q : Nat, k ≤ n ∧ i = .int .i64 (k : Int) ∧ Hid (wr = w.drewN q) ∧ Hid (∀ j y, j < k → M[j]? = some y → y ≠ x)) (fun i _ => n - (intOf i).toNat)
  case atStart => exact ⟨0, 0, by omega, rfl, rfl, Lib.hid fun j y h => by omega⟩
  case round =>
    obtain ⟨k, q, hk, rfl, Hw, HB⟩ := hrel
    by_cases hl : k < n
    · have g1 : (k : Int) < (n : Int) := Int.ofNat_lt.2 hl
      have g2 : (0 : Int) ≤ (k : Int) := Int.natCast_nonneg k
      have w1' := wrap_sucP hl hn
      have hkL : k < M.length := by rw [← HL.out]; exact hl
      have hs := List.getElem?_eq_getElem hkL
      generalize M[k] = y at hs
      have HS := Lib.hid hs
      obtain ⟨g, rfl, hc⟩ := own_cellI' (HM.out.below (below_g (only_drewN (grefl w none) q))) hs
      have hc : wr.cell? ⟨g, k, none⟩ = some (.int .i64 y) := by rw [Hw.out]; exact hc
      clear hs hkL
      by_cases he : y = x
      · have HE := Lib.hid he
        have he2 : (y == x) = true := beq_iff_eq.2 he
        clear he
        go_wp2_with fail
        go_ret
        exact ⟨by rw [decide_eq_true (by rw [← HE.out]; exact List.mem_of_getElem? HS.out)]; rfl, q, Hw.out⟩
      · have HE := Lib.hid he
        have he2 : (y == x) = false := beq_eq_false_iff_ne.2 he
        clear he
        go_wp2_with fail
        go_roundw
        case rel => exact ⟨k + 1, q, hl, by go_num, Hw, Lib.hid fun j z h1 h2 => by
          by_cases e : j = k
          · subst e
            have := HS.out
            rw [h2] at this
            cases this
            exact HE.out
          · exact HB.out j z (by omega) h2⟩
        case measure => exact meas_ltP hl
    · obtain rfl : k = n := by omega
      have g3 : ¬ (k : Int) < (k : Int) := Int.lt_irrefl _
      go_wp2_with fail
      go_ret
      exact ⟨by rw [decide_eq_false (fun hm => by obtain ⟨j, hj, e⟩ := List.getElem_of_mem hm; exact HB.out j x (by rw [HL.out]; exact hj) (by rw [List.getElem?_eq_getElem hj, e]) rfl)]; rfl, q, Hw.out⟩
end Go.Proofs.Ytcljocmaojfhhaa

namespace Go.Proofs.Ytcljocmaojfhhaa
open Go.RowKit

theorem blessP_is : ∀ x y : List UInt8, Op.bytesLess x y = decide (Lib.compareBytes x y < 0)
  | [], [] => by simp [Op.bytesLess, Lib.compareBytes]
  | _ :: _, [] => by simp [Op.bytesLess, Lib.compareBytes]
  | [], _ :: _ => by simp [Op.bytesLess, Lib.compareBytes]
  | a :: x, b :: y => by
    rw [Op.bytesLess, blessP_is x y, cmp9_cons]
    by_cases h : a.toNat < b.toNat
    · rw [if_pos h]
      have h2 : a < b := UInt8.lt_iff_toNat_lt.2 h
      simp [h2]
    · rw [if_neg h]
      have h2 : ¬ a < b := fun e => h (UInt8.lt_iff_toNat_lt.1 e)
      by_cases h3 : b.toNat < a.toNat
      · rw [if_pos h3]
        have h4 : ¬ a = b := fun e => by rw [e] at h3; omega
        simp [h2, h4]
      · rw [if_neg h3]
        have h4 : a = b := UInt8.toNat_inj.1 (by omega)
        subst h4
        simp
theorem blessP (a b : ByteArray) : Op.bytesLess a.toList b.toList = decide (cmpT a b < 0) := by
  rw [Lib.toList_data, Lib.toList_data, blessP_is]
  rfl
theorem eqlP (a b : ByteArray) : (a.toList == b.toList) = decide (cmpT a b = 0) := by
  rw [Bool.eq_iff_iff, beq_iff_eq, decide_eq_true_eq, cmpT_eq, Lib.toList_data, Lib.toList_data]
  constructor
  · intro h
    cases a; cases b
    congr 1
    exact Array.toList_inj.1 h
  · rintro rfl; rfl
/-- '>' of texts. -/
theorem gtrP (a b : ByteArray) : (!Op.bytesLess a.toList b.toList && !(a.toList == b.toList)) = decide (0 < cmpT a b) := by
  rw [blessP, eqlP, Bool.eq_iff_iff]
  simp only [Bool.and_eq_true, Bool.not_eq_true', decide_eq_false_iff_not, decide_eq_true_eq]
  omega
theorem meas_lt2P {n k : Nat} (e : wrap64 ((k : Int) + 1) = (k : Int) + 1) (h : k < n) : n - (intOf (Value.int IntKind.i64 (wrap64 ((k : Int) + 1)))).toNat < n - (intOf (Value.int IntKind.i64 (k : Int))).toNat := by
  rw [e]
  simp only [intOf]
  omega
end Go.Proofs.Ytcljocmaojfhhaa

namespace Go.Proofs.Ytcljocmaojfhhaa
open Go.RowKit

/-- The range of keys of some files, one file more. -/
def rngS (s : Option (ByteArray × ByteArray)) (g : FileM) : Option (ByteArray × ByteArray) :=
  match s with
  | none => some (g.fi, g.la)
  | some (a, b) => some (if cmpT g.fi a < 0 then g.fi else a, if 0 < cmpT g.la b then g.la else b)
/-- The range of the keys of the files of a level that have a number of M. -/
def rngP (M : List Int) (lv : Int) (L : List FileM) : Option (ByteArray × ByteArray) :=
  (L.filter fun g => decide (g.lv = lv) && decide (g.nu ∈ M)).foldl rngS none
def withinP (L : List FileM) (M : List Int) (lv : Int) (f : FileM) : Bool :=
  match rngP M lv L with
  | none => false
  | some (a, b) => decide (cmpT f.fi b ≤ 0) && decide (0 ≤ cmpT f.la a)
theorem rngP_snoc (M : List Int) (lv : Int) (L : List FileM) (g : FileM) : rngP M lv (L ++ [g]) = if g.lv = lv ∧ g.nu ∈ M then rngS (rngP M lv L) g else rngP M lv L := by
  unfold rngP
  rw [List.filter_append, List.foldl_append]
  by_cases h : g.lv = lv
  · by_cases h2 : g.nu ∈ M
    · rw [if_pos ⟨h, h2⟩]; simp [h, h2]
    · rw [if_neg (fun e => h2 e.2)]; simp [h2]
  · rw [if_neg (fun e => h e.1)]; simp [h]
set_option maxRecDepth 100000 in
set_option maxHeartbeats 4000000 in
theorem within_any (A C : Option Addr) (n c nm cm B : Nat) (L : List FileM) (M : List Int) (lv : Int) (f : FileM) (w : World) (hI : FilesAt w A n L) (hM : Own elInts w B 3 (.slice C nm cm) M) (hn : n ≤ 1000000) (hm : nm ≤ 1000000) :
    Calls Try.prog 7 #[.slice A n c, .slice C nm cm, .int .i64 lv, .agg (cellsF f)] w fun e w' => e = .returned (.bool (withinP L M lv f)) ∧ w.grownBy w' none := by
  have HI := Lib.hid hI
  have HL := Lib.hid hI.len
  have CM := fun W (hb : Below w.heap.size w W) x => Lib.hid (among_any C nm cm B M x W (hM.below hb) hm)
  clear hI hM hm
  go_enter Try.func7, Try.ntmps7
  obtain ⟨w1, hw1⟩ : ∃ w1, w1 = w.alloc (.cells (cellsF f) 26) := ⟨_, rfl⟩
  have HW1 := Lib.hid hw1
  have HF : Hid (Blk w1 w.heap.size 26 (cellsF f)) := Lib.hid (by rw [hw1]; exact Blk.new _ _ _)
  have HB1 : Hid (w.grownBy w1 none) := Lib.hid (by rw [hw1]; exact World.grownBy_alloc w _ none)
  go_wp2_with fail
  rw [← hw1]
  clear hw1
  go_loopw [9, 10, 11, 12] (fun a b s i wr => ∃ k q : Nat, k ≤ n ∧ i = .int .i64 (k : Int) ∧ Hid (wr = w1.drewN q) ∧ ∃ fa la so, a = .string fa ∧ b = .string la ∧ s = .bool so ∧ Hid ((match rngP M lv (L.take k) with | none => ((⟨#[]⟩ : ByteArray), (⟨#[]⟩ : ByteArray), false) | some (x, y) => (x, y, true)) = (fa, la, so))) (fun _ _ _ i _ => n - (intOf i).toNat)
  case atStart => exact ⟨0, 0, by omega, rfl, rfl, _, _, _, rfl, rfl, rfl, Lib.hid rfl⟩
  case round =>
    obtain ⟨k, q, hk, rfl, Hw, fa, la, so, rfl, rfl, rfl, HR⟩ := hrel
    by_cases hl : k < n
    · have g1 : (k : Int) < (n : Int) := Int.ofNat_lt.2 hl
      have g2 : (0 : Int) ≤ (k : Int) := Int.natCast_nonneg k
      have w1' := wrap_sucP hl hn
      have hkL : k < L.length := by rw [← HL.out]; exact hl
      have hs := List.getElem?_eq_getElem hkL
      have HT : Hid (L.take (k + 1) = L.take k ++ [L[k]]) := Lib.hid (List.take_succ_eq_append_getElem hkL)
      generalize L[k] = m at hs HT
      have HBw : Hid (Below w.heap.size w wr) := Lib.hid (by rw [Hw.out]; exact below_g (only_drewN HB1.out q))
      obtain ⟨g, o, rfl, hgs, x0, x1, _, _, x4, x5⟩ := (HI.out.below HBw.out).at_ k m hs
      clear hs hkL
      have HSn := Lib.hid (rngP_snoc M lv (L.take k) m)
      by_cases e1 : m.lv = lv
      · have e1' : (m.lv != lv) = false := by simp [e1]
        have E1 := Lib.hid e1
        clear e1
        have CMx := CM wr HBw.out m.nu
        by_cases e2 : m.nu ∈ M
        · have E2 := Lib.hid e2
          rw [decide_eq_true e2] at CMx
          clear e2
          have hr := HR.out
          have hsn := HSn.out
          rw [if_pos ⟨E1.out, E2.out⟩] at hsn
          generalize rngP M lv (L.take k) = st at hr hsn
          have XX : ∀ (fa2 la2 : ByteArray), rngS st m = some (fa2, la2) → Hid ((match rngP M lv (L.take (k + 1)) with | none => ((⟨#[]⟩ : ByteArray), (⟨#[]⟩ : ByteArray), false) | some (x, y) => (x, y, true)) = (fa2, la2, true)) := fun fa2 la2 h => Lib.hid (by rw [HT.out, hsn, h])
          have HW2 : ∀ q2 w2, w2 = wr.drewN q2 → Hid (w2 = w1.drewN (q + q2)) := fun q2 w2 h => Lib.hid (by rw [h, Hw.out, World.drewN_drewN])
          cases st with
          | none =>
            simp only [Prod.mk.injEq] at hr
            obtain ⟨rfl, rfl, rfl⟩ := hr
            have Y := XX _ _ rfl
            clear hsn XX HR HSn
            go_wp2_with fail
            refine CMx.out.mono ?_
            rintro e w2 ⟨rfl, q2, hw2⟩
            have HWx := HW2 q2 w2 hw2
            have y4 : w2.cell? ⟨g, o + k * 6 + 4, none⟩ = some (.string m.fi) := by rw [hw2]; exact x4
            have y5 : w2.cell? ⟨g, o + k * 6 + 5, none⟩ = some (.string m.la) := by rw [hw2]; exact x5
            clear hw2 CM CMx HW2
            go_wp2_with fail
            go_roundw
            case rel => exact ⟨k + 1, _, hl, by go_num, HWx, m.fi, m.la, true, rfl, rfl, rfl, Y⟩
            case measure => exact meas_ltP hl
          | some ab =>
            obtain ⟨a, b⟩ := ab
            simp only [Prod.mk.injEq] at hr
            obtain ⟨rfl, rfl, rfl⟩ := hr
            have Y := XX (if cmpT m.fi a < 0 then m.fi else a) (if 0 < cmpT m.la b then m.la else b) rfl
            clear hsn XX HR HSn
            by_cases t1 : cmpT m.fi a < 0 <;> by_cases t2 : 0 < cmpT m.la b
            all_goals
              first | rw [if_pos t1, if_pos t2] at Y | rw [if_pos t1, if_neg t2] at Y | rw [if_neg t1, if_pos t2] at Y | rw [if_neg t1, if_neg t2] at Y
              have u1 := blessP m.fi a
              have u2 := gtrP m.la b
              first | rw [decide_eq_true t1] at u1 | rw [decide_eq_false t1] at u1
              first | rw [decide_eq_true t2] at u2 | rw [decide_eq_false t2] at u2
              clear t1 t2
              go_wp2_with fail
              refine CMx.out.mono ?_
              rintro e w2 ⟨rfl, q2, hw2⟩
              have HWx := HW2 q2 w2 hw2
              have y4 : w2.cell? ⟨g, o + k * 6 + 4, none⟩ = some (.string m.fi) := by rw [hw2]; exact x4
              have y5 : w2.cell? ⟨g, o + k * 6 + 5, none⟩ = some (.string m.la) := by rw [hw2]; exact x5
              clear hw2 CM CMx HW2
              go_wp2_with fail
              go_roundw
              case rel => exact ⟨k + 1, _, hl, by go_num, HWx, _, _, true, rfl, rfl, rfl, Y⟩
              case measure => exact meas_ltP hl
        · have E2 := Lib.hid e2
          rw [decide_eq_false e2] at CMx
          clear e2
          go_wp2_with fail
          refine CMx.out.mono ?_
          rintro e w2 ⟨rfl, q2, hw2⟩
          have HW2 : Hid (w2 = w1.drewN (q + q2)) := Lib.hid (by rw [hw2, Hw.out, World.drewN_drewN])
          clear hw2 CM CMx
          go_wp2_with fail
          go_roundw
          case rel => exact ⟨k + 1, _, hl, by go_num, HW2, fa, la, so, rfl, rfl, rfl, Lib.hid (by rw [HT.out, HSn.out, if_neg (fun h => E2.out h.2)]; exact HR.out)⟩
          case measure => exact meas_ltP hl
      · have e1' : (m.lv != lv) = true := by simp [e1]
        have E1 := Lib.hid e1
        clear e1
        go_wp2_with fail
        go_roundw
        case rel => exact ⟨k + 1, q, hl, by go_num, Hw, fa, la, so, rfl, rfl, rfl, Lib.hid (by rw [HT.out, HSn.out, if_neg (fun h => E1.out h.1)]; exact HR.out)⟩
        case measure => exact meas_ltP hl
    · obtain rfl : k = n := by omega
      have g3 : ¬ (k : Int) < (k : Int) := Int.lt_irrefl _
      have hr := HR.out
      have htk : L.take k = L := by rw [HL.out]; exact List.take_length
      rw [htk] at hr
      clear HR htk
      have hW : Hid (w.grownBy wr none) := Lib.hid (by rw [Hw.out]; exact only_drewN HB1.out q)
      have z4 : wr.cell? ⟨w.heap.size, 4, none⟩ = some (.string f.fi) := by rw [Hw.out]; exact HF.out.cell 4
      have z5 : wr.cell? ⟨w.heap.size, 5, none⟩ = some (.string f.la) := by rw [Hw.out]; exact HF.out.cell 5
      clear Hw
      cases hst : rngP M lv L with
      | none =>
        rw [hst] at hr
        simp only [Prod.mk.injEq] at hr
        obtain ⟨rfl, rfl, rfl⟩ := hr
        have R : withinP L M lv f = false := by unfold withinP; rw [hst]
        clear hst
        go_wp2_with fail
        go_ret
        exact ⟨rfl, hW.out⟩
      | some ab =>
        obtain ⟨a, b⟩ := ab
        rw [hst] at hr
        simp only [Prod.mk.injEq] at hr
        obtain ⟨rfl, rfl, rfl⟩ := hr
        have R : withinP L M lv f = (decide (cmpT f.fi b ≤ 0) && decide (0 ≤ cmpT f.la a)) := by unfold withinP; rw [hst]
        have q : ((Op.bytesLess f.fi.toList b.toList || f.fi.toList == b.toList) && !Op.bytesLess f.la.toList a.toList) = withinP L M lv f := by
          rw [R, blessP, blessP, eqlP, Bool.eq_iff_iff]
          simp only [Bool.and_eq_true, Bool.or_eq_true, Bool.not_eq_true', decide_eq_false_iff_not, decide_eq_true_eq]
          omega
        have Q := Lib.hid q
        clear hst R q
        cases u1 : (Op.bytesLess f.fi.toList b.toList || f.fi.toList == b.toList)
        · have v : withinP L M lv f = false := by rw [← Q.out, u1]; rfl
          go_wp2_with fail
          go_ret
          exact ⟨rfl, hW.out⟩
        · cases u2 : Op.bytesLess f.la.toList a.toList
          · have v : withinP L M lv f = true := by rw [← Q.out, u1, u2]; rfl
            go_wp2_with fail
            go_ret
            exact ⟨rfl, hW.out⟩
          · have v : withinP L M lv f = false := by rw [← Q.out, u1, u2]; rfl
            go_wp2_with fail
            go_ret
            exact ⟨rfl, hW.out⟩
end Go.Proofs.Ytcljocmaojfhhaa

namespace Go.Proofs.Ytcljocmaojfhhaa
open Go.RowKit

/-- The first k files have different numbers. -/
def DistP (L : List FileM) (k : Nat) : Prop := ∀ i j x y, i < j → j < k → L[i]? = some x → L[j]? = some y → y.nu ≠ x.nu
theorem DistP.eq {L : List FileM} (h : DistP L L.length) {x y : FileM} (hx : x ∈ L) (hy : y ∈ L) (e : x.nu = y.nu) : x = y := by
  obtain ⟨i, hi, rfl⟩ := List.getElem_of_mem hx
  obtain ⟨j, hj, rfl⟩ := List.getElem_of_mem hy
  rcases Nat.lt_trichotomy i j with hij | rfl | hij
  · exact absurd e.symm (h i j _ _ hij hj (List.getElem?_eq_getElem hi) (List.getElem?_eq_getElem hj))
  · rfl
  · exact absurd e (h j i _ _ hij hi (List.getElem?_eq_getElem hj) (List.getElem?_eq_getElem hi))
theorem DistP.nodup {L : List FileM} (h : DistP L L.length) : L.Nodup := by
  refine List.pairwise_iff_getElem.2 fun i j hi hj hij e => ?_
  exact h i j _ _ hij hj (List.getElem?_eq_getElem hi) (List.getElem?_eq_getElem hj) (by rw [e])
theorem DistP.step {L : List FileM} {k : Nat} {y : FileM} (h : DistP L k) (hy : L[k]? = some y) (h2 : ∀ i x, i < k → L[i]? = some x → y.nu ≠ x.nu) : DistP L (k + 1) := by
  intro i j x z hij hj hx hz
  rcases Nat.lt_or_ge j k with hl | hg
  · exact h i j x z hij hl hx hz
  · obtain rfl : j = k := by omega
    rw [hy] at hz
    cases hz
    exact h2 i x hij hx
theorem minFrom_mem (r : List FileM) : ∀ m, minFrom m r = m ∨ minFrom m r ∈ r := by
  induction r with
  | nil => exact fun m => Or.inl rfl
  | cons x r ih =>
    intro m
    rw [minFrom]
    rcases ih (if x.nu < m.nu then x else m) with h | h
    · rw [h]
      split
      · exact Or.inr (List.mem_cons_self)
      · exact Or.inl rfl
    · exact Or.inr (List.mem_cons_of_mem _ h)
theorem due_mem {L : List FileM} {lv : Int} {x : FileM} (h : x ∈ dueP L lv) : x ∈ ofP L lv := by
  unfold dueP at h
  split at h
  · exact h
  · cases hM : ofP L lv with
    | nil => rw [hM] at h; exact h
    | cons f r =>
      rw [hM] at h
      obtain rfl := List.mem_singleton.1 h
      rcases minFrom_mem r f with e | e
      · rw [e]; exact List.mem_cons_self
      · exact List.mem_cons_of_mem _ e
theorem of_mem {L : List FileM} {lv : Int} {x : FileM} : x ∈ ofP L lv ↔ x ∈ L ∧ x.lv = lv := by
  unfold ofP
  rw [List.mem_filter, decide_eq_true_eq]
theorem picks_mem {L : List FileM} {lv : Int} {f : FileM} {r : List FileM} (hd : dueP L lv = f :: r) (n : Int) :
    n ∈ picksP L lv ↔ (∃ x, x ∈ dueP L lv ∧ x.nu = n) ∨ ∃ x, x ∈ rangeP L (lv + 1) (firstP f.fi (f :: r)) (lastP' f.la (f :: r)) ∧ x.nu = n := by
  unfold picksP overP
  rw [hd]
  simp only [List.mem_append, List.mem_map]
theorem range_mem {L : List FileM} {lv : Int} {fi la : ByteArray} {x : FileM} : x ∈ rangeP L lv fi la ↔ (x ∈ L ∧ x.lv = lv) ∧ cmpT x.fi la ≤ 0 ∧ 0 ≤ cmpT x.la fi := by
  unfold rangeP
  rw [List.mem_filter, of_mem]
  simp only [Bool.not_eq_true', Bool.or_eq_false_iff, decide_eq_false_iff_not, Int.not_lt]
/-- What is picked is of two levels. -/
theorem picked_level {L : List FileM} (hD : DistP L L.length) {lv : Int} (hne : ofP L lv ≠ []) {x : FileM} (hx : x ∈ L) (hm : x.nu ∈ picksP L lv) : x ∈ dueP L lv ∧ x.lv = lv ∨ x.lv = lv + 1 := by
  obtain ⟨f, r, hd⟩ : ∃ f r, dueP L lv = f :: r := by
    cases h : dueP L lv with
    | nil => exact absurd h (due_ne hne)
    | cons f r => exact ⟨f, r, rfl⟩
  rcases (picks_mem hd _).1 hm with ⟨y, hy, e⟩ | ⟨y, hy, e⟩
  · obtain ⟨h1, h2⟩ := of_mem.1 (due_mem hy)
    obtain rfl := hD.eq h1 hx e
    exact Or.inl ⟨hy, h2⟩
  · obtain ⟨⟨h1, h2⟩, _⟩ := range_mem.1 hy
    obtain rfl := hD.eq h1 hx e
    exact Or.inr h2
theorem picked_due {L : List FileM} {lv : Int} {x : FileM} (hx : x ∈ dueP L lv) : x.nu ∈ picksP L lv := by
  cases h : dueP L lv with
  | nil => rw [h] at hx; cases hx
  | cons f r => exact (picks_mem h _).2 (Or.inl ⟨x, hx, rfl⟩)
/-- How many files of the level were picked, of the first k. -/
def cntP (L : List FileM) (M : List Int) (lv : Int) : Nat := (L.filter fun g => decide (g.lv = lv) && decide (g.nu ∈ M)).length
theorem cntP_snoc (L : List FileM) (M : List Int) (lv : Int) (g : FileM) : cntP (L ++ [g]) M lv = if g.lv = lv ∧ g.nu ∈ M then cntP L M lv + 1 else cntP L M lv := by
  unfold cntP
  rw [List.filter_append, List.length_append]
  by_cases h : g.lv = lv
  · by_cases h2 : g.nu ∈ M
    · rw [if_pos ⟨h, h2⟩]; simp [h, h2]
    · rw [if_neg (fun e => h2 e.2)]; simp [h2]
  · rw [if_neg (fun e => h e.1)]; simp [h]
theorem nodup_one {α : Type} {M : List α} {f : α} (h : M.Nodup) (h2 : ∀ x ∈ M, x = f) : M.length ≤ 1 := by
  match M, h, h2 with
  | [], _, _ => exact Nat.zero_le _
  | [_], _, _ => exact Nat.le_refl _
  | a :: b :: r, h, h2 =>
    have e1 := h2 a List.mem_cons_self
    have e2 := h2 b (List.mem_cons_of_mem _ List.mem_cons_self)
    rw [List.nodup_cons] at h
    exact absurd (by rw [e1, ← e2]; exact List.mem_cons_self) h.1
theorem cnt_picked {L : List FileM} (hD : DistP L L.length) {lv : Int} (hne : ofP L lv ≠ []) : cntP L (picksP L lv) lv ≠ 0 ∧ (lv ≠ 0 → cntP L (picksP L lv) lv = 1) := by
  have h0 : cntP L (picksP L lv) lv ≠ 0 := by
    intro h
    cases hd : dueP L lv with
    | nil => exact due_ne hne hd
    | cons f r =>
      have hf : f ∈ dueP L lv := by rw [hd]; exact List.mem_cons_self
      have hm := picked_due hf
      obtain ⟨h1, h2⟩ := of_mem.1 (due_mem hf)
      have := List.eq_nil_of_length_eq_zero h
      have hin : f ∈ (L.filter fun g => decide (g.lv = lv) && decide (g.nu ∈ picksP L lv)) := List.mem_filter.2 ⟨h1, by simp [h2, hm]⟩
      rw [this] at hin
      cases hin
  refine ⟨h0, fun hl => ?_⟩
  have h1 : cntP L (picksP L lv) lv ≤ 1 := by
    obtain ⟨f, hf⟩ : ∃ f, dueP L lv = [f] := by
      have := due_ne hne
      unfold dueP at this ⊢
      rw [if_neg hl] at this ⊢
      cases hM : ofP L lv with
      | nil => exact absurd hM hne
      | cons f r => exact ⟨_, rfl⟩
    refine nodup_one (f := f) (hD.nodup.filter _) fun x hx => ?_
    obtain ⟨h1, h2⟩ := List.mem_filter.1 hx
    simp only [Bool.and_eq_true, decide_eq_true_eq] at h2
    rcases picked_level hD hne h1 h2.2 with h3 | h3
    · have := h3.1
      rw [hf] at this
      exact List.mem_singleton.1 this
    · omega
  omega
/-- Of level 0 all files are picked. -/
theorem picked_zero {L : List FileM} {x : FileM} (hx : x ∈ L) (h0 : x.lv = 0) : x.nu ∈ picksP L 0 :=
  picked_due (by unfold dueP; rw [if_pos rfl]; exact of_mem.2 ⟨hx, h0⟩)
theorem rng_fold (r : List FileM) : ∀ a b, r.foldl rngS (some (a, b)) = some (firstP a r, lastP' b r) := by
  induction r with
  | nil => intro a b; rfl
  | cons x r ih => intro a b; exact ih _ _
theorem cmp_self (a : ByteArray) : cmpT a a = 0 := (cmpT_eq _ _).2 rfl
theorem picked_within {L : List FileM} {x : FileM} (hx : x ∈ L) (h1 : x.lv = 0 + 1) (hne : ofP L 0 ≠ []) (hw : withinP L (picksP L 0) 0 x = true) : x.nu ∈ picksP L 0 := by
  have hf : (L.filter fun g => decide (g.lv = 0) && decide (g.nu ∈ picksP L 0)) = ofP L 0 := by
    unfold ofP
    refine List.filter_congr fun y hy => ?_
    by_cases e : y.lv = 0
    · simp [e, picked_zero hy e]
    · simp [e]
  have hd : dueP L 0 = ofP L 0 := by unfold dueP; rw [if_pos rfl]
  cases hM : ofP L 0 with
  | nil => exact absurd hM hne
  | cons f r =>
    have hr : rngP (picksP L 0) 0 L = some (firstP f.fi r, lastP' f.la r) := by
      unfold rngP
      rw [hf, hM]
      exact rng_fold r _ _
    unfold withinP at hw
    rw [hr] at hw
    simp only [Bool.and_eq_true, decide_eq_true_eq] at hw
    rw [hM] at hd
    refine (picks_mem hd _).2 (Or.inr ⟨x, range_mem.2 ⟨⟨hx, h1⟩, ?_⟩, rfl⟩)
    have e1 : firstP f.fi (f :: r) = firstP f.fi r := by rw [firstP, cmp_self, if_neg (by omega)]
    have e2 : lastP' f.la (f :: r) = lastP' f.la r := by rw [lastP', cmp_self, if_neg (by omega)]
    rw [e1, e2]
    exact hw
end Go.Proofs.Ytcljocmaojfhhaa

namespace Go.Proofs.Ytcljocmaojfhhaa
open Go.RowKit Go.WideShapes Go.ChangeShapes Go.Deep

theorem list6 {α : Type} {l : List α} (h : l.length = 6) : ∃ c0 c1 c2 c3 c4 c5, l = [c0, c1, c2, c3, c4, c5] := by
  match l, h with
  | [c0, c1, c2, c3, c4, c5], _ => exact ⟨c0, c1, c2, c3, c4, c5, rfl⟩
theorem array6 {α : Type} {a : Array α} (h : a.size = 6) : ∃ x0 x1 x2 x3 x4 x5, a = #[x0, x1, x2, x3, x4, x5] := by
  obtain ⟨l⟩ := a
  match l, h with
  | [x0, x1, x2, x3, x4, x5], _ => exact ⟨x0, x1, x2, x3, x4, x5, rfl⟩
section
variable {H : Type} {enc : TypeId × Value → H} {P : Program} {w : World} {t s : TypeId} {f0 f1 f2 f3 f4 f5 : Field}
/-- What a file asks: its numbers are whole numbers of the machine, its texts as long as they can be read. -/
structure FileOk (f : FileM) : Prop where
  lv : (Lit.int .i64 f.lv).wf = true
  nu : (Lit.int .i64 f.nu).wf = true
  co : (Lit.int .i64 f.co).wf = true
  sz : (Lit.int .i64 f.sz).wf = true
  fi : f.fi.size ≤ 9223372036854775807
  la : f.la.size ≤ 9223372036854775807
def cellsV (f : FileM) : List Value := [.int .i64 f.lv, .int .i64 f.nu, .int .i64 f.co, .int .i64 f.sz, .string f.fi, .string f.la]
/-- One file, out of its cells. -/
theorem file_trod {fuel : Nat} {cs : List Value} {z : DataW H × List MemPlace} (ht : P.underlying t = some (.struct #[f0, f1, f2, f3, f4, f5]))
    (offs : [f0.offset, f1.offset, f2.offset, f3.offset, f4.offset, f5.offset] = [0, 1, 2, 3, 4, 5])
    (cells : [f0.type, f1.type, f2.type, f3.type, f4.type, f5.type].map P.cellsOf = [1, 1, 1, 1, 1, 1])
    (u0 : P.underlying f0.type = some (.int .i64)) (u1 : P.underlying f1.type = some (.int .i64)) (u2 : P.underlying f2.type = some (.int .i64)) (u3 : P.underlying f3.type = some (.int .i64)) (u4 : P.underlying f4.type = some .string) (u5 : P.underlying f5.type = some .string)
    (hl : cs.length = 6) (h : DataW.trod enc P w 0 (fun _ => true) true fuel t cs = some z) :
    ∃ f : FileM, cs = cellsV f ∧ FileOk f ∧ z = (.agg [.lit (.int .i64 f.lv), .lit (.int .i64 f.nu), .lit (.int .i64 f.co), .lit (.int .i64 f.sz), .lit (.string f.fi.data.toList), .lit (.string f.la.data.toList)], []) := by
  simp only [List.cons.injEq, and_true, List.map_cons, List.map_nil] at offs cells
  obtain ⟨o0, o1, o2, o3, o4, o5⟩ := offs
  obtain ⟨c0, c1, c2, c3, c4, c5⟩ := cells
  obtain ⟨a0, a1, a2, a3, a4, a5, rfl⟩ := list6 hl
  obtain ⟨ys, m, _, hx, _, hlen, hg⟩ := DataW.trod_struct ht h
  match ys, hlen, hg, hx with
  | [y0, y1, y2, y3, y4, y5], _, hg, hx =>
    have h0 := hg 0 f0 rfl
    have h1 := hg 1 f1 rfl
    have h2 := hg 2 f2 rfl
    have h3 := hg 3 f3 rfl
    have h4 := hg 4 f4 rfl
    have h5 := hg 5 f5 rfl
    simp [o0, o1, o2, o3, o4, o5, c0, c1, c2, c3, c4, c5] at h0 h1 h2 h3 h4 h5
    obtain ⟨lv, e0, d0, w0⟩ := DataW.trod_int u0 h0
    obtain ⟨nu, e1, d1, w1⟩ := DataW.trod_int u1 h1
    obtain ⟨co, e2, d2, w2⟩ := DataW.trod_int u2 h2
    obtain ⟨sz, e3, d3, w3⟩ := DataW.trod_int u3 h3
    obtain ⟨fi, e4, d4, w4⟩ := DataW.trod_string u4 h4
    obtain ⟨la, e5, d5, w5⟩ := DataW.trod_string u5 h5
    simp at e0 e1 e2 e3 e4 e5
    subst e0 e1 e2 e3 e4 e5 d0 d1 d2 d3 d4 d5
    unfold maxLen at w4 w5
    exact ⟨⟨lv, nu, co, sz, fi, la⟩, rfl, ⟨w0, w1, w2, w3, by simp only []; omega, by simp only []; omega⟩, hx⟩
/-- A slice of files, out of how it reads. -/
theorem files_view {A : Option Addr} {n cp : Nat} {d : DataW H} {p : List MemPlace} (hs : P.underlying s = some (.slice t)) (ht : P.underlying t = some (.struct #[f0, f1, f2, f3, f4, f5])) (hct : P.cellsOf t = 6)
    (offs : [f0.offset, f1.offset, f2.offset, f3.offset, f4.offset, f5.offset] = [0, 1, 2, 3, 4, 5])
    (cells : [f0.type, f1.type, f2.type, f3.type, f4.type, f5.type].map P.cellsOf = [1, 1, 1, 1, 1, 1])
    (u0 : P.underlying f0.type = some (.int .i64)) (u1 : P.underlying f1.type = some (.int .i64)) (u2 : P.underlying f2.type = some (.int .i64)) (u3 : P.underlying f3.type = some (.int .i64)) (u4 : P.underlying f4.type = some .string) (u5 : P.underlying f5.type = some .string)
    (h : DataW.Trod enc P w 0 (fun _ => true) true s (.slice A n cp) d p) : ∃ L, FilesAt w A n L ∧ n ≤ 9223372036854775807 ∧ ∀ f ∈ L, FileOk f := by
  obtain ⟨fuel, hf⟩ := h
  rcases open_slice hs hf with ⟨hcs, _⟩ | ⟨a, len', cap', m, k, D, Pl, hcs, _, hl, hm, hmm, _, hx⟩
  · simp [Value.cells] at hcs
    obtain ⟨rfl, rfl, rfl⟩ := hcs
    exact ⟨[], ⟨rfl, fun i m hm => by simp at hm⟩, by decide, fun f hf => by cases hf⟩
  · simp [Value.cells] at hcs
    obtain ⟨rfl, rfl, rfl⟩ := hcs
    rw [if_pos rfl] at hmm
    unfold maxLen at hm
    have each : ∀ j, j < n → ∃ q : FileM, (∀ k, k < 6 → w.cell? (a.add (j * 6 + k)) = (cellsV q)[k]?) ∧ FileOk q := by
      intro j hj
      obtain ⟨cs', h1, h2⟩ := hx j (by omega)
      rw [hct] at h1
      obtain ⟨_, hlen, hcell⟩ := World.cells?_some h1
      obtain ⟨q, rfl, hq, _⟩ := file_trod ht offs cells u0 u1 u2 u3 u4 u5 hlen h2
      refine ⟨q, fun k hk => ?_, hq⟩
      have hk' : k < (cellsV q).length := by rw [hlen]; exact hk
      have h3 := hcell k (by first | exact hk' | exact hk | (rw [hlen]; exact hk))
      simpa [Go.Deep.add_add] using h3
    haveI : Inhabited FileM := ⟨⟨0, 0, 0, 0, ⟨#[]⟩, ⟨#[]⟩⟩⟩
    obtain ⟨q, hq⟩ := choose_lt each
    have hget : ∀ (i : Nat) (m : FileM), ((List.range n).map q)[i]? = some m → i < n ∧ m = q i := by
      intro i m hm
      have hi : i < n := by
        have := (List.getElem?_eq_some_iff.1 hm).1
        simpa using this
      rw [List.getElem?_map, List.getElem?_range hi] at hm
      cases hm
      exact ⟨hi, rfl⟩
    refine ⟨(List.range n).map q, ⟨by simp, fun i m hm => ?_⟩, by omega, fun m hm => ?_⟩
    · obtain ⟨hi, rfl⟩ := hget i m hm
      obtain ⟨b, off, spot⟩ := a
      have z0 := (hq i hi).1 0 (by decide)
      have hspot : spot = none := by
        have h0 := (hq 0 (by omega)).1 0 (by decide)
        simpa [Addr.add] using World.cell?_spot (show w.cell? (({ block := b, off := off, spot := spot } : Addr).add (0 * 6 + 0)) = some (.int .i64 (q 0).lv) from h0)
      subst hspot
      have z1 := (hq i hi).1 1 (by decide)
      have z2 := (hq i hi).1 2 (by decide)
      have z3 := (hq i hi).1 3 (by decide)
      have z4 := (hq i hi).1 4 (by decide)
      have z5 := (hq i hi).1 5 (by decide)
      rw [Go.WideShapes.add_plain, ← Nat.add_assoc] at z0 z1 z2 z3 z4 z5
      rw [Nat.add_zero] at z0
      exact ⟨b, off, rfl, block_lt (show w.cell? _ = some (.int .i64 (q i).lv) from z0), z0, z1, z2, z3, z4, z5⟩
    · obtain ⟨i, hi⟩ := List.mem_iff_getElem?.1 hm
      obtain ⟨hj, rfl⟩ := hget i m hi
      exact (hq i hj).2
/-- A file that came in. -/
theorem file_view {r : Reach} {b0 : Nat} {v : Value} {d : DataW H} {p : List MemPlace} (ht : P.underlying t = some (.struct #[f0, f1, f2, f3, f4, f5])) (hct : P.cellsOf t = 6)
    (offs : [f0.offset, f1.offset, f2.offset, f3.offset, f4.offset, f5.offset] = [0, 1, 2, 3, 4, 5])
    (cells : [f0.type, f1.type, f2.type, f3.type, f4.type, f5.type].map P.cellsOf = [1, 1, 1, 1, 1, 1])
    (u0 : P.underlying f0.type = some (.int .i64)) (u1 : P.underlying f1.type = some (.int .i64)) (u2 : P.underlying f2.type = some (.int .i64)) (u3 : P.underlying f3.type = some (.int .i64)) (u4 : P.underlying f4.type = some .string) (u5 : P.underlying f5.type = some .string)
    (hval : Value.okWide P w r b0 t v) (h : DataW.Trod enc P w 0 (fun _ => true) true t v d p) :
    ∃ f : FileM, v = .agg (cellsV f).toArray ∧ d = .agg [.lit (.int .i64 f.lv), .lit (.int .i64 f.nu), .lit (.int .i64 f.co), .lit (.int .i64 f.sz), .lit (.string f.fi.data.toList), .lit (.string f.la.data.toList)] ∧ p = [] ∧ FileOk f := by
  obtain ⟨cs, rfl, hsz⟩ := okWide_struct ht hval
  obtain ⟨fuel, hf⟩ := h
  obtain ⟨f, e1, e2, e3⟩ := file_trod ht offs cells u0 u1 u2 u3 u4 u5 (by simpa [Value.cells] using hsz.trans hct) hf
  obtain ⟨rfl, rfl⟩ := Prod.mk.inj e3
  refine ⟨f, ?_, rfl, rfl, e2⟩
  rw [← e1]
  simp [Value.cells]
end
end Go.Proofs.Ytcljocmaojfhhaa

namespace Go.Proofs.Ytcljocmaojfhhaa
open Go.RowKit Go.WideShapes Go.ChangeShapes
section
variable {H : Type} {enc : TypeId × Value → H} {P : Program}
theorem post_of_below {f : Func} {s : ChangeSpec} {apart fresh handsOn again : Bool} {W W' : World} {args : Array Value} {v : Value} {ds gs : List (DataW H)} {before pa pv : List MemPlace}
    (hW : DataW.Whole enc P f.params.toList s.vars apart W args.toList ds gs before)
    (hres : ∀ (b : Nat) (sp : Nat → Bool) (hd : Bool), DataW.TrodAll enc P W' b sp hd f.resultTypes.toList (v.resultList f.resultTypes.size) (s.fn H (ds ++ gs)).results [])
    (hargs : ∀ sp : Nat → Bool, (∀ p ∈ before, sp p.block = true) → DataW.TrodAll enc P W' 0 sp true f.params.toList args.toList (s.fn H (ds ++ gs)).args pa)
    (hvars : ∀ sp : Nat → Bool, (∀ p ∈ before, sp p.block = true) → DataW.TrodVars enc P W' sp s.vars (s.fn H (ds ++ gs)).vars pv)
    (hps : before = pa ++ pv) (hb : Below W.heap.size W W')
    (hok : ∀ (j : Nat) (t : TypeId) (r : Value), f.resultTypes[j]? = some t → (v.resultList f.resultTypes.size)[j]? = some r → Value.okWide P W' .any 0 t r) :
    s.post enc P f apart fresh handsOn again W args v W' := by
  have hlt : ∀ p ∈ before, p.block < W.heap.size := fun p hp => hW.lt p hp
  have hold : ∀ p ∈ before, (fun b => decide (b < W.heap.size)) p.block = true := fun p hp => by simpa using hlt p hp
  refine ⟨ds, gs, before, [], pa, pv, hW, hres _ _ _, hargs _ hold, hvars _ hold, World.keptBut_mono (fun p hp => ⟨hp, ?_⟩) (hb.frame (· ∈ before)), fun _ => ?_⟩
  · rw [hps, List.mem_append] at hp
    exact Or.inr hp
  · obtain ⟨_, _, _, _, _, hz, hn⟩ := hW
    refine ⟨hok, _, _, ([] ++ pa) ++ pv, ⟨[] ++ pa, pv, trodAll_append (hargs _ (fun _ _ => rfl)) (hres _ _ _), hvars _ (fun _ _ => rfl), rfl, ?_, ?_⟩, ?_⟩
    · intro b off hp
      have hin : MemPlace.cell b off ∈ before := by rw [hps]; simpa using hp
      rw [hb.frozen (hlt _ hin)]
      exact hz b off hin
    · intro ha
      have := hn ha
      rw [hps] at this
      simpa using this
    · intro p hp _
      rw [hps]
      simpa using hp
end
end Go.Proofs.Ytcljocmaojfhhaa
