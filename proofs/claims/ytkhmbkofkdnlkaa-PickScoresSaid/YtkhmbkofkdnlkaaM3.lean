/-
  Several texts in one: The landed package pick, part 6: fullest; slices.Grow, slices.Concat; slices.MinFunc by number; due, reach.
  The landed package pick, part 7: slices.MinFunc by number; due, reach.
  The landed package pick, part 8: due, reach.
  The landed package pick, part 9: Pick.
  The laws of chapter 15: their first call.
  '<' of texts is the order of cmpT (no program is named).
  Quotients and products of normal float64 numbers: order, doubles, halves (no program is named).
  Scores of bases and ratios that are no edges: a file more never makes one less, a base twice as great halves them (no program is named).
  A region that draws its order, walked in the order of the text, within a class of worlds: one operation at a time. No program is named.
  A region that draws its order, with calls and blocks that are made: for each operation it is said, once, what stands in its slot when it has come up, whatever came up ahead of it. No program is named.
-/
import Derived.Test.YtkhmbkofkdnlkaaM2
import Derived.Test.YtkhmbkofkdnlkaaM1
import Derived.Lib.AppendZerosOnto
import Derived.BigQuiet
import Derived.StillTailTactics
import Derived.Lib.Strings
import Derived.Deep.QuietTactic
import Derived.StillTail
import Derived.Deep.Slices
namespace Go.Proofs.Ytkhmbkofkdnlkaa
open Go.RowKit

set_option maxRecDepth 100000 in
set_option maxHeartbeats 2000000 in
theorem pfullest_any (B g c n : Nat) (S : List Nat) (w : World) (hO : Own elReals w B 23 (.slice (some ⟨g, 0, none⟩) n c) S) (hn : n ≤ 1000000) :
    Calls Try.prog 14 #[.slice (some ⟨g, 0, none⟩) n c] w fun e w' => e = .returned (.tuple #[.int .i64 ((fullP S n).getD 0 : Nat), .bool (fullP S n).isSome]) ∧ w = w' := by
  have HO := Lib.hid hO
  have hlen := (own_reads hO).1
  have HLn := Lib.hid hlen
  obtain ⟨fu, hfu⟩ : ∃ fu, fu = fullP S := ⟨_, rfl⟩
  have F0 : Hid (fu 0 = none) := Lib.hid (by rw [hfu]; rfl)
  have F1 : Hid (∀ k, fu (k + 1) = if (geF (S.getD k 0) oneW && overP0 S (S.getD k 0) (fu k)) = true then some k else fu k) := Lib.hid (by rw [hfu]; intro k; rfl)
  have FL : Hid (∀ k b, fu k = some b → b < k) := Lib.hid fun k b h => (fullP_lt (by rw [hfu] at h; exact h)).1
  rw [← hfu]
  clear hO hlen hfu
  go_enter Try.func14, Try.ntmps14
  go_wp2_with fail
  go_loopw [2, 3, 4, 5, 8] (fun l f _ _ i wr => ∃ (k b : Nat) (t : Bool), k ≤ n ∧ i = .int .i64 (k : Int) ∧ l = .int .i64 (b : Int) ∧ f = .bool t ∧ Hid (fu k = if t = true then some b else none) ∧ Hid (t = false → b = 0) ∧ wr = w) (fun _ _ _ _ i _ => n - (intOf i).toNat)
  case atStart => exact ⟨0, 0, false, by omega, rfl, rfl, rfl, Lib.hid F0.out, Lib.hid (fun _ => rfl), rfl⟩
  case round =>
    obtain ⟨k, b, t, hk, rfl, rfl, rfl, HF, HZ, rfl⟩ := hrel
    by_cases hl : k < n
    · have g1 : (k : Int) < (n : Int) := by omega
      have g2 : (0 : Int) ≤ (k : Int) := by omega
      have w1 : wrap64 ((k : Int) + 1) = (k : Int) + 1 := wrap_sucP hl hn
      have hkS : k < S.length := by rw [← HLn.out]; exact hl
      have x0 := own_cellR (j := k) HO.out (List.getElem?_eq_getElem hkS)
      have hF1 := F1.out k
      have hgd : S.getD k 0 = S[k] := by rw [List.getD_eq_getElem?_getD, List.getElem?_eq_getElem hkS]; rfl
      rw [hgd] at hF1
      generalize S[k] = x at *
      cases hg : geF x oneW with
      | false =>
        have o1 : (FloatKind.f64.format.order x 4607182418800017408 == some .gt || FloatKind.f64.format.order x 4607182418800017408 == some .eq) = false := hg
        rw [hg, Bool.false_and, if_neg Bool.false_ne_true] at hF1
        have HF2 : Hid (fu (k + 1) = if t = true then some b else none) := Lib.hid (by rw [hF1]; exact HF.out)
        clear hF1 hgd hkS F1 FL F0 hg
        go_wp2_with fail
        go_roundw
        case rel => exact ⟨k + 1, b, t, by omega, by go_num, rfl, rfl, HF2, HZ, trivial⟩
        case measure => exact meas_ltP hl
      | true =>
        have o1 : (FloatKind.f64.format.order x 4607182418800017408 == some .gt || FloatKind.f64.format.order x 4607182418800017408 == some .eq) = true := hg
        rw [hg, Bool.true_and] at hF1
        cases t with
        | false =>
          rw [HF.out, if_neg Bool.false_ne_true] at hF1
          rw [show overP0 S x none = true from rfl, if_pos rfl] at hF1
          have HF2 : Hid (fu (k + 1) = if true = true then some k else none) := Lib.hid (by rw [hF1, if_pos rfl])
          clear hF1 hgd hkS F1 FL F0 hg
          go_wp2_with fail
          go_roundw
          case rel => exact ⟨k + 1, k, true, by omega, by go_num, rfl, rfl, HF2, Lib.hid (fun h => by cases h), trivial⟩
          case measure => exact meas_ltP hl
        | true =>
          have hfb : fu k = some b := by rw [HF.out, if_pos rfl]
          have hbk := FL.out k b hfb
          have hbS : b < S.length := by omega
          have y0 := own_cellR (j := b) HO.out (List.getElem?_eq_getElem hbS)
          have hbd : S.getD b 0 = S[b] := by rw [List.getD_eq_getElem?_getD, List.getElem?_eq_getElem hbS]; rfl
          rw [hfb, show overP0 S x (some b) = gtF x (S.getD b 0) from rfl, hbd] at hF1
          generalize S[b] = y at *
          have g5 : (b : Int) < (n : Int) := by omega
          have g6 : (0 : Int) ≤ (b : Int) := by omega
          cases hgt : gtF x y with
          | true =>
            have o2 : (FloatKind.f64.format.order x y == some .gt) = true := hgt
            rw [hgt, if_pos rfl] at hF1
            have HF2 : Hid (fu (k + 1) = if true = true then some k else none) := Lib.hid (by rw [hF1, if_pos rfl])
            clear hF1 hgd hkS F1 FL F0 hg hgt hbd hbS hbk hfb
            go_wp2_with fail
            go_roundw
            case rel => exact ⟨k + 1, k, true, by omega, by go_num, rfl, rfl, HF2, Lib.hid (fun h => by cases h), trivial⟩
            case measure => exact meas_ltP hl
          | false =>
            have o2 : (FloatKind.f64.format.order x y == some .gt) = false := hgt
            rw [hgt, if_neg Bool.false_ne_true] at hF1
            have HF2 : Hid (fu (k + 1) = if true = true then some b else none) := Lib.hid (by rw [hF1, if_pos rfl])
            clear hF1 hgd hkS F1 FL F0 hg hgt hbd hbS hbk hfb
            go_wp2_with fail
            go_roundw
            case rel => exact ⟨k + 1, b, true, by omega, by go_num, rfl, rfl, HF2, Lib.hid (fun h => by cases h), trivial⟩
            case measure => exact meas_ltP hl
    · obtain rfl : k = n := by omega
      have g3 : ¬ (k : Int) < (k : Int) := by omega
      have hX : Hid (((fu k).getD 0 : Nat) = b ∧ (fu k).isSome = t) := Lib.hid (by
        rw [HF.out]
        cases t with
        | true => exact ⟨rfl, rfl⟩
        | false => exact ⟨(HZ.out rfl).symm, rfl⟩)
      go_wp2_with fail
      go_ret2
      exact ⟨by rw [hX.out.1, hX.out.2]; rfl, rfl⟩

/-! ### slices.Grow of nothing, slices.Concat of two -/
set_option maxRecDepth 100000 in
set_option maxHeartbeats 2000000 in
theorem pgrow_any (n : Nat) (w : World) (hn : n ≤ 10000000) :
    Calls Try.prog 27 #[.slice none 0 0, .int .i64 (n : Int)] w fun e w' => ∃ v, e = .returned v ∧ Own elInts w' w.heap.size 3 v [] ∧ w.grownBy w' none := by
  obtain ⟨i0, hi0, hz0, hz1, hz2⟩ := info_parts infoInts
  by_cases h0 : n = 0
  · subst h0
    go_enter Try.func27, Try.ntmps27
    go_wp2_with fail
    go_ret
    exact ⟨_, rfl, World.ownsRow_nil _ _ _ _, grefl _ _⟩
  · have h4 : (0 : Int) < (n : Int) := by omega
    have h1 : ¬ ((n : Int) < 0) := by omega
    have hz1' : i0.size = 1 := hz1
    have hold : (Builtin.firstCells i0.size 0 (.slice none 0 0)).run Try.prog w.drew = .ok ([] : List Value).toArray w.drew := run_firstCells_none w.drew i0.size 0 0 0
    have hrz : ∀ ty, (Builtin.append_ #[27, 3] ty #[.slice none 0 0, .int .i64 (n : Int)]).run Try.prog w = _ := fun ty => Lib.run_append_grow_zeros w 27 3 ty 3 i0 (.int .i64 0) .i64 .i64 Try.underlying27 Try.underlying3 hi0 hz0 none 0 0 [] hold n (by omega) (by rw [hz1']; decide) (by omega) (by omega) (by rw [hz2]; omega)
        (by rw [Nat.zero_add]; exact growslice_fits (by omega) (by rw [hz2]; omega))
    have hGn : 0 + n ≤ grownCap w (0 + n) 0 3 := grownCap_ge w _ _ _
    have hG9 := grownCap_le_maxLen w (0 + n) 0 3 (by unfold maxLen; omega)
    generalize grownCap w (0 + n) 0 3 = G at *
    rw [Nat.zero_add] at hrz hGn
    have hG63 : G ≤ 9223372036854775807 := by unfold maxLen at hG9; omega
    obtain ⟨cur, hcur⟩ : ∃ cur, cur = ([] : List Value).toArray ++ Builtin.zeroCells (Value.int .i64 0).cells n ++ Builtin.zeroCells (Value.int .i64 0).cells (G - n) := ⟨_, rfl⟩
    have hcs : cur.size = G * 1 := by rw [hcur]; simp [Builtin.zeroCells, Value.cells]; omega
    rw [← hcur] at hrz
    obtain ⟨W, hW⟩ : ∃ W, W = w.drew.alloc (.cells cur 3) := ⟨_, rfl⟩
    rw [← hW] at hrz
    have HO : Hid (Own elInts W w.heap.size 3 (.slice (some ⟨w.heap.size, 0, none⟩) 0 G) []) := Lib.hid (by
      refine ⟨rfl, Or.inr ⟨w.heap.size, G, cur, rfl, Nat.le_refl _, ?_, Nat.zero_le _, hG9, hcs, by simp [El.row]⟩⟩
      rw [hW]
      exact heap_alloc_new w.drew _)
    have HG : Hid (w.grownBy W none) := Lib.hid (by
      rw [hW]
      exact gnone (b := w.drew) ⟨rfl, rfl, rfl, Nat.le_refl _, fun _ _ _ => rfl⟩ (World.grownBy_alloc w.drew _ none))
    clear hold hcur hcs hW hz0 hi0 hz1 hz2 hz1' h0 hG9
    go_enter Try.func27, Try.ntmps27
    go_wp2_with (at_builtin; refine Lib.wpList_append_run _ rfl _ _ _ _ rfl _ _ rfl rfl _ _ (hrz _) ?_)
    all_goals
      go_ret
      exact ⟨_, rfl, HO.out, HG.out⟩
set_option maxRecDepth 100000 in
set_option maxHeartbeats 4000000 in
theorem pconcat_any (q B1 B2 n1 c1 n2 c2 : Nat) (A1 A2 : Option Addr) (L1 L2 : List Int) (w : World) (h1 : w.cell? ⟨q, 0, none⟩ = some (.slice A1 n1 c1)) (h2 : w.cell? ⟨q, 1, none⟩ = some (.slice A2 n2 c2)) (o1 : Own elInts w B1 3 (.slice A1 n1 c1) L1) (o2 : Own elInts w B2 3 (.slice A2 n2 c2) L2) (hn1 : n1 ≤ 1000000) (hn2 : n2 ≤ 1000000) :
    Calls Try.prog 17 #[.slice (some ⟨q, 0, none⟩) 2 2] w fun e w' => ∃ v, e = .returned v ∧ Own elInts w' w.heap.size 3 v (L1 ++ L2) ∧ w.grownBy w' none := by
  have k1 : n1 = L1.length := (own_reads o1).1
  have k2 : n2 = L2.length := (own_reads o2).1
  have HK1 := Lib.hid k1
  have HK2 := Lib.hid k2
  have H1 := Lib.hid h1
  have H2 := Lib.hid h2
  have O1 := Lib.hid o1
  have O2 := Lib.hid o2
  have CG := fun W => Lib.hid (pgrow_any (n1 + n2) W (by omega))
  have cs : ((n1 + n2 : Nat) : Int) = (n1 : Int) + (n2 : Int) := by omega
  rw [cs] at CG
  clear k1 k2 h1 h2 o1 o2 cs
  go_enter Try.func17, Try.ntmps17
  go_wp2_with fail
  go_loopw [3, 5, 11] (fun s _ i wr => ∃ k : Nat, k ≤ 2 ∧ i = .int .i64 (k : Int) ∧ s = .int .i64 (if k = 0 then 0 else if k = 1 then (n1 : Int) else (n1 : Int) + (n2 : Int)) ∧ wr = w) (fun _ _ i _ => 2 - (intOf i).toNat)
  case atStart => exact ⟨0, by omega, rfl, rfl, rfl⟩
  case round =>
    obtain ⟨k, hk, rfl, rfl, rfl⟩ := hrel
    rcases (by omega : k = 0 ∨ k = 1 ∨ k = 2) with rfl | rfl | rfl
    · have c0 := H1.out
      go_wp2_with fail
      go_roundw
      case rel => exact ⟨0 + 1, by omega, by rfl, by simp, trivial⟩
      case measure => simp [intOf]
    · have c0 := H2.out
      have t1 : wrap64 ((n1 : Int) + (n2 : Int)) = (n1 : Int) + (n2 : Int) := by unfold wrap64; omega
      have t2 : ¬ ((n1 : Int) + (n2 : Int) < 0) := by omega
      go_wp2_with fail
      go_roundw
      case rel => exact ⟨1 + 1, by omega, by rfl, by simp, trivial⟩
      case measure => simp [intOf]
    · obtain ⟨w0, hw0⟩ : ∃ w0, w0 = wr := ⟨_, rfl⟩
      subst hw0
      go_wp2_with fail
      refine (CG _).out.mono ?_
      rintro e w2 ⟨v, rfl, ho, hg⟩
      obtain ⟨a0, c0, rfl⟩ := ho.slice
      have HO := Lib.hid ho
      have HG := Lib.hid hg
      clear ho hg CG
      go_wp2_with fail
      go_loopw [6, 8, 27] (fun v _ i wr => ∃ k : Nat, k ≤ 2 ∧ i = .int .i64 (k : Int) ∧ Hid (Own elInts wr w0.heap.size 3 v (if k = 0 then [] else if k = 1 then L1 else L1 ++ L2)) ∧ Hid (w0.grownBy wr none)) (fun _ _ i _ => 2 - (intOf i).toNat)
      case atStart => exact ⟨0, by omega, rfl, HO, HG⟩
      case round =>
        obtain ⟨k, hk, rfl, HOw, HGw⟩ := hrel
        clear HO HG
        rcases (by omega : k = 0 ∨ k = 1 ∨ k = 2) with rfl | rfl | rfl
        · have hown : Own elInts wr w0.heap.size 3 _ [] := HOw.out
          obtain ⟨av, cv, ev⟩ := hown.slice
          subst ev
          have r1 := own_reads (O1.out.below (below_g HGw.out))
          obtain ⟨v', w3, hr, hown2, hgr, _, _⟩ := app_own (P := Try.prog) elInts 27 3 (.int .i64 0) 8 underInts infoInts rfl wr w0.heap.size (.slice av ([] : List Int).length cv) [] L1 hown A1 c1 r1.2.1 r1.2.2 (by rw [← HK1.out]; unfold maxLen; simp; omega) (by rw [← HK1.out]; simp; omega) HGw.out.size n1 HK1.out
          have HR := fun ty => Lib.hid (hr ty)
          have HO3 : Hid (Own elInts w3 w0.heap.size 3 v' (if 0 + 1 = 0 then [] else if 0 + 1 = 1 then L1 else L1 ++ L2)) := Lib.hid hown2
          have HG3 := Lib.hid (grow_k HGw.out hown (Nat.le_refl _) hgr)
          have c0 := HGw.out.cell H1.out (by simp)
          clear hr hown2 hgr r1 hown HOw HGw
          go_wp2_with (at_builtin; refine wpList_append_k _ w3 rfl (.tmp 31) (.tmp 32) 27 rfl _ _ v' rfl rfl (fun ty => (HR ty).out) ?_)
          go_roundw
          case rel => exact ⟨0 + 1, by omega, by rfl, HO3, HG3⟩
          case measure => simp [intOf]
        · have hown : Own elInts wr w0.heap.size 3 _ L1 := HOw.out
          obtain ⟨av, cv, ev⟩ := hown.slice
          subst ev
          have r2 := own_reads (O2.out.below (below_g HGw.out))
          obtain ⟨v', w3, hr, hown2, hgr, _, _⟩ := app_own (P := Try.prog) elInts 27 3 (.int .i64 0) 8 underInts infoInts rfl wr w0.heap.size (.slice av L1.length cv) L1 L2 hown A2 c2 r2.2.1 r2.2.2 (by rw [← HK1.out, ← HK2.out]; unfold maxLen; omega) (by rw [← HK1.out, ← HK2.out]; omega) HGw.out.size n2 HK2.out
          have HR := fun ty => Lib.hid (hr ty)
          have HO3 : Hid (Own elInts w3 w0.heap.size 3 v' (if 1 + 1 = 0 then [] else if 1 + 1 = 1 then L1 else L1 ++ L2)) := Lib.hid hown2
          have HG3 := Lib.hid (grow_k HGw.out hown (Nat.le_refl _) hgr)
          have c0 := HGw.out.cell H2.out (by simp)
          clear hr hown2 hgr r2 hown HOw HGw
          generalize L1.length = m1 at *
          go_wp2_with (at_builtin; refine wpList_append_k _ w3 rfl (.tmp 31) (.tmp 32) 27 rfl _ _ v' rfl rfl (fun ty => (HR ty).out) ?_)
          go_roundw
          case rel => exact ⟨1 + 1, by omega, by rfl, HO3, HG3⟩
          case measure => simp [intOf]
        · go_wp2_with fail
          go_ret
          exact ⟨_, rfl, HOw.out, HGw.out⟩
end Go.Proofs.Ytkhmbkofkdnlkaa

namespace Go.Proofs.Ytkhmbkofkdnlkaa
open Go.RowKit

def cmpI2 (a b : Int) : Int := if a < b then -1 else if b < a then 1 else 0
/-- The file of the least number; of several the first. -/
def minFrom (m : FileM) : List FileM → FileM
  | [] => m
  | x :: r => minFrom (if x.nu < m.nu then x else m) r
theorem minFrom_snoc (r : List FileM) : ∀ (m x : FileM), minFrom m (r ++ [x]) = if x.nu < (minFrom m r).nu then x else minFrom m r := by
  induction r with
  | nil => intro m x; rfl
  | cons y r ih => intro m x; exact ih _ x
def minP : List FileM → List FileM
  | [] => []
  | f :: r => [minFrom f r]
def dueP (L : List FileM) (lv : Int) : List FileM := if lv = 0 then ofP L lv else minP (ofP L lv)
def firstP (s : ByteArray) : List FileM → ByteArray
  | [] => s
  | f :: r => firstP (if cmpT f.fi s < 0 then f.fi else s) r
def lastP' (s : ByteArray) : List FileM → ByteArray
  | [] => s
  | f :: r => lastP' (if 0 < cmpT f.la s then f.la else s) r
theorem firstP_snoc (r : List FileM) : ∀ (s : ByteArray) (x : FileM), firstP s (r ++ [x]) = if cmpT x.fi (firstP s r) < 0 then x.fi else firstP s r := by
  induction r with
  | nil => intro s x; rfl
  | cons y r ih => intro s x; exact ih _ x
theorem lastP_snoc (r : List FileM) : ∀ (s : ByteArray) (x : FileM), lastP' s (r ++ [x]) = if 0 < cmpT x.la (lastP' s r) then x.la else lastP' s r := by
  induction r with
  | nil => intro s x; rfl
  | cons y r ih => intro s x; exact ih _ x
def cellsF (f : FileM) : Array Value := #[.int .i64 f.lv, .int .i64 f.nu, .int .i64 f.co, .int .i64 f.sz, .string f.fi, .string f.la]
set_option maxRecDepth 100000 in
set_option maxHeartbeats 1000000 in
theorem pbynumber_any (a b : FileM) (w : World) :
    Calls Try.prog 26 #[.agg #[.int .i64 a.lv, .int .i64 a.nu, .int .i64 a.co, .int .i64 a.sz, .string a.fi, .string a.la], .agg #[.int .i64 b.lv, .int .i64 b.nu, .int .i64 b.co, .int .i64 b.sz, .string b.fi, .string b.la]] w fun e w' => e = .returned (.int .i64 (cmpI2 a.nu b.nu)) ∧ w.grownBy w' none := by
  have CL := fun W => Lib.hid (Try.cmp_Compare_int a.nu b.nu W)
  have hc : Lib.compareInt a.nu b.nu = cmpI2 a.nu b.nu := rfl
  rw [hc] at CL
  have HG := Lib.hid (gnone (World.grownBy_alloc w (.cells #[.int .i64 a.lv, .int .i64 a.nu, .int .i64 a.co, .int .i64 a.sz, .string a.fi, .string a.la] 26) none) (World.grownBy_alloc _ (.cells #[.int .i64 b.lv, .int .i64 b.nu, .int .i64 b.co, .int .i64 b.sz, .string b.fi, .string b.la] 26) none))
  generalize cmpI2 a.nu b.nu = cc at *
  clear hc
  go_enter Try.func26, Try.ntmps26
  go_wp2_with fail
  refine (CL _).out.mono ?_
  rintro e w' ⟨rfl, rfl⟩
  go_wp2_with fail
  go_ret
  exact ⟨rfl, HG.out⟩
theorem min_end {w : World} {p : Nat} {t : Array Value} {R : Ending → World → Prop} {f : FileM} (B : Blk w p 26 (cellsF f)) (h4 : t[4]?.getD undef = .pointer (some ⟨p, 0, none⟩))
    (h : R (.returned (.agg #[.int .i64 f.lv, .int .i64 f.nu, .int .i64 f.co, .int .i64 f.sz, .string f.fi, .string f.la])) w) : bodyPost Try.prog Try.f25 R .ret { tmps := t, defers := [] } w := by
  have q0 := B.cell 0
  have q1 := B.cell 1
  have q2 := B.cell 2
  have q3 := B.cell 3
  have q4 := B.cell 4
  have q5 := B.cell 5
  refine bodyPost_ret (v := .agg #[.int .i64 f.lv, .int .i64 f.nu, .int .i64 f.co, .int .i64 f.sz, .string f.fi, .string f.la]) ?_ rfl h
  simp [cellsF] at q0 q1 q2 q3 q4 q5
  simp [results, Try.results25, go_sem, q0, q1, q2, q3, q4, q5, h4]
set_option maxRecDepth 100000 in
set_option maxHeartbeats 4000000 in
theorem pmin_any (A : Option Addr) (n c : Nat) (f : FileM) (r : List FileM) (w : World) (hI : FilesAt w A n (f :: r)) (hn : n ≤ 1000000) :
    Calls Try.prog 25 #[.slice A n c, .func (.func 26) #[] #[]] w fun e w' => e = .returned (.agg (cellsF (minFrom f r))) ∧ w.grownBy w' none := by
  have HI := Lib.hid hI
  have hlen := hI.len
  have HLn := Lib.hid hlen
  have h1 : 1 ≤ n := by rw [hlen]; simp
  obtain ⟨g, off, rfl, hg, z0, z1, z2, z3, z4, z5⟩ := hI.at_ 0 f rfl
  rw [Nat.zero_mul, Nat.add_zero] at z0 z1 z2 z3 z4 z5
  obtain ⟨Z, hZ⟩ : ∃ Z, Z = Obj.cells #[.int .i64 0, .int .i64 0, .int .i64 0, .int .i64 0, .string ⟨#[]⟩, .string ⟨#[]⟩] 26 := ⟨_, rfl⟩
  have g0 := World.grownBy_alloc w Z none
  have y0 := g0.cell z0 (by simp)
  have y1 := g0.cell z1 (by simp)
  have y2 := g0.cell z2 (by simp)
  have y3 := g0.cell z3 (by simp)
  have y4 := g0.cell z4 (by simp)
  have y5 := g0.cell z5 (by simp)
  have t1 : ¬ ((n : Int) < 1) := by omega
  have t2 : (0 : Int) < (n : Int) := by omega
  have P0 : Hid (Blk ((w.alloc Z).alloc (.cells (cellsF f) 26)) w.heap.size 26 #[.int .i64 0, .int .i64 0, .int .i64 0, .int .i64 0, .string ⟨#[]⟩, .string ⟨#[]⟩]) := Lib.hid (by rw [hZ]; exact (Blk.new w _ _).alloc _)
  have P1 : Hid (Blk ((w.alloc Z).alloc (.cells (cellsF f) 26)) (w.heap.size + 1) 26 (cellsF f)) := Lib.hid (Blk.new' (by simp) _ _)
  have G1 : Hid (Below w.heap.size w ((w.alloc Z).alloc (.cells (cellsF f) 26))) := Lib.hid (below_g (gnone g0 (World.grownBy_alloc _ _ none)))
  unfold cellsF at P0 P1 G1
  rw [hZ] at y0 y1 y2 y3 y4 y5 P0 P1 G1
  clear hI hlen hZ g0 z0 z1 z2 z3 z4 z5
  go_enter Try.func25, Try.ntmps25
  go_wp2_with fail
  clear y0 y1 y2 y3 y4 y5
  go_loopw [6] (fun i wr => ∃ (k : Nat) (m : FileM), 1 ≤ k ∧ k ≤ n ∧ i = .int .i64 (k : Int) ∧ Hid (m = minFrom f (r.take (k - 1))) ∧ Hid (Blk wr w.heap.size 26 #[.int .i64 0, .int .i64 0, .int .i64 0, .int .i64 0, .string ⟨#[]⟩, .string ⟨#[]⟩]) ∧ Hid (Blk wr (w.heap.size + 1) 26 (cellsF m)) ∧ Hid (Below w.heap.size w wr)) (fun i _ => n - (intOf i).toNat)
  case atStart => exact ⟨1, f, by omega, h1, rfl, Lib.hid rfl, P0, P1, G1⟩
  case round =>
    obtain ⟨k, m, hk1, hk, rfl, HM, HP0, HP1, HB⟩ := hrel
    clear P0 P1 G1
    by_cases hl : k < n
    · have g3 : (k : Int) < (n : Int) := by omega
      have g4 : (0 : Int) ≤ (k : Int) := by omega
      have w1 : wrap64 ((k : Int) + 1) = (k : Int) + 1 := wrap_sucP hl hn
      have hkL : k < (f :: r).length := by rw [← HLn.out]; exact hl
      have hs := List.getElem?_eq_getElem hkL
      generalize (f :: r)[k] = x at hs
      obtain ⟨g', off', eA, hg', z0, z1, z2, z3, z4, z5⟩ := (HI.out.below HB.out).at_ k x hs
      injection eA with eA
      injection eA with eg eo
      subst eg eo
      have hsr : r[k - 1]? = some x := by
        obtain ⟨j, rfl⟩ : ∃ j, k = j + 1 := ⟨k - 1, by omega⟩
        simpa using hs
      have hsn : minFrom f (r.take (k + 1 - 1)) = if x.nu < m.nu then x else m := by
        rw [show k + 1 - 1 = (k - 1) + 1 by omega, ftake_snoc hsr, minFrom_snoc, ← HM.out]
      have CN := fun W => Lib.hid (pbynumber_any x m W)
      have q0 := HP1.out.cell 0
      have q1 := HP1.out.cell 1
      have q2 := HP1.out.cell 2
      have q3 := HP1.out.cell 3
      have q4 := HP1.out.cell 4
      have q5 := HP1.out.cell 5
      simp only [cellsF] at q0 q1 q2 q3 q4 q5
      have hc : cmpI2 x.nu m.nu < 0 ↔ x.nu < m.nu := by unfold cmpI2; split <;> (try split) <;> omega
      obtain ⟨cc, hcc⟩ : ∃ cc, cmpI2 x.nu m.nu = cc := ⟨_, rfl⟩
      rw [hcc] at CN hc
      have d0 : wr.drew.cell? ⟨w.heap.size + 1, 0, none⟩ = _ := q0
      have d1 : wr.drew.cell? ⟨w.heap.size + 1, 1, none⟩ = _ := q1
      have d2 : wr.drew.cell? ⟨w.heap.size + 1, 2, none⟩ = _ := q2
      have d3 : wr.drew.cell? ⟨w.heap.size + 1, 3, none⟩ = _ := q3
      have d4 : wr.drew.cell? ⟨w.heap.size + 1, 4, none⟩ = _ := q4
      have d5 : wr.drew.cell? ⟨w.heap.size + 1, 5, none⟩ = _ := q5
      have e0 : wr.drew.cell? ⟨g, off + k * 6, none⟩ = _ := z0
      have e1 : wr.drew.cell? ⟨g, off + k * 6 + 1, none⟩ = _ := z1
      have e2 : wr.drew.cell? ⟨g, off + k * 6 + 2, none⟩ = _ := z2
      have e3 : wr.drew.cell? ⟨g, off + k * 6 + 3, none⟩ = _ := z3
      have e4 : wr.drew.cell? ⟨g, off + k * 6 + 4, none⟩ = _ := z4
      have e5 : wr.drew.cell? ⟨g, off + k * 6 + 5, none⟩ = _ := z5
      have HX : Hid (FilesAt wr (some ⟨g, off, none⟩) n (f :: r)) := Lib.hid (HI.out.below HB.out)
      have Hs := Lib.hid hs
      have HSN := Lib.hid hsn
      have HCC := Lib.hid hc
      clear q0 q1 q2 q3 q4 q5 z0 z1 z2 z3 z4 z5 hs hsr hsn hc hcc hkL hg'
      go_wp2_with fail
      go_still_tail 6, (by kernel_rfl)
      go_wp2_with fail
      refine (CN _).out.mono ?_
      rintro e w3 ⟨rfl, hg3⟩
      have hg3' : wr.grownBy w3 none := ⟨hg3.os, hg3.tape, hg3.output, hg3.size, hg3.block⟩
      have hP0 := HP0.out.grown hg3' (by simp)
      have hP1 := HP1.out.grown hg3' (by simp)
      have hB3 := HB.out.trans ((below_g hg3').mono HB.out.size)
      have hX3 := HX.out.below (below_g hg3')
      clear d0 d1 d2 d3 d4 d5 e0 e1 e2 e3 e4 e5 hg3 hg3'
      by_cases hlt : x.nu < m.nu
      · have tc : decide (cc < 0) = true := decide_eq_true (HCC.out.2 hlt)
        have HM2 : Hid (x = minFrom f (r.take (k + 1 - 1))) := Lib.hid (by rw [HSN.out, if_pos hlt])
        obtain ⟨g', off', eA, hg', z0, z1, z2, z3, z4, z5⟩ := hX3.at_ k x Hs.out
        injection eA with eA
        injection eA with eg eo
        subst eg eo
        have q0 := hP1.cell 0
        have q1 := hP1.cell 1
        have q2 := hP1.cell 2
        have q3 := hP1.cell 3
        have q4 := hP1.cell 4
        have q5 := hP1.cell 5
        have f0 := hP1.frozen 0
        have f1 := hP1.frozen 1
        have f2 := hP1.frozen 2
        have f3 := hP1.frozen 3
        have f4 := hP1.frozen 4
        have f5 := hP1.frozen 5
        simp only [cellsF] at q0 q1 q2 q3 q4 q5
        have st := ((((((hP1.set_ 0 (.int .i64 x.lv)).set_ 1 (.int .i64 x.nu)).set_ 2 (.int .i64 x.co)).set_ 3 (.int .i64 x.sz)).set_ 4 (.string x.fi)).set_ 5 (.string x.la))
        have HST := Lib.hid st
        have s0 := hP0.far (p := ⟨w.heap.size + 1, 0, none⟩) (by simp) (.int .i64 x.lv)
        have s1 := s0.far (p := ⟨w.heap.size + 1, 1, none⟩) (by simp) (.int .i64 x.nu)
        have s2 := s1.far (p := ⟨w.heap.size + 1, 2, none⟩) (by simp) (.int .i64 x.co)
        have s3 := s2.far (p := ⟨w.heap.size + 1, 3, none⟩) (by simp) (.int .i64 x.sz)
        have s4 := s3.far (p := ⟨w.heap.size + 1, 4, none⟩) (by simp) (.string x.fi)
        have HS0 := Lib.hid (s4.far (p := ⟨w.heap.size + 1, 5, none⟩) (by simp) (.string x.la))
        have hb1 := below_setCell hB3 (p := ⟨w.heap.size + 1, 0, none⟩) (Nat.le_succ _) (.int .i64 x.lv)
        have hb2 := below_setCell hb1 (p := ⟨w.heap.size + 1, 1, none⟩) (Nat.le_succ _) (.int .i64 x.nu)
        have hb3 := below_setCell hb2 (p := ⟨w.heap.size + 1, 2, none⟩) (Nat.le_succ _) (.int .i64 x.co)
        have hb4 := below_setCell hb3 (p := ⟨w.heap.size + 1, 3, none⟩) (Nat.le_succ _) (.int .i64 x.sz)
        have hb5 := below_setCell hb4 (p := ⟨w.heap.size + 1, 4, none⟩) (Nat.le_succ _) (.string x.fi)
        have HB9 := Lib.hid (below_setCell hb5 (p := ⟨w.heap.size + 1, 5, none⟩) (Nat.le_succ _) (.string x.la))
        clear hP0 hP1 hB3 hX3 st s0 s1 s2 s3 s4 hb1 hb2 hb3 hb4 hb5 hlt hg'
        go_wp2_with fail
        go_roundw
        case rel => exact ⟨k + 1, x, by omega, by omega, by go_num, HM2, HS0, HST, HB9⟩
        case measure => exact meas_ltP hl
      · have tc : decide (cc < 0) = false := decide_eq_false (fun h => hlt (HCC.out.1 h))
        have HM2 : Hid (m = minFrom f (r.take (k + 1 - 1))) := Lib.hid (by rw [HSN.out, if_neg hlt])
        have HP0' := Lib.hid hP0
        have HP1' := Lib.hid hP1
        have HB' := Lib.hid hB3
        clear hP0 hP1 hB3 hX3 hlt
        go_wp2_with fail
        go_roundw
        case rel => exact ⟨k + 1, m, by omega, by omega, by go_num, HM2, HP0', HP1', HB'⟩
        case measure => exact meas_ltP hl
    · obtain rfl : k = n := by omega
      have hX : Hid (m = minFrom f r) := Lib.hid (by
        have h := HM.out
        rwa [List.take_of_length_le (by have := HLn.out; simp at this; omega)] at h)
      have q0 := HP1.out.cell 0
      have q1 := HP1.out.cell 1
      have q2 := HP1.out.cell 2
      have q3 := HP1.out.cell 3
      have q4 := HP1.out.cell 4
      have q5 := HP1.out.cell 5
      simp only [cellsF] at q0 q1 q2 q3 q4 q5
      have x0 := HP0.out.cell 0
      have x1 := HP0.out.cell 1
      have x2 := HP0.out.cell 2
      have x3 := HP0.out.cell 3
      have x4 := HP0.out.cell 4
      have x5 := HP0.out.cell 5
      have f0 := HP0.out.frozen 0
      have f1 := HP0.out.frozen 1
      have f2 := HP0.out.frozen 2
      have f3 := HP0.out.frozen 3
      have f4 := HP0.out.frozen 4
      have f5 := HP0.out.frozen 5
      have st := ((((((HP0.out.set_ 0 (.int .i64 m.lv)).set_ 1 (.int .i64 m.nu)).set_ 2 (.int .i64 m.co)).set_ 3 (.int .i64 m.sz)).set_ 4 (.string m.fi)).set_ 5 (.string m.la))
      have HST := Lib.hid st
      have hb1 := below_setCell HB.out (p := ⟨w.heap.size, 0, none⟩) (Nat.le_refl _) (.int .i64 m.lv)
      have hb2 := below_setCell hb1 (p := ⟨w.heap.size, 1, none⟩) (Nat.le_refl _) (.int .i64 m.nu)
      have hb3 := below_setCell hb2 (p := ⟨w.heap.size, 2, none⟩) (Nat.le_refl _) (.int .i64 m.co)
      have hb4 := below_setCell hb3 (p := ⟨w.heap.size, 3, none⟩) (Nat.le_refl _) (.int .i64 m.sz)
      have hb5 := below_setCell hb4 (p := ⟨w.heap.size, 4, none⟩) (Nat.le_refl _) (.string m.fi)
      have HB9 := Lib.hid (below_setCell hb5 (p := ⟨w.heap.size, 5, none⟩) (Nat.le_refl _) (.string m.la))
      have t3 : ¬ (k : Int) < (k : Int) := by omega
      clear st hb1 hb2 hb3 hb4 hb5
      go_wp2_with fail
      refine min_end (f := m) HST.out rfl ⟨by rw [hX.out]; rfl, g_below HB9.out⟩
end Go.Proofs.Ytkhmbkofkdnlkaa

namespace Go.Proofs.Ytkhmbkofkdnlkaa
open Go.RowKit

theorem own_newF (w : World) (f : FileM) : Own elFl (w.alloc (.cells (cellsF f) 26)) w.heap.size 26 (.slice (some ⟨w.heap.size, 0, none⟩) 1 1) [f] :=
  ⟨rfl, Or.inr ⟨w.heap.size, 1, cellsF f, rfl, Nat.le_refl _, heap_alloc_new w _, Nat.le_refl _, by unfold maxLen; decide, rfl, rfl⟩⟩
set_option maxRecDepth 100000 in
set_option maxHeartbeats 2000000 in
theorem pdue_any (A : Option Addr) (n c : Nat) (L : List FileM) (lv : Int) (w : World) (hI : FilesAt w A n L) (hn : n ≤ 1000000) (hne : lv ≠ 0 → ofP L lv ≠ []) :
    Calls Try.prog 15 #[.slice A n c, .int .i64 lv] w fun e w' => ∃ v, e = .returned v ∧ Own elFl w' w.heap.size 26 v (dueP L lv) ∧ w.grownBy w' none := by
  have CO := Lib.hid (pof_any A n c L lv w hI hn)
  have hlen : (ofP L lv).length ≤ 1000000 := by
    unfold ofP
    refine Nat.le_trans (List.length_filter_le _ _) ?_
    rw [← hI.len]; exact hn
  unfold dueP
  generalize ofP L lv = M at *
  by_cases h0 : lv = 0
  · subst h0
    rw [if_pos rfl]
    clear hne hlen hI
    go_enter Try.func15, Try.ntmps15
    go_wp2_with fail
    refine CO.out.mono ?_
    rintro e w1 ⟨v, rfl, ho, hg⟩
    obtain ⟨a, c1, rfl⟩ := ho.slice
    have HO := Lib.hid ho
    have HG := Lib.hid hg
    clear ho hg
    go_wp2_with fail
    go_ret
    exact ⟨_, rfl, HO.out, HG.out⟩
  · rw [if_neg h0]
    have e0 : (lv == 0) = false := beq_eq_false_iff_ne.2 h0
    obtain ⟨f, r, rfl⟩ : ∃ f r, M = f :: r := by
      cases M with
      | nil => exact absurd rfl (hne h0)
      | cons f r => exact ⟨f, r, rfl⟩
    clear hne hI h0
    go_enter Try.func15, Try.ntmps15
    go_wp2_with fail
    refine CO.out.mono ?_
    rintro e w1 ⟨v, rfl, ho, hg⟩
    obtain ⟨a, c1, rfl⟩ := ho.slice
    have CM := Lib.hid (pmin_any a _ c1 f r w1 (own_files ho).1 hlen)
    have HG := Lib.hid hg
    clear ho hg CO hlen
    generalize (f :: r).length = m at *
    go_wp2_with fail
    refine CM.out.mono ?_
    rintro e w2 ⟨rfl, hg2⟩
    have HG2 := Lib.hid (gnone HG.out hg2)
    have HO := Lib.hid (own_newF w2 (minFrom f r))
    have HG3 : Hid (w.grownBy (w2.alloc (.cells (cellsF (minFrom f r)) 26)) none) := Lib.hid (gnone HG2.out (World.grownBy_alloc _ _ none))
    clear hg2 CM
    generalize hm : minFrom f r = m0 at *
    unfold cellsF at *
    go_wp2_with fail
    go_ret
    exact ⟨_, rfl, by rw [show minP (f :: r) = [m0] from by rw [← hm]; rfl]; exact HO.out.low HG2.out.size, HG3.out⟩
set_option maxRecDepth 100000 in
set_option maxHeartbeats 4000000 in
theorem preach_any (A : Option Addr) (n c : Nat) (f : FileM) (r : List FileM) (w : World) (hI : FilesAt w A n (f :: r)) (hn : n ≤ 1000000) :
    Calls Try.prog 16 #[.slice A n c] w fun e w' => e = .returned (.tuple #[.string (firstP f.fi (f :: r)), .string (lastP' f.la (f :: r))]) ∧ w.grownBy w' none := by
  have HI := Lib.hid hI
  have hlen := hI.len
  have HLn := Lib.hid hlen
  have h1 : 1 ≤ n := by rw [hlen]; simp
  obtain ⟨g, off, rfl, hg, z0, z1, z2, z3, z4, z5⟩ := hI.at_ 0 f rfl
  rw [Nat.zero_mul, Nat.add_zero] at z0 z1 z2 z3 z4 z5
  have t2 : (0 : Int) < (n : Int) := by omega
  obtain ⟨L, hL⟩ : ∃ L, L = f :: r := ⟨_, rfl⟩
  rw [← hL] at HI HLn ⊢
  clear hI hlen hL z0 z1 z2 z3
  go_enter Try.func16, Try.ntmps16
  go_wp2_with fail
  go_quiet (fail)
  go_wp2_with fail
  go_loopw [2, 3, 5, 16] (fun a b _ i wr => ∃ k : Nat, k ≤ n ∧ i = .int .i64 (k : Int) ∧ a = .string (firstP f.fi (L.take k)) ∧ b = .string (lastP' f.la (L.take k)) ∧ Hid (w.grownBy wr none)) (fun _ _ _ i _ => n - (intOf i).toNat)
  case atStart => exact ⟨0, by omega, rfl, rfl, rfl, Lib.hid (only_drewN (grefl _ _) _)⟩
  case round =>
    obtain ⟨k, hk, rfl, rfl, rfl, HG⟩ := hrel
    by_cases hl : k < n
    · have g3 : (k : Int) < (n : Int) := by omega
      have g4 : (0 : Int) ≤ (k : Int) := by omega
      have w1 : wrap64 ((k : Int) + 1) = (k : Int) + 1 := wrap_sucP hl hn
      have hkL : k < L.length := by rw [← HLn.out]; exact hl
      have hs := List.getElem?_eq_getElem hkL
      generalize L[k] = x at hs
      obtain ⟨g', off', eA, hg', z0, z1, z2, z3, z4, z5⟩ := (HI.out.below (below_g HG.out)).at_ k x hs
      injection eA with eA
      injection eA with eg eo
      subst eg eo
      have hf := firstP_snoc (L.take k) f.fi x
      have hz := lastP_snoc (L.take k) f.la x
      rw [← ftake_snoc hs] at hf hz
      obtain ⟨F2, hF2⟩ : ∃ F2, firstP f.fi (L.take (k + 1)) = F2 := ⟨_, rfl⟩
      obtain ⟨Z2, hZ2⟩ : ∃ Z2, lastP' f.la (L.take (k + 1)) = Z2 := ⟨_, rfl⟩
      rw [hF2] at hf
      rw [hZ2] at hz
      have HF := Lib.hid hf
      have HZ := Lib.hid hz
      have HF2 := Lib.hid hF2
      have HZ2 := Lib.hid hZ2
      clear hf hz hF2 hZ2
      generalize firstP f.fi (L.take k) = F at *
      generalize lastP' f.la (L.take k) = Z at *
      have C1 := fun W => Lib.hid (compare_any x.fi F W)
      have C2 := fun W => Lib.hid (compare_any x.la Z W)
      have hc1 : Lib.compareBytes x.fi.data.toList F.data.toList = cmpT x.fi F := rfl
      have hc2 : Lib.compareBytes x.la.data.toList Z.data.toList = cmpT x.la Z := rfl
      rw [hc1] at C1
      rw [hc2] at C2
      generalize cmpT x.fi F = c1 at *
      generalize cmpT x.la Z = c2 at *
      have HG2 := Lib.hid (gnone HG.out (World.grownBy_alloc wr (.cells #[.int .i64 x.lv, .int .i64 x.nu, .int .i64 x.co, .int .i64 x.sz, .string x.fi, .string x.la] 26) none))
      clear hc1 hc2 hs hkL hg' HG
      by_cases h1 : c1 < 0
      · have d1 : decide (c1 < 0) = true := decide_eq_true h1
        by_cases h2 : 0 < c2
        · have d2 : decide (0 < c2) = true := decide_eq_true h2
          have e1 : F2 = x.fi := by rw [HF.out, if_pos h1]
          have e2 : Z2 = x.la := by rw [HZ.out, if_pos h2]
          have E1 := Lib.hid e1
          have E2 := Lib.hid e2
          clear h1 h2 e1 e2 HF HZ
          go_wp2_with fail
          refine (C1 _).out.mono ?_
          rintro e w' ⟨rfl, rfl⟩
          go_wp2_with fail
          refine (C2 _).out.mono ?_
          rintro e w' ⟨rfl, rfl⟩
          go_wp2_with fail
          go_roundw
          case rel => exact ⟨k + 1, by omega, by go_num, by rw [HF2.out, E1.out], by rw [HZ2.out, E2.out], HG2⟩
          case measure => exact meas_ltP hl
        · have d2 : decide (0 < c2) = false := decide_eq_false h2
          have e1 : F2 = x.fi := by rw [HF.out, if_pos h1]
          have e2 : Z2 = Z := by rw [HZ.out, if_neg h2]
          have E1 := Lib.hid e1
          have E2 := Lib.hid e2
          clear h1 h2 e1 e2 HF HZ
          go_wp2_with fail
          refine (C1 _).out.mono ?_
          rintro e w' ⟨rfl, rfl⟩
          go_wp2_with fail
          refine (C2 _).out.mono ?_
          rintro e w' ⟨rfl, rfl⟩
          go_wp2_with fail
          go_roundw
          case rel => exact ⟨k + 1, by omega, by go_num, by rw [HF2.out, E1.out], by rw [HZ2.out, E2.out], HG2⟩
          case measure => exact meas_ltP hl
      · have d1 : decide (c1 < 0) = false := decide_eq_false h1
        by_cases h2 : 0 < c2
        · have d2 : decide (0 < c2) = true := decide_eq_true h2
          have e1 : F2 = F := by rw [HF.out, if_neg h1]
          have e2 : Z2 = x.la := by rw [HZ.out, if_pos h2]
          have E1 := Lib.hid e1
          have E2 := Lib.hid e2
          clear h1 h2 e1 e2 HF HZ
          go_wp2_with fail
          refine (C1 _).out.mono ?_
          rintro e w' ⟨rfl, rfl⟩
          go_wp2_with fail
          refine (C2 _).out.mono ?_
          rintro e w' ⟨rfl, rfl⟩
          go_wp2_with fail
          go_roundw
          case rel => exact ⟨k + 1, by omega, by go_num, by rw [HF2.out, E1.out], by rw [HZ2.out, E2.out], HG2⟩
          case measure => exact meas_ltP hl
        · have d2 : decide (0 < c2) = false := decide_eq_false h2
          have e1 : F2 = F := by rw [HF.out, if_neg h1]
          have e2 : Z2 = Z := by rw [HZ.out, if_neg h2]
          have E1 := Lib.hid e1
          have E2 := Lib.hid e2
          clear h1 h2 e1 e2 HF HZ
          go_wp2_with fail
          refine (C1 _).out.mono ?_
          rintro e w' ⟨rfl, rfl⟩
          go_wp2_with fail
          refine (C2 _).out.mono ?_
          rintro e w' ⟨rfl, rfl⟩
          go_wp2_with fail
          go_roundw
          case rel => exact ⟨k + 1, by omega, by go_num, by rw [HF2.out, E1.out], by rw [HZ2.out, E2.out], HG2⟩
          case measure => exact meas_ltP hl
    · obtain rfl : k = n := by omega
      have g3 : ¬ (k : Int) < (k : Int) := by omega
      have hX : Hid (L.take k = L) := Lib.hid (List.take_of_length_le (by rw [← HLn.out]; exact Nat.le_refl _))
      rw [hX.out]
      go_wp2_with fail
      go_ret2
      exact ⟨rfl, HG.out⟩
end Go.Proofs.Ytkhmbkofkdnlkaa

namespace Go.Proofs.Ytkhmbkofkdnlkaa
open Go.RowKit

/-- What is picked of a level: the files that are due, then those of the next level that have keys of their range. -/
def picksP (L : List FileM) (lv : Int) : List Int :=
  match dueP L lv with
  | [] => []
  | f :: r => (f :: r).map (·.nu) ++ overP L (lv + 1) (firstP f.fi (f :: r)) (lastP' f.la (f :: r))
theorem minP_ne {M : List FileM} (h : M ≠ []) : minP M ≠ [] := by
  cases M with
  | nil => exact absurd rfl h
  | cons f r => exact fun e => by cases e
theorem bytesP_nil {L : List FileM} {lv : Int} (h : ofP L lv = []) : bytesP L lv = 0 := by unfold bytesP; rw [h]; rfl
/-- The fullest level has a file. -/
theorem full_has {L : List FileM} {base ratio : Nat} {S : List Nat} (hS : SameL S (scoresP L base ratio)) {b : Nat} (h : fullP S 6 = some b) : b < 6 ∧ ofP L (b : Int) ≠ [] := by
  obtain ⟨h1, h2⟩ := fullP_lt h
  refine ⟨h1, fun e => ?_⟩
  have h3 := hS.getD b
  rw [geF_same oneW h3, List.getD_eq_getElem?_getD, scoresP_at L base ratio b h1] at h2
  have h2 : geF (scoreP ((ofP L 0).length : Nat) (fun k => bytesP L (k : Nat)) base ratio b) oneW = true := h2
  cases b with
  | zero =>
    have e0 : (ofP L 0).length = 0 := by rw [show (0 : Int) = ((0 : Nat) : Int) from rfl, e]; rfl
    rw [scoreP, e0, show ((0 : Nat) : Int) = 0 from rfl, zero_small] at h2
    cases h2
  | succ k =>
    rw [scoreP, bytesP_nil e, zero_small] at h2
    cases h2
theorem due_ne {L : List FileM} {lv : Int} (h : ofP L lv ≠ []) : dueP L lv ≠ [] := by
  unfold dueP
  split
  · exact h
  · exact minP_ne h
theorem due_len (L : List FileM) (lv : Int) : (dueP L lv).length ≤ L.length := by
  unfold dueP
  have h : (ofP L lv).length ≤ L.length := List.length_filter_le _ _
  split
  · exact h
  · cases hM : ofP L lv with
    | nil => exact Nat.zero_le _
    | cons f r => rw [hM] at h; show 1 ≤ _; simp at h; omega
theorem over_len (L : List FileM) (lv : Int) (fi la : ByteArray) : (overP L lv fi la).length ≤ L.length := by
  unfold overP rangeP
  rw [List.length_map]
  exact Nat.le_trans (List.length_filter_le _ _) (List.length_filter_le _ _)
def PickP (L : List FileM) (base ratio : Nat) (w : World) (e : Ending) (w' : World) : Prop :=
  w.grownBy w' none ∧ match fullP (scoresP L base ratio) 6 with
  | none => e = .returned (.tuple #[.int .i64 0, .slice none 0 0, .bool false])
  | some b => ∃ v, e = .returned (.tuple #[.int .i64 (b : Int), v, .bool true]) ∧ Own elInts w' w.heap.size 3 v (picksP L (b : Int))
set_option maxRecDepth 100000 in
set_option maxHeartbeats 4000000 in
theorem ppick_any (A : Option Addr) (n c : Nat) (L : List FileM) (base ratio : Nat) (w : World) (hI : FilesAt w A n L) (hn : n ≤ 1000000) (hb64 : base < 18446744073709551616) :
    Calls Try.prog 7 #[.slice A n c, .float .f64 base, .float .f64 ratio] w (PickP L base ratio w) := by
  have CS := Lib.hid (pscores_any A n c L base ratio w hI hn hb64)
  have HI := Lib.hid hI
  have hLn : L.length ≤ 1000000 := by rw [← hI.len]; exact hn
  cases hf : fullP (scoresP L base ratio) 6 with
  | none =>
    have HR : Hid (∀ e w', w.grownBy w' none → e = .returned (.tuple #[.int .i64 0, .slice none 0 0, .bool false]) → PickP L base ratio w e w') := Lib.hid fun e w' h1 h2 => by
      refine ⟨h1, ?_⟩
      rw [hf]
      exact h2
    have HF : Hid (∀ S, SameL S (scoresP L base ratio) → fullP S 6 = none) := Lib.hid fun S h => by rw [fullP_same h, hf]
    clear hf hI hLn HI
    go_enter Try.func7, Try.ntmps7
    go_wp2_with fail
    refine CS.out.mono ?_
    rintro e w1 ⟨g, S, rfl, ho, hs, _, hg⟩
    have CF := Lib.hid (pfullest_any _ g 6 6 S w1 ho (by omega))
    rw [HF.out S hs] at CF
    have HG := Lib.hid hg
    clear ho hs hg CS HF
    go_wp2_with fail
    refine CF.out.mono ?_
    rintro e w2 ⟨rfl, rfl⟩
    go_wp2_with fail
    go_ret3
    exact HR.out _ _ HG.out rfl
  | some b =>
    have HR : Hid (∀ e w', w.grownBy w' none → (∃ v, e = .returned (.tuple #[.int .i64 (b : Int), v, .bool true]) ∧ Own elInts w' w.heap.size 3 v (picksP L (b : Int))) → PickP L base ratio w e w') := Lib.hid fun e w' h1 h2 => by
      refine ⟨h1, ?_⟩
      rw [hf]
      exact h2
    have HF : Hid (∀ S, SameL S (scoresP L base ratio) → fullP S 6 = some b) := Lib.hid fun S h => by rw [fullP_same h, hf]
    obtain ⟨hb6, hne⟩ := full_has (SameL.refl _) hf
    obtain ⟨f, r, hfr⟩ : ∃ f r, dueP L (b : Int) = f :: r := by
      have := due_ne hne
      cases hd : dueP L (b : Int) with
      | nil => exact absurd hd this
      | cons f r => exact ⟨f, r, rfl⟩
    have hdl : (f :: r).length ≤ 1000000 := by rw [← hfr]; exact Nat.le_trans (due_len L _) hLn
    have hpk : picksP L (b : Int) = (f :: r).map (·.nu) ++ overP L ((b : Int) + 1) (firstP f.fi (f :: r)) (lastP' f.la (f :: r)) := by unfold picksP; rw [hfr]
    have hol := over_len L ((b : Int) + 1) (firstP f.fi (f :: r)) (lastP' f.la (f :: r))
    have CD : ∀ W, w.grownBy W none → Hid _ := fun W h => Lib.hid (pdue_any A n c L (b : Int) W (hI.below (below_g h)) hn (fun _ => hne))
    have CV : ∀ W, w.grownBy W none → Hid _ := fun W h => Lib.hid (poverlap_any A n c L ((b : Int) + 1) (firstP f.fi (f :: r)) (lastP' f.la (f :: r)) W (hI.below (below_g h)) hn)
    rw [hpk] at HR
    rw [hfr] at CD
    have w9 : wrap64 ((b : Int) + 1) = (b : Int) + 1 := by unfold wrap64; omega
    have HOL := Lib.hid hol
    have HLN := Lib.hid hLn
    clear hf hI HI hpk hne hfr hol hLn
    go_enter Try.func7, Try.ntmps7
    go_wp2_with fail
    refine CS.out.mono ?_
    rintro e w1 ⟨g, S, rfl, ho, hs, _, hg⟩
    have CF := Lib.hid (pfullest_any _ g 6 6 S w1 ho (by omega))
    rw [HF.out S hs] at CF
    have HG := Lib.hid hg
    clear ho hs hg CS HF
    go_wp2_with fail
    refine CF.out.mono ?_
    rintro e w2 ⟨rfl, rfl⟩
    clear CF
    go_wp2_with fail
    refine (CD _ HG.out).out.mono ?_
    rintro e w3 ⟨v3, rfl, ho3, hg3⟩
    obtain ⟨a3, c3, rfl⟩ := ho3.slice
    have HG3 := Lib.hid (gnone HG.out hg3)
    have HO3 := Lib.hid ho3
    have CRE := Lib.hid (preach_any a3 _ c3 f r w3 (own_files ho3).1 hdl)
    clear ho3 hg3 CD HG
    generalize (f :: r).length = m at *
    go_wp2_with fail
    refine CRE.out.mono ?_
    rintro e w4 ⟨rfl, hg4⟩
    have HG4 := Lib.hid (gnone HG3.out hg4)
    have HO4 := Lib.hid (HO3.out.below (below_g hg4))
    have CN := Lib.hid (pnumbers_any a3 m c3 (f :: r) w4 (own_files HO4.out).1 hdl)
    clear hg4 CRE HO3 HG3
    go_wp2_with fail
    refine CN.out.mono ?_
    rintro e w5 ⟨v5, rfl, ho5, hg5⟩
    obtain ⟨a5, c5, rfl⟩ := ho5.slice
    have HG5 := Lib.hid (gnone HG4.out hg5)
    have HO5 := Lib.hid ho5
    have CVV := CV w5 HG5.out
    have hl5 : ((f :: r).map (·.nu)).length ≤ 1000000 := by rw [List.length_map, (own_reads HO4.out).1.symm]; exact hdl
    clear ho5 hg5 CN HG4 HO4 CV
    generalize (f :: r).map (·.nu) = N1 at *
    go_wp2_with fail
    refine CVV.out.mono ?_
    rintro e w6 ⟨v6, rfl, ho6, hg6⟩
    obtain ⟨a6, c6, rfl⟩ := ho6.slice
    have HG6 := Lib.hid (gnone HG5.out hg6)
    have ho5' := HO5.out.below (below_g hg6)
    have hl6 := Nat.le_trans HOL.out HLN.out
    have HG7 := Lib.hid (gnone HG6.out (World.grownBy_alloc w6 (.cells #[.slice a5 N1.length c5, .slice a6 (overP L ((b : Int) + 1) (firstP f.fi (f :: r)) (lastP' f.la (f :: r))).length c6] 27) none))
    have hnb := Blk.new w6 27 #[.slice a5 N1.length c5, .slice a6 (overP L ((b : Int) + 1) (firstP f.fi (f :: r)) (lastP' f.la (f :: r))).length c6]
    have CC := Lib.hid (pconcat_any w6.heap.size _ _ _ c5 _ c6 a5 a6 N1 _ _ (hnb.cell 0) (hnb.cell 1) (ho5'.alc _) (ho6.alc _) hl5 hl6)
    clear ho5' ho6 hg6 hnb HOL HLN CVV HO5 HG5
    generalize overP L ((b : Int) + 1) (firstP f.fi (f :: r)) (lastP' f.la (f :: r)) = N2 at *
    generalize N1.length = m1 at *
    generalize N2.length = m2 at *
    go_wp2_with fail
    refine CC.out.mono ?_
    rintro e w8 ⟨v8, rfl, ho8, hg8⟩
    obtain ⟨a8, c8, rfl⟩ := ho8.slice
    have HO8 := Lib.hid (ho8.low HG7.out.size)
    have HG8 := Lib.hid (gnone HG7.out hg8)
    clear ho8 hg8 CC
    generalize (N1 ++ N2).length = m8 at *
    go_wp2_with fail
    go_ret3
    exact HR.out _ _ HG8.out ⟨_, rfl, HO8.out⟩
end Go.Proofs.Ytkhmbkofkdnlkaa

namespace Go.Proofs.Ytkhmbkofkdnlkaa
open Go.RowKit

def aFile : FileM := ⟨1, 3, 0, 10, ⟨#[97]⟩, ⟨#[98]⟩⟩
theorem alive_scores : scoreP ((ofP [aFile] 0).length : Nat) (fun k => bytesP [aFile] (k : Nat)) 0 4621819117588971520 1 = 9218868437227405312 ∧ isN (scoreP ((ofP [aFile] 0).length : Nat) (fun k => bytesP [aFile] (k : Nat)) 0 4621819117588971520 2) = true := by decide +kernel
theorem alive_full : fullP (scoresP [aFile] 0 4621819117588971520) 6 = some 1 := by decide +kernel
theorem alive_pick : picksP [aFile] 1 = [3] := by decide +kernel
theorem alive_none : fullP (scoresP [] 0 0) 6 = none := by decide +kernel
theorem alive_bytes : bytesP [aFile] 1 = 10 := by decide +kernel
set_option maxRecDepth 100000 in
theorem pisinf_any (w : World) : Calls Try.prog 12 #[.float .f64 9218868437227405312, .int .i64 1] w fun e w' => e = .returned (.bool true) ∧ w = w' := by
  have h : (FloatKind.f64.format.order 9218868437227405312 9218868437227405311 == some .gt) = true := by decide +kernel
  go_enter Try.func12, Try.ntmps12
  go_wp2_with fail
  go_ret
  exact ⟨rfl, rfl⟩
set_option maxRecDepth 100000 in
set_option maxHeartbeats 4000000 in
theorem alive15_any (w : World) : Calls Try.prog 6 #[] w fun e w' => e = .returned (.bool true) ∧ w.grownBy w' none := by
  have mixed : Try.prog.follows .mixedOrders = true := by kernel_rfl
  obtain ⟨w1, hw1⟩ : ∃ w1, w1 = w.alloc (.cells (cellsF aFile) 26) := ⟨_, rfl⟩
  have ho := own_newF w aFile
  rw [← hw1] at ho
  have hg : w.grownBy w1 none := by rw [hw1]; exact World.grownBy_alloc _ _ none
  have FA := Lib.hid (own_files ho).1
  have CS := Lib.hid (pscores_any _ 1 1 [aFile] 0 4621819117588971520 w1 FA.out (by omega) (by omega))
  have CP := fun W (h : w1.grownBy W none) => Lib.hid (ppick_any _ 1 1 [aFile] 0 4621819117588971520 W (FA.out.below (below_g h)) (by omega) (by omega))
  have CN := fun W => Lib.hid (ppick_any none 0 0 [] 0 0 W ⟨rfl, fun i m h => by simp at h⟩ (by omega) (by omega))
  have CB := fun W (h : w1.grownBy W none) => Lib.hid (pbytes_any _ 1 1 [aFile] 1 W (FA.out.below (below_g h)) (by omega))
  rw [alive_bytes] at CB
  have CI := fun W => Lib.hid ((pisinf_any W).mono fun e w' h => (⟨h.1, h.2.symm⟩ : e = .returned (.bool true) ∧ w' = W))
  have HG := Lib.hid hg
  unfold cellsF aFile at hw1
  have HW := Lib.hid hw1
  clear ho hg hw1
  go_enter Try.func6, Try.ntmps6
  go_wp2_with fail
  rw [← HW.out]
  refine CS.out.mono ?_
  rintro e w2 ⟨g, S, rfl, ho, hs, _, hg2⟩
  have HO := Lib.hid ho
  have HG2 := Lib.hid hg2
  have hs1 : S[1]? = some 9218868437227405312 := by
    have h1 := hs.getD 1
    rw [List.getD_eq_getElem?_getD, List.getD_eq_getElem?_getD, scoresP_at _ _ _ 1 (by decide)] at h1
    have hl : 1 < S.length := by rw [hs.1, scoresP_len]; decide
    rw [List.getElem?_eq_getElem hl] at h1 ⊢
    rcases h1 with h1 | ⟨_, h1⟩
    · exact congrArg some (h1.trans alive_scores.1)
    · have h1 : isN (scoreP ((ofP [aFile] 0).length : Nat) (fun k => bytesP [aFile] (k : Nat)) 0 4621819117588971520 1) = true := h1
      rw [alive_scores.1] at h1
      exact absurd h1 (by decide)
  obtain ⟨z, hs2, hz⟩ : ∃ z, S[2]? = some z ∧ isN z = true := by
    have h1 := hs.getD 2
    rw [List.getD_eq_getElem?_getD, List.getD_eq_getElem?_getD, scoresP_at _ _ _ 2 (by decide)] at h1
    have hl : 2 < S.length := by rw [hs.1, scoresP_len]; decide
    rw [List.getElem?_eq_getElem hl] at h1 ⊢
    refine ⟨_, rfl, ?_⟩
    rcases h1 with h1 | ⟨h1, _⟩
    · have h1 : S[2] = scoreP ((ofP [aFile] 0).length : Nat) (fun k => bytesP [aFile] (k : Nat)) 0 4621819117588971520 2 := h1
      rw [h1]; exact alive_scores.2
    · exact h1
  have HS1 := Lib.hid hs1
  have HS2 := Lib.hid hs2
  have hnz : (FloatKind.f64.format.order z z != some .eq) = true := by rw [neq_self]; exact hz
  clear ho hs hg2 hs1 hs2 hz CS
  go_wp2_with fail
  refine (CP _ HG2.out).out.mono ?_
  rintro e w3 ⟨hg3, hp⟩
  rw [alive_full] at hp
  obtain ⟨v3, rfl, ho3⟩ := hp
  rw [show ((1 : Nat) : Int) = 1 from rfl, alive_pick] at ho3
  obtain ⟨g3, c3, cur3, e3, _, _⟩ := ho3.some_ (by simp)
  subst e3
  have HO3 := Lib.hid ho3
  have HG3 := Lib.hid (gnone HG2.out hg3)
  have HO2 := Lib.hid (HO.out.below (below_g hg3))
  clear hg3 ho3 CP HO
  go_wp2_with fail
  refine (CN _).out.mono ?_
  rintro e w4 ⟨hg4, hp⟩
  rw [alive_none] at hp
  subst hp
  have HG4 := Lib.hid (gnone HG3.out hg4)
  have b1 := own_cellR (HO2.out.below (below_g hg4)) HS1.out
  have a1 : w4.drew.cell? ⟨g, 1, none⟩ = some (.float .f64 9218868437227405312) := b1
  have b2 := own_cellR (HO2.out.below (below_g hg4)) HS2.out
  have a2 : w4.drew.cell? ⟨g, 2, none⟩ = some (.float .f64 z) := b2
  have a3 : w4.drew.cell? ⟨g3, 0, none⟩ = some (.int .i64 3) := by
    have h := Own.cells (j := 0) (i := 0) (HO3.out.below (below_g hg4)) rfl (by decide) rfl
    rw [Nat.zero_mul, Nat.zero_add] at h
    exact h
  have HG5 : Hid (w1.grownBy w4.drew none) := Lib.hid (gnone HG4.out ⟨rfl, rfl, rfl, Nat.le_refl _, fun _ _ _ => rfl⟩)
  clear hg4 CN HO2 HO3 HG3 HG4 HS1 HS2 b1 b2
  go_wp2_with fail
  go_still_tail 42, (by kernel_rfl)
  still_call ((CI _).out)
  repeat still_step
  refine wpStill_nil ?_
  go_wp2_with fail
  refine (CB _ HG5.out).out.mono ?_
  rintro e w6 ⟨rfl, hg6⟩
  have HG6 := Lib.hid (gnone HG.out (gnone HG5.out hg6))
  clear hg6
  go_wp2_with fail
  go_ret
  exact ⟨rfl, HG6.out⟩
end Go.Proofs.Ytkhmbkofkdnlkaa

namespace Go.Proofs.Ytkhmbkofkdnlkaa
open Go.RowKit

theorem blessP_is : ∀ x y : List UInt8, Op.bytesLess x y = decide (Lib.compareBytes x y < 0)
  | [], [] => by simp [Op.bytesLess, Lib.compareBytes]
  | _ :: _, [] => by simp [Op.bytesLess, Lib.compareBytes]
  | [], _ :: _ => by simp [Op.bytesLess, Lib.compareBytes]
  | a :: x, b :: y => by
    rw [Op.bytesLess, blessP_is x y, cmp9_cons]
    by_cases h : a.toNat < b.toNat
    · rw [if_pos h]
      have h2 : a < b := UInt8.lt_iff_toNat_lt.2 h
      simp [h2]
    · rw [if_neg h]
      have h2 : ¬ a < b := fun e => h (UInt8.lt_iff_toNat_lt.1 e)
      by_cases h3 : b.toNat < a.toNat
      · rw [if_pos h3]
        have h4 : ¬ a = b := fun e => by rw [e] at h3; omega
        simp [h2, h4]
      · rw [if_neg h3]
        have h4 : a = b := UInt8.toNat_inj.1 (by omega)
        subst h4
        simp
theorem blessP (a b : ByteArray) : Op.bytesLess a.toList b.toList = decide (cmpT a b < 0) := by
  rw [Lib.toList_data, Lib.toList_data, blessP_is]
  rfl
theorem eqlP (a b : ByteArray) : (a.toList == b.toList) = decide (cmpT a b = 0) := by
  rw [Bool.eq_iff_iff, beq_iff_eq, decide_eq_true_eq, cmpT_eq, Lib.toList_data, Lib.toList_data]
  constructor
  · intro h
    cases a; cases b
    congr 1
    exact Array.toList_inj.1 h
  · rintro rfl; rfl
/-- '>' of texts. -/
theorem gtrP (a b : ByteArray) : (!Op.bytesLess a.toList b.toList && !(a.toList == b.toList)) = decide (0 < cmpT a b) := by
  rw [blessP, eqlP, Bool.eq_iff_iff]
  simp only [Bool.and_eq_true, Bool.not_eq_true', decide_eq_false_iff_not, decide_eq_true_eq]
  omega
theorem meas_lt2P {n k : Nat} (e : wrap64 ((k : Int) + 1) = (k : Int) + 1) (h : k < n) : n - (intOf (Value.int IntKind.i64 (wrap64 ((k : Int) + 1)))).toNat < n - (intOf (Value.int IntKind.i64 (k : Int))).toNat := by
  rw [e]
  simp only [intOf]
  omega
end Go.Proofs.Ytkhmbkofkdnlkaa

namespace Go.Proofs.Ytkhmbkofkdnlkaa
open Go.RowKit Ieee

/-- A quotient with a digit more, 1 where anything is left over, is rounded as the quotient itself. -/
theorem hround_sticky (N D e : Nat) (hD : 0 < D) : hround (2 * (N / D) + (N % D != 0).toNat) (2 ^ (e + 2)) = hround N (D * 2 ^ (e + 1)) := by
  have hh := Nat.two_pow_pos e
  obtain ⟨h, eh⟩ : ∃ h, h = 2 ^ e := ⟨_, rfl⟩
  rw [← eh] at hh
  have e1 : 2 ^ (e + 1) = 2 * h := by rw [Nat.pow_succ, eh]; omega
  have e2 : 2 ^ (e + 2) = 2 * (2 * h) := by rw [Nat.pow_succ, e1]; omega
  rw [e1, e2]
  clear e1 e2 eh
  unfold hround
  have hr : N % D < D := Nat.mod_lt _ hD
  have d1 : N / (D * (2 * h)) = N / D / (2 * h) := (Nat.div_div_eq_div_mul _ _ _).symm
  have d2 : N % (D * (2 * h)) = N % D + D * (N / D % (2 * h)) := Nat.mod_mul
  rw [d1, d2]
  generalize N % D = r at *
  generalize N / D = F at *
  obtain ⟨s, hs⟩ : ∃ s, s = (r != 0).toNat := ⟨_, rfl⟩
  have hs1 : (r = 0 ∧ s = 0) ∨ (0 < r ∧ s = 1) := by
    rcases Nat.eq_zero_or_pos r with e | e
    · left; subst e; exact ⟨rfl, hs⟩
    · right; exact ⟨e, by rw [hs, show (r != 0) = true from bne_iff_ne.2 (by omega)]; rfl⟩
  rw [← hs]
  clear hs d1 d2
  have d3 : (2 * F + s) / (2 * (2 * h)) = F / (2 * h) := by
    rw [← Nat.div_div_eq_div_mul, show (2 * F + s) / 2 = F by omega]
  have d4 : (2 * F + s) % (2 * (2 * h)) = s + 2 * (F % (2 * h)) := by
    rw [Nat.mod_mul, show (2 * F + s) / 2 = F by omega, show (2 * F + s) % 2 = s by omega]
  rw [d3, d4]
  have hf : F % (2 * h) < 2 * h := Nat.mod_lt _ (by omega)
  generalize F % (2 * h) = f at *
  generalize F / (2 * h) = t at *
  have k1 : h ≤ f → D * h ≤ D * f := Nat.mul_le_mul_left D
  have k2 : f + 1 ≤ h → D * f + D ≤ D * h := fun a => by have := Nat.mul_le_mul_left D a; rwa [Nat.mul_add, Nat.mul_one] at this
  have k3 : h + 1 ≤ f → D * h + D ≤ D * f := fun a => by have := Nat.mul_le_mul_left D a; rwa [Nat.mul_add, Nat.mul_one] at this
  have k4 : D * (2 * h) = 2 * (D * h) := by rw [Nat.mul_left_comm]
  have k5 : f = h → D * f = D * h := fun a => by rw [a]
  rw [k4]
  clear k4 d3 d4
  generalize D * h = X at *
  generalize D * f = Y at *
  have i1 : 2 * (2 * h) < 2 * (s + 2 * f) ↔ 2 * X < 2 * (r + Y) := by
    rcases hs1 with ⟨a, b⟩ | ⟨a, b⟩ <;> rcases Nat.lt_trichotomy f h with c | c | c <;> (first | have := k2 c | have := k5 c | have := k3 c) <;> omega
  have i2 : 2 * (2 * h) = 2 * (s + 2 * f) ↔ 2 * X = 2 * (r + Y) := by
    rcases hs1 with ⟨a, b⟩ | ⟨a, b⟩ <;> rcases Nat.lt_trichotomy f h with c | c | c <;> (first | have := k2 c | have := k5 c | have := k3 c) <;> omega
  simp only [i1, i2]
theorem quo_kept {N D q : Nat} {p L P : Int} (hD : 0 < D) (hq : q = 2 * (N / D) + (N % D != 0).toNat) (h1 : p + 2 ≤ L) (hP : P ≤ p) : keptN q p L = hround (N * 2 ^ (p - P).toNat) (D * 2 ^ (L - P - 1).toNat) := by
  unfold keptN
  obtain ⟨e, he⟩ : ∃ e : Nat, (L - p).toNat = e + 2 := ⟨(L - p).toNat - 2, by omega⟩
  rw [show (p - L).toNat = 0 by omega, he, Nat.pow_zero, Nat.mul_one, hq, hround_sticky N D e hD]
  have h := hround_scale N (D * 2 ^ (e + 1)) (2 ^ (p - P).toNat) (Nat.two_pow_pos _)
  rw [Nat.mul_assoc, ← Nat.pow_add, show e + 1 + (p - P).toNat = (L - P - 1).toNat by omega] at h
  exact h.symm
theorem sticky_log {N D q : Nat} (hq : q = 2 * (N / D) + (N % D != 0).toNat) (h : N / D ≠ 0) : q.log2 = (N / D).log2 + 1 := by
  have h1 := Nat.log2_self_le h
  have h2 : N / D < 2 ^ ((N / D).log2 + 1) := Nat.lt_log2_self
  have h3 : (N % D != 0).toNat ≤ 1 := by cases (N % D != 0) <;> decide
  rw [Nat.log2_eq_iff (by omega), hq]
  generalize (N % D != 0).toNat = s at *
  generalize (N / D).log2 = l at *
  rw [Nat.pow_succ, Nat.pow_succ] at *
  omega
/-- A quotient's order is that of its dividend. -/
theorem quo_mono {N1 N2 D q1 q2 : Nat} {p1 p2 P : Int} (hD : 0 < D) (hq1 : q1 = 2 * (N1 / D) + (N1 % D != 0).toNat) (hq2 : q2 = 2 * (N2 / D) + (N2 % D != 0).toNat) (g1 : 9007199254740992 ≤ N1 / D) (g2 : 9007199254740992 ≤ N2 / D) (P1 : P ≤ p1) (P2 : P ≤ p2)
    (h : N1 * 2 ^ (p1 - P).toNat ≤ N2 * 2 ^ (p2 - P).toNat) : rungOf q1 p1 ≤ rungOf q2 p2 := by
  have l1 := sticky_log hq1 (by omega)
  have l2 := sticky_log hq2 (by omega)
  have big : ∀ x : Nat, 9007199254740992 ≤ x → 53 ≤ x.log2 := fun x hx => by
    rcases Nat.lt_or_ge x.log2 53 with h1 | h1
    · have h2 : x < 2 ^ (x.log2 + 1) := Nat.lt_log2_self
      have : 2 ^ (x.log2 + 1) ≤ 2 ^ 53 := Nat.pow_le_pow_right (by decide) (by omega)
      omega
    · exact h1
  have b1 := big _ g1
  have b2 := big _ g2
  have hll : p1 + ((N1 / D).log2 : Int) ≤ p2 + ((N2 / D).log2 : Int) := by
    have a1 : D * 2 ^ ((N1 / D).log2) ≤ N1 := by
      have := Nat.mul_le_mul_left D (Nat.log2_self_le (n := N1 / D) (by omega))
      exact Nat.le_trans this (Nat.mul_div_le N1 D)
    have a2 : N2 < D * 2 ^ ((N2 / D).log2 + 1) := by
      have h2 : N2 / D < 2 ^ ((N2 / D).log2 + 1) := Nat.lt_log2_self
      rw [Nat.mul_comm]
      exact (Nat.div_lt_iff_lt_mul hD).1 h2
    have a3 : D * 2 ^ ((N1 / D).log2) * 2 ^ (p1 - P).toNat ≤ N2 * 2 ^ (p2 - P).toNat := Nat.le_trans (Nat.mul_le_mul_right _ a1) h
    have a4 : N2 * 2 ^ (p2 - P).toNat < D * 2 ^ ((N2 / D).log2 + 1) * 2 ^ (p2 - P).toNat := Nat.mul_lt_mul_of_pos_right a2 (Nat.two_pow_pos _)
    have a5 := Nat.lt_of_le_of_lt a3 a4
    rw [Nat.mul_assoc, Nat.mul_assoc, ← Nat.pow_add, ← Nat.pow_add] at a5
    have a6 := (Nat.pow_lt_pow_iff_right (by decide)).1 (Nat.lt_of_mul_lt_mul_left a5)
    omega
  have hL1 : p1 + 2 ≤ lastP q1 p1 := by unfold lastP; rw [l1]; omega
  have hL2 : p2 + 2 ≤ lastP q2 p2 := by unfold lastP; rw [l2]; omega
  have hL : lastP q1 p1 ≤ lastP q2 p2 := by unfold lastP; rw [l1, l2]; omega
  have hb : -1074 ≤ lastP q1 p1 := by unfold lastP; omega
  unfold rungOf
  by_cases he : lastP q1 p1 = lastP q2 p2
  · rw [he]
    have : keptN q1 p1 (lastP q2 p2) ≤ keptN q2 p2 (lastP q2 p2) := by
      rw [quo_kept hD hq1 (he ▸ hL1) P1, quo_kept hD hq2 hL2 P2]
      exact hround_mono (Nat.mul_pos hD (Nat.two_pow_pos _)) h
    omega
  · have h1 := kept_le q1 p1 (lastP q1 p1) (by unfold lastP; omega)
    have h2 : lastP q2 p2 = p2 + (q2.log2 : Int) - 52 := by unfold lastP at *; omega
    have h3 := kept_ge q2 p2 (lastP q2 p2) (by omega) (by omega)
    omega

/-- A normal number's digits and their place. -/
def manW (x : Nat) : Nat := 4503599627370496 + x % 4503599627370496
def expW (x : Nat) : Int := -1074 + ((x / 4503599627370496 - 1 : Nat) : Int)
/-- A normal number that is above nothing. -/
def NormW (x : Nat) : Prop := 4503599627370496 ≤ x ∧ x < infR
theorem norm_read {x : Nat} (h : NormW x) : Ieee.double.read x = .number false (manW x) (expW x) := by
  have hc : infR = 9218868437227405312 := rfl
  obtain ⟨p1, p2⟩ := small_parts x (by have := h.2; omega)
  have := read_norm x (by rw [p2]; exact h.1) (by rw [p2]; exact h.2)
  rw [p1, p2] at this
  exact this
theorem man_le (x : Nat) : 4503599627370496 ≤ manW x ∧ manW x < 9007199254740992 := by unfold manW; omega
theorem man_log (x : Nat) : (manW x).log2 = 52 := log2_norm _ (man_le x).1 (man_le x).2
def stickyN (N D : Nat) : Nat := 2 * (N / D) + (N % D != 0).toNat
def divR (x y : Nat) : Nat := rungOf (stickyN (manW x * 18014398509481984) (manW y)) (expW x - expW y - 55)
theorem div_big (x y : Nat) : 9007199254740992 ≤ manW x * 18014398509481984 / manW y := by
  obtain ⟨g1, g2⟩ := man_le x
  obtain ⟨k1, k2⟩ := man_le y
  refine (Nat.le_div_iff_mul_le (by omega)).2 ?_
  have h1 : 9007199254740992 * manW y ≤ 9007199254740992 * 9007199254740992 := Nat.mul_le_mul_left _ (Nat.le_of_lt k2)
  have h2 : 4503599627370496 * 18014398509481984 ≤ manW x * 18014398509481984 := Nat.mul_le_mul_right _ g1
  have h3 : (9007199254740992 : Nat) * 9007199254740992 = 4503599627370496 * 18014398509481984 := by decide
  rw [h3] at h1
  exact Nat.le_trans h1 h2
theorem div_lt (x y : Nat) : manW x * 18014398509481984 / manW y < 36028797018963968 := by
  obtain ⟨g1, g2⟩ := man_le x
  obtain ⟨k1, k2⟩ := man_le y
  refine (Nat.div_lt_iff_lt_mul (by omega)).2 ?_
  have h1 : 36028797018963968 * 4503599627370496 ≤ 36028797018963968 * manW y := Nat.mul_le_mul_left _ k1
  have h2 : manW x * 18014398509481984 < 9007199254740992 * 18014398509481984 := Nat.mul_lt_mul_of_pos_right g2 (by decide)
  have h3 : (9007199254740992 : Nat) * 18014398509481984 = 36028797018963968 * 4503599627370496 := by decide
  rw [h3] at h2
  exact Nat.lt_of_lt_of_le h2 h1
theorem div_of {x y m n : Nat} {i k : Int} (hx : Ieee.double.read x = .number false m i) (hy : Ieee.double.read y = .number false n k) (hm : m.log2 = 52) (hn : n.log2 = 52) (h0 : n ≠ 0) (hb : m * 18014398509481984 / n ≠ 0) :
    floatBits .quo .f64 x y = some (min (rungOf (stickyN (m * 18014398509481984) n) (i - k - 55)) infR) := by
  obtain ⟨q, hqe⟩ : ∃ q, q = stickyN (m * 18014398509481984) n := ⟨_, rfl⟩
  have hq0 : q ≠ 0 := by rw [hqe]; unfold stickyN; omega
  obtain ⟨p, hp⟩ : ∃ p : Int, p = i - k - 55 := ⟨_, rfl⟩
  have hp2 : i - k - ((54 : Nat) : Int) - 1 = p := by rw [hp]; omega
  rw [← hqe, ← hp]
  unfold stickyN at hqe
  show Ieee.double.div x y = _
  unfold Format.div
  rw [hx, hy]
  unfold Datum.quotient
  dsimp only
  rw [if_neg h0, hm, hn, show Ieee.double.fractionBits + 2 + 52 - 52 = 54 from by decide, Nat.shiftLeft_eq, show (2 : Nat) ^ 54 = 18014398509481984 from by decide, ← hqe, hp2]
  rw [Bool.xor_false]
  show some (Ieee.double.nearest false q p) = _
  rw [nearest_eq _ _ _ hq0, word_eq, if_neg Bool.false_ne_true]
theorem div_norm {x y : Nat} (hx : NormW x) (hy : NormW y) : floatBits .quo .f64 x y = some (min (divR x y) infR) := by
  have k := man_le y
  have hb := div_big x y
  exact div_of (norm_read hx) (norm_read hy) (man_log x) (man_log y) (by omega) (by omega)
theorem divR_mono {x1 x2 : Nat} (y : Nat) (h1 : NormW x1) (h : x1 ≤ x2) : divR x1 y ≤ divR x2 y := by
  obtain ⟨k1, k2⟩ := man_le y
  obtain ⟨g1, g2⟩ := man_le x1
  obtain ⟨g3, g4⟩ := man_le x2
  unfold divR
  have hexp : expW x1 ≤ expW x2 := by unfold expW; omega
  refine quo_mono (D := manW y) (P := expW x1 - expW y - 55) (by omega) rfl rfl (div_big x1 y) (div_big x2 y) (Int.le_refl _) (by omega) ?_
  rw [Int.sub_self, show (0 : Int).toNat = 0 from rfl, Nat.pow_zero, Nat.mul_one, show (expW x2 - expW y - 55 - (expW x1 - expW y - 55)).toNat = (expW x2 - expW x1).toNat by omega]
  by_cases he : expW x1 = expW x2
  · rw [show (expW x2 - expW x1).toNat = 0 by omega, Nat.pow_zero, Nat.mul_one]
    refine Nat.mul_le_mul_right _ ?_
    have := h1.1
    unfold expW at he
    unfold manW
    omega
  · obtain ⟨d, hd⟩ : ∃ d, (expW x2 - expW x1).toNat = d + 1 := ⟨(expW x2 - expW x1).toNat - 1, by omega⟩
    rw [hd, Nat.pow_succ, Nat.mul_assoc, Nat.mul_comm 18014398509481984, ← Nat.mul_assoc]
    refine Nat.mul_le_mul_right _ ?_
    have := Nat.two_pow_pos d
    have h2 : manW x2 * 2 ≤ manW x2 * (2 ^ d * 2) := Nat.mul_le_mul_left _ (by omega)
    omega
/-- One place more. -/
theorem rungOf_up {m : Nat} {p : Int} (h : -1074 ≤ p + (m.log2 : Int) - 52) : rungOf m (p + 1) = rungOf m p + 4503599627370496 := by
  have hL : lastP m (p + 1) = lastP m p + 1 := by unfold lastP; omega
  have hb : -1074 ≤ lastP m p := by unfold lastP; omega
  unfold rungOf keptN
  rw [hL, show p + 1 - (lastP m p + 1) = p - lastP m p by omega, show lastP m p + 1 - (p + 1) = lastP m p - p by omega, show (lastP m p + 1 + 1074).toNat = (lastP m p + 1074).toNat + 1 by omega]
  omega
/-- Between which bounds what is rounded stands. -/
theorem rungOf_bounds {m : Nat} {p : Int} (hm : m ≠ 0) (h : -1074 ≤ p + (m.log2 : Int) - 52) : ((p + (m.log2 : Int) - 52 + 1074).toNat + 1) * 4503599627370496 ≤ rungOf m p ∧ rungOf m p ≤ ((p + (m.log2 : Int) - 52 + 1074).toNat + 2) * 4503599627370496 := by
  have hL : lastP m p = p + (m.log2 : Int) - 52 := by unfold lastP; omega
  have h1 := kept_le m p (lastP m p) (by omega)
  have h2 := kept_ge m p (lastP m p) hm (by omega)
  unfold rungOf
  rw [hL] at *
  omega
theorem sticky_log2 (x y : Nat) : 54 ≤ (stickyN (manW x * 18014398509481984) (manW y)).log2 ∧ (stickyN (manW x * 18014398509481984) (manW y)).log2 ≤ 55 := by
  have h1 := div_big x y
  have h2 := div_lt x y
  have l := sticky_log (N := manW x * 18014398509481984) (D := manW y) rfl (by omega)
  have l1 : 53 ≤ (manW x * 18014398509481984 / manW y).log2 := (Nat.le_log2 (by omega)).2 h1
  have l2 : (manW x * 18014398509481984 / manW y).log2 < 55 := (Nat.log2_lt (by omega)).2 h2
  unfold stickyN
  omega
theorem exp_eq {x : Nat} (h : 4503599627370496 ≤ x) : expW x = ((x / 4503599627370496 : Nat) : Int) - 1075 := by unfold expW; omega
theorem stick_pos (x y : Nat) : stickyN (manW x * 18014398509481984) (manW y) ≠ 0 := by
  have := div_big x y
  unfold stickyN
  omega
theorem divR_bounds {x y : Nat} (hx : NormW x) (hy : NormW y) (h : y / 4503599627370496 + 60 ≤ x / 4503599627370496 + 1074) :
    (x / 4503599627370496 + 1022 - y / 4503599627370496) * 4503599627370496 ≤ divR x y ∧ divR x y ≤ (x / 4503599627370496 + 1024 - y / 4503599627370496) * 4503599627370496 := by
  obtain ⟨l1, l2⟩ := sticky_log2 x y
  have e1 := exp_eq hx.1
  have e2 := exp_eq hy.1
  have := rungOf_bounds (stick_pos x y) (p := expW x - expW y - 55) (by omega)
  unfold divR
  generalize (stickyN (manW x * 18014398509481984) (manW y)).log2 = l at *
  generalize rungOf (stickyN (manW x * 18014398509481984) (manW y)) (expW x - expW y - 55) = R at *
  rw [e1, e2] at this
  generalize x / 4503599627370496 = a at *
  generalize y / 4503599627370496 = b at *
  obtain ⟨t1, t2⟩ := this
  have u : (((a : Int) - 1075 - ((b : Int) - 1075) - 55 + (l : Int) - 52 + 1074).toNat) = a + l + 967 - b := by omega
  rw [u] at t1 t2
  constructor
  · refine Nat.le_trans (Nat.mul_le_mul_right _ ?_) t1; omega
  · refine Nat.le_trans t2 (Nat.mul_le_mul_right _ ?_); omega
/-- Divided by a number twice as great. -/
theorem divR_twice {x y : Nat} (hx : NormW x) (hy : NormW y) (h : y / 4503599627370496 + 60 ≤ x / 4503599627370496 + 1074) : divR x (y + 4503599627370496) + 4503599627370496 = divR x y := by
  obtain ⟨l1, l2⟩ := sticky_log2 x y
  have e1 := exp_eq hx.1
  have e2 := exp_eq hy.1
  have e3 : manW (y + 4503599627370496) = manW y := by unfold manW; omega
  have e4 : expW (y + 4503599627370496) = expW y + 1 := by unfold expW; have := hy.1; omega
  unfold divR
  have e5 : expW x - expW y - 55 = expW x - (expW y + 1) - 55 + 1 := by clear l1 l2 e1 e2 e3 e4 h; omega
  have e6 : -1074 ≤ expW x - (expW y + 1) - 55 + ((stickyN (manW x * 18014398509481984) (manW y)).log2 : Int) - 52 := by omega
  rw [e3, e4, e5, rungOf_up e6]
/-- A normal number is what its digits at their place are. -/
theorem rungOf_norm {x : Nat} (hx : 4503599627370496 ≤ x) : rungOf (manW x) (expW x) = x := by
  have hp : -1074 ≤ expW x := by unfold expW; omega
  have h := rungOf_exact (manW x) (expW x) (by have := (man_le x).1; omega) (man_le x).2 hp
  rw [← magOf_eq, h]
  unfold magOf
  rw [if_neg (by omega)]
  unfold manW expW
  congr 2
  omega
theorem two_man : manW 4611686018427387904 = 4503599627370496 := by decide
theorem two_exp : expW 4611686018427387904 = -51 := by decide
theorem two_norm : NormW 4611686018427387904 := by unfold NormW; decide
/-- The half of a number. -/
theorem divR_two {x : Nat} (hx : 9007199254740992 ≤ x) : divR x 4611686018427387904 = x - 4503599627370496 := by
  have e1 : stickyN (manW x * 18014398509481984) 4503599627370496 = manW x * 2 ^ 3 := by
    unfold stickyN
    have h1 : manW x * 18014398509481984 = (manW x * 4) * 4503599627370496 := by rw [Nat.mul_assoc]
    rw [h1, Nat.mul_div_cancel _ (by decide), Nat.mul_mod_left, show ((0 : Nat) != 0).toNat = 0 from rfl]
    omega
  unfold divR
  have hm : manW x ≠ 0 := by have := (man_le x).1; omega
  rw [two_man, two_exp, e1, rungOf_scale _ _ _ hm, show expW x - -51 - 55 + ((3 : Nat) : Int) = expW x - 1 by omega]
  have h2 := rungOf_up (m := manW x) (p := expW x - 1) (by rw [man_log]; unfold expW; omega)
  rw [show expW x - 1 + 1 = expW x by omega, rungOf_norm (by omega)] at h2
  omega
def mulW (x y : Nat) : Nat := rungOf (manW x * manW y) (expW x + expW y)
theorem mul_log (x y : Nat) : 104 ≤ (manW x * manW y).log2 ∧ (manW x * manW y).log2 ≤ 105 := by
  obtain ⟨g1, g2⟩ := man_le x
  obtain ⟨k1, k2⟩ := man_le y
  have h1 : 4503599627370496 * 4503599627370496 ≤ manW x * manW y := Nat.mul_le_mul g1 k1
  have h2 : manW x * manW y < 9007199254740992 * 9007199254740992 := Nat.mul_lt_mul'' g2 k2
  rw [show (4503599627370496 : Nat) * 4503599627370496 = 2 ^ 104 from by decide] at h1
  rw [show (9007199254740992 : Nat) * 9007199254740992 = 2 ^ 106 from by decide] at h2
  have h0 : manW x * manW y ≠ 0 := by rintro e; rw [e] at h1; exact absurd h1 (by decide)
  exact ⟨(Nat.le_log2 h0).2 h1, by have := (Nat.log2_lt h0).2 h2; omega⟩
theorem mul_pos_ (x y : Nat) : manW x * manW y ≠ 0 := Nat.mul_ne_zero (by have := (man_le x).1; omega) (by have := (man_le y).1; omega)
theorem mul_of {x y m n : Nat} {i k : Int} (hx : Ieee.double.read x = .number false m i) (hy : Ieee.double.read y = .number false n k) (h0 : m * n ≠ 0) :
    floatBits .mul .f64 x y = some (min (rungOf (m * n) (i + k)) infR) := by
  obtain ⟨q, hqe⟩ : ∃ q, q = m * n := ⟨_, rfl⟩
  obtain ⟨p, hp⟩ : ∃ p : Int, p = i + k := ⟨_, rfl⟩
  rw [← hqe, ← hp]
  rw [← hqe] at h0
  show Ieee.double.mul x y = _
  unfold Format.mul
  rw [hx, hy]
  unfold Datum.product
  dsimp only
  rw [← hqe, ← hp]
  rw [Bool.xor_false]
  show some (Ieee.double.nearest false q p) = _
  rw [nearest_eq _ _ _ h0, word_eq, if_neg Bool.false_ne_true]
theorem mul_norm {x y : Nat} (hx : NormW x) (hy : NormW y) : floatBits .mul .f64 x y = some (min (mulW x y) infR) := mul_of (norm_read hx) (norm_read hy) (mul_pos_ x y)
theorem mulW_bounds {x y : Nat} (hx : NormW x) (hy : NormW y) (h : 1030 ≤ x / 4503599627370496 + y / 4503599627370496) :
    (x / 4503599627370496 + y / 4503599627370496 - 1023) * 4503599627370496 ≤ mulW x y ∧ mulW x y ≤ (x / 4503599627370496 + y / 4503599627370496 - 1021) * 4503599627370496 := by
  obtain ⟨l1, l2⟩ := mul_log x y
  have e1 := exp_eq hx.1
  have e2 := exp_eq hy.1
  have := rungOf_bounds (mul_pos_ x y) (p := expW x + expW y) (by omega)
  unfold mulW
  generalize (manW x * manW y).log2 = l at *
  generalize rungOf (manW x * manW y) (expW x + expW y) = R at *
  rw [e1, e2] at this
  generalize x / 4503599627370496 = a at *
  generalize y / 4503599627370496 = b at *
  obtain ⟨t1, t2⟩ := this
  have u : (((a : Int) - 1075 + ((b : Int) - 1075) + (l : Int) - 52 + 1074).toNat) = a + b + l - 1128 := by omega
  rw [u] at t1 t2
  constructor
  · refine Nat.le_trans (Nat.mul_le_mul_right _ ?_) t1; omega
  · refine Nat.le_trans t2 (Nat.mul_le_mul_right _ ?_); omega
/-- A product of a number twice as great. -/
theorem mulW_twice {x y : Nat} (hx : NormW x) (hy : NormW y) (h : 1030 ≤ x / 4503599627370496 + y / 4503599627370496) : mulW (x + 4503599627370496) y = mulW x y + 4503599627370496 := by
  obtain ⟨l1, l2⟩ := mul_log x y
  have e1 := exp_eq hx.1
  have e2 := exp_eq hy.1
  have e3 : manW (x + 4503599627370496) = manW x := by unfold manW; omega
  have e4 : expW (x + 4503599627370496) = expW x + 1 := by unfold expW; have := hx.1; omega
  unfold mulW
  have e5 : expW x + 1 + expW y = expW x + expW y + 1 := by clear l1 l2 e1 e2 e3 e4 h; omega
  have e6 : -1074 ≤ expW x + expW y + ((manW x * manW y).log2 : Int) - 52 := by omega
  rw [e3, e4, e5, rungOf_up e6]
/-- Two times a number. -/
theorem mulW_two {x : Nat} (hx : 4503599627370496 ≤ x) : mulW 4611686018427387904 x = x + 4503599627370496 := by
  unfold mulW
  have hm : manW x ≠ 0 := by have := (man_le x).1; omega
  rw [two_man, two_exp, Nat.mul_comm, show (4503599627370496 : Nat) = 2 ^ 52 from by decide, rungOf_scale _ _ _ hm, show -51 + expW x + ((52 : Nat) : Int) = expW x + 1 by omega, rungOf_up (by rw [man_log]; unfold expW; omega), rungOf_norm hx]
end Go.Proofs.Ytkhmbkofkdnlkaa

namespace Go.Proofs.Ytkhmbkofkdnlkaa
open Go.RowKit Ieee

theorem small_word {x : Nat} (h : x < infR) : isN x = false ∧ nkey x = (x : Int) ∧ isNeg x = false ∧ rung x = x := by
  have hc : infR = 9218868437227405312 := rfl
  obtain ⟨p1, p2⟩ := small_parts x (by omega)
  refine ⟨?_, ?_, p1, p2⟩
  · unfold isN
    rw [p2]
    exact decide_eq_false (by omega)
  · unfold nkey
    rw [p1, p2]
    rfl
/-- A number that is above nothing, not above the one, not below the other. -/
theorem range_word {x : Nat} (hx : x < 18446744073709551616) (h1 : (FloatKind.f64.format.order x 0 == some .gt) = true) (h2 : (FloatKind.f64.format.order x 5055640609639927018 == some .gt) = false) (h3 : (FloatKind.f64.format.order x 4158027847206421152 == some .lt) = false) :
    4158027847206421152 ≤ x ∧ x ≤ 5055640609639927018 := by
  have hc : infR = 9218868437227405312 := rfl
  rw [gtr_eq] at h1 h2
  rw [lss_eq] at h3
  have k0 := (small_word (x := 0) (by decide)).2.1
  have k1 := small_word (x := 5055640609639927018) (by decide)
  have k2 := small_word (x := 4158027847206421152) (by decide)
  rw [k1.1, k1.2.1] at h2
  rw [k2.1, k2.2.1] at h3
  rw [k0] at h1
  simp only [Bool.and_eq_true, Bool.not_eq_true', decide_eq_true_eq] at h1
  obtain ⟨⟨hn, _⟩, hp⟩ := h1
  rw [hn] at h2 h3
  simp only [Bool.not_false, Bool.true_and, decide_eq_false_iff_not] at h2 h3
  rcases word_parts x hx with ⟨a1, a2, a3⟩ | ⟨a1, a2, a3⟩
  · exfalso
    unfold nkey at hp
    rw [a1] at hp
    simp at hp
    omega
  · have : nkey x = (x : Int) := by unfold nkey; rw [a1]; simp only [Bool.false_eq_true, if_false]; omega
    rw [this] at h2 h3
    omega
theorem fq_norm {x y : Nat} (hx : NormW x) (hy : NormW y) (h : divR x y < infR) : fq x y = divR x y := by
  unfold fq
  rw [div_norm hx hy, Nat.min_eq_left (Nat.le_of_lt h), Option.getD_some]
theorem fm_norm {x y : Nat} (hx : NormW x) (hy : NormW y) (h : mulW x y < infR) : fm x y = mulW x y := by
  unfold fm
  rw [mul_norm hx hy, Nat.min_eq_left (Nat.le_of_lt h), Option.getD_some]
/-- How great a number may be that a score is divided by. -/
def Mid (y lo hi : Nat) : Prop := NormW y ∧ lo ≤ y / 4503599627370496 ∧ y / 4503599627370496 ≤ hi
theorem mid_of {y lo hi : Nat} (h1 : lo ≤ y / 4503599627370496) (h2 : y / 4503599627370496 ≤ hi) (hl : 1 ≤ lo) (hh : hi ≤ 2046) : Mid y lo hi := by
  have hc : infR = 9218868437227405312 := rfl
  exact ⟨⟨by omega, by omega⟩, h1, h2⟩
theorem rooms {base ratio : Nat} (hb : Mid base 923 1122) (hr : Mid ratio 923 1122) : ∀ k, k ≤ 4 → Mid (roomP base ratio k) (923 - 100 * k) (1122 + 101 * k) ∧ roomP (base + 4503599627370496) ratio k = roomP base ratio k + 4503599627370496
  | 0, _ => ⟨hb, rfl⟩
  | k + 1, hk => by
    have hc : infR = 9218868437227405312 := rfl
    obtain ⟨⟨h1, h2, h3⟩, h4⟩ := rooms hb hr k (by omega)
    obtain ⟨r1, r2, r3⟩ := hr
    have hs : 1030 ≤ roomP base ratio k / 4503599627370496 + ratio / 4503599627370496 := by omega
    obtain ⟨b1, b2⟩ := mulW_bounds h1 r1 hs
    have hm : mulW (roomP base ratio k) ratio < infR := by
      refine Nat.lt_of_le_of_lt b2 ?_
      have : roomP base ratio k / 4503599627370496 + ratio / 4503599627370496 - 1021 ≤ 2046 := by omega
      have := Nat.mul_le_mul_right 4503599627370496 this
      omega
    have h5 : NormW (roomP base ratio k + 4503599627370496) := ⟨by have := h1.1; omega, by have := h1.1; omega⟩
    have ht := mulW_twice h1 r1 hs
    have e1 : roomP base ratio (k + 1) = mulW (roomP base ratio k) ratio := fm_norm h1 r1 hm
    have lo : (923 - 100 * (k + 1)) * 4503599627370496 ≤ mulW (roomP base ratio k) ratio := Nat.le_trans (Nat.mul_le_mul_right _ (by omega)) b1
    have hi : mulW (roomP base ratio k) ratio ≤ (1122 + 101 * (k + 1)) * 4503599627370496 := Nat.le_trans b2 (Nat.mul_le_mul_right _ (by omega))
    have hm2 : mulW (roomP base ratio k + 4503599627370496) ratio < infR := by
      rw [ht]
      have : (1122 + 101 * (k + 1)) * 4503599627370496 ≤ 1627 * 4503599627370496 := Nat.mul_le_mul_right _ (by omega)
      omega
    refine ⟨?_, ?_⟩
    · rw [e1]
      refine mid_of ?_ ?_ (by omega) (by omega)
      · exact (Nat.le_div_iff_mul_le (by decide)).2 lo
      · have : mulW (roomP base ratio k) ratio / 4503599627370496 ≤ (1122 + 101 * (k + 1)) * 4503599627370496 / 4503599627370496 := Nat.div_le_div_right hi
        rwa [Nat.mul_div_cancel _ (by decide)] at this
    · have e2 : roomP (base + 4503599627370496) ratio (k + 1) = fm (roomP (base + 4503599627370496) ratio k) ratio := rfl
      rw [e2, h4, fm_norm h5 r1 hm2, ht, e1]
/-! ### a score -/
theorem flt_nat (n : Int) (h0 : 0 ≤ n) (h1 : n ≤ 2147483647) : floatOfInt .f64 n = fltR n.toNat := by
  rw [flt_word n (by omega) (by omega), word_eq, decide_eq_false (by omega), if_neg Bool.false_ne_true, show n.natAbs = n.toNat by omega]
theorem flt_mid {n : Nat} (h0 : 1 ≤ n) (h1 : n ≤ 2147483647) : Mid (fltR n) 1023 1054 := by
  have a1 : 4607182418800017408 ≤ fltR n := by
    have := fltR_mono h0
    rwa [show fltR 1 = 4607182418800017408 from by decide +kernel] at this
  have a2 : fltR n ≤ 4746794007248502784 := by
    have := fltR_mono (show n ≤ 2147483648 by omega)
    rwa [show fltR 2147483648 = 4746794007248502784 from by decide +kernel] at this
  exact mid_of (by omega) (by omega) (by decide) (by decide)
theorem zero_norm {y : Nat} (hy : NormW y) : floatBits .quo .f64 0 y = some 0 := by
  show Ieee.double.div 0 y = _
  unfold Format.div
  rw [read_zero, norm_read hy]
  unfold Datum.quotient
  dsimp only
  have := man_le y
  rw [if_neg (by omega), Nat.zero_shiftLeft, Nat.zero_div, Nat.zero_mod]
  show some (Ieee.double.nearest (false ^^ false) 0 _) = _
  unfold Format.nearest
  rw [if_pos rfl, Bool.xor_false, word_eq, if_neg Bool.false_ne_true]
/-- A whole number divided by a number of the middle. -/
structure Sc (n : Nat) (y s : Nat) : Prop where
  is : fq (fltR n) y = s
  lt : s < infR
  half : floatBits .quo .f64 s 4611686018427387904 = some (fq (fltR n) (y + 4503599627370496))
  half_lt : fq (fltR n) (y + 4503599627370496) < infR
theorem sc_any {n y : Nat} (hn : n ≤ 2147483647) (hy : Mid y 523 1526) : ∃ s, Sc n y s := by
  have hc : infR = 9218868437227405312 := rfl
  obtain ⟨y1, y2, y3⟩ := hy
  have hy2 : NormW (y + 4503599627370496) := ⟨by have := y1.1; omega, by omega⟩
  by_cases h0 : n = 0
  · subst h0
    have e0 : fltR 0 = 0 := rfl
    have z1 := zero_norm y1
    have z2 := zero_norm hy2
    have z3 := zero_norm two_norm
    have f2 : fq 0 (y + 4503599627370496) = 0 := by unfold fq; rw [z2, Option.getD_some]
    refine ⟨0, ⟨?_, by omega, ?_, ?_⟩⟩
    · rw [e0]; unfold fq; rw [z1, Option.getD_some]
    · rw [e0, f2]; exact z3
    · rw [e0, f2]; omega
  · obtain ⟨x1, x2, x3⟩ := flt_mid (n := n) (by omega) hn
    obtain ⟨x, hx⟩ : ∃ x, fltR n = x := ⟨_, rfl⟩
    rw [hx] at x1 x2 x3
    have hs : y / 4503599627370496 + 60 ≤ x / 4503599627370496 + 1074 := by omega
    obtain ⟨b1, b2⟩ := divR_bounds x1 y1 hs
    have ht := divR_twice x1 y1 hs
    have lo : 518 * 4503599627370496 ≤ divR x y := Nat.le_trans (Nat.mul_le_mul_right _ (by omega)) b1
    have hi : divR x y ≤ 1555 * 4503599627370496 := Nat.le_trans b2 (Nat.mul_le_mul_right _ (by omega))
    have hlt : divR x y < infR := by omega
    have hlt2 : divR x (y + 4503599627370496) < infR := by omega
    have hsn : NormW (divR x y) := ⟨by omega, hlt⟩
    have hsn2 : 9007199254740992 ≤ divR x y := by omega
    refine ⟨divR x y, ⟨?_, hlt, ?_, ?_⟩⟩
    · rw [hx]; exact fq_norm x1 y1 hlt
    · have e : divR x y - 4503599627370496 = divR x (y + 4503599627370496) := Nat.sub_eq_of_eq_add ht.symm
      rw [hx, div_norm hsn two_norm, divR_two hsn2, fq_norm x1 hy2 hlt2, e, Nat.min_eq_left (Nat.le_of_lt hlt2)]
    · rw [hx, fq_norm x1 hy2 hlt2]; exact hlt2
theorem sc_mono {n m y s t : Nat} (hnm : n ≤ m) (hm : m ≤ 2147483647) (hy : Mid y 523 1526) (h1 : Sc n y s) (h2 : Sc m y t) : s ≤ t := by
  have hc : infR = 9218868437227405312 := rfl
  obtain ⟨y1, y2, y3⟩ := hy
  rw [← h1.is, ← h2.is]
  by_cases h0 : n = 0
  · subst h0
    have e0 : fltR 0 = 0 := rfl
    rw [e0]
    unfold fq
    rw [zero_norm y1]
    exact Nat.zero_le _
  · obtain ⟨x1, x2, x3⟩ := flt_mid (n := n) (by omega) (by omega)
    obtain ⟨z1, z2, z3⟩ := flt_mid (n := m) (by omega) hm
    have bound : ∀ x, NormW x → 1023 ≤ x / 4503599627370496 → x / 4503599627370496 ≤ 1054 → divR x y < infR := fun x a b c => by
      obtain ⟨_, b2⟩ := divR_bounds a y1 (by omega)
      have : divR x y ≤ 1555 * 4503599627370496 := Nat.le_trans b2 (Nat.mul_le_mul_right _ (by omega))
      omega
    rw [fq_norm x1 y1 (bound _ x1 x2 x3), fq_norm z1 y1 (bound _ z1 z2 z3)]
    exact divR_mono y x1 (fltR_mono hnm)
theorem bytes_more (L : List FileM) (f : FileM) (lv : Int) : bytesP L lv ≤ bytesP (L ++ [f]) lv := by
  unfold bytesP
  rw [ofP_snoc]
  split
  · rw [sumP_snoc]
    have := sumP_le (ofP L lv)
    omega
  · exact Int.le_refl _
theorem count_more (L : List FileM) (f : FileM) (lv : Int) : (ofP L lv).length ≤ (ofP (L ++ [f]) lv).length := by
  rw [ofP_snoc]
  split
  · simp
  · exact Nat.le_refl _
/-- What PickScores asks of one place. -/
structure ScA (a b c : Nat) (j : Nat) : Prop where
  lt_a : a < infR
  lt_b : b < infR
  lt_c : c < infR
  le : a ≤ b
  half : 0 < j → floatBits .quo .f64 a 4611686018427387904 = some c
  zero : j = 0 → c = a
theorem scores_ask {L : List FileM} {f : FileM} {base ratio : Nat} (hL : L.length ≤ 200) (hb : Mid base 923 1122) (hr : Mid ratio 923 1122) {j : Nat} (hj : j < 6) {a b c : Nat} (ha : (scoresP L base ratio)[j]? = some a) (hb' : (scoresP (L ++ [f]) base ratio)[j]? = some b) (hc' : (scoresP L (base + 4503599627370496) ratio)[j]? = some c) : ScA a b c j := by
  rw [scoresP_at _ _ _ j hj] at ha hb' hc'
  injection ha with ha
  injection hb' with hb'
  injection hc' with hc'
  cases j with
  | zero =>
    have q4 : floatOfInt .f64 4 = 4616189618054758400 := by decide +kernel
    have m4 : Mid 4616189618054758400 523 1526 := mid_of (by decide) (by decide) (by decide) (by decide)
    have l1 : (ofP L 0).length ≤ 200 := Nat.le_trans (List.length_filter_le _ _) hL
    have l2 : (ofP (L ++ [f]) 0).length ≤ 201 := Nat.le_trans (List.length_filter_le _ _) (by simp; omega)
    rw [scoreP, q4, flt_nat _ (by omega) (by omega), Int.toNat_natCast] at ha hb' hc'
    obtain ⟨s, hs⟩ := sc_any (n := (ofP L 0).length) (by omega) m4
    obtain ⟨t, ht⟩ := sc_any (n := (ofP (L ++ [f]) 0).length) (by omega) m4
    have := sc_mono (count_more L f 0) (by omega) m4 hs ht
    rw [hs.is] at ha hc'
    rw [ht.is] at hb'
    subst ha hb' hc'
    exact ⟨hs.lt, ht.lt, hs.lt, this, fun h => by omega, fun _ => rfl⟩
  | succ k =>
    obtain ⟨⟨r1, r2, r3⟩, r4⟩ := rooms hb hr k (by omega)
    have hm : Mid (roomP base ratio k) 523 1526 := ⟨r1, by omega, by omega⟩
    have p1 := sumP_le (ofP L ((k + 1 : Nat) : Int))
    have p2 := sumP_le (ofP (L ++ [f]) ((k + 1 : Nat) : Int))
    have p3 := bytes_more L f ((k + 1 : Nat) : Int)
    have ha : fq (floatOfInt .f64 (bytesP L ((k + 1 : Nat) : Int))) (roomP base ratio k) = a := ha
    have hb' : fq (floatOfInt .f64 (bytesP (L ++ [f]) ((k + 1 : Nat) : Int))) (roomP base ratio k) = b := hb'
    have hc' : fq (floatOfInt .f64 (bytesP L ((k + 1 : Nat) : Int))) (roomP (base + 4503599627370496) ratio k) = c := hc'
    have p1 : 0 ≤ bytesP L ((k + 1 : Nat) : Int) ∧ bytesP L ((k + 1 : Nat) : Int) ≤ 2147483647 := p1
    have p2 : 0 ≤ bytesP (L ++ [f]) ((k + 1 : Nat) : Int) ∧ bytesP (L ++ [f]) ((k + 1 : Nat) : Int) ≤ 2147483647 := p2
    generalize bytesP L ((k + 1 : Nat) : Int) = u at *
    generalize bytesP (L ++ [f]) ((k + 1 : Nat) : Int) = v at *
    rw [r4] at hc'
    rw [flt_nat _ p1.1 p1.2] at ha hc'
    rw [flt_nat _ p2.1 p2.2] at hb'
    obtain ⟨s, hs⟩ := sc_any (n := u.toNat) (by omega) hm
    obtain ⟨t, ht⟩ := sc_any (n := v.toNat) (by omega) hm
    have := sc_mono (show u.toNat ≤ v.toNat by omega) (by omega) hm hs ht
    have hh := hs.half
    have hl := hs.half_lt
    rw [hc'] at hh hl
    rw [hs.is] at ha
    rw [ht.is] at hb'
    subst ha hb'
    exact ⟨hs.lt, ht.lt, hl, this, fun _ => hh, fun h => by omega⟩
theorem two_base {base : Nat} (hb : Mid base 923 1122) : floatBits .mul .f64 4611686018427387904 base = some (base + 4503599627370496) := by
  have hc : infR = 9218868437227405312 := rfl
  obtain ⟨h1, h2, h3⟩ := hb
  rw [mul_norm two_norm h1, mulW_two h1.1, Nat.min_eq_left (by omega)]
theorem mid_word {x : Nat} (h : 4158027847206421152 ≤ x ∧ x ≤ 5055640609639927018) : Mid x 923 1122 := mid_of (by omega) (by omega) (by decide) (by decide)
end Go.Proofs.Ytkhmbkofkdnlkaa

namespace Go.Proofs.Ytkhmbkofkdnlkaa
section
variable {P : Program} {ops : Array Oper} {C : World → Prop} {Q : Act → Prop} {a : Act} {o : Oper} {rest : List Oper}
theorem wpQuiet_skip (hw : Region.wanted o (yielded ops a.tmps) = false) (h : wpQuiet P ops C Q rest (a.put o.dst undef)) : wpQuiet P ops C Q (o :: rest) a := by
  unfold wpQuiet
  rw [hw]
  exact h
theorem wpQuiet_take (hw : Region.wanted o (yielded ops a.tmps) = true) (v : Value) (hy : ∀ w, C w → o.quietAt P a C w v) (h : wpQuiet P ops C Q rest (a.put o.dst v)) : wpQuiet P ops C Q (o :: rest) a := by
  unfold wpQuiet
  rw [if_pos hw]
  exact ⟨v, hy, h⟩
theorem wp_region_class {id : Nat} {Q : Exit → Act → World → Prop} {a : Act} {w : World} {l : List Oper} (C : World → Prop) (hm : P.follows .mixedOrders = true) (hB : Region.lexB .any l.toArray = true) (hC : C w.drew)
    (h : wpQuiet P l.toArray C (fun a' => ∀ w', C w' → Q .normal a' w') l a) : (Code.region id l.toArray true).wp P Q a w :=
  wp_region_quiet (C := C) hm hB hC (by simpa using h)
end
open Go.RowKit
/-! ### A call within a class of worlds: all that come out of one world -/
theorem cls_call {P : Program} {f : FuncId} {args : Array Value} {W0 W : World} {R : Ending} (hW : Below W0.heap.size W0 W) (h : Calls P f args W fun e w' => e = R ∧ Below W.heap.size W w') :
    Calls P f args W fun e w' => e = R ∧ Below W0.heap.size W0 w' := h.mono fun _ _ ⟨he, hb⟩ => ⟨he, hW.trans (hb.mono hW.size)⟩
theorem below_of_eq {w w' : World} (h : w' = w) : Below w.heap.size w w' := by rw [h]; exact Below.refl _ _
theorem below_of_eq' {w w' : World} (h : w = w') : Below w.heap.size w w' := by rw [h]; exact Below.refl _ _
end Go.Proofs.Ytkhmbkofkdnlkaa

namespace Go.Proofs.Ytkhmbkofkdnlkaa

/-- What stands in an operation's slot, and goes on to stand there. -/
structure Slot (T : World → World → Prop) where
  p : Value → World → Prop
  st : ∀ v w w', p v w → T w w' → p v w'
  new : Bool
def Slot.is {T : World → World → Prop} (x : Value) : Slot T := ⟨fun v _ => v = x, fun _ _ _ h _ => h, false⟩
def Slot.any {T : World → World → Prop} : Slot T := ⟨fun _ _ => True, fun _ _ _ h _ => h, false⟩
/-- Whatever the world, a value of this kind. -/
def Slot.sort {T : World → World → Prop} (q : Value → Prop) : Slot T := ⟨fun v _ => q v, fun _ _ _ h _ => h, false⟩
def slotAt {T : World → World → Prop} (L : List (Slot T)) (i : Nat) : Slot T := L.getD i Slot.any

def dstOf (ops : Array Oper) (i : Nat) : Option Tmp := (ops[i]?).bind (·.dst)
/-- The slots filled, one behind the other. -/
def fillT : List (Option Tmp) → List Value → Array Value → Array Value
  | some k :: ds, v :: vs, t => fillT ds vs (t.setIfInBounds k v)
  | _, _, t => t

def notSelect (o : Oper) : Bool := match o.op with
  | .select _ _ => false
  | _ => true
/-- The heads of a region: each has a slot of its own, looks only at slots of operations that it waits for, and waits only for earlier ones. -/
def ordB (md : Region.Mode) (ops : Array Oper) (n size : Nat) : Bool :=
  (List.range n).all fun i => match ops[i]? with
    | none => false
    | some o => (match o.dst with
        | some k => decide (k < size) && (List.range n).all fun j => j == i || dstOf ops j != some k
        | none => false) && (notSelect o && ((o.after.toList.all fun e => !Region.binds md e || decide (e.on < i))))

/-- In every world of the class the operation yields what is said of its slot. -/
def freesUpon (P : Program) (C : World → Prop) {T : World → World → Prop} (S : Slot T) (w : World) : Result Next → Prop
  | .ok (.value v) w' => C w' ∧ T w w' ∧ S.p v w' ∧ (S.new = true → ∃ p, v = .pointer (some ⟨p, 0, none⟩) ∧ w.heap.size ≤ p ∧ p < w'.heap.size)
  | .ok (.enter f args) w' => S.new = false ∧ Calls P f args w' fun e w'' => ∃ v, e = .returned v ∧ C w'' ∧ T w w'' ∧ S.p v w''
  | _ => False
def frees (P : Program) (o : Oper) (a : Act) (C : World → Prop) {T : World → World → Prop} (S : Slot T) (w : World) : Prop := freesUpon P C S w ((execOp a.eval o).run P w)

section
variable {P : Program} {ops : Array Oper} {md : Region.Mode} {C : World → Prop} {T : World → World → Prop} {L : List (Slot T)} {n m : Nat} {base : Act}

/-- What is asked of one operation. -/
def ordOb (P : Program) (md : Region.Mode) (ops : Array Oper) (C : World → Prop) (T : World → World → Prop) (L : List (Slot T)) (n : Nat) (base : Act) (i : Nat) : Prop :=
  ∀ o, ops[i]? = some o → ∀ (a : Act) (w : World), C w → (∀ k, (∀ j, j < n → dstOf ops j ≠ some k) → a.tmps[k]? = base.tmps[k]?) →
    (∀ d, Region.waitsFor md ops i d = true → ∀ k, dstOf ops d = some k → ∃ v, a.tmps[k]? = some v ∧ (slotAt L d).p v w) →
    if Region.wanted o (yielded ops a.tmps) then frees P o a C (slotAt L i) w else T w w ∧ (slotAt L i).p undef w ∧ (slotAt L i).new = false

structure OrdInv (md : Region.Mode) (ops : Array Oper) (C : World → Prop) (T : World → World → Prop) (L : List (Slot T)) (n : Nat) (base : Act) (listed : Array Bool) (a : Act) (w : World) : Prop where
  cls : C w
  head : HeadInv md ops n listed
  defers : a.defers = base.defers
  size : a.tmps.size = base.tmps.size
  far : ∀ k, (∀ j, j < n → dstOf ops j ≠ some k) → a.tmps[k]? = base.tmps[k]?
  near : ∀ i, i < n → listed.getD i false = true → ∀ k, dstOf ops i = some k → ∃ v, a.tmps[k]? = some v ∧ (slotAt L i).p v w
  old : ∀ i, i < n → listed.getD i false = true → (slotAt L i).new = true → ∀ k, dstOf ops i = some k → ∃ p, a.tmps[k]? = some (.pointer (some ⟨p, 0, none⟩)) ∧ p < w.heap.size
  apart : ∀ i j, i < n → j < n → i ≠ j → listed.getD i false = true → listed.getD j false = true → (slotAt L i).new = true → (slotAt L j).new = true → ∀ k l p q, dstOf ops i = some k → dstOf ops j = some l →
    a.tmps[k]? = some (.pointer (some ⟨p, 0, none⟩)) → a.tmps[l]? = some (.pointer (some ⟨q, 0, none⟩)) → p ≠ q

theorem ordB_at (h : ordB md ops n base.tmps.size = true) {i : Nat} (hi : i < n) : ∃ o k, ops[i]? = some o ∧ o.dst = some k ∧ k < base.tmps.size ∧ (∀ j, j < n → j ≠ i → dstOf ops j ≠ some k) ∧ notSelect o = true ∧ (∀ e ∈ o.after, Region.binds md e = true → e.on < i) := by
  have h1 := List.all_eq_true.1 h i (List.mem_range.2 hi)
  cases ho : ops[i]? with
  | none => rw [ho] at h1; cases h1
  | some o =>
    rw [ho] at h1
    simp only [Bool.and_eq_true] at h1
    obtain ⟨h2, h3, h4⟩ := h1
    cases hk : o.dst with
    | none => rw [hk] at h2; cases h2
    | some k =>
      rw [hk] at h2
      simp only [Bool.and_eq_true, decide_eq_true_eq] at h2
      refine ⟨o, k, rfl, hk, h2.1, fun j hj hne => ?_, h3, fun e he hb => ?_⟩
      · have := List.all_eq_true.1 h2.2 j (List.mem_range.2 hj)
        simp only [Bool.or_eq_true, beq_iff_eq, bne_iff_ne] at this
        rcases this with h | h
        · exact absurd h hne
        · exact h
      · have := List.all_eq_true.1 h4 e (by simpa using he)
        simpa [hb] using this

theorem getD_set_self {listed : Array Bool} {i : Nat} (hi : i < listed.size) (d : Bool) : (listed.setIfInBounds i true).getD i d = true := by
  simp [hi]
theorem countP_set {l : List Nat} {p q : Nat → Bool} {i : Nat} (hl : l.Nodup) (hi : i ∈ l) (hp : p i = true) (hq : q i = false) (h : ∀ j, j ≠ i → p j = q j) : l.countP p = l.countP q + 1 := by
  induction l with
  | nil => cases hi
  | cons x l ih =>
    have hx := (List.nodup_cons.1 hl)
    by_cases hxi : x = i
    · subst hxi
      rw [List.countP_cons_of_pos hp, List.countP_cons_of_neg (by rw [hq]; decide)]
      congr 1
      apply List.countP_congr
      intro y hy
      rw [h y (fun e => hx.1 (e ▸ hy))]
    · have hi' : i ∈ l := by
        rcases List.mem_cons.1 hi with h | h
        · exact absurd h.symm hxi
        · exact h
      have := ih hx.2 hi'
      rw [List.countP_cons, List.countP_cons, this, h x hxi]
      omega

/-- The step. -/
theorem OrdInv.step {Q : Exit → Act → World → Prop} {listed : Array Bool} {a : Act} {w : World} (hT : ∀ w w', T w w' → w.heap.size ≤ w'.heap.size) (hB : ordB md ops n base.tmps.size = true) (hob : ∀ i, i < n → ordOb P md ops C T L n base i)
    (J : OrdInv md ops C T L n base listed a w) {i : Nat} (hi : i < n) (hr : i ∈ Region.ready md ops listed) {K : Act → World → Prop} (hK : ∀ a' w', OrdInv md ops C T L n base (listed.setIfInBounds i true) a' w' → K a' w') :
    wpOp P ops Q i K a w := by
  obtain ⟨o, k, ho, hk, hks, hdis, _, hback⟩ := ordB_at hB hi
  obtain ⟨hun, o', ho', hall⟩ := mem_ready.1 hr
  have : o' = o := Option.some.inj (ho'.symm.trans ho)
  subst this
  have hil : i < listed.size := by
    rw [J.head.size]
    exact (Array.getElem?_eq_some_iff.1 ho).1
  have hdi : dstOf ops i = some k := by unfold dstOf; rw [ho]; exact hk
  have next : ∀ v w', C w' → T w w' → (slotAt L i).p v w' → ((slotAt L i).new = true → ∃ p, v = .pointer (some ⟨p, 0, none⟩) ∧ w.heap.size ≤ p ∧ p < w'.heap.size) → OrdInv md ops C T L n base (listed.setIfInBounds i true) (a.put o'.dst v) w' := by
    intro v w' hC hTw hS hnew
    rw [hk]
    have self : (a.tmps.setIfInBounds k v)[k]? = some v := by rw [Array.getElem?_setIfInBounds_self_of_lt (by rw [J.size]; exact hks)]
    have other : ∀ x, k ≠ x → (a.tmps.setIfInBounds k v)[x]? = a.tmps[x]? := fun x hne => Array.getElem?_setIfInBounds_ne hne
    have kne : ∀ j, j < n → j ≠ i → ∀ x, dstOf ops j = some x → k ≠ x := fun j hj hji x hx e => hdis j hj hji (by rw [hx, e])
    have lst : ∀ j, j ≠ i → (listed.setIfInBounds i true).getD j false = true → listed.getD j false = true := fun j hji hl => by
      rwa [getD_set_ne false (Ne.symm hji)] at hl
    refine ⟨hC, J.head.set hr hi, J.defers, ?_, fun x hx => ?_, fun j hj hl x hx => ?_, fun j hj hl hnw x hx => ?_, fun i1 j1 hi1 hj1 hne hl1 hl2 hn1 hn2 k1 l1 p q hk1 hl1' hp hq => ?_⟩
    · show (a.tmps.setIfInBounds k v).size = _
      rw [Array.size_setIfInBounds]
      exact J.size
    · show (a.tmps.setIfInBounds k v)[x]? = _
      rw [other x (fun e => hx i hi (by rw [hdi, e]))]
      exact J.far x hx
    · show ∃ v', (a.tmps.setIfInBounds k v)[x]? = some v' ∧ _
      by_cases hji : j = i
      · subst hji
        have : k = x := Option.some.inj (hdi.symm.trans hx)
        subst this
        exact ⟨v, self, hS⟩
      · rw [other x (kne j hj hji x hx)]
        obtain ⟨v', h1, h2⟩ := J.near j hj (lst j hji hl) x hx
        exact ⟨v', h1, (slotAt L j).st _ _ _ h2 hTw⟩
    · show ∃ p, (a.tmps.setIfInBounds k v)[x]? = _ ∧ _
      by_cases hji : j = i
      · subst hji
        have : k = x := Option.some.inj (hdi.symm.trans hx)
        subst this
        obtain ⟨p, rfl, _, h3⟩ := hnew hnw
        exact ⟨p, self, h3⟩
      · rw [other x (kne j hj hji x hx)]
        obtain ⟨p, h1, h2⟩ := J.old j hj (lst j hji hl) hnw x hx
        exact ⟨p, h1, Nat.lt_of_lt_of_le h2 (hT _ _ hTw)⟩
    · replace hp : (a.tmps.setIfInBounds k v)[k1]? = _ := hp
      replace hq : (a.tmps.setIfInBounds k v)[l1]? = _ := hq
      by_cases h1 : i1 = i
      · have h2 : j1 ≠ i := fun e => hne (h1.trans e.symm)
        subst h1
        have : k = k1 := Option.some.inj (hdi.symm.trans hk1)
        subst this
        rw [self] at hp
        rw [other l1 (kne j1 hj1 h2 l1 hl1')] at hq
        obtain ⟨p', e1, e2, _⟩ := hnew hn1
        obtain ⟨q', e3, e4⟩ := J.old j1 hj1 (lst j1 h2 hl2) hn2 l1 hl1'
        rw [e1] at hp
        rw [e3] at hq
        cases hp
        cases hq
        omega
      · by_cases h2 : j1 = i
        · subst h2
          have : k = l1 := Option.some.inj (hdi.symm.trans hl1')
          subst this
          rw [self] at hq
          rw [other k1 (kne i1 hi1 h1 k1 hk1)] at hp
          obtain ⟨q', e1, e2, _⟩ := hnew hn2
          obtain ⟨p', e3, e4⟩ := J.old i1 hi1 (lst i1 h1 hl1) hn1 k1 hk1
          rw [e1] at hq
          rw [e3] at hp
          cases hp
          cases hq
          omega
        · rw [other k1 (kne i1 hi1 h1 k1 hk1)] at hp
          rw [other l1 (kne j1 hj1 h2 l1 hl1')] at hq
          exact J.apart i1 j1 hi1 hj1 hne (lst i1 h1 hl1) (lst j1 h2 hl2) hn1 hn2 k1 l1 p q hk1 hl1' hp hq
  have h := hob i hi o' ho a w J.cls J.far (fun d hd x hx => by
    obtain ⟨o2, ho2, e, he, hb, hon⟩ := Region.waitsFor_spec hd
    have : o2 = o' := Option.some.inj (ho2.symm.trans ho)
    subst this
    have hl := hall e he hb
    rw [hon] at hl
    have hdn : d < n := by have := hback e he hb; omega
    exact J.near d hdn hl x hx)
  unfold wpOp
  rw [ho]
  simp only
  split
  · next hw =>
    rw [if_pos hw] at h
    refine Or.inl ?_
    unfold frees at h
    unfold Oper.wp
    generalize (execOp a.eval o').run P w = r at *
    cases r with
    | halt x w' => exact absurd h (by simp [freesUpon])
    | ok nx w' =>
      cases nx <;> simp only [freesUpon] at h <;> simp only [Oper.upon]
      case value v => exact hK _ _ (next v w' h.1 h.2.1 h.2.2.1 h.2.2.2)
      case enter f args =>
        refine h.2.mono fun e w'' ⟨v, he, h1, h2, h3⟩ => ?_
        subst he
        exact hK _ _ (next v w'' h1 h2 h3 (fun hn => by rw [h.1] at hn; cases hn))
  · next hw =>
    rw [if_neg hw] at h
    exact hK _ _ (next undef w J.cls h.1 h.2.1 (fun hn => by rw [h.2.2] at hn; cases hn))

theorem ord_any {Q : Exit → Act → World → Prop} (hT : ∀ w w', T w w' → w.heap.size ≤ w'.heap.size) (hB : ordB md ops n base.tmps.size = true) (hs : Region.sinkB md ops n = true) (hc : Region.chainB md ops n = true) (hnm : ops.size = n + m) (hm : 0 < m)
    (hob : ∀ i, i < n → ordOb P md ops C T L n base i)
    (done : ∀ a w, OrdInv md ops C T L n base (Array.replicate n true ++ Array.replicate m false) a w → wpAny P md ops Q m (Array.replicate n true ++ Array.replicate m false) a w) :
    ∀ (f : Nat) (listed : Array Bool) (a : Act) (w : World), OrdInv md ops C T L n base listed a w → (List.range n).countP (fun i => !listed.getD i true) = f → wpAny P md ops Q (f + m) listed a w := by
  intro f
  induction f with
  | zero =>
    intro listed a w J hcnt
    have hall : ∀ i, i < n → listed.getD i true = true := fun i hi => by
      have := List.countP_eq_zero.1 hcnt i (List.mem_range.2 hi)
      simpa using this
    have he : listed = Array.replicate n true ++ Array.replicate m false := by
      apply Array.ext
      · rw [J.head.size, hnm]; simp
      · intro i h1 h2
        rw [Array.getElem_append]
        split
        · next h =>
          have hi : i < n := by simpa using h
          have := hall i hi
          simp [h1] at this
          simp [this]
        · next h =>
          have hi : n ≤ i := by simpa using h
          have := J.head.tail i hi (by rw [← J.head.size]; exact h1)
          simp [h1] at this
          simp [this]
    subst he
    rw [Nat.zero_add]
    exact done a w J
  | succ f ih =>
    intro listed a w J hcnt
    -- the least one that has not come up is ready
    have hex : ∃ i, i < n ∧ listed.getD i true = false := by
      by_cases h : ∃ i, i < n ∧ listed.getD i true = false
      · exact h
      · exfalso
        have : (List.range n).countP (fun i => !listed.getD i true) = 0 := List.countP_eq_zero.2 fun i hi => by
          have hi := List.mem_range.1 hi
          cases hl : listed.getD i true with
          | true => simp
          | false => exact absurd ⟨i, hi, hl⟩ h
        omega
    have hn : n < ops.size := by omega
    obtain ⟨i0, hi0, hu0⟩ := hex
    have hsmall : ∀ t ∈ Region.ready md ops listed, t < n := fun t ht => by
      rcases Nat.lt_or_ge t n with h | h
      · exact h
      · exact absurd ht (tail_waits hs hc hn J.head _ i0 rfl hi0 hu0 t h)
    have hready : Region.ready md ops listed ≠ [] := by
      have key : ∀ i, i < n → listed.getD i true = false → ∃ j, j ∈ Region.ready md ops listed := by
        intro i
        induction i using Nat.strongRecOn with
        | _ i ihi =>
          intro hi hu
          obtain ⟨o, k, ho, _, _, _, _, hback⟩ := ordB_at hB hi
          by_cases hd : ∀ e ∈ o.after, Region.binds md e = true → listed.getD e.on false = true
          · exact ⟨i, mem_ready.2 ⟨hu, o, ho, hd⟩⟩
          · obtain ⟨e, he⟩ : ∃ e, ¬ (e ∈ o.after → Region.binds md e = true → listed.getD e.on false = true) := by
              by_cases h : ∃ e, ¬ (e ∈ o.after → Region.binds md e = true → listed.getD e.on false = true)
              · exact h
              · exact absurd (fun e he hb => by
                  by_cases h2 : listed.getD e.on false = true
                  · exact h2
                  · exact absurd ⟨e, fun h3 => h2 (h3 he hb)⟩ h) hd
            have he1 : e ∈ o.after := by
              by_cases h : e ∈ o.after
              · exact h
              · exact absurd (fun h' => absurd h' h) he
            have he2 : Region.binds md e = true := by
              by_cases h : Region.binds md e = true
              · exact h
              · exact absurd (fun _ h' => absurd h' h) he
            have he3 : listed.getD e.on false = false := by
              cases h : listed.getD e.on false with
              | false => rfl
              | true => exact absurd (fun _ _ => h) he
            have hlt := hback e he1 he2
            exact ihi e.on hlt (by omega) (getD_in (by rw [J.head.size]; omega) he3)
      obtain ⟨j, hj⟩ := key i0 hi0 hu0
      intro h
      rw [h] at hj
      cases hj
    rw [show f + 1 + m = (f + m) + 1 from by omega]
    refine ⟨fun h => absurd h hready, fun i hi => ?_⟩
    refine J.step hT hB hob (hsmall i hi) hi fun a' w' J' => ih _ a' w' J' ?_
    have hun := (mem_ready.1 hi).1
    have hsz : i < listed.size := by rw [J.head.size]; have := hsmall i hi; omega
    have := countP_set (l := List.range n) (p := fun i => !listed.getD i true) (q := fun j => !(listed.setIfInBounds i true).getD j true) (i := i) List.nodup_range (List.mem_range.2 (hsmall i hi)) (by simp only [hun]; rfl) (by simp only [getD_set_self hsz]; rfl) (fun j hj => by simp only [getD_set_ne true (Ne.symm hj)])
    omega

/-- A region whose heads may come up in any order they are free to. -/
theorem wp_region_ord {id : Nat} {Q : Exit → Act → World → Prop} {w : World} {l : List Oper} (C : World → Prop) (T : World → World → Prop) (L : List (Slot T)) (n m : Nat) (hm : P.follows .mixedOrders = true) (hT : ∀ w w', T w w' → w.heap.size ≤ w'.heap.size) (hB : ordB .any l.toArray n base.tmps.size = true)
    (hs : Region.sinkB .any l.toArray n = true) (hc : Region.chainB .any l.toArray n = true) (hnm : l.toArray.size = n + m) (hm0 : 0 < m) (hC : C w.drew)
    (hob : ∀ i, i < n → ordOb P .any l.toArray C T L n base i)
    (done : ∀ a w, OrdInv .any l.toArray C T L n base (Array.replicate n true ++ Array.replicate m false) a w → wpAny P .any l.toArray Q m (Array.replicate n true ++ Array.replicate m false) a w) :
    (Code.region id l.toArray true).wp P Q base w := by
  refine wp_region_any hm ?_
  have h0 : (List.range n).countP (fun i => !(Array.replicate l.toArray.size false).getD i true) = n := by
    have : (List.range n).countP (fun i => !(Array.replicate l.toArray.size false).getD i true) = (List.range n).length := by
      rw [List.countP_eq_length]
      intro i hi
      have hi := List.mem_range.1 hi
      have hi2 : i < l.toArray.size := by omega
      have hi3 : i < l.length := by simpa using hi2
      simp [hi3]
    rw [this, List.length_range]
  have J : OrdInv .any l.toArray C T L n base (Array.replicate l.toArray.size false) base w.drew := by
    refine ⟨hC, ⟨by simp, fun j oj _ hl => ?_, fun t ht htl => ?_⟩, rfl, rfl, fun k _ => rfl, fun i hi hl => ?_, fun i hi hl => ?_, fun i j _ _ _ hl => ?_⟩
    · rw [getD_replicate_false] at hl; cases hl
    · have ht3 : t < l.length := by simpa using htl
      simp [ht3]
    · rw [getD_replicate_false] at hl; cases hl
    · rw [getD_replicate_false] at hl; cases hl
    · rw [getD_replicate_false] at hl; cases hl
  have h := ord_any (Q := Q) hT hB hs hc hnm hm0 hob done n _ base w.drew J h0
  rw [← hnm] at h
  exact h

/-! ### What a user asks -/
theorem ordOb_at {i : Nat} {o : Oper} (ho : ops[i]? = some o) (hg : o.guard = none)
    (h : ∀ (a : Act) (w : World), C w → (∀ k x, ((List.range n).all fun j => dstOf ops j != some k) = true → base.tmps[k]? = some x → a.tmps[k]? = some x) →
      (∀ d k, Region.waitsFor md ops i d = true → dstOf ops d = some k → ∃ v, a.tmps[k]? = some v ∧ (slotAt L d).p v w) → frees P o a C (slotAt L i) w) : ordOb P md ops C T L n base i := by
  intro o' ho' a w hC hF hD
  have : o' = o := Option.some.inj (ho'.symm.trans ho)
  subst this
  have hw : Region.wanted o' (yielded ops a.tmps) = true := by unfold Region.wanted; rw [hg]
  rw [if_pos hw]
  refine h a w hC (fun k x hk hx => ?_) (fun d k hd hk => hD d hd k hk)
  rw [hF k fun j hj => ?_]
  · exact hx
  · have := List.all_eq_true.1 hk j (List.mem_range.2 hj)
    simpa using this

theorem yielded_at {a : Act} {g : Nat} {k : Tmp} {c : Bool} (hk : dstOf ops g = some k) (h : a.tmps[k]? = some (.bool c)) : yielded ops a.tmps g = some c := by
  unfold yielded
  unfold dstOf at hk
  rw [hk]
  simp [h]
/-- The same of an operation whose guard lets it come up. -/
theorem ordOb_on {i : Nat} {o : Oper} {g : Nat} {b : Bool} {k : Tmp} (ho : ops[i]? = some o) (hg : o.guard = some (g, b)) (hwf : Region.waitsFor md ops i g = true) (hk : dstOf ops g = some k) (hs : ∀ v w, (slotAt L g).p v w → v = .bool b)
    (h : ∀ (a : Act) (w : World), C w → (∀ k x, ((List.range n).all fun j => dstOf ops j != some k) = true → base.tmps[k]? = some x → a.tmps[k]? = some x) →
      (∀ d k, Region.waitsFor md ops i d = true → dstOf ops d = some k → ∃ v, a.tmps[k]? = some v ∧ (slotAt L d).p v w) → frees P o a C (slotAt L i) w) : ordOb P md ops C T L n base i := by
  intro o' ho' a w hC hF hD
  have : o' = o := Option.some.inj (ho'.symm.trans ho)
  subst this
  obtain ⟨v, h1, h2⟩ := hD g hwf k hk
  rw [hs v w h2] at h1
  have hw : Region.wanted o' (yielded ops a.tmps) = true := by
    unfold Region.wanted
    rw [hg]
    simp [yielded_at hk h1]
  rw [if_pos hw]
  refine h a w hC (fun k x hk hx => ?_) (fun d k hd hk => hD d hd k hk)
  rw [hF k fun j hj => ?_]
  · exact hx
  · have := List.all_eq_true.1 hk j (List.mem_range.2 hj)
    simpa using this
/-- An operation whose guard passes it over. -/
theorem ordOb_off {i : Nat} {o : Oper} {g : Nat} {b : Bool} {k : Tmp} (ho : ops[i]? = some o) (hg : o.guard = some (g, !b)) (hwf : Region.waitsFor md ops i g = true) (hk : dstOf ops g = some k) (hs : ∀ v w, (slotAt L g).p v w → v = .bool b)
    (hT : ∀ w, T w w) (hu : ∀ w, (slotAt L i).p undef w) (hn : (slotAt L i).new = false) : ordOb P md ops C T L n base i := by
  intro o' ho' a w hC hF hD
  have : o' = o := Option.some.inj (ho'.symm.trans ho)
  subst this
  obtain ⟨v, h1, h2⟩ := hD g hwf k hk
  rw [hs v w h2] at h1
  have hw : Region.wanted o' (yielded ops a.tmps) = false := by
    unfold Region.wanted
    rw [hg]
    cases b <;> simp [yielded_at hk h1]
  rw [hw, if_neg (by decide)]
  exact ⟨hT w, hu w, hn⟩

theorem fillT_size : ∀ (ds : List (Option Tmp)) (vs : List Value) (t : Array Value), (fillT ds vs t).size = t.size
  | [], vs, t => by cases vs <;> rfl
  | none :: ds, vs, t => by cases vs <;> rfl
  | some k :: ds, [], t => rfl
  | some k :: ds, v :: vs, t => by
    show (fillT ds vs (t.setIfInBounds k v)).size = _
    rw [fillT_size ds vs, Array.size_setIfInBounds]
theorem fillT_far : ∀ (ds : List (Option Tmp)) (vs : List Value) (t : Array Value) (x : Nat), some x ∉ ds → (fillT ds vs t)[x]? = t[x]?
  | [], vs, t, x, _ => by cases vs <;> rfl
  | none :: ds, vs, t, x, _ => by cases vs <;> rfl
  | some k :: ds, [], t, x, _ => rfl
  | some k :: ds, v :: vs, t, x, h => by
    show (fillT ds vs (t.setIfInBounds k v))[x]? = _
    have hne : k ≠ x := fun e => h (by rw [e]; exact List.mem_cons_self)
    rw [fillT_far ds vs _ x (fun h' => h (List.mem_cons_of_mem _ h')), Array.getElem?_setIfInBounds_ne hne]
theorem fillT_near : ∀ (ds : List (Option Tmp)) (vs : List Value) (t : Array Value) (j x : Nat) (v : Value), ds.Nodup → (∀ d ∈ ds, ∃ k, d = some k) → ds[j]? = some (some x) → vs[j]? = some v → x < t.size → (fillT ds vs t)[x]? = some v
  | [], _, _, _, _, _, _, _, h, _, _ => by simp at h
  | none :: ds, _, _, _, _, _, _, h, _, _, _ => by
    obtain ⟨k, hk⟩ := h none List.mem_cons_self
    cases hk
  | some k :: ds, [], _, _, _, _, _, _, _, h, _ => by simp at h
  | some k :: ds, u :: vs, t, 0, x, v, hn, _, hd, hv, hx => by
    show (fillT ds vs (t.setIfInBounds k u))[x]? = _
    simp at hd hv
    subst hd hv
    rw [fillT_far ds vs _ k (List.nodup_cons.1 hn).1, Array.getElem?_setIfInBounds_self_of_lt hx]
  | some k :: ds, u :: vs, t, j + 1, x, v, hn, ha, hd, hv, hx => by
    show (fillT ds vs (t.setIfInBounds k u))[x]? = _
    exact fillT_near ds vs _ j x v (List.nodup_cons.1 hn).2 (fun d h => ha d (List.mem_cons_of_mem _ h)) (by simpa using hd) (by simpa using hv) (by rw [Array.size_setIfInBounds]; exact hx)

/-- When all heads have come up: their slots, one behind the other. -/
theorem OrdInv.all_ {a : Act} {w : World} (hB : ordB md ops n base.tmps.size = true) {ds : List (Option Tmp)} (hds : (List.range n).map (dstOf ops) = ds)
    (J : OrdInv md ops C T L n base (Array.replicate n true ++ Array.replicate m false) a w) :
    ∃ vs : List Value, vs.length = n ∧ a = { tmps := fillT ds vs base.tmps, defers := base.defers } ∧ C w ∧ (∀ i, i < n → (slotAt L i).p (vs.getD i undef) w) ∧
      (∀ i j, i < n → j < n → i ≠ j → (slotAt L i).new = true → (slotAt L j).new = true → ∀ p q, vs.getD i undef = .pointer (some ⟨p, 0, none⟩) → vs.getD j undef = .pointer (some ⟨q, 0, none⟩) → p ≠ q) := by
  have lst : ∀ i, i < n → (Array.replicate n true ++ Array.replicate m false).getD i false = true := fun i hi => by
    have h1 : i < (Array.replicate n true ++ Array.replicate m false).size := by simp; omega
    have h2 : (Array.replicate n true ++ Array.replicate m false)[i] = true := by rw [Array.getElem_append_left (by simpa using hi)]; simp
    simp only [Array.getD, h1, dite_true]
    exact h2
  have hx : ∀ i, i < n → ∃ v, ∀ k, dstOf ops i = some k → a.tmps[k]? = some v ∧ (slotAt L i).p v w := fun i hi => by
    obtain ⟨o, k, ho, hk, _⟩ := ordB_at hB hi
    have hd : dstOf ops i = some k := by unfold dstOf; rw [ho]; exact hk
    obtain ⟨v, h1, h2⟩ := J.near i hi (lst i hi) k hd
    exact ⟨v, fun k' hk' => by
      have : k = k' := Option.some.inj (hd.symm.trans hk')
      subst this
      exact ⟨h1, h2⟩⟩
  obtain ⟨q, hq⟩ := Go.Deep.choose_lt hx
  have hdst : ∀ i, i < n → ∃ k, dstOf ops i = some k ∧ k < base.tmps.size := fun i hi => by
    obtain ⟨o, k, ho, hk, hks, _⟩ := ordB_at hB hi
    exact ⟨k, by unfold dstOf; rw [ho]; exact hk, hks⟩
  have hget : ∀ i, i < n → ((List.range n).map q).getD i undef = q i := fun i hi => by
    rw [List.getD_eq_getElem?_getD, List.getElem?_map, List.getElem?_range hi]
    rfl
  refine ⟨(List.range n).map q, by simp, ?_, J.cls, fun i hi => ?_, fun i j hi hj hne hni hnj p r hp hr => ?_⟩
  · obtain ⟨t, D⟩ := a
    have hD : D = base.defers := J.defers
    subst hD
    congr 1
    have hnd : ((List.range n).map (dstOf ops)).Nodup := by
      rw [List.nodup_iff_pairwise_ne, List.pairwise_map]
      refine List.Pairwise.imp_of_mem ?_ (List.nodup_iff_pairwise_ne.1 List.nodup_range)
      intro i j hi hj hne he
      have hi := List.mem_range.1 hi
      have hj := List.mem_range.1 hj
      obtain ⟨o, k, ho, hk, _, hdis, _⟩ := ordB_at hB hi
      exact hdis j hj (Ne.symm hne) (by rw [← he]; unfold dstOf; rw [ho]; exact hk)
    have hall : ∀ d ∈ (List.range n).map (dstOf ops), ∃ k, d = some k := by
      intro d hd
      obtain ⟨i, hi, rfl⟩ := List.mem_map.1 hd
      obtain ⟨k, hk, _⟩ := hdst i (List.mem_range.1 hi)
      exact ⟨k, hk⟩
    rw [← hds]
    apply Array.ext_getElem?
    intro x
    by_cases hxx : ∃ i, i < n ∧ dstOf ops i = some x
    · obtain ⟨i, hi, hd⟩ := hxx
      obtain ⟨k, hk, hks⟩ := hdst i hi
      have : k = x := Option.some.inj (hk.symm.trans hd)
      subst this
      rw [fillT_near _ _ _ i k (q i) hnd hall (by rw [List.getElem?_map, List.getElem?_range hi]; simp [hd]) (by rw [List.getElem?_map, List.getElem?_range hi]; rfl) hks]
      exact (hq i hi k hd).1
    · rw [fillT_far _ _ _ x (fun h => by
        obtain ⟨i, hi, hd⟩ := List.mem_map.1 h
        exact hxx ⟨i, List.mem_range.1 hi, hd⟩)]
      exact J.far x fun i hi hd => hxx ⟨i, hi, hd⟩
  · obtain ⟨k, hk, _⟩ := hdst i hi
    rw [hget i hi]
    exact (hq i hi k hk).2
  · obtain ⟨k, hk, _⟩ := hdst i hi
    obtain ⟨l, hl, _⟩ := hdst j hj
    rw [hget i hi] at hp
    rw [hget j hj] at hr
    exact J.apart i j hi hj hne (lst i hi) (lst j hj) hni hnj k l p r hk hl (by rw [(hq i hi k hk).1, hp]) (by rw [(hq j hj l hl).1, hr])

/-! ### One operation that the tail does not wait for -/
/-- As 'sinkB', but of operation d: nothing of the tail's first waits for it. -/
def sinkL (md : Region.Mode) (ops : Array Oper) (n d : Nat) : Bool :=
  (List.range n).all fun i => i == d || (List.range (n + 1)).any fun j => decide (i < j) && (j != d && Region.waitsFor md ops j i)
theorem tail_waits_late {d : Nat} {listed : Array Bool} (hs : sinkL md ops n d = true) (hc : Region.chainB md ops n = true) (hn : n < ops.size) (inv : HeadInv md ops n listed) :
    ∀ (x i : Nat), n - i = x → i < n → i ≠ d → listed.getD i true = false → ∀ t, n ≤ t → t ∉ Region.ready md ops listed := by
  intro x
  induction x using Nat.strongRecOn with
  | _ x ih =>
    intro i hd hi hid hun t ht hr
    obtain ⟨_, ot, hot, hall⟩ := mem_ready.1 hr
    have htlt : t < ops.size := (Array.getElem?_eq_some_iff.1 hot).1
    by_cases htn : t = n
    · subst htn
      have h1 := List.all_eq_true.1 hs i (List.mem_range.2 hi)
      simp only [Bool.or_eq_true, beq_iff_eq] at h1
      rcases h1 with h1 | h1
      · exact absurd h1 hid
      obtain ⟨j, hj, hj2⟩ := List.any_eq_true.1 h1
      simp only [Bool.and_eq_true, decide_eq_true_eq, bne_iff_ne] at hj2
      obtain ⟨oj, hoj, e, he, hb, hon⟩ := Region.waitsFor_spec hj2.2.2
      have hjle : j ≤ t := by have := List.mem_range.1 hj; omega
      by_cases hjt : j = t
      · subst hjt
        have : oj = ot := Option.some.inj (hoj.symm.trans hot)
        subst this
        have h2 := hall e he hb
        rw [hon, getD_both hun] at h2
        cases h2
      · cases hl : listed.getD j false with
        | true =>
          have h2 := inv.closed j oj hoj hl e he hb
          rw [hon, getD_both hun] at h2
          cases h2
        | false =>
          have hjs : j < listed.size := by rw [inv.size]; omega
          exact ih (t - j) (by omega) j rfl (by omega) hj2.2.1 (getD_in hjs hl) t (Nat.le_refl _) hr
    · have h1 := List.all_eq_true.1 hc t (List.mem_range.2 htlt)
      simp only [Bool.or_eq_true, decide_eq_true_eq] at h1
      rcases h1 with h1 | h1
      · omega
      · obtain ⟨o', ho', e, he, hb, hon⟩ := Region.waitsFor_spec h1
        have : o' = ot := Option.some.inj (ho'.symm.trans hot)
        subst this
        have h2 := hall e he hb
        rw [hon, getD_both (inv.tail (t - 1) (by omega) (by omega))] at h2
        cases h2

theorem some_ready (hB : ordB md ops n base.tmps.size = true) {listed : Array Bool} (hsz : listed.size = ops.size) (hn : n < ops.size) : ∀ i, i < n → listed.getD i true = false → ∃ j, j ∈ Region.ready md ops listed := by
  intro i
  induction i using Nat.strongRecOn with
  | _ i ihi =>
    intro hi hu
    obtain ⟨o, k, ho, _, _, _, _, hback⟩ := ordB_at hB hi
    by_cases hd : ∀ e ∈ o.after, Region.binds md e = true → listed.getD e.on false = true
    · exact ⟨i, mem_ready.2 ⟨hu, o, ho, hd⟩⟩
    · obtain ⟨e, he⟩ : ∃ e, ¬ (e ∈ o.after → Region.binds md e = true → listed.getD e.on false = true) := by
        by_cases h : ∃ e, ¬ (e ∈ o.after → Region.binds md e = true → listed.getD e.on false = true)
        · exact h
        · exact absurd (fun e he hb => by
            by_cases h2 : listed.getD e.on false = true
            · exact h2
            · exact absurd ⟨e, fun h3 => h2 (h3 he hb)⟩ h) hd
      have he1 : e ∈ o.after := by
        by_cases h : e ∈ o.after
        · exact h
        · exact absurd (fun h' => absurd h' h) he
      have he2 : Region.binds md e = true := by
        by_cases h : Region.binds md e = true
        · exact h
        · exact absurd (fun _ h' => absurd h' h) he
      have he3 : listed.getD e.on false = false := by
        cases h : listed.getD e.on false with
        | false => rfl
        | true => exact absurd (fun _ _ => h) he
      have hlt := hback e he1 he2
      exact ihi e.on hlt (by omega) (getD_in (by rw [hsz]; omega) he3)

theorem ord_late {Q : Exit → Act → World → Prop} {d : Nat} (hT : ∀ w w', T w w' → w.heap.size ≤ w'.heap.size) (hB : ordB md ops n base.tmps.size = true) (hs : sinkL md ops n d = true) (hc : Region.chainB md ops n = true) (hnm : ops.size = n + m) (hm : 0 < m)
    (hob : ∀ i, i < n → ordOb P md ops C T L n base i)
    (done : ∀ f listed a w, OrdInv md ops C T L n base listed a w → (∀ i, i < n → i ≠ d → listed.getD i true = true) → (List.range n).countP (fun i => !listed.getD i true) = f → wpAny P md ops Q (f + m) listed a w) :
    ∀ (f : Nat) (listed : Array Bool) (a : Act) (w : World), OrdInv md ops C T L n base listed a w → (List.range n).countP (fun i => !listed.getD i true) = f → wpAny P md ops Q (f + m) listed a w := by
  intro f
  induction f with
  | zero =>
    intro listed a w J hcnt
    exact done 0 listed a w J (fun i hi _ => by
      have := List.countP_eq_zero.1 hcnt i (List.mem_range.2 hi)
      simpa using this) hcnt
  | succ f ih =>
    intro listed a w J hcnt
    by_cases hex : ∃ i, i < n ∧ i ≠ d ∧ listed.getD i true = false
    · obtain ⟨i0, hi0, hd0, hu0⟩ := hex
      have hn : n < ops.size := by omega
      have hsmall : ∀ t ∈ Region.ready md ops listed, t < n := fun t ht => by
        rcases Nat.lt_or_ge t n with h | h
        · exact h
        · exact absurd ht (tail_waits_late hs hc hn J.head _ i0 rfl hi0 hd0 hu0 t h)
      have hready : Region.ready md ops listed ≠ [] := by
        obtain ⟨j, hj⟩ := some_ready hB J.head.size hn i0 hi0 hu0
        intro h
        rw [h] at hj
        cases hj
      rw [show f + 1 + m = (f + m) + 1 from by omega]
      refine ⟨fun h => absurd h hready, fun i hi => ?_⟩
      refine J.step hT hB hob (hsmall i hi) hi fun a' w' J' => ih _ a' w' J' ?_
      have hun := (mem_ready.1 hi).1
      have hsz : i < listed.size := by rw [J.head.size]; have := hsmall i hi; omega
      have := countP_set (l := List.range n) (p := fun i => !listed.getD i true) (q := fun j => !(listed.setIfInBounds i true).getD j true) (i := i) List.nodup_range (List.mem_range.2 (hsmall i hi)) (by simp only [hun]; rfl) (by simp only [getD_set_self hsz]; rfl) (fun j hj => by simp only [getD_set_ne true (Ne.symm hj)])
      omega
    · exact done (f + 1) listed a w J (fun i hi hd => by
        cases hl : listed.getD i true with
        | true => rfl
        | false => exact absurd ⟨i, hi, hd, hl⟩ hex) hcnt

/-- All heads but one have come up. -/
def lackArr (n m d : Nat) : Array Bool := (Array.replicate n true).setIfInBounds d false ++ Array.replicate m false
theorem wp_region_ord1 {id : Nat} {Q : Exit → Act → World → Prop} {w : World} {l : List Oper} (C : World → Prop) (T : World → World → Prop) (L : List (Slot T)) (n m d : Nat) (hd : d < n) (hm : P.follows .mixedOrders = true) (hT : ∀ w w', T w w' → w.heap.size ≤ w'.heap.size) (hB : ordB .any l.toArray n base.tmps.size = true)
    (hs : sinkL .any l.toArray n d = true) (hc : Region.chainB .any l.toArray n = true) (hnm : l.toArray.size = n + m) (hm0 : 0 < m) (hC : C w.drew)
    (hob : ∀ i, i < n → ordOb P .any l.toArray C T L n base i)
    (done : ∀ a w, OrdInv .any l.toArray C T L n base (Array.replicate n true ++ Array.replicate m false) a w → wpAny P .any l.toArray Q m (Array.replicate n true ++ Array.replicate m false) a w)
    (done1 : ∀ a w, OrdInv .any l.toArray C T L n base (lackArr n m d) a w → wpAny P .any l.toArray Q (1 + m) (lackArr n m d) a w) :
    (Code.region id l.toArray true).wp P Q base w := by
  refine wp_region_any hm ?_
  have h0 : (List.range n).countP (fun i => !(Array.replicate l.toArray.size false).getD i true) = n := by
    have : (List.range n).countP (fun i => !(Array.replicate l.toArray.size false).getD i true) = (List.range n).length := by
      rw [List.countP_eq_length]
      intro i hi
      have hi := List.mem_range.1 hi
      have hi2 : i < l.toArray.size := by omega
      have hi3 : i < l.length := by simpa using hi2
      simp [hi3]
    rw [this, List.length_range]
  have J : OrdInv .any l.toArray C T L n base (Array.replicate l.toArray.size false) base w.drew := by
    refine ⟨hC, ⟨by simp, fun j oj _ hl => ?_, fun t ht htl => ?_⟩, rfl, rfl, fun k _ => rfl, fun i hi hl => ?_, fun i hi hl => ?_, fun i j _ _ _ hl => ?_⟩
    · rw [getD_replicate_false] at hl; cases hl
    · have ht3 : t < l.length := by simpa using htl
      simp [ht3]
    · rw [getD_replicate_false] at hl; cases hl
    · rw [getD_replicate_false] at hl; cases hl
    · rw [getD_replicate_false] at hl; cases hl
  have h := ord_late (Q := Q) (d := d) hT hB hs hc hnm hm0 hob (fun f listed a w J hall hcnt => by
    have tl : ∀ i (h1 : i < listed.size), n ≤ i → listed[i] = false := fun i h1 hi => by
      have := J.head.tail i hi (by rw [← J.head.size]; exact h1)
      simpa [h1] using this
    have hdl : d < listed.size := by rw [J.head.size]; omega
    cases hl : listed.getD d true with
    | true =>
      have hall' : ∀ i, i < n → listed.getD i true = true := fun i hi => by
        by_cases e : i = d
        · rw [e]; exact hl
        · exact hall i hi e
      have he : listed = Array.replicate n true ++ Array.replicate m false := by
        apply Array.ext
        · rw [J.head.size, hnm]; simp
        · intro i h1 h2
          rw [Array.getElem_append]
          split
          · next h =>
            have hi : i < n := by simpa using h
            have := hall' i hi
            simp [h1] at this
            simp [this]
          · next h =>
            have hi : n ≤ i := by simpa using h
            rw [tl i h1 hi]
            simp
      have hf : f = 0 := by
        rw [← hcnt, List.countP_eq_zero]
        intro i hi
        rw [hall' i (List.mem_range.1 hi)]
        simp
      subst he hf
      rw [Nat.zero_add]
      exact done a w J
    | false =>
      have he : listed = lackArr n m d := by
        unfold lackArr
        apply Array.ext
        · rw [J.head.size, hnm]; simp
        · intro i h1 h2
          rw [Array.getElem_append]
          split
          · next h =>
            have hi : i < n := by simpa using h
            by_cases e : i = d
            · subst e
              simp [h1] at hl
              simp [hl]
            · have := hall i hi e
              simp [h1] at this
              rw [this, Array.getElem_setIfInBounds_ne (by simpa using hi) (Ne.symm e)]
              simp
          · next h =>
            have hi : n ≤ i := by simpa using h
            rw [tl i h1 hi]
            simp
      have hf : f = 1 := by
        have := countP_set (l := List.range n) (p := fun i => !listed.getD i true) (q := fun j => if j < n then false else !listed.getD j true) (i := d) List.nodup_range (List.mem_range.2 hd) (by simp only [hl]; rfl) (by simp only [hd, if_true]) (fun j hj => by
          by_cases hjn : j < n
          · simp only [hjn, if_true]
            rw [hall j hjn hj]
            rfl
          · simp only [hjn, if_false])
        rw [← hcnt, this]
        have hz : (List.range n).countP (fun j => if j < n then false else !listed.getD j true) = 0 := by
          rw [List.countP_eq_zero]
          intro i hi
          simp [List.mem_range.1 hi]
        rw [hz]
      subst he hf
      exact done1 a w J) n _ base w.drew J h0
  rw [← hnm] at h
  exact h
/-- When some heads have come up: their slots, one behind the other. -/
theorem OrdInv.some_ {listed : Array Bool} {a : Act} {w : World} (hB : ordB md ops n base.tmps.size = true) {ds : List (Option Tmp)} (hds : (List.range n).map (dstOf ops) = ds)
    (J : OrdInv md ops C T L n base listed a w) :
    ∃ vs : List Value, vs.length = n ∧ a = { tmps := fillT ds vs base.tmps, defers := base.defers } ∧ C w ∧ (∀ i, i < n → listed.getD i false = true → (slotAt L i).p (vs.getD i undef) w) ∧
      (∀ i j, i < n → j < n → i ≠ j → listed.getD i false = true → listed.getD j false = true → (slotAt L i).new = true → (slotAt L j).new = true → ∀ p q, vs.getD i undef = .pointer (some ⟨p, 0, none⟩) → vs.getD j undef = .pointer (some ⟨q, 0, none⟩) → p ≠ q) := by
  have hx : ∀ i, i < n → ∃ v, ∀ k, dstOf ops i = some k → a.tmps[k]? = some v ∧ (listed.getD i false = true → (slotAt L i).p v w) := fun i hi => by
    obtain ⟨o, k, ho, hk, hks, _⟩ := ordB_at hB hi
    have hd : dstOf ops i = some k := by unfold dstOf; rw [ho]; exact hk
    by_cases hl : listed.getD i false = true
    · obtain ⟨v, h1, h2⟩ := J.near i hi hl k hd
      exact ⟨v, fun k' hk' => by
        have : k = k' := Option.some.inj (hd.symm.trans hk')
        subst this
        exact ⟨h1, fun _ => h2⟩⟩
    · exact ⟨a.tmps[k]'(by rw [J.size]; exact hks), fun k' hk' => by
        have : k = k' := Option.some.inj (hd.symm.trans hk')
        subst this
        exact ⟨Array.getElem?_eq_getElem _, fun h => absurd h hl⟩⟩
  obtain ⟨q, hq⟩ := Go.Deep.choose_lt hx
  have hdst : ∀ i, i < n → ∃ k, dstOf ops i = some k ∧ k < base.tmps.size := fun i hi => by
    obtain ⟨o, k, ho, hk, hks, _⟩ := ordB_at hB hi
    exact ⟨k, by unfold dstOf; rw [ho]; exact hk, hks⟩
  have hget : ∀ i, i < n → ((List.range n).map q).getD i undef = q i := fun i hi => by
    rw [List.getD_eq_getElem?_getD, List.getElem?_map, List.getElem?_range hi]
    rfl
  refine ⟨(List.range n).map q, by simp, ?_, J.cls, fun i hi hl => ?_, fun i j hi hj hne hl1 hl2 hni hnj p r hp hr => ?_⟩
  · obtain ⟨t, D⟩ := a
    have hD : D = base.defers := J.defers
    subst hD
    congr 1
    have hnd : ((List.range n).map (dstOf ops)).Nodup := by
      rw [List.nodup_iff_pairwise_ne, List.pairwise_map]
      refine List.Pairwise.imp_of_mem ?_ (List.nodup_iff_pairwise_ne.1 List.nodup_range)
      intro i j hi hj hne he
      have hi := List.mem_range.1 hi
      have hj := List.mem_range.1 hj
      obtain ⟨o, k, ho, hk, _, hdis, _⟩ := ordB_at hB hi
      exact hdis j hj (Ne.symm hne) (by rw [← he]; unfold dstOf; rw [ho]; exact hk)
    have hall : ∀ d ∈ (List.range n).map (dstOf ops), ∃ k, d = some k := by
      intro d hd
      obtain ⟨i, hi, rfl⟩ := List.mem_map.1 hd
      obtain ⟨k, hk, _⟩ := hdst i (List.mem_range.1 hi)
      exact ⟨k, hk⟩
    rw [← hds]
    apply Array.ext_getElem?
    intro x
    by_cases hxx : ∃ i, i < n ∧ dstOf ops i = some x
    · obtain ⟨i, hi, hd⟩ := hxx
      obtain ⟨k, hk, hks⟩ := hdst i hi
      have : k = x := Option.some.inj (hk.symm.trans hd)
      subst this
      rw [fillT_near _ _ _ i k (q i) hnd hall (by rw [List.getElem?_map, List.getElem?_range hi]; simp [hd]) (by rw [List.getElem?_map, List.getElem?_range hi]; rfl) hks]
      exact (hq i hi k hd).1
    · rw [fillT_far _ _ _ x (fun h => by
        obtain ⟨i, hi, hd⟩ := List.mem_map.1 h
        exact hxx ⟨i, List.mem_range.1 hi, hd⟩)]
      exact J.far x fun i hi hd => hxx ⟨i, hi, hd⟩
  · obtain ⟨k, hk, _⟩ := hdst i hi
    rw [hget i hi]
    exact (hq i hi k hk).2 hl
  · obtain ⟨k, hk, _⟩ := hdst i hi
    obtain ⟨l, hl, _⟩ := hdst j hj
    rw [hget i hi] at hp
    rw [hget j hj] at hr
    exact J.apart i j hi hj hne hl1 hl2 hni hnj k l p r hk hl (by rw [(hq i hi k hk).1, hp]) (by rw [(hq j hj l hl).1, hr])
end
end Go.Proofs.Ytkhmbkofkdnlkaa
