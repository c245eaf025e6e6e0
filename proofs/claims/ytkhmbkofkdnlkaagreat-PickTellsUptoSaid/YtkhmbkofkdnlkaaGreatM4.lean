/-
  Several texts in one: The document's own answer to chapter 15, part 3: Pick.
  The law PickTells, ahead of its walk: files alike, lent, stays; rows of numbers that are the same.
  The book of lists, Reals: are they as they were? Marks are put into them. (Written by wip/gen/gen_bk.py.)
  The book of lists, Reals: all are grown; do all bear their marks? (Written by wip/gen/gen_bk.py.)
  The book of lists, of any kind: what is kept; one more. No program is named.
  The book of lists, Reals: one more is kept. (Written by wip/gen/gen_bk.py.)
  The book of lists, Ints: are they as they were? Marks are put into them. (Written by wip/gen/gen_bk.py.)
  The book of lists, Ints: all are grown; do all bear their marks? (Written by wip/gen/gen_bk.py.)
  The book of lists, Ints: one more is kept. (Written by wip/gen/gen_bk.py.)
-/
import Derived.Test.YtkhmbkofkdnlkaaGreatM3
import Derived.BigQuiet
import Derived.LoopTactic
import Derived.Test.YtkhmbkofkdnlkaaGreatM2
import Derived.DeepKeys
import Derived.Deep.RegionHeld3
import Derived.Deep.RegionLaw
import Derived.Test.YtkhmbkofkdnlkaaGreatM1
namespace Go.Proofs.YtkhmbkofkdnlkaaGreat
open Go.RowKit

def bestI : Option Nat → Int
  | none => -1
  | some b => (b : Int)
theorem minP_snoc (M : List FileM) (f : FileM) : minP (M ++ [f]) = match minP M with | [] => [f] | m :: _ => if f.nu < m.nu then [f] else [m] := by
  cases M with
  | nil => rfl
  | cons x r =>
    show [minFrom x (r ++ [f])] = if f.nu < (minFrom x r).nu then [f] else [minFrom x r]
    rw [minFrom_snoc]
    split <;> rfl
theorem minP_nil {M : List FileM} : minP M = [] ↔ M = [] := by cases M <;> simp [minP]
theorem minP_len (M : List FileM) : (minP M).length ≤ 1 := by cases M <;> simp [minP]
theorem dueP_mem {L : List FileM} {lv : Int} {f : FileM} (h : f ∈ dueP L lv) : f ∈ L := by
  unfold dueP at h
  have mf : ∀ (r : List FileM) (x : FileM), minFrom x r ∈ x :: r := by
    intro r
    induction r with
    | nil => intro x; simp [minFrom]
    | cons y r ih =>
      intro x
      have := ih (if y.nu < x.nu then y else x)
      rw [minFrom]
      rcases List.mem_cons.1 this with h1 | h1
      · rw [h1]; split <;> simp
      · exact List.mem_cons_of_mem _ (List.mem_cons_of_mem _ h1)
  split at h
  · exact (List.mem_filter.1 h).1
  · cases hM : ofP L lv with
    | nil => rw [hM] at h; cases h
    | cons x r =>
      rw [hM] at h
      have h1 : f ∈ ofP L lv := by
        rw [hM]
        have : f = minFrom x r := by simpa [minP] using h
        rw [this]; exact mf r x
      exact (List.mem_filter.1 h1).1
theorem dueP_skip {A : List FileM} {f : FileM} {lv : Int} (h : f.lv ≠ lv) : dueP (A ++ [f]) lv = dueP A lv := by
  unfold dueP
  rw [ofP_snoc, if_neg h]
theorem dueP_zero {A : List FileM} {f : FileM} (h : f.lv = 0) : dueP (A ++ [f]) 0 = dueP A 0 ++ [f] := by
  unfold dueP
  rw [if_pos rfl, if_pos rfl, ofP_snoc, if_pos h]
theorem dueP_next {A : List FileM} {f : FileM} {lv : Int} (h : f.lv = lv) (h0 : lv ≠ 0) : dueP (A ++ [f]) lv = match dueP A lv with | [] => [f] | m :: _ => if f.nu < m.nu then [f] else [m] := by
  unfold dueP
  rw [if_neg h0, if_neg h0, ofP_snoc, if_pos h, minP_snoc]
theorem dueP_one {A : List FileM} {lv : Int} (h0 : lv ≠ 0) {m : FileM} {r : List FileM} (h : dueP A lv = m :: r) : r = [] := by
  unfold dueP at h
  rw [if_neg h0] at h
  have := minP_len (ofP A lv)
  rw [h] at this
  cases r with
  | nil => rfl
  | cons y r => simp at this
theorem firstP_size {N : Nat} : ∀ (D : List FileM) (s : ByteArray), s.size ≤ N → (∀ f ∈ D, f.fi.size ≤ N) → (firstP s D).size ≤ N
  | [], s, h, _ => h
  | f :: r, s, h, g => firstP_size r _ (by split <;> first | exact g f (by simp) | exact h) (fun x hx => g x (List.mem_cons_of_mem _ hx))
theorem lastP_size {N : Nat} : ∀ (D : List FileM) (s : ByteArray), s.size ≤ N → (∀ f ∈ D, f.la.size ≤ N) → (lastP' s D).size ≤ N
  | [], s, h, _ => h
  | f :: r, s, h, g => lastP_size r _ (by split <;> first | exact g f (by simp) | exact h) (fun x hx => g x (List.mem_cons_of_mem _ hx))
set_option maxRecDepth 100000 in
set_option maxHeartbeats 8000000 in
theorem qpick_any (A : Option Addr) (n c : Nat) (L : List FileM) (base ratio : Nat) (w : World) (hI : FilesAt w A n L) (hn : n ≤ 1000000) (hok : ∀ f ∈ L, FileOk f) :
    Calls Tryz.prog 9 #[.slice A n c, .float .f64 base, .float .f64 ratio] w (PickP L base ratio w) := by
  have CS := Lib.hid (qscores_any A n c L base ratio w hI hn)
  have HI := Lib.hid hI
  have HLn := Lib.hid hI.len
  have HOK := Lib.hid hok
  obtain ⟨full, hfull⟩ : ∃ full, fullP (scoresP L base ratio) 6 = full := ⟨_, rfl⟩
  have HF : Hid (∀ S, SameL S (scoresP L base ratio) → fullP S 6 = full) := Lib.hid fun S h => by rw [fullP_same h, hfull]
  have HR0 : Hid (full = none → ∀ e w', w.grownBy w' none → e = .returned (.tuple #[.int .i64 0, .slice none 0 0, .bool false]) → PickP L base ratio w e w') := Lib.hid fun h e w' h1 h2 => by
    refine ⟨h1, ?_⟩
    rw [hfull, h]
    exact h2
  have HR1 : Hid (∀ b, full = some b → ∀ e w', w.grownBy w' none → (∃ v, e = .returned (.tuple #[.int .i64 (b : Int), v, .bool true]) ∧ Own elInts w' w.heap.size 3 v (picksP L (b : Int))) → PickP L base ratio w e w') := Lib.hid fun b h e w' h1 h2 => by
    refine ⟨h1, ?_⟩
    rw [hfull, h]
    exact h2
  have HNE : Hid (∀ b, full = some b → b < 6 ∧ ofP L (b : Int) ≠ []) := Lib.hid fun b h => full_has (SameL.refl _) (hfull.trans h)
  generalize scoresP L base ratio = TS at *
  clear hI hok hfull
  go_enter Tryz.func9, Tryz.ntmps9
  go_wp2_with fail
  refine CS.out.mono ?_
  rintro e w1 ⟨g, cc, S, rfl, ho, hs, _, hg⟩
  have HO := Lib.hid ho
  have HG := Lib.hid hg
  have hf6 := HF.out S hs
  have hlen := (own_reads ho).1
  have HLS := Lib.hid hlen
  obtain ⟨fu, hfu⟩ : ∃ fu, fu = fullP S := ⟨_, rfl⟩
  have F0 : Hid (fu 0 = none) := Lib.hid (by rw [hfu]; rfl)
  have F1 : Hid (∀ k, fu (k + 1) = if (geF (S.getD k 0) oneW && overP0 S (S.getD k 0) (fu k)) = true then some k else fu k) := Lib.hid (by rw [hfu]; intro k; rfl)
  have FL : Hid (∀ k b, fu k = some b → b < k) := Lib.hid fun k b h => (fullP_lt (by rw [hfu] at h; exact h)).1
  have F6 : Hid (fu 6 = full) := Lib.hid (by rw [hfu]; exact hf6)
  clear ho hs hg hf6 hlen hfu HF CS
  go_wp2_with fail
  go_loopw [10, 11] (fun l i wr => ∃ (k q : Nat), k ≤ 6 ∧ i = .int .i64 (k : Int) ∧ l = .int .i64 (bestI (fu k)) ∧ Hid (wr = w1.drewN q)) (fun _ i _ => 6 - (intOf i).toNat)
  case atStart => exact ⟨0, 0, by omega, rfl, by rw [F0.out]; rfl, Lib.hid rfl⟩
  case round =>
    obtain ⟨k, q, hk, rfl, rfl, HW⟩ := hrel
    by_cases hl : k < 6
    · have g1 : (k : Int) < 6 := by omega
      have g2 : (0 : Int) ≤ (k : Int) := Int.natCast_nonneg k
      have w1' := wrap_sucP hl (by decide)
      have hkS : k < S.length := by rw [← HLS.out]; exact hl
      have x0' := own_cellR (j := k) HO.out (List.getElem?_eq_getElem hkS)
      have x0 : wr.cell? ⟨g, k, none⟩ = _ := (congrArg (fun W => World.cell? W ⟨g, k, none⟩) HW.out).trans x0'
      have hF1 := F1.out k
      have hgd : S.getD k 0 = S[k] := by rw [List.getD_eq_getElem?_getD, List.getElem?_eq_getElem hkS]; rfl
      rw [hgd] at hF1
      generalize S[k] = x at *
      obtain ⟨nx, hnx⟩ : ∃ nx, fu (k + 1) = nx := ⟨_, rfl⟩
      rw [hnx] at hF1
      have HNX := Lib.hid hnx
      obtain ⟨pr, hpr⟩ : ∃ pr, fu k = pr := ⟨_, rfl⟩
      rw [hpr] at hF1 ⊢
      have HPR := Lib.hid hpr
      clear x0' hnx hpr
      cases hg : geF x oneW with
      | false =>
        have o1 : (FloatKind.f64.format.order x 4607182418800017408 == some .gt || FloatKind.f64.format.order x 4607182418800017408 == some .eq) = false := hg
        rw [hg, Bool.false_and, if_neg Bool.false_ne_true] at hF1
        have HF2 := Lib.hid hF1
        clear hF1 hgd hkS hg
        go_wp2_with fail
        go_quiet (fail)
        go_wp2_with fail
        go_roundw
        case rel => exact ⟨k + 1, _, hl, by go_num, by rw [HNX.out, HF2.out], Lib.hid (by rw [HW.out, World.drewN_drewN])⟩
        case measure => exact meas_ltP hl
      | true =>
        have o1 : (FloatKind.f64.format.order x 4607182418800017408 == some .gt || FloatKind.f64.format.order x 4607182418800017408 == some .eq) = true := hg
        rw [hg, Bool.true_and] at hF1
        cases pr with
        | none =>
          rw [show overP0 S x none = true from rfl, if_pos rfl] at hF1
          have HF2 := Lib.hid hF1
          have t1 : decide (bestI none < 0) = true := by decide
          simp only [bestI] at t1 ⊢
          clear hF1 hgd hkS hg
          go_wp2_with fail
          go_quiet (fail)
          go_wp2_with fail
          go_roundw
          case rel => exact ⟨k + 1, _, hl, by go_num, by rw [HNX.out, HF2.out], Lib.hid (by rw [HW.out, World.drewN_drewN])⟩
          case measure => exact meas_ltP hl
        | some b =>
          have hbk := FL.out k b HPR.out
          have hbS : b < S.length := by omega
          have y0' := own_cellR (j := b) HO.out (List.getElem?_eq_getElem hbS)
          have y0 : wr.cell? ⟨g, b, none⟩ = _ := (congrArg (fun W => World.cell? W ⟨g, b, none⟩) HW.out).trans y0'
          have hbd : S.getD b 0 = S[b] := by rw [List.getD_eq_getElem?_getD, List.getElem?_eq_getElem hbS]; rfl
          rw [show overP0 S x (some b) = gtF x (S.getD b 0) from rfl, hbd] at hF1
          generalize S[b] = y at *
          have g5 : (b : Int) < 6 := by omega
          have g6 : (0 : Int) ≤ (b : Int) := Int.natCast_nonneg b
          have t1 : decide ((b : Int) < 0) = false := decide_eq_false (by omega)
          simp only [bestI] at *
          cases hgt : gtF x y with
          | true =>
            have o2 : (FloatKind.f64.format.order x y == some .gt) = true := hgt
            rw [hgt, if_pos rfl] at hF1
            have HF2 := Lib.hid hF1
            clear hF1 hgd hkS hg hgt hbd hbS hbk y0'
            go_wp2_with fail
            go_quiet (fail)
            go_wp2_with fail
            go_roundw
            case rel => exact ⟨k + 1, _, hl, by go_num, by rw [HNX.out, HF2.out], Lib.hid (by rw [HW.out, World.drewN_drewN])⟩
            case measure => exact meas_ltP hl
          | false =>
            have o2 : (FloatKind.f64.format.order x y == some .gt) = false := hgt
            rw [hgt, if_neg Bool.false_ne_true] at hF1
            have HF2 := Lib.hid hF1
            clear hF1 hgd hkS hg hgt hbd hbS hbk y0'
            go_wp2_with fail
            go_quiet (fail)
            go_wp2_with fail
            go_roundw
            case rel => exact ⟨k + 1, _, hl, by go_num, by rw [HNX.out, HF2.out], Lib.hid (by rw [HW.out, World.drewN_drewN])⟩
            case measure => exact meas_ltP hl
    · obtain rfl : k = 6 := by omega
      rw [F6.out]
      have HGW : Hid (w.grownBy wr none) := Lib.hid (by rw [HW.out]; exact only_drewN HG.out _)
      clear HW F0 F1 FL F6 HO HLS HG
      cases full with
      | none =>
        simp only [bestI]
        go_wp2_with fail
        go_ret3
        exact HR0.out trivial _ _ HGW.out rfl
      | some b =>
        obtain ⟨hb6, hne⟩ := HNE.out b rfl
        have HR1b := Lib.hid (HR1.out b rfl)
        clear HR1 HNE
        simp only [bestI]
        by_cases hb : b = 0
        · subst hb
          have hne : ofP L 0 ≠ [] := hne
          have CC := Lib.hid (qcount_any A n c L 0 wr (HI.out.below (below_g HGW.out)) hn)
          have hpos : ((ofP L 0).length : Int) ≠ 0 := fun h => hne (List.eq_nil_of_length_eq_zero (by omega))
          have t0 : (((ofP L 0).length : Int) == 0) = false := beq_eq_false_iff_ne.2 hpos
          generalize (ofP L 0).length = m0 at *
          clear hpos HR0
          go_wp2_with fail
          refine CC.out.mono ?_
          rintro e w2 ⟨rfl, rfl⟩
          clear CC
          go_wp2_with fail
          clear t0
          go_loopw [12, 13] (fun v i wr' => ∃ (k : Nat), k ≤ n ∧ i = .int .i64 (k : Int) ∧ Hid (Own elFl wr' w.heap.size 57 v (dueP (L.take k) 0)) ∧ Hid (w.grownBy wr' none)) (fun _ i _ => n - (intOf i).toNat)
          case atStart => exact ⟨0, by omega, rfl, Lib.hid (by rw [show dueP (L.take 0) 0 = [] from by unfold dueP ofP; rw [List.take_zero]; split <;> rfl]; exact World.ownsRow_nil _ _ _ _), HGW⟩
          case round =>
            obtain ⟨k, hk, rfl, HO, HG⟩ := hrel
            by_cases hl : k < n
            · have g1 : (k : Int) < (n : Int) := Int.ofNat_lt.2 hl
              have g2 : (0 : Int) ≤ (k : Int) := Int.natCast_nonneg k
              have w1' := wrap_sucP hl hn
              have hkL : k < L.length := by rw [← HLn.out]; exact hl
              have hs := List.getElem?_eq_getElem hkL
              generalize L[k] = f at hs
              obtain ⟨gg, off, rfl, hg, y0, y1, y2, y3, y4, y5⟩ := (HI.out.below (below_g HG.out)).at_ k f hs
              have hts := ftake_snoc hs
              obtain ⟨ao, co, eo⟩ := HO.out.slice
              have EO := Lib.hid eo
              clear eo
              by_cases he : f.lv = 0
              · have e1 : (f.lv != 0) = false := by rw [he]; exact bne_self_eq_false _
                have hsn : dueP (L.take (k + 1)) 0 = dueP (L.take k) 0 ++ [f] := by rw [hts, dueP_zero he]
                have hlen : (dueP (L.take k) 0).length ≤ 1000000 := Nat.le_trans (due_len _ _) (by rw [List.length_take]; omega)
                have eo := EO.out
                have hO1 := HO.out
                rw [eo] at hO1
                rw [he] at y0
                obtain ⟨C, hC⟩ : ∃ C, C = Obj.cells (cellsF f) 57 := ⟨_, rfl⟩
                have Ha : Own elFl (wr.alloc C) w.heap.size 57 (.slice ao (dueP (L.take k) 0).length co) (dueP (L.take k) 0) := hO1.alc _
                obtain ⟨v', w7, hr, hown, hgr, _, _⟩ := app_own (P := Tryz.prog) elFl 22 57 (.agg #[.int .i64 0, .int .i64 0, .int .i64 0, .int .i64 0, .string ⟨#[]⟩, .string ⟨#[]⟩]) 64 underFl infoFl rfl (wr.alloc C) w.heap.size (.slice ao (dueP (L.take k) 0).length co) (dueP (L.take k) 0) [f] Ha (some ⟨wr.heap.size, 0, none⟩) 1 (fun h => by cases h) (fun a ha j' u hu => by
                  cases ha
                  rw [El.row_one] at hu
                  rw [hC]
                  exact cells_new wr 57 (fileL f) j' u hu) (by unfold maxLen; simp only [List.length_singleton]; omega) (by simp only [List.length_singleton]; omega) (Nat.le_trans HG.out.size (by simp)) 1 rfl
                rw [← hsn] at hown
                have HN7 := Lib.hid hown
                have HG7 := Lib.hid (grow_k (gnone HG.out (World.grownBy_alloc wr C none)) Ha (Nat.le_refl _) hgr)
                rw [hC] at hr
                unfold cellsF at hr
                rw [he] at hr
                have HR := fun ty => Lib.hid (hr ty)
                clear EO hO1 Ha hr hown hgr hsn hC hs hkL hg he hts HO HG
                subst eo
                generalize (dueP (L.take k) 0).length = m1 at *
                go_wp2_with (at_builtin; refine wpList_append_k _ w7 rfl (.tmp 72) (.tmp 77) 22 rfl _ _ v' rfl rfl (fun ty => (HR ty).out) ?_)
                go_roundw
                case rel => exact ⟨k + 1, hl, by go_num, HN7, HG7⟩
                case measure => exact meas_ltP hl
              · have e1 : (f.lv != 0) = true := bne_iff_ne.2 he
                have hsn := dueP_skip (A := L.take k) he
                rw [← hts] at hsn
                rw [← hsn] at HO
                clear hs hkL hg he hsn hts EO
                go_wp2_with fail
                go_roundw
                case rel => exact ⟨k + 1, hl, by go_num, HO, HG⟩
                case measure => exact meas_ltP hl
            · obtain rfl : n = k := by omega
              have g3 : ¬ (n : Int) < (n : Int) := Int.lt_irrefl _
              obtain ⟨f0, r0, hfr⟩ : ∃ f0 r0, dueP L 0 = f0 :: r0 := by
                have := due_ne hne
                cases hd : dueP L 0 with
                | nil => exact absurd hd this
                | cons f r => exact ⟨f, r, rfl⟩
              have hpk : picksP L 0 = (f0 :: r0).map (·.nu) ++ overP L (0 + 1) (firstP f0.fi (f0 :: r0)) (lastP' f0.la (f0 :: r0)) := by unfold picksP; rw [hfr]
              have HPK := Lib.hid hpk
              have hO := HO.out
              rw [HLn.out, List.take_length, hfr] at hO
              have hdl : (f0 :: r0).length ≤ 1000000 := by rw [← hfr]; exact Nat.le_trans (due_len L _) (by rw [← HLn.out]; exact hn)
              have hDok : ∀ f ∈ f0 :: r0, FileOk f := fun f hf => HOK.out f (dueP_mem (lv := 0) (by rw [hfr]; exact hf))
              obtain ⟨gd, cd, curd, ed, _, _⟩ := hO.some_ (by simp)
              subst ed
              have hD := (own_files hO).1
              obtain ⟨gj, oj, ej, _, x0, x1, x2, x3, x4, x5⟩ := hD.at_ 0 f0 rfl
              injection ej with ej
              injection ej with ej1 ej2
              subst ej1 ej2
              rw [Nat.zero_mul, Nat.zero_add] at x0 x1 x2 x3 x4 x5
              have HFok := Lib.hid (firstP_size (N := 9223372036854775807) (f0 :: r0) f0.fi (hDok f0 (by simp)).fi (fun f hf => (hDok f hf).fi))
              have HZok := Lib.hid (lastP_size (N := 9223372036854775807) (f0 :: r0) f0.la (hDok f0 (by simp)).la (fun f hf => (hDok f hf).la))
              have HFk : Hid (∀ j, (firstP f0.fi ((f0 :: r0).take j)).size ≤ 9223372036854775807) := Lib.hid fun j => firstP_size _ _ (hDok f0 (by simp)).fi (fun f hf => (hDok f (List.mem_of_mem_take hf)).fi)
              have HZk : Hid (∀ j, (lastP' f0.la ((f0 :: r0).take j)).size ≤ 9223372036854775807) := Lib.hid fun j => lastP_size _ _ (hDok f0 (by simp)).la (fun f hf => (hDok f (List.mem_of_mem_take hf)).la)
              have hm1 : 1 ≤ (f0 :: r0).length := by simp
              have HDOK := Lib.hid hDok
              have hdm : ((f0 :: r0).map (·.nu)).length = (f0 :: r0).length := List.length_map _
              have HDM := Lib.hid hdm
              obtain ⟨w3, hw3⟩ : ∃ w3, w3 = wr := ⟨_, rfl⟩
              subst hw3
              have HD := Lib.hid hD
              have HG3 := Lib.hid HG.out
              generalize hDD : f0 :: r0 = D at *
              generalize D.length = m at *
              have g7 : (0 : Int) < (m : Int) := by omega
              have hol := over_len L (0 + 1) (firstP f0.fi D) (lastP' f0.la D)
              have HOL := Lib.hid hol
              clear hpk hO hfr hDok hdm hol hDD hD x0 x1 x2 x3 HO HG hne
              go_wp2_with fail
              go_quiet (fail)
              go_wp2_with fail
              clear x4 x5 g7
              go_loopw [14, 15, 16, 17] (fun l a z i wr' => ∃ (k : Nat), k ≤ m ∧ i = .int .i64 (k : Int) ∧ a = .string (firstP f0.fi (D.take k)) ∧ z = .string (lastP' f0.la (D.take k)) ∧ Hid (Own elInts wr' w3.heap.size 3 l ((D.take k).map (·.nu))) ∧ Hid (Below w3.heap.size w3 wr')) (fun _ _ _ i _ => m - (intOf i).toNat)
              case atStart => exact ⟨0, by omega, rfl, rfl, rfl, World.ownsRow_nil _ _ _ _, Lib.hid ⟨rfl, rfl, rfl, Nat.le_refl _, fun _ _ => rfl⟩⟩
              case round =>
                obtain ⟨k, hkm, rfl, rfl, rfl, HN, HB⟩ := hrel
                by_cases hlm : k < m
                · have g1 : (k : Int) < (m : Int) := Int.ofNat_lt.2 hlm
                  have g2 : (0 : Int) ≤ (k : Int) := Int.natCast_nonneg k
                  have w1' := wrap_sucP hlm hdl
                  have hkD : k < D.length := by rw [← HD.out.len]; exact hlm
                  have hs := List.getElem?_eq_getElem hkD
                  generalize D[k] = x at hs
                  have hxok := HDOK.out x (List.mem_of_getElem? hs)
                  have HX : ∀ W, Below w3.heap.size w3 W → W.cell? ⟨gd, k * 6 + 1, none⟩ = some (.int .i64 x.nu) ∧ W.cell? ⟨gd, k * 6 + 4, none⟩ = some (.string x.fi) ∧ W.cell? ⟨gd, k * 6 + 5, none⟩ = some (.string x.la) := fun W hW => by
                    obtain ⟨g', o', e', _, y0, y1, y2, y3, y4, y5⟩ := (HD.out.below hW).at_ k x hs
                    injection e' with e'
                    injection e' with e1 e2
                    subst e1 e2
                    rw [Nat.zero_add] at y1 y4 y5
                    exact ⟨y1, y4, y5⟩
                  have hf := firstP_snoc (D.take k) f0.fi x
                  have hz := lastP_snoc (D.take k) f0.la x
                  have hns : (D.take (k + 1)).map (·.nu) = (D.take k).map (·.nu) ++ [x.nu] := by rw [ftake_snoc hs, List.map_append]; rfl
                  rw [← ftake_snoc hs] at hf hz
                  obtain ⟨F2, hF2⟩ : ∃ F2, firstP f0.fi (D.take (k + 1)) = F2 := ⟨_, rfl⟩
                  obtain ⟨Z2, hZ2⟩ : ∃ Z2, lastP' f0.la (D.take (k + 1)) = Z2 := ⟨_, rfl⟩
                  rw [hF2] at hf
                  rw [hZ2] at hz
                  have HFF := Lib.hid hf
                  have HZZ := Lib.hid hz
                  have HF2 := Lib.hid hF2
                  have HZ2 := Lib.hid hZ2
                  have hFs := HFk.out k
                  have hZs := HZk.out k
                  clear hf hz hF2 hZ2
                  generalize firstP f0.fi (D.take k) = F at *
                  generalize lastP' f0.la (D.take k) = Z at *
                  have C1 := fun W => Lib.hid (rcompare9 x.fi F W hxok.fi hFs)
                  have C2 := fun W => Lib.hid (rcompare9 x.la Z W hxok.la hZs)
                  generalize cmpT x.fi F = u at *
                  generalize cmpT x.la Z = v at *
                  obtain ⟨ao, co, eo⟩ := HN.out.slice
                  have hlen : ((D.take k).map (·.nu)).length ≤ 1000000 := by rw [List.length_map, List.length_take]; omega
                  have hN1 := HN.out
                  rw [eo] at hN1
                  have Ha : Own elInts (wr.alloc (.cells #[.int .i64 x.nu] 3)) w3.heap.size 3 (.slice ao ((D.take k).map (·.nu)).length co) ((D.take k).map (·.nu)) := hN1.alc _
                  obtain ⟨v7, w7, hr, hown, hgr, _, _⟩ := app_own (P := Tryz.prog) elInts 45 3 (.int .i64 0) 8 underInts infoInts rfl (wr.alloc (.cells #[.int .i64 x.nu] 3)) w3.heap.size (.slice ao ((D.take k).map (·.nu)).length co) ((D.take k).map (·.nu)) [x.nu] Ha (some ⟨wr.heap.size, 0, none⟩) 1 (fun h => by cases h) (fun a ha j' y hy => by
                    cases ha
                    rw [El.row_one] at hy
                    exact cells_new wr 3 [.int .i64 x.nu] j' y hy) (by unfold maxLen; simp only [List.length_singleton]; omega) (by simp only [List.length_singleton]; omega) (Nat.le_trans HB.out.size (by simp)) 1 rfl
                  rw [← hns] at hown
                  have HN7 := Lib.hid hown
                  have hB7 : Below w3.heap.size w3 w7 := (HB.out.alloc HB.out.size _).grown hgr (Nat.le_trans HB.out.size (by simp)) (fun j e => (Ha.lt e).1)
                  have HB7 := Lib.hid hB7
                  obtain ⟨b1, b4, b5⟩ := HX w7 hB7
                  obtain ⟨c1, c4, c5⟩ := HX wr HB.out
                  have HR := fun ty => Lib.hid (hr ty)
                  clear hs hkD hxok hFs hZs hns hN1 Ha hr hown hgr hB7 HN HB HFk HZk
                  subst eo
                  generalize ((D.take k).map (·.nu)).length = m1 at *
                  by_cases h1 : u < 0
                  · by_cases h2 : 0 < v
                    · skip
                      have t1' : decide (u < 0) = true := decide_eq_true h1
                      have t2' : decide (0 < v) = true := decide_eq_true h2
                      have EF := Lib.hid (HFF.out.trans (if_pos h1))
                      have EZ := Lib.hid (HZZ.out.trans (if_pos h2))
                      clear h1 h2 HFF HZZ
                      go_wp2_with (at_builtin; refine wpList_append_k _ w7 rfl (.tmp 113) (.tmp 119) 45 rfl _ _ v7 rfl rfl (fun ty => (HR ty).out) ?_)
                      refine (C1 _).out.mono ?_
                      rintro e w8 ⟨rfl, j8, hw8⟩
                      have hB8 : Below w3.heap.size w3 w8 := by rw [hw8]; exact HB7.out.trans ⟨rfl, rfl, rfl, Nat.le_refl _, fun _ _ => rfl⟩
                      have hN8 : Own elInts (w7.drewN j8) w3.heap.size 3 v7 ((D.take (k + 1)).map (·.nu)) := HN7.out
                      rw [← hw8] at hN8
                      obtain ⟨a1, a4, a5⟩ := HX w8 hB8
                      have HB8 := Lib.hid hB8
                      have HN8 := Lib.hid hN8
                      clear hw8 hB8 hN8 b1 b4 b5
                      go_wp2_with fail
                      refine (C2 _).out.mono ?_
                      rintro e w9 ⟨rfl, j9, hw9⟩
                      have hB9 : Below w3.heap.size w3 w9 := by rw [hw9]; exact HB8.out.trans ⟨rfl, rfl, rfl, Nat.le_refl _, fun _ _ => rfl⟩
                      have hN9 : Own elInts (w8.drewN j9) w3.heap.size 3 v7 ((D.take (k + 1)).map (·.nu)) := HN8.out
                      rw [← hw9] at hN9
                      obtain ⟨d1, d4, d5⟩ := HX w9 hB9
                      have HB9 := Lib.hid hB9
                      have HN9 := Lib.hid hN9
                      clear hw9 hB9 hN9 a1 a4 a5
                      go_wp2_with fail
                      go_roundw
                      case rel => exact ⟨k + 1, hlm, by go_num, by rw [HF2.out, EF.out], by rw [HZ2.out, EZ.out], HN9, HB9⟩
                      case measure => exact meas_ltP hlm
                    · skip
                      have t1' : decide (u < 0) = true := decide_eq_true h1
                      have t2' : decide (0 < v) = false := decide_eq_false h2
                      have EF := Lib.hid (HFF.out.trans (if_pos h1))
                      have EZ := Lib.hid (HZZ.out.trans (if_neg h2))
                      clear h1 h2 HFF HZZ
                      go_wp2_with (at_builtin; refine wpList_append_k _ w7 rfl (.tmp 113) (.tmp 119) 45 rfl _ _ v7 rfl rfl (fun ty => (HR ty).out) ?_)
                      refine (C1 _).out.mono ?_
                      rintro e w8 ⟨rfl, j8, hw8⟩
                      have hB8 : Below w3.heap.size w3 w8 := by rw [hw8]; exact HB7.out.trans ⟨rfl, rfl, rfl, Nat.le_refl _, fun _ _ => rfl⟩
                      have hN8 : Own elInts (w7.drewN j8) w3.heap.size 3 v7 ((D.take (k + 1)).map (·.nu)) := HN7.out
                      rw [← hw8] at hN8
                      obtain ⟨a1, a4, a5⟩ := HX w8 hB8
                      have HB8 := Lib.hid hB8
                      have HN8 := Lib.hid hN8
                      clear hw8 hB8 hN8 b1 b4 b5
                      go_wp2_with fail
                      refine (C2 _).out.mono ?_
                      rintro e w9 ⟨rfl, j9, hw9⟩
                      have hB9 : Below w3.heap.size w3 w9 := by rw [hw9]; exact HB8.out.trans ⟨rfl, rfl, rfl, Nat.le_refl _, fun _ _ => rfl⟩
                      have hN9 : Own elInts (w8.drewN j9) w3.heap.size 3 v7 ((D.take (k + 1)).map (·.nu)) := HN8.out
                      rw [← hw9] at hN9
                      obtain ⟨d1, d4, d5⟩ := HX w9 hB9
                      have HB9 := Lib.hid hB9
                      have HN9 := Lib.hid hN9
                      clear hw9 hB9 hN9 a1 a4 a5
                      go_wp2_with fail
                      go_roundw
                      case rel => exact ⟨k + 1, hlm, by go_num, by rw [HF2.out, EF.out], by rw [HZ2.out, EZ.out], HN9, HB9⟩
                      case measure => exact meas_ltP hlm
                  · by_cases h2 : 0 < v
                    · skip
                      have t1' : decide (u < 0) = false := decide_eq_false h1
                      have t2' : decide (0 < v) = true := decide_eq_true h2
                      have EF := Lib.hid (HFF.out.trans (if_neg h1))
                      have EZ := Lib.hid (HZZ.out.trans (if_pos h2))
                      clear h1 h2 HFF HZZ
                      go_wp2_with (at_builtin; refine wpList_append_k _ w7 rfl (.tmp 113) (.tmp 119) 45 rfl _ _ v7 rfl rfl (fun ty => (HR ty).out) ?_)
                      refine (C1 _).out.mono ?_
                      rintro e w8 ⟨rfl, j8, hw8⟩
                      have hB8 : Below w3.heap.size w3 w8 := by rw [hw8]; exact HB7.out.trans ⟨rfl, rfl, rfl, Nat.le_refl _, fun _ _ => rfl⟩
                      have hN8 : Own elInts (w7.drewN j8) w3.heap.size 3 v7 ((D.take (k + 1)).map (·.nu)) := HN7.out
                      rw [← hw8] at hN8
                      obtain ⟨a1, a4, a5⟩ := HX w8 hB8
                      have HB8 := Lib.hid hB8
                      have HN8 := Lib.hid hN8
                      clear hw8 hB8 hN8 b1 b4 b5
                      go_wp2_with fail
                      refine (C2 _).out.mono ?_
                      rintro e w9 ⟨rfl, j9, hw9⟩
                      have hB9 : Below w3.heap.size w3 w9 := by rw [hw9]; exact HB8.out.trans ⟨rfl, rfl, rfl, Nat.le_refl _, fun _ _ => rfl⟩
                      have hN9 : Own elInts (w8.drewN j9) w3.heap.size 3 v7 ((D.take (k + 1)).map (·.nu)) := HN8.out
                      rw [← hw9] at hN9
                      obtain ⟨d1, d4, d5⟩ := HX w9 hB9
                      have HB9 := Lib.hid hB9
                      have HN9 := Lib.hid hN9
                      clear hw9 hB9 hN9 a1 a4 a5
                      go_wp2_with fail
                      go_roundw
                      case rel => exact ⟨k + 1, hlm, by go_num, by rw [HF2.out, EF.out], by rw [HZ2.out, EZ.out], HN9, HB9⟩
                      case measure => exact meas_ltP hlm
                    · skip
                      have t1' : decide (u < 0) = false := decide_eq_false h1
                      have t2' : decide (0 < v) = false := decide_eq_false h2
                      have EF := Lib.hid (HFF.out.trans (if_neg h1))
                      have EZ := Lib.hid (HZZ.out.trans (if_neg h2))
                      clear h1 h2 HFF HZZ
                      go_wp2_with (at_builtin; refine wpList_append_k _ w7 rfl (.tmp 113) (.tmp 119) 45 rfl _ _ v7 rfl rfl (fun ty => (HR ty).out) ?_)
                      refine (C1 _).out.mono ?_
                      rintro e w8 ⟨rfl, j8, hw8⟩
                      have hB8 : Below w3.heap.size w3 w8 := by rw [hw8]; exact HB7.out.trans ⟨rfl, rfl, rfl, Nat.le_refl _, fun _ _ => rfl⟩
                      have hN8 : Own elInts (w7.drewN j8) w3.heap.size 3 v7 ((D.take (k + 1)).map (·.nu)) := HN7.out
                      rw [← hw8] at hN8
                      obtain ⟨a1, a4, a5⟩ := HX w8 hB8
                      have HB8 := Lib.hid hB8
                      have HN8 := Lib.hid hN8
                      clear hw8 hB8 hN8 b1 b4 b5
                      go_wp2_with fail
                      refine (C2 _).out.mono ?_
                      rintro e w9 ⟨rfl, j9, hw9⟩
                      have hB9 : Below w3.heap.size w3 w9 := by rw [hw9]; exact HB8.out.trans ⟨rfl, rfl, rfl, Nat.le_refl _, fun _ _ => rfl⟩
                      have hN9 : Own elInts (w8.drewN j9) w3.heap.size 3 v7 ((D.take (k + 1)).map (·.nu)) := HN8.out
                      rw [← hw9] at hN9
                      obtain ⟨d1, d4, d5⟩ := HX w9 hB9
                      have HB9 := Lib.hid hB9
                      have HN9 := Lib.hid hN9
                      clear hw9 hB9 hN9 a1 a4 a5
                      go_wp2_with fail
                      go_roundw
                      case rel => exact ⟨k + 1, hlm, by go_num, by rw [HF2.out, EF.out], by rw [HZ2.out, EZ.out], HN9, HB9⟩
                      case measure => exact meas_ltP hlm
                · obtain rfl : k = m := by omega
                  have g3 : ¬ (k : Int) < (k : Int) := Int.lt_irrefl _
                  have hDt : D.take k = D := List.take_of_length_le (by rw [← HD.out.len]; exact Nat.le_refl _)
                  rw [hDt] at HN ⊢
                  have hBw : Below w.heap.size w wr := (below_g HG3.out).trans (HB.out.mono HG3.out.size)
                  have CV := Lib.hid (qoverlap_any A n c L (0 + 1) (firstP f0.fi D) (lastP' f0.la D) wr (HI.out.below hBw) hn HOK.out HFok.out HZok.out)
                  have w9' : wrap64 ((0 : Int) + 1) = (0 : Int) + 1 := by unfold wrap64; omega
                  have HBw := Lib.hid hBw
                  have HNN := HN
                  obtain ⟨al, cl, el⟩ := HN.out.slice
                  have hln : (D.map (·.nu)).length ≤ 1000000 := by rw [List.length_map, ← HD.out.len]; exact hdl
                  have HLN := Lib.hid hln
                  have EL := Lib.hid el
                  have HPK2 := Lib.hid HPK.out
                  obtain ⟨F, hF⟩ : ∃ F, firstP f0.fi D = F := ⟨_, rfl⟩
                  obtain ⟨Z, hZ⟩ : ∃ Z, lastP' f0.la D = Z := ⟨_, rfl⟩
                  rw [hF, hZ] at CV HOL HPK2 ⊢
                  have HLS2 := Lib.hid HOL.out
                  clear hDt hBw hln el hF hZ HN HFk HZk HDOK HFok HZok HOL
                  go_wp2_with fail
                  refine CV.out.mono ?_
                  rintro e w9 ⟨v9, rfl, ho9, hb9⟩
                  have hB9 := HBw.out.trans (hb9.mono HBw.out.size)
                  obtain ⟨a9, c9, e9⟩ := ho9.slice
                  subst e9
                  have r9 := own_reads ho9
                  have hN9 := HNN.out.below hb9
                  have el := EL.out
                  rw [el] at hN9
                  have hl9 : (overP L (0 + 1) F Z).length ≤ 1000000 := Nat.le_trans HLS2.out (by rw [← HLn.out]; exact hn)
                  have hln := HLN.out
                  obtain ⟨vf, wf, hr, hown, hgr, _, _⟩ := app_own (P := Tryz.prog) elInts 45 3 (.int .i64 0) 8 underInts infoInts rfl w9 w3.heap.size (.slice al (D.map (·.nu)).length cl) (D.map (·.nu)) (overP L (0 + 1) F Z) hN9 a9 c9 r9.2.1 r9.2.2 (by unfold maxLen; omega) (by omega) (Nat.le_trans HB.out.size hb9.size) _ rfl
                  have HOF := Lib.hid hown
                  have hBf : Below w.heap.size w wf := hB9.grown hgr hB9.size (fun j e => Nat.le_trans HG3.out.size (hN9.lt e).1)
                  have HBF := Lib.hid hBf
                  have HR := fun ty => Lib.hid (hr ty)
                  clear ho9 hb9 hB9 r9 hN9 hl9 hln hr hown hgr hBf EL HNN CV HB HLS2
                  subst el
                  generalize (D.map (·.nu)).length = m1 at *
                  generalize (overP L (0 + 1) F Z).length = m2 at *
                  go_wp2_with (at_builtin; refine wpList_append_k _ wf rfl (.tmp 148) (.tmp 154) 45 rfl _ _ vf rfl rfl (fun ty => (HR ty).out) ?_)
                  go_ret3
                  refine HR1b.out _ _ (g_below HBF.out) ⟨vf, rfl, ?_⟩
                  have hfin := HOF.out.low HG3.out.size
                  rw [← HPK2.out] at hfin
                  exact hfin
        · have hb0 : (b : Int) ≠ 0 := by omega
          have t1 : decide ((b : Int) < 0) = false := decide_eq_false (by omega)
          have t9 : ((b : Int) == 0) = false := beq_eq_false_iff_ne.2 hb0
          have CC := Lib.hid (qcount_any A n c L (b : Int) wr (HI.out.below (below_g HGW.out)) hn)
          have hpos : ((ofP L (b : Int)).length : Int) ≠ 0 := fun h => hne (List.eq_nil_of_length_eq_zero (by omega))
          have t0 : (((ofP L (b : Int)).length : Int) == 0) = false := beq_eq_false_iff_ne.2 hpos
          generalize (ofP L (b : Int)).length = m0 at *
          clear hpos HR0
          go_wp2_with fail
          refine CC.out.mono ?_
          rintro e w2 ⟨rfl, rfl⟩
          clear CC
          go_wp2_with fail
          clear t0
          go_loopw [12, 13] (fun v i wr' => ∃ (k : Nat), k ≤ n ∧ i = .int .i64 (k : Int) ∧ Hid (Own elFl wr' w.heap.size 57 v (dueP (L.take k) (b : Int))) ∧ Hid (w.grownBy wr' none)) (fun _ i _ => n - (intOf i).toNat)
          case atStart => exact ⟨0, by omega, rfl, Lib.hid (by rw [show dueP (L.take 0) (b : Int) = [] from by unfold dueP ofP; rw [List.take_zero]; split <;> rfl]; exact World.ownsRow_nil _ _ _ _), HGW⟩
          case round =>
            obtain ⟨k, hk, rfl, HO, HG⟩ := hrel
            by_cases hl : k < n
            · have g1 : (k : Int) < (n : Int) := Int.ofNat_lt.2 hl
              have g2 : (0 : Int) ≤ (k : Int) := Int.natCast_nonneg k
              have w1' := wrap_sucP hl hn
              have hkL : k < L.length := by rw [← HLn.out]; exact hl
              have hs := List.getElem?_eq_getElem hkL
              generalize L[k] = f at hs
              obtain ⟨gg, off, rfl, hg, y0, y1, y2, y3, y4, y5⟩ := (HI.out.below (below_g HG.out)).at_ k f hs
              have hts := ftake_snoc hs
              obtain ⟨ao, co, eo⟩ := HO.out.slice
              have EO := Lib.hid eo
              clear eo
              by_cases he : f.lv = (b : Int)
              · have e1 : (f.lv != (b : Int)) = false := by rw [he]; exact bne_self_eq_false _
                have hsn := dueP_next (A := L.take k) he hb0
                rw [← hts] at hsn
                rw [he] at y0
                have hcl : cellsF f = #[.int .i64 (b : Int), .int .i64 f.nu, .int .i64 f.co, .int .i64 f.sz, .string f.fi, .string f.la] := by unfold cellsF; rw [he]
                have HNF : ∀ q, Hid (Own elFl ((wr.drewN q).alloc (.cells #[.int .i64 (b : Int), .int .i64 f.nu, .int .i64 f.co, .int .i64 f.sz, .string f.fi, .string f.la] 57)) w.heap.size 57 (.slice (some ⟨wr.heap.size, 0, none⟩) 1 1) [f]) := fun q => Lib.hid (by rw [← hcl]; exact (own_newF (wr.drewN q) f).low HG.out.size)
                have HGF : ∀ q, Hid (w.grownBy ((wr.drewN q).alloc (.cells #[.int .i64 (b : Int), .int .i64 f.nu, .int .i64 f.co, .int .i64 f.sz, .string f.fi, .string f.la] 57)) none) := fun q => Lib.hid (gnone (only_drewN HG.out q) (World.grownBy_alloc _ _ none))
                have HGD : ∀ q, Hid (w.grownBy (wr.drewN q) none) := fun q => Lib.hid (only_drewN HG.out q)
                cases hd : dueP (L.take k) (b : Int) with
                | nil =>
                  rw [hd] at hsn
                  have hsn : dueP (L.take (k + 1)) (b : Int) = [f] := hsn
                  have eo := EO.out
                  rw [hd] at eo
                  have HSN := Lib.hid hsn
                  clear EO hs hkL hg he hts HO HG hd hsn hcl
                  subst eo
                  simp only [List.length_nil]
                  go_wp2_with fail
                  go_quiet (fail)
                  go_wp2_with fail
                  go_roundw
                  case rel => exact ⟨k + 1, hl, by go_num, by rw [HSN.out]; exact HNF _, HGF _⟩
                  case measure => exact meas_ltP hl
                | cons m r =>
                  obtain rfl := dueP_one hb0 hd
                  rw [hd] at hsn
                  have hsn : dueP (L.take (k + 1)) (b : Int) = if f.nu < m.nu then [f] else [m] := hsn
                  have eo := EO.out
                  have hO1 := HO.out
                  rw [hd] at eo hO1
                  obtain ⟨gi, ci, curi, ei, _, _⟩ := hO1.some_ (by simp)
                  subst ei
                  have hI1 := (own_files hO1).1
                  obtain ⟨gj, oj, ej, _, x0, x1, x2, x3, x4, x5⟩ := hI1.at_ 0 m rfl
                  injection ej with ej
                  injection ej with ej1 ej2
                  subst ej1 ej2
                  rw [Nat.zero_mul, Nat.zero_add] at x0 x1 x2 x3 x4 x5
                  have HO1 := Lib.hid hO1
                  have HSN := Lib.hid hsn
                  clear EO eo hO1 hI1 x0 x2 x3 x4 x5 hs hkL hg he hts hd hsn hcl HO HG
                  simp only [List.length_singleton]
                  by_cases hlt : f.nu < m.nu
                  · have t3 : decide (f.nu < m.nu) = true := decide_eq_true hlt
                    have HSN2 := Lib.hid (HSN.out.trans (if_pos hlt))
                    clear HSN hlt
                    go_wp2_with fail
                    go_quiet (fail)
                    go_wp2_with fail
                    go_roundw
                    case rel => exact ⟨k + 1, hl, by go_num, by rw [HSN2.out]; exact HNF _, HGF _⟩
                    case measure => exact meas_ltP hl
                  · have t3 : decide (f.nu < m.nu) = false := decide_eq_false hlt
                    have HSN2 := Lib.hid (HSN.out.trans (if_neg hlt))
                    clear HSN hlt
                    go_wp2_with fail
                    go_quiet (fail)
                    go_wp2_with fail
                    go_roundw
                    case rel => exact ⟨k + 1, hl, by go_num, by rw [HSN2.out]; exact HO1, HGD _⟩
                    case measure => exact meas_ltP hl
              · have e1 : (f.lv != (b : Int)) = true := bne_iff_ne.2 he
                have hsn := dueP_skip (A := L.take k) he
                rw [← hts] at hsn
                rw [← hsn] at HO
                clear hs hkL hg he hsn hts EO
                go_wp2_with fail
                go_roundw
                case rel => exact ⟨k + 1, hl, by go_num, HO, HG⟩
                case measure => exact meas_ltP hl
            · obtain rfl : n = k := by omega
              have g3 : ¬ (n : Int) < (n : Int) := Int.lt_irrefl _
              obtain ⟨f0, r0, hfr⟩ : ∃ f0 r0, dueP L (b : Int) = f0 :: r0 := by
                have := due_ne hne
                cases hd : dueP L (b : Int) with
                | nil => exact absurd hd this
                | cons f r => exact ⟨f, r, rfl⟩
              have hpk : picksP L (b : Int) = (f0 :: r0).map (·.nu) ++ overP L ((b : Int) + 1) (firstP f0.fi (f0 :: r0)) (lastP' f0.la (f0 :: r0)) := by unfold picksP; rw [hfr]
              have HPK := Lib.hid hpk
              have hO := HO.out
              rw [HLn.out, List.take_length, hfr] at hO
              have hdl : (f0 :: r0).length ≤ 1000000 := by rw [← hfr]; exact Nat.le_trans (due_len L _) (by rw [← HLn.out]; exact hn)
              have hDok : ∀ f ∈ f0 :: r0, FileOk f := fun f hf => HOK.out f (dueP_mem (lv := (b : Int)) (by rw [hfr]; exact hf))
              obtain ⟨gd, cd, curd, ed, _, _⟩ := hO.some_ (by simp)
              subst ed
              have hD := (own_files hO).1
              obtain ⟨gj, oj, ej, _, x0, x1, x2, x3, x4, x5⟩ := hD.at_ 0 f0 rfl
              injection ej with ej
              injection ej with ej1 ej2
              subst ej1 ej2
              rw [Nat.zero_mul, Nat.zero_add] at x0 x1 x2 x3 x4 x5
              have HFok := Lib.hid (firstP_size (N := 9223372036854775807) (f0 :: r0) f0.fi (hDok f0 (by simp)).fi (fun f hf => (hDok f hf).fi))
              have HZok := Lib.hid (lastP_size (N := 9223372036854775807) (f0 :: r0) f0.la (hDok f0 (by simp)).la (fun f hf => (hDok f hf).la))
              have HFk : Hid (∀ j, (firstP f0.fi ((f0 :: r0).take j)).size ≤ 9223372036854775807) := Lib.hid fun j => firstP_size _ _ (hDok f0 (by simp)).fi (fun f hf => (hDok f (List.mem_of_mem_take hf)).fi)
              have HZk : Hid (∀ j, (lastP' f0.la ((f0 :: r0).take j)).size ≤ 9223372036854775807) := Lib.hid fun j => lastP_size _ _ (hDok f0 (by simp)).la (fun f hf => (hDok f (List.mem_of_mem_take hf)).la)
              have hm1 : 1 ≤ (f0 :: r0).length := by simp
              have HDOK := Lib.hid hDok
              have hdm : ((f0 :: r0).map (·.nu)).length = (f0 :: r0).length := List.length_map _
              have HDM := Lib.hid hdm
              obtain ⟨w3, hw3⟩ : ∃ w3, w3 = wr := ⟨_, rfl⟩
              subst hw3
              have HD := Lib.hid hD
              have HG3 := Lib.hid HG.out
              generalize hDD : f0 :: r0 = D at *
              generalize D.length = m at *
              have g7 : (0 : Int) < (m : Int) := by omega
              have hol := over_len L ((b : Int) + 1) (firstP f0.fi D) (lastP' f0.la D)
              have HOL := Lib.hid hol
              clear hpk hO hfr hDok hdm hol hDD hD x0 x1 x2 x3 HO HG hne
              go_wp2_with fail
              go_quiet (fail)
              go_wp2_with fail
              clear x4 x5 g7
              go_loopw [14, 15, 16, 17] (fun l a z i wr' => ∃ (k : Nat), k ≤ m ∧ i = .int .i64 (k : Int) ∧ a = .string (firstP f0.fi (D.take k)) ∧ z = .string (lastP' f0.la (D.take k)) ∧ Hid (Own elInts wr' w3.heap.size 3 l ((D.take k).map (·.nu))) ∧ Hid (Below w3.heap.size w3 wr')) (fun _ _ _ i _ => m - (intOf i).toNat)
              case atStart => exact ⟨0, by omega, rfl, rfl, rfl, World.ownsRow_nil _ _ _ _, Lib.hid ⟨rfl, rfl, rfl, Nat.le_refl _, fun _ _ => rfl⟩⟩
              case round =>
                obtain ⟨k, hkm, rfl, rfl, rfl, HN, HB⟩ := hrel
                by_cases hlm : k < m
                · have g1 : (k : Int) < (m : Int) := Int.ofNat_lt.2 hlm
                  have g2 : (0 : Int) ≤ (k : Int) := Int.natCast_nonneg k
                  have w1' := wrap_sucP hlm hdl
                  have hkD : k < D.length := by rw [← HD.out.len]; exact hlm
                  have hs := List.getElem?_eq_getElem hkD
                  generalize D[k] = x at hs
                  have hxok := HDOK.out x (List.mem_of_getElem? hs)
                  have HX : ∀ W, Below w3.heap.size w3 W → W.cell? ⟨gd, k * 6 + 1, none⟩ = some (.int .i64 x.nu) ∧ W.cell? ⟨gd, k * 6 + 4, none⟩ = some (.string x.fi) ∧ W.cell? ⟨gd, k * 6 + 5, none⟩ = some (.string x.la) := fun W hW => by
                    obtain ⟨g', o', e', _, y0, y1, y2, y3, y4, y5⟩ := (HD.out.below hW).at_ k x hs
                    injection e' with e'
                    injection e' with e1 e2
                    subst e1 e2
                    rw [Nat.zero_add] at y1 y4 y5
                    exact ⟨y1, y4, y5⟩
                  have hf := firstP_snoc (D.take k) f0.fi x
                  have hz := lastP_snoc (D.take k) f0.la x
                  have hns : (D.take (k + 1)).map (·.nu) = (D.take k).map (·.nu) ++ [x.nu] := by rw [ftake_snoc hs, List.map_append]; rfl
                  rw [← ftake_snoc hs] at hf hz
                  obtain ⟨F2, hF2⟩ : ∃ F2, firstP f0.fi (D.take (k + 1)) = F2 := ⟨_, rfl⟩
                  obtain ⟨Z2, hZ2⟩ : ∃ Z2, lastP' f0.la (D.take (k + 1)) = Z2 := ⟨_, rfl⟩
                  rw [hF2] at hf
                  rw [hZ2] at hz
                  have HFF := Lib.hid hf
                  have HZZ := Lib.hid hz
                  have HF2 := Lib.hid hF2
                  have HZ2 := Lib.hid hZ2
                  have hFs := HFk.out k
                  have hZs := HZk.out k
                  clear hf hz hF2 hZ2
                  generalize firstP f0.fi (D.take k) = F at *
                  generalize lastP' f0.la (D.take k) = Z at *
                  have C1 := fun W => Lib.hid (rcompare9 x.fi F W hxok.fi hFs)
                  have C2 := fun W => Lib.hid (rcompare9 x.la Z W hxok.la hZs)
                  generalize cmpT x.fi F = u at *
                  generalize cmpT x.la Z = v at *
                  obtain ⟨ao, co, eo⟩ := HN.out.slice
                  have hlen : ((D.take k).map (·.nu)).length ≤ 1000000 := by rw [List.length_map, List.length_take]; omega
                  have hN1 := HN.out
                  rw [eo] at hN1
                  have Ha : Own elInts (wr.alloc (.cells #[.int .i64 x.nu] 3)) w3.heap.size 3 (.slice ao ((D.take k).map (·.nu)).length co) ((D.take k).map (·.nu)) := hN1.alc _
                  obtain ⟨v7, w7, hr, hown, hgr, _, _⟩ := app_own (P := Tryz.prog) elInts 45 3 (.int .i64 0) 8 underInts infoInts rfl (wr.alloc (.cells #[.int .i64 x.nu] 3)) w3.heap.size (.slice ao ((D.take k).map (·.nu)).length co) ((D.take k).map (·.nu)) [x.nu] Ha (some ⟨wr.heap.size, 0, none⟩) 1 (fun h => by cases h) (fun a ha j' y hy => by
                    cases ha
                    rw [El.row_one] at hy
                    exact cells_new wr 3 [.int .i64 x.nu] j' y hy) (by unfold maxLen; simp only [List.length_singleton]; omega) (by simp only [List.length_singleton]; omega) (Nat.le_trans HB.out.size (by simp)) 1 rfl
                  rw [← hns] at hown
                  have HN7 := Lib.hid hown
                  have hB7 : Below w3.heap.size w3 w7 := (HB.out.alloc HB.out.size _).grown hgr (Nat.le_trans HB.out.size (by simp)) (fun j e => (Ha.lt e).1)
                  have HB7 := Lib.hid hB7
                  obtain ⟨b1, b4, b5⟩ := HX w7 hB7
                  obtain ⟨c1, c4, c5⟩ := HX wr HB.out
                  have HR := fun ty => Lib.hid (hr ty)
                  clear hs hkD hxok hFs hZs hns hN1 Ha hr hown hgr hB7 HN HB HFk HZk
                  subst eo
                  generalize ((D.take k).map (·.nu)).length = m1 at *
                  by_cases h1 : u < 0
                  · by_cases h2 : 0 < v
                    · skip
                      have t1' : decide (u < 0) = true := decide_eq_true h1
                      have t2' : decide (0 < v) = true := decide_eq_true h2
                      have EF := Lib.hid (HFF.out.trans (if_pos h1))
                      have EZ := Lib.hid (HZZ.out.trans (if_pos h2))
                      clear h1 h2 HFF HZZ
                      go_wp2_with (at_builtin; refine wpList_append_k _ w7 rfl (.tmp 113) (.tmp 119) 45 rfl _ _ v7 rfl rfl (fun ty => (HR ty).out) ?_)
                      refine (C1 _).out.mono ?_
                      rintro e w8 ⟨rfl, j8, hw8⟩
                      have hB8 : Below w3.heap.size w3 w8 := by rw [hw8]; exact HB7.out.trans ⟨rfl, rfl, rfl, Nat.le_refl _, fun _ _ => rfl⟩
                      have hN8 : Own elInts (w7.drewN j8) w3.heap.size 3 v7 ((D.take (k + 1)).map (·.nu)) := HN7.out
                      rw [← hw8] at hN8
                      obtain ⟨a1, a4, a5⟩ := HX w8 hB8
                      have HB8 := Lib.hid hB8
                      have HN8 := Lib.hid hN8
                      clear hw8 hB8 hN8 b1 b4 b5
                      go_wp2_with fail
                      refine (C2 _).out.mono ?_
                      rintro e w9 ⟨rfl, j9, hw9⟩
                      have hB9 : Below w3.heap.size w3 w9 := by rw [hw9]; exact HB8.out.trans ⟨rfl, rfl, rfl, Nat.le_refl _, fun _ _ => rfl⟩
                      have hN9 : Own elInts (w8.drewN j9) w3.heap.size 3 v7 ((D.take (k + 1)).map (·.nu)) := HN8.out
                      rw [← hw9] at hN9
                      obtain ⟨d1, d4, d5⟩ := HX w9 hB9
                      have HB9 := Lib.hid hB9
                      have HN9 := Lib.hid hN9
                      clear hw9 hB9 hN9 a1 a4 a5
                      go_wp2_with fail
                      go_roundw
                      case rel => exact ⟨k + 1, hlm, by go_num, by rw [HF2.out, EF.out], by rw [HZ2.out, EZ.out], HN9, HB9⟩
                      case measure => exact meas_ltP hlm
                    · skip
                      have t1' : decide (u < 0) = true := decide_eq_true h1
                      have t2' : decide (0 < v) = false := decide_eq_false h2
                      have EF := Lib.hid (HFF.out.trans (if_pos h1))
                      have EZ := Lib.hid (HZZ.out.trans (if_neg h2))
                      clear h1 h2 HFF HZZ
                      go_wp2_with (at_builtin; refine wpList_append_k _ w7 rfl (.tmp 113) (.tmp 119) 45 rfl _ _ v7 rfl rfl (fun ty => (HR ty).out) ?_)
                      refine (C1 _).out.mono ?_
                      rintro e w8 ⟨rfl, j8, hw8⟩
                      have hB8 : Below w3.heap.size w3 w8 := by rw [hw8]; exact HB7.out.trans ⟨rfl, rfl, rfl, Nat.le_refl _, fun _ _ => rfl⟩
                      have hN8 : Own elInts (w7.drewN j8) w3.heap.size 3 v7 ((D.take (k + 1)).map (·.nu)) := HN7.out
                      rw [← hw8] at hN8
                      obtain ⟨a1, a4, a5⟩ := HX w8 hB8
                      have HB8 := Lib.hid hB8
                      have HN8 := Lib.hid hN8
                      clear hw8 hB8 hN8 b1 b4 b5
                      go_wp2_with fail
                      refine (C2 _).out.mono ?_
                      rintro e w9 ⟨rfl, j9, hw9⟩
                      have hB9 : Below w3.heap.size w3 w9 := by rw [hw9]; exact HB8.out.trans ⟨rfl, rfl, rfl, Nat.le_refl _, fun _ _ => rfl⟩
                      have hN9 : Own elInts (w8.drewN j9) w3.heap.size 3 v7 ((D.take (k + 1)).map (·.nu)) := HN8.out
                      rw [← hw9] at hN9
                      obtain ⟨d1, d4, d5⟩ := HX w9 hB9
                      have HB9 := Lib.hid hB9
                      have HN9 := Lib.hid hN9
                      clear hw9 hB9 hN9 a1 a4 a5
                      go_wp2_with fail
                      go_roundw
                      case rel => exact ⟨k + 1, hlm, by go_num, by rw [HF2.out, EF.out], by rw [HZ2.out, EZ.out], HN9, HB9⟩
                      case measure => exact meas_ltP hlm
                  · by_cases h2 : 0 < v
                    · skip
                      have t1' : decide (u < 0) = false := decide_eq_false h1
                      have t2' : decide (0 < v) = true := decide_eq_true h2
                      have EF := Lib.hid (HFF.out.trans (if_neg h1))
                      have EZ := Lib.hid (HZZ.out.trans (if_pos h2))
                      clear h1 h2 HFF HZZ
                      go_wp2_with (at_builtin; refine wpList_append_k _ w7 rfl (.tmp 113) (.tmp 119) 45 rfl _ _ v7 rfl rfl (fun ty => (HR ty).out) ?_)
                      refine (C1 _).out.mono ?_
                      rintro e w8 ⟨rfl, j8, hw8⟩
                      have hB8 : Below w3.heap.size w3 w8 := by rw [hw8]; exact HB7.out.trans ⟨rfl, rfl, rfl, Nat.le_refl _, fun _ _ => rfl⟩
                      have hN8 : Own elInts (w7.drewN j8) w3.heap.size 3 v7 ((D.take (k + 1)).map (·.nu)) := HN7.out
                      rw [← hw8] at hN8
                      obtain ⟨a1, a4, a5⟩ := HX w8 hB8
                      have HB8 := Lib.hid hB8
                      have HN8 := Lib.hid hN8
                      clear hw8 hB8 hN8 b1 b4 b5
                      go_wp2_with fail
                      refine (C2 _).out.mono ?_
                      rintro e w9 ⟨rfl, j9, hw9⟩
                      have hB9 : Below w3.heap.size w3 w9 := by rw [hw9]; exact HB8.out.trans ⟨rfl, rfl, rfl, Nat.le_refl _, fun _ _ => rfl⟩
                      have hN9 : Own elInts (w8.drewN j9) w3.heap.size 3 v7 ((D.take (k + 1)).map (·.nu)) := HN8.out
                      rw [← hw9] at hN9
                      obtain ⟨d1, d4, d5⟩ := HX w9 hB9
                      have HB9 := Lib.hid hB9
                      have HN9 := Lib.hid hN9
                      clear hw9 hB9 hN9 a1 a4 a5
                      go_wp2_with fail
                      go_roundw
                      case rel => exact ⟨k + 1, hlm, by go_num, by rw [HF2.out, EF.out], by rw [HZ2.out, EZ.out], HN9, HB9⟩
                      case measure => exact meas_ltP hlm
                    · skip
                      have t1' : decide (u < 0) = false := decide_eq_false h1
                      have t2' : decide (0 < v) = false := decide_eq_false h2
                      have EF := Lib.hid (HFF.out.trans (if_neg h1))
                      have EZ := Lib.hid (HZZ.out.trans (if_neg h2))
                      clear h1 h2 HFF HZZ
                      go_wp2_with (at_builtin; refine wpList_append_k _ w7 rfl (.tmp 113) (.tmp 119) 45 rfl _ _ v7 rfl rfl (fun ty => (HR ty).out) ?_)
                      refine (C1 _).out.mono ?_
                      rintro e w8 ⟨rfl, j8, hw8⟩
                      have hB8 : Below w3.heap.size w3 w8 := by rw [hw8]; exact HB7.out.trans ⟨rfl, rfl, rfl, Nat.le_refl _, fun _ _ => rfl⟩
                      have hN8 : Own elInts (w7.drewN j8) w3.heap.size 3 v7 ((D.take (k + 1)).map (·.nu)) := HN7.out
                      rw [← hw8] at hN8
                      obtain ⟨a1, a4, a5⟩ := HX w8 hB8
                      have HB8 := Lib.hid hB8
                      have HN8 := Lib.hid hN8
                      clear hw8 hB8 hN8 b1 b4 b5
                      go_wp2_with fail
                      refine (C2 _).out.mono ?_
                      rintro e w9 ⟨rfl, j9, hw9⟩
                      have hB9 : Below w3.heap.size w3 w9 := by rw [hw9]; exact HB8.out.trans ⟨rfl, rfl, rfl, Nat.le_refl _, fun _ _ => rfl⟩
                      have hN9 : Own elInts (w8.drewN j9) w3.heap.size 3 v7 ((D.take (k + 1)).map (·.nu)) := HN8.out
                      rw [← hw9] at hN9
                      obtain ⟨d1, d4, d5⟩ := HX w9 hB9
                      have HB9 := Lib.hid hB9
                      have HN9 := Lib.hid hN9
                      clear hw9 hB9 hN9 a1 a4 a5
                      go_wp2_with fail
                      go_roundw
                      case rel => exact ⟨k + 1, hlm, by go_num, by rw [HF2.out, EF.out], by rw [HZ2.out, EZ.out], HN9, HB9⟩
                      case measure => exact meas_ltP hlm
                · obtain rfl : k = m := by omega
                  have g3 : ¬ (k : Int) < (k : Int) := Int.lt_irrefl _
                  have hDt : D.take k = D := List.take_of_length_le (by rw [← HD.out.len]; exact Nat.le_refl _)
                  rw [hDt] at HN ⊢
                  have hBw : Below w.heap.size w wr := (below_g HG3.out).trans (HB.out.mono HG3.out.size)
                  have CV := Lib.hid (qoverlap_any A n c L ((b : Int) + 1) (firstP f0.fi D) (lastP' f0.la D) wr (HI.out.below hBw) hn HOK.out HFok.out HZok.out)
                  have w9' : wrap64 (((b : Int) : Int) + 1) = ((b : Int) : Int) + 1 := by unfold wrap64; omega
                  have HBw := Lib.hid hBw
                  have HNN := HN
                  obtain ⟨al, cl, el⟩ := HN.out.slice
                  have hln : (D.map (·.nu)).length ≤ 1000000 := by rw [List.length_map, ← HD.out.len]; exact hdl
                  have HLN := Lib.hid hln
                  have EL := Lib.hid el
                  have HPK2 := Lib.hid HPK.out
                  obtain ⟨F, hF⟩ : ∃ F, firstP f0.fi D = F := ⟨_, rfl⟩
                  obtain ⟨Z, hZ⟩ : ∃ Z, lastP' f0.la D = Z := ⟨_, rfl⟩
                  rw [hF, hZ] at CV HOL HPK2 ⊢
                  have HLS2 := Lib.hid HOL.out
                  clear hDt hBw hln el hF hZ HN HFk HZk HDOK HFok HZok HOL
                  go_wp2_with fail
                  refine CV.out.mono ?_
                  rintro e w9 ⟨v9, rfl, ho9, hb9⟩
                  have hB9 := HBw.out.trans (hb9.mono HBw.out.size)
                  obtain ⟨a9, c9, e9⟩ := ho9.slice
                  subst e9
                  have r9 := own_reads ho9
                  have hN9 := HNN.out.below hb9
                  have el := EL.out
                  rw [el] at hN9
                  have hl9 : (overP L ((b : Int) + 1) F Z).length ≤ 1000000 := Nat.le_trans HLS2.out (by rw [← HLn.out]; exact hn)
                  have hln := HLN.out
                  obtain ⟨vf, wf, hr, hown, hgr, _, _⟩ := app_own (P := Tryz.prog) elInts 45 3 (.int .i64 0) 8 underInts infoInts rfl w9 w3.heap.size (.slice al (D.map (·.nu)).length cl) (D.map (·.nu)) (overP L ((b : Int) + 1) F Z) hN9 a9 c9 r9.2.1 r9.2.2 (by unfold maxLen; omega) (by omega) (Nat.le_trans HB.out.size hb9.size) _ rfl
                  have HOF := Lib.hid hown
                  have hBf : Below w.heap.size w wf := hB9.grown hgr hB9.size (fun j e => Nat.le_trans HG3.out.size (hN9.lt e).1)
                  have HBF := Lib.hid hBf
                  have HR := fun ty => Lib.hid (hr ty)
                  clear ho9 hb9 hB9 r9 hN9 hl9 hln hr hown hgr hBf EL HNN CV HB HLS2
                  subst el
                  generalize (D.map (·.nu)).length = m1 at *
                  generalize (overP L ((b : Int) + 1) F Z).length = m2 at *
                  go_wp2_with (at_builtin; refine wpList_append_k _ wf rfl (.tmp 148) (.tmp 154) 45 rfl _ _ vf rfl rfl (fun ty => (HR ty).out) ?_)
                  go_ret3
                  refine HR1b.out _ _ (g_below HBF.out) ⟨vf, rfl, ?_⟩
                  have hfin := HOF.out.low HG3.out.size
                  rw [← HPK2.out] at hfin
                  exact hfin
end Go.Proofs.YtkhmbkofkdnlkaaGreat

namespace Go.Proofs.YtkhmbkofkdnlkaaGreat
open Go.RowKit

theorem keysF (x : FileM) (hx : FileOk x) : Tryz.prog.keyLits 2 57 (fileL x) = some [.int .i64 x.lv, .int .i64 x.nu, .int .i64 x.co, .int .i64 x.sz, .string x.fi.data.toList, .string x.la.data.toList] := by
  have hi : Tryz.prog.cellsOf 3 = 1 := by kernel_rfl
  have hc : Tryz.prog.cellsOf 9 = 1 := by kernel_rfl
  have hl : Tryz.prog.cellsOf 57 = 6 := by kernel_rfl
  have m1 : x.fi.size ≤ maxLen := by have := hx.fi; unfold maxLen; omega
  have m2 : x.la.size ≤ maxLen := by have := hx.la; unfold maxLen; omega
  have a0 := hx.lv
  have a1 := hx.nu
  have a2 := hx.co
  have a3 := hx.sz
  unfold Program.keyLits
  rw [Tryz.underlying57]
  simp [hl, hi, hc, Program.keyLits, Tryz.underlying9, Tryz.underlying3, m1, m2, a0, a1, a2, a3, fileL]
theorem eqF (x : FileM) (hx : FileOk x) (W : World) : (binOp .eql 57 (.agg #[.int .i64 x.lv, .int .i64 x.nu, .int .i64 x.co, .int .i64 x.sz, .string x.fi, .string x.la]) (.agg #[.int .i64 x.lv, .int .i64 x.nu, .int .i64 x.co, .int .i64 x.sz, .string x.fi, .string x.la])).run Tryz.prog W = .ok (.bool true) W := by
  rw [run_eql_struct]
  obtain ⟨r, hr, hiff⟩ := run_equalIn_deep (P := Tryz.prog) 9998 2 57 (by kernel_rfl) W 2 2 (.agg #[.int .i64 x.lv, .int .i64 x.nu, .int .i64 x.co, .int .i64 x.sz, .string x.fi, .string x.la]) (.agg #[.int .i64 x.lv, .int .i64 x.nu, .int .i64 x.co, .int .i64 x.sz, .string x.fi, .string x.la]) _ _ (by kernel_rfl) (by kernel_rfl) (keysF x hx) (keysF x hx)
  rw [show (10000 : Nat) = 9998 + 2 from rfl, hr]
  have : r = true := hiff.2 rfl
  subst this
  rfl
set_option maxRecDepth 100000 in
set_option maxHeartbeats 2000000 in
theorem samefiles_any (A1 A2 : Option Addr) (n c1 c2 : Nat) (L : List FileM) (w : World) (h1 : FilesAt w A1 n L) (h2 : FilesAt w A2 n L) (hn : n ≤ 1000000) (hok : ∀ x ∈ L, FileOk x) :
    Calls Tryz.prog 34 #[.slice A1 n c1, .slice A2 n c2] w fun e w' => e = .returned (.bool true) ∧ ∃ q, w' = w.drewN q := by
  have H1 := Lib.hid h1
  have H2 := Lib.hid h2
  have HK := Lib.hid hok
  have HLn := Lib.hid h1.len
  clear h1 h2 hok
  go_enter Tryz.func34, Tryz.ntmps34
  go_wp2_with fail
  go_loopw [5] (fun i wr => ∃ k q : Nat, k ≤ n ∧ i = .int .i64 (k : Int) ∧ Hid (wr = w.drewN q)) (fun i _ => n - (intOf i).toNat)
  case atStart => exact ⟨0, 0, by omega, rfl, rfl⟩
  case round =>
    obtain ⟨k, q, hk, rfl, Hw⟩ := hrel
    by_cases hl : k < n
    · have g1 : (k : Int) < (n : Int) := Int.ofNat_lt.2 hl
      have g2 : (0 : Int) ≤ (k : Int) := Int.natCast_nonneg k
      have w1' := wrap_sucP hl hn
      have hkL : k < L.length := by rw [← HLn.out]; exact hl
      have hs := List.getElem?_eq_getElem hkL
      generalize L[k] = x at hs
      have EQ := eqF x (HK.out x (List.mem_of_getElem? hs))
      have b1 : Below w.heap.size w wr := by rw [Hw.out]; exact ⟨rfl, rfl, rfl, Nat.le_refl _, fun _ _ => rfl⟩
      obtain ⟨ga, oa, rfl, _, x0, x1, x2, x3, x4, x5⟩ := (H1.out.below b1).at_ k x hs
      obtain ⟨gb, ob, rfl, _, y0, y1, y2, y3, y4, y5⟩ := (H2.out.below b1).at_ k x hs
      clear hs hkL b1
      go_wp2_with fail
      go_quiet (fail)
      go_wp2_with fail
      go_roundw
      case rel => exact ⟨k + 1, _, hl, by go_num, (by rw [Hw.out, World.drewN_drewN]; rfl)⟩
      case measure => exact meas_ltP hl
    · obtain rfl : k = n := by omega
      have g3 : ¬ (k : Int) < (k : Int) := Int.lt_irrefl _
      go_wp2_with fail
      go_ret
      exact ⟨rfl, q, Hw.out⟩
/-- What marks the end of a list that is lent. -/
def endF : FileM := ⟨0, -77, 0, 0, ⟨#[]⟩, ⟨#[]⟩⟩
set_option maxRecDepth 100000 in
set_option maxHeartbeats 2000000 in
theorem lent15_any (A : Option Addr) (n c : Nat) (L : List FileM) (w : World) (hI : FilesAt w A n L) (hn : n ≤ 1000000) :
    Calls Tryz.prog 5 #[.slice A n c] w fun e w' => ∃ g cc, e = .returned (.slice (some ⟨g, 0, none⟩) n cc) ∧ Own elFl w' w.heap.size 57 (.slice (some ⟨g, 0, none⟩) (n + 1) cc) (L ++ [endF]) ∧ w.grownBy w' none := by
  have hl := hI.len
  obtain ⟨v1, w1, hr1, ho1, hg1, _, _⟩ := app_own (P := Tryz.prog) elFl 22 57 (.agg #[.int .i64 0, .int .i64 0, .int .i64 0, .int .i64 0, .string ⟨#[]⟩, .string ⟨#[]⟩]) 64 underFl infoFl rfl w w.heap.size (.slice none 0 0) [] L (World.ownsRow_nil _ _ _ _) A c (fun e => by subst e; exact filesAt_none hI) (fun a e j u hu => by subst e; exact hI.rowf j u hu) (by unfold maxLen; simp only [List.length_nil]; omega) (by simp only [List.length_nil]; omega) (Nat.le_refl _) n hl
  rw [List.nil_append] at ho1
  have hgg1 : w.grownBy w1 none := hg1
  obtain ⟨a1, c1, e1⟩ := ho1.slice
  rw [← hl] at e1
  subst e1
  obtain ⟨v2, w2, hr2, ho2, hg2, _, _⟩ := app_own (P := Tryz.prog) elFl 22 57 (.agg #[.int .i64 0, .int .i64 0, .int .i64 0, .int .i64 0, .string ⟨#[]⟩, .string ⟨#[]⟩]) 64 underFl infoFl rfl (w1.alloc (.cells #[.int .i64 0, .int .i64 (-77), .int .i64 0, .int .i64 0, .string ⟨#[]⟩, .string ⟨#[]⟩] 57)) w.heap.size (.slice a1 n c1) L [endF] (ho1.alc _) (some ⟨w1.heap.size, 0, none⟩) 1 (fun h => by cases h) (fun a ha j' u hu => by
    cases ha
    rw [El.row_one] at hu
    exact cells_new w1 57 (fileL endF) j' u hu) (by unfold maxLen; simp only [List.length_singleton]; omega) (by simp only [List.length_singleton]; omega) (Nat.le_trans hgg1.size (by simp)) 1 rfl
  have hgg2 := grow_k (gnone hgg1 (World.grownBy_alloc w1 (.cells #[.int .i64 0, .int .i64 (-77), .int .i64 0, .int .i64 0, .string ⟨#[]⟩, .string ⟨#[]⟩] 57) none)) (ho1.alc _) (Nat.le_refl _) hg2
  obtain ⟨g, cc, cur, e2, _, _⟩ := ho2.some_ (by simp)
  rw [List.length_append, List.length_singleton, ← hl] at e2
  subst e2
  have hcap : n + 1 ≤ cc := own_capF ho2
  have HO := Lib.hid ho2
  have HG := Lib.hid hgg2
  have HR1 := fun ty => Lib.hid (hr1 ty)
  have HR2 := fun ty => Lib.hid (hr2 ty)
  have t1 : (n : Int) ≤ (cc : Int) := by omega
  have t2 : (0 : Int) ≤ (n : Int) := Int.natCast_nonneg n
  clear hI hl hr1 hr2 ho1 ho2 hg1 hg2 hgg1 hgg2 hcap
  go_enter Tryz.func5, Tryz.ntmps5
  go_wp2_with (at_builtin; first | refine wpList_append_k _ w1 rfl (.const (.slice none 0 0)) (.tmp 3) 22 rfl _ _ (.slice a1 n c1) rfl rfl (fun ty => (HR1 ty).out) ?_ | refine wpList_append_k _ w2 rfl (.tmp 4) (.tmp 6) 22 rfl _ _ (.slice (some ⟨g, 0, none⟩) (n + 1) cc) rfl rfl (fun ty => (HR2 ty).out) ?_)
  go_ret
  exact ⟨g, cc, rfl, HO.out, HG.out⟩
set_option maxRecDepth 100000 in
set_option maxHeartbeats 2000000 in
theorem stays15_any (A : Option Addr) (n c g cc B : Nat) (L : List FileM) (w : World) (hI : FilesAt w A n L) (hO : Own elFl w B 57 (.slice (some ⟨g, 0, none⟩) (n + 1) cc) (L ++ [endF])) (hn : n ≤ 1000000) (hok : ∀ x ∈ L, FileOk x) :
    Calls Tryz.prog 16 #[.slice (some ⟨g, 0, none⟩) n cc, .slice A n c] w fun e w' => e = .returned (.bool true) ∧ w.grownBy w' none := by
  have hX := (own_files hO).1
  have hl := hI.len
  have hF : FilesAt w (some ⟨g, 0, none⟩) n L := ⟨hl, fun i m hm => hX.at_ i m (by rw [List.getElem?_append_left (List.getElem?_eq_some_iff.1 hm).1]; exact hm)⟩
  have CS := Lib.hid (samefiles_any (some ⟨g, 0, none⟩) A n cc c L w hF hI hn hok)
  obtain ⟨g', o', e', _, x0, x1, x2, x3, x4, x5⟩ := hX.at_ n endF (by rw [hl, List.getElem?_append_right (Nat.le_refl _), Nat.sub_self]; rfl)
  injection e' with e'
  injection e' with e1 e2
  subst e1 e2
  rw [Nat.zero_add] at x1
  have hcap : n + 1 ≤ cc := own_capF hO
  have HX1 := Lib.hid x1
  have t1 : (n : Int) + 1 ≤ (cc : Int) := by omega
  have t2 : (0 : Int) ≤ (n : Int) + 1 := by omega
  have t3 : wrap64 ((n : Int) + 1) = (n : Int) + 1 := by unfold wrap64; omega
  have t4 : (n : Int) < (n : Int) + 1 := by omega
  have t5 : (0 : Int) ≤ (n : Int) := Int.natCast_nonneg n
  clear hX hl hF hI hO hok x0 x1 x2 x3 x4 x5 hcap
  go_enter Tryz.func16, Tryz.ntmps16
  go_wp2_with fail
  refine CS.out.mono ?_
  rintro e w1 ⟨rfl, q, hw1⟩
  have x1 : w1.cell? ⟨g, n * 6 + 1, none⟩ = some (.int .i64 (-77)) := by rw [hw1]; exact HX1.out
  have HG := Lib.hid (by rw [hw1]; exact only_drewN (grefl w none) q : w.grownBy w1 none)
  clear hw1 CS HX1
  go_wp2_with fail
  go_ret
  exact ⟨rfl, HG.out⟩
set_option maxRecDepth 100000 in
set_option maxHeartbeats 1000000 in
/-- Rows of numbers that are the same. -/
theorem samereals_like (g1 g2 n c1 c2 B1 B2 : Nat) (S T : List Nat) (w : World) (h1 : Own elReals w B1 23 (.slice (some ⟨g1, 0, none⟩) n c1) S) (h2 : Own elReals w B2 23 (.slice (some ⟨g2, 0, none⟩) n c2) T) (hST : SameL S T) (hn : n ≤ 1000000) (hS : ∀ x ∈ S, x < 18446744073709551616) (hT : ∀ x ∈ T, x < 18446744073709551616) :
    Calls Tryz.prog 10 #[.slice (some ⟨g1, 0, none⟩) n c1, .slice (some ⟨g2, 0, none⟩) n c2] w fun e w' => e = .returned (.bool true) ∧ ∃ q, w' = w.drewN q := by
  have H1 := Lib.hid h1
  have H2 := Lib.hid h2
  have HST := Lib.hid hST
  have HLS := Lib.hid (own_reads h1).1
  have HLT := Lib.hid (own_reads h2).1
  have HS := Lib.hid hS
  have HT := Lib.hid hT
  clear h1 h2 hST hS hT
  go_enter Tryz.func10, Tryz.ntmps10
  go_wp2_with fail
  go_loopw [5] (fun i wr => ∃ k q : Nat, k ≤ n ∧ i = .int .i64 (k : Int) ∧ Hid (wr = w.drewN q)) (fun i _ => n - (intOf i).toNat)
  case atStart => exact ⟨0, 0, by omega, rfl, rfl⟩
  case round =>
    obtain ⟨k, q, hk, rfl, Hw⟩ := hrel
    by_cases hl : k < n
    · have g1' : (k : Int) < (n : Int) := Int.ofNat_lt.2 hl
      have g2' : (0 : Int) ≤ (k : Int) := Int.natCast_nonneg k
      have w1' := wrap_sucP hl hn
      obtain ⟨x, hx⟩ : ∃ x, S[k]? = some x := ⟨_, List.getElem?_eq_getElem (by rw [← HLS.out]; exact hl)⟩
      obtain ⟨y, hy⟩ : ∃ y, T[k]? = some y := ⟨_, List.getElem?_eq_getElem (by rw [← HLT.out]; exact hl)⟩
      have hsf := HST.out.2 k x y hx hy
      have h0 := HS.out x (List.mem_of_getElem? hx)
      have h9 := HT.out y (List.mem_of_getElem? hy)
      have hcmp : (cmpN x y == 0) = true := by
        rw [beq_iff_eq, cmpN_zero]
        rcases hsf with e | ⟨e1, e2⟩
        · rw [e]
        · rw [rank_nan x e1, rank_nan y e2]
      have CS := fun W => Lib.hid (qsame_any x y h0 h9 W)
      rw [hcmp] at CS
      have Z0 := Own.cells (j := 0) (u := .float .f64 x) H1.out hx (by decide) rfl
      have Z1 := Own.cells (j := 0) (u := .float .f64 y) H2.out hy (by decide) rfl
      rw [show k * elReals.sz + 0 = k from by show k * 1 + 0 = k; omega] at Z0 Z1
      have z0 : wr.cell? ⟨g1, k, none⟩ = some (.float .f64 x) := by rw [Hw.out]; exact Z0
      have z1 : wr.cell? ⟨g2, k, none⟩ = some (.float .f64 y) := by rw [Hw.out]; exact Z1
      clear hx hy hsf h0 h9 hcmp Z0 Z1
      go_wp2_with fail
      go_quiet (first | (go_at_call 33; refine Calls.quiet_of_same ((CS _).out.mono fun e w1 h => ⟨h.1, h.2.symm⟩)))
      go_wp2_with fail
      go_roundw
      case rel => exact ⟨k + 1, _, hl, by go_num, (by rw [Hw.out, World.drewN_drewN]; rfl)⟩
      case measure => exact meas_ltP hl
    · obtain rfl : k = n := by omega
      have g3 : ¬ (k : Int) < (k : Int) := Int.lt_irrefl _
      go_wp2_with fail
      go_ret
      exact ⟨rfl, q, Hw.out⟩
end Go.Proofs.YtkhmbkofkdnlkaaGreat

namespace Go.Proofs.YtkhmbkofkdnlkaaGreat
open Go.RowKit

set_option maxRecDepth 100000 in
set_option maxHeartbeats 1000000 in
theorem stillReals_any (B bk m : Nat) (v1 v2 : Value) (a c : Nat → Value) (F : Nat → List (Nat)) (w : World) (hc1 : w.cell? ⟨bk, 26, none⟩ = some v1) (hc2 : w.cell? ⟨bk, 27, none⟩ = some v2) (r1 : w.ownsRow B 43 1 v1 m ((List.range m).map a)) (r2 : w.ownsRow B 43 1 v2 m ((List.range m).map c))
    (ra : ∀ i, i < m → Own elReals w B 23 (a i) (F i)) (rc : ∀ i, i < m → Own elReals w B 23 (c i) (F i)) (hF : ∀ i, i < m → (F i).length ≤ 1000000 ∧ ∀ x ∈ F i, okReals x) (hm : m ≤ 250) :
    Calls Tryz.prog 50 #[.pointer (some ⟨bk, 0, none⟩)] w fun e w' => e = .returned (.bool true) ∧ ∃ q, w' = w.drewN q := by
  obtain ⟨A1, p1, e1⟩ := srow_slice r1
  obtain ⟨A2, p2, e2⟩ := srow_slice r2
  have s1 := fun k (hk : k < m) => srow_at r1 hk
  have s2 := fun k (hk : k < m) => srow_at r2 hk
  rw [e1] at hc1 s1
  rw [e2] at hc2 s2
  have S1 := Lib.hid s1
  have S2 := Lib.hid s2
  have RA := Lib.hid ra
  have RC := Lib.hid rc
  have HF := Lib.hid hF
  have hm' : (m : Int) ≤ 250 := by omega
  clear r1 r2 ra rc hF s1 s2
  go_enter Tryz.func50, Tryz.ntmps50
  go_wp2_with fail
  go_loopw [3] (fun i wr => ∃ k q : Nat, k ≤ m ∧ i = .int .i64 (k : Int) ∧ Hid (wr = w.drewN q)) (fun i _ => m - (intOf i).toNat)
  case atStart => exact ⟨0, 0, by omega, rfl, rfl⟩
  case round =>
    obtain ⟨k, q, hk, rfl, Hw⟩ := hrel
    have d1 : wr.cell? ⟨bk, 26, none⟩ = some (.slice A1 m p1) := by rw [Hw.out]; exact hc1
    have d2 : wr.cell? ⟨bk, 27, none⟩ = some (.slice A2 m p2) := by rw [Hw.out]; exact hc2
    by_cases hl : k < m
    · obtain ⟨g1, q1, f1, _, _, t1⟩ := S1.out k hl
      obtain ⟨g2, q2, f2, _, _, t2⟩ := S2.out k hl
      injection f1 with f1 f1b f1c
      injection f2 with f2 f2b f2c
      clear f1b f1c f2b f2c
      subst f1 f2
      have ia := RA.out k hl
      have ic := RC.out k hl
      obtain ⟨B1, b1, x1⟩ := ia.slice
      obtain ⟨B2, b2, x2⟩ := ic.slice
      rw [x1] at ia t1
      rw [x2] at ic t2
      have hf := HF.out k hl
      have K : Hid (∀ q, Calls Tryz.prog 10 #[.slice B1 (F k).length b1, .slice B2 (F k).length b2] (wr.drewN q) fun e w' => e = .returned (.bool true) ∧ ∃ m, w' = (wr.drewN q).drewN m) := fun q' => by
        rw [Hw.out]
        exact sameReals_any B1 B2 _ _ b1 b2 B B (F k) _ ia ic hf.1 hf.2
      have u1 : wr.cell? ⟨g1, k, none⟩ = some (.slice B1 (F k).length b1) := by rw [Hw.out]; exact t1
      have u2 : wr.cell? ⟨g2, k, none⟩ = some (.slice B2 (F k).length b2) := by rw [Hw.out]; exact t2
      have hl1 : (k : Int) < (m : Int) := by omega
      clear ia ic x1 x2 t1 t2 hf
      generalize (F k).length = n1 at *
      go_wp2_with fail
      go_quiet (first | (go_at_call 10; refine Calls.quiet_of (K.out _)))
      go_wp2_with fail
      go_roundw
      case rel => exact ⟨k + 1, _, by omega, by go_num, (by rw [Hw.out, World.drewN_drewN]; rfl)⟩
      case measure => simp [intOf]; omega
    · obtain rfl : k = m := by omega
      go_wp2_with fail
      go_ret
      exact ⟨rfl, q, Hw.out⟩

set_option maxRecDepth 100000 in
set_option maxHeartbeats 4000000 in
theorem putReals_any (B bk m : Nat) (bcs : Array Value) (v1 : Value) (a : Nat → Value) (F : Nat → List (Nat)) (w : World) (hb : Blk w bk 41 bcs) (hf : bcs[26]? = some v1) (r1 : w.ownsRow B 43 1 v1 m ((List.range m).map a)) (hR : Rwk elReals w B 23 m a F) (hF : ∀ i, i < m → (F i).length ≤ 100000) (hm : m ≤ 250) (_hB : B ≤ w.heap.size) :
    Calls Tryz.prog 66 #[.pointer (some ⟨bk, 0, none⟩)] w fun e w' => e = .returned (.tuple #[]) ∧ Rwk elReals w' B 23 m a (fun i => elReals.marks i 0 (F i).length) ∧ Tn B (cellsT 23) w w' := by
  obtain ⟨A1, p1, e1⟩ := srow_slice r1
  have bkc : ∀ W, Tn B (cellsT 23) w W → W.cell? ⟨bk, 26, none⟩ = some (.slice A1 m p1) := fun W hW => by
    have := (hW.blk hb (cellsT_ne (by decide) _ _)).cell 26
    rw [this, hf, e1]
  have s1 : ∀ W, Tn B (cellsT 23) w W → ∀ k, k < m → ∃ g, A1 = some ⟨g, 0, none⟩ ∧ W.cell? ⟨g, k, none⟩ = some (a k) := fun W hW k hk => by
    obtain ⟨g, c, h1, _, _, h2⟩ := srow_at (hW.own r1 (fun cs fr => cellsT_ne (by decide) _ _)) hk
    rw [e1] at h1
    injection h1 with h1 _ _
    exact ⟨g, h1, h2⟩
  have BK := Lib.hid bkc
  have S1 := Lib.hid s1
  have HR := Lib.hid hR
  have HF := Lib.hid hF
  have hm' : (m : Int) ≤ 250 := by omega
  clear hb hf r1 hR hF e1 bkc s1
  go_enter Tryz.func66, Tryz.ntmps66
  go_wp2_with fail
  go_loopw [2] (fun i wr => ∃ k : Nat, ∃ G : Nat → List (Nat), k ≤ m ∧ i = .int .i64 (k : Int) ∧ Hid (Rwk elReals wr B 23 m a G ∧ (∀ i, i < m → (G i).length = (F i).length) ∧ ∀ i, i < k → G i = elReals.marks i 0 (F i).length) ∧ Hid (Tn B (cellsT 23) w wr)) (fun i _ => m - (intOf i).toNat)
  case atStart => exact ⟨0, F, by omega, rfl, ⟨HR.out, fun _ _ => rfl, fun i hi => absurd hi (by omega)⟩, Tn.refl _ _ _⟩
  case round =>
    obtain ⟨k, G, hk, rfl, HR1, HT1⟩ := hrel
    have d4 := BK.out _ HT1.out
    by_cases hl : k < m
    · obtain ⟨g1, rfl, s2⟩ := S1.out _ HT1.out k hl
      obtain ⟨nk, hnk⟩ : ∃ n, (F k).length = n := ⟨_, rfl⟩
      have hnk2 := HF.out k hl
      rw [hnk] at hnk2
      have hrow := HR1.out.1.each k hl
      have hGk := HR1.out.2.1 k hl
      rw [hnk] at hGk
      obtain ⟨ak, ck, ek⟩ := hrow.slice
      rw [hGk] at ek
      rw [ek] at s2
      have Hnk := Lib.hid hnk
      have Ek := Lib.hid ek
      have HGk := Lib.hid hGk
      have hl1 : (k : Int) < (m : Int) := by omega
      have hnk3 : (nk : Int) ≤ 100000 := by omega
      have M := Lib.hid (markReals_any k 0 nk wr (by omega) (by omega))
      have HG : Hid (∀ g, (Value.slice ak nk ck).ownBlock = some g → g < wr.heap.size) := fun g hg => (hrow.lt (by rw [Ek.out]; exact hg)).2
      clear hnk hrow hGk ek
      go_wp2_with fail
      refine M.out.mono ?_
      rintro e w1 ⟨v, rfl, hN, hb⟩
      obtain ⟨av, cv, ev⟩ := hN.slice
      rw [El.marks_length] at ev
      subst ev
      obtain ⟨S, hS⟩ : ∃ S, wr.heap.size = S := ⟨_, rfl⟩
      rw [hS] at hN HG
      have HN := Lib.hid hN
      have HR2 := Lib.hid (HR1.out.1.below (below_g hb))
      have HT2 := Lib.hid (HT1.out.trans (Tn.of_grown hb))
      clear hN hb M hS d4 s2
      go_wp2_with fail
      go_loopw [4] (fun i wr' => ∃ j : Nat, ∃ G' : Nat → List (Nat), j ≤ nk ∧ i = .int .i64 (j : Int) ∧ Hid (Rwk elReals wr' B 23 m a G' ∧ (∀ i, i < m → (G' i).length = (F i).length) ∧ (∀ i, i < k → G' i = elReals.marks i 0 (F i).length) ∧ ∀ t, t < j → (G' k)[t]? = (elReals.marks k 0 nk)[t]?) ∧ Hid (Own elReals wr' S 23 (.slice av nk cv) (elReals.marks k 0 nk)) ∧ Hid (Tn B (cellsT 23) w wr')) (fun i _ => nk - (intOf i).toNat)
      case atStart => exact ⟨0, G, by omega, rfl, ⟨HR2.out, HR1.out.2.1, HR1.out.2.2, fun t ht => absurd ht (by omega)⟩, HN, HT2⟩
      case round =>
        obtain ⟨j, G', hj, rfl, HR3, HN3, HT3⟩ := hrel
        by_cases hlj : j < nk
        · have d5 := BK.out _ HT3.out
          obtain ⟨g1', q1, s3⟩ := S1.out _ HT3.out k hl
          simp only [Option.some.injEq, Addr.mk.injEq, and_true] at q1
          subst q1
          rw [Ek.out] at s3
          have hGl : (G' k).length = nk := by rw [HR3.out.2.1 k hl, Hnk.out]
          obtain ⟨gk, ck', curk, ek', _, hhk⟩ := (HR3.out.1.each k hl).some_ (by omega)
          rw [Ek.out] at ek'
          injection ek' with ek1 ek2 ek3
          clear ek2 ek3
          subst ek1
          have hrow := HR3.out.1.each k hl
          rw [Ek.out] at hrow
          obtain ⟨gv, cv', curv, ev', _, _⟩ := HN3.out.some_ (by rw [El.marks_length]; omega)
          injection ev' with ev1 ev2 ev3
          clear ev2 ev3
          subst ev1
          obtain ⟨x, hx⟩ : ∃ x, x = elReals.mark k j := ⟨_, rfl⟩
          have hxm : (elReals.marks k 0 nk)[j]? = some x := by rw [hx]; exact El.marks_at _ _ _ _ hlj
          obtain ⟨y, hy⟩ : ∃ y, (G' k)[j]? = some y := ⟨_, List.getElem?_eq_getElem (by omega)⟩
          have y0 : wr.cell? ⟨gv, j, none⟩ = some (.float .f64 x) := by
            have h9 := Own.cells (j := 0) HN3.out hxm (by decide) rfl
            rwa [show j * elReals.sz + 0 = j from by show j * 1 + 0 = _; omega] at h9
          have z0 : wr.cell? ⟨gk, j, none⟩ = some (.float .f64 y) := by
            have h9 := Own.cells (j := 0) hrow hy (by decide) rfl
            rwa [show j * elReals.sz + 0 = j from by show j * 1 + 0 = _; omega] at h9
          have hfz := fun i => (show Own elReals wr B 23 _ _ from hrow).frozen_ i
          have fz0 := hfz (j)
          have PK := Lib.hid (put_k (j := j) (x := x) HR3.out.1 hl Ek.out (by omega))
          have hgS : (Value.slice (some ⟨gv, 0, none⟩) nk cv).ownBlock ≠ some gk := by
            intro h
            have h1 := (HN3.out.lt h).1
            have h2 := HG.out gk rfl
            omega
          have PN := Lib.hid (PK.out.2.2 _ _ _ HN3.out hgS)
          have hlj1 : (j : Int) < (nk : Int) := by omega
          have Hxm := Lib.hid hxm
          have HGl := Lib.hid hGl
          clear hrow hx hxm hy hgS hfz hhk hGl
          have hE : setCells wr gk (j * elReals.sz) (elReals.cl x) = wr.setCell ⟨gk, j, none⟩ (.float .f64 x) := by show setCells wr gk (j * 1) _ = _; rw [Nat.mul_one]; rfl
          rw [hE] at PK PN
          clear hE
          have hst := run_store_f64P
          go_wp2_with fail
          go_region
          go_wp2_with fail
          go_roundw
          case rel =>
            refine ⟨j + 1, upk G' k ((G' k).set j x), by omega, by go_num, ⟨⟨PK.out.1.each, PK.out.1.apart⟩, fun i hi => ?_, fun i hi => ?_, fun t ht => ?_⟩, PN, (HT3.out.drew.trans PK.out.2.1.fromDrew)⟩
            · by_cases hik : i = k
              · subst hik; rw [upk_at, List.length_set]; exact HR3.out.2.1 i hi
              · rw [upk_ne _ _ hik]; exact HR3.out.2.1 i hi
            · rw [upk_ne _ _ (by omega)]
              exact HR3.out.2.2.1 i hi
            · rw [upk_at]
              by_cases htj : t = j
              · subst htj
                rw [Hxm.out, List.getElem?_set_self (by rw [HGl.out]; exact hlj)]
              · rw [List.getElem?_set_ne (fun h => htj h.symm)]
                exact HR3.out.2.2.2 t (by omega)
          case measure => simp [intOf]; omega
        · obtain rfl : j = nk := by omega
          go_wp2_with fail
          go_roundw
          case rel =>
            refine ⟨k + 1, G', by omega, by go_num, ⟨HR3.out.1, HR3.out.2.1, fun i hi => ?_⟩, HT3⟩
            by_cases hik : i = k
            · subst hik
              rw [Hnk.out]
              refine List.ext_getElem? fun t => ?_
              by_cases ht : t < j
              · exact HR3.out.2.2.2 t ht
              · rw [List.getElem?_eq_none (by rw [HR3.out.2.1 i hl, Hnk.out]; omega), List.getElem?_eq_none (by rw [El.marks_length]; omega)]
            · exact HR3.out.2.2.1 i (by omega)
          case measure => simp [intOf]; omega
    · obtain rfl : k = m := by omega
      go_wp2_with fail
      go_end0
      exact ⟨rfl, ⟨fun i hi => by rw [← HR1.out.2.2 i hi]; exact HR1.out.1.each i hi, HR1.out.1.apart⟩, HT1.out⟩
end Go.Proofs.YtkhmbkofkdnlkaaGreat

namespace Go.Proofs.YtkhmbkofkdnlkaaGreat
open Go.RowKit

theorem sinfoReals : (Tryz.prog.info? 43).map (fun i => (i.zero, i.size, i.bytes)) = some (some (.slice none 0 0), 1, 24) := by kernel_rfl
theorem sunderReals : Tryz.prog.underlying 38 = some (.slice 43) := by kernel_rfl
set_option maxRecDepth 100000 in
set_option maxHeartbeats 4000000 in
theorem growReals_any (B bk m : Nat) (bcs : Array Value) (v1 : Value) (a : Nat → Value) (n : Nat → Nat) (w : World) (hb : Blk w bk 41 bcs) (hf : bcs[26]? = some v1) (r1 : w.ownsRow B 43 1 v1 m ((List.range m).map a)) (hR : Rwk elReals w B 23 m a (fun i => elReals.marks i 0 (n i))) (hn : ∀ i, i < m → n i ≤ 100000) (hm : m ≤ 250) (hB : B ≤ w.heap.size) :
    Calls Tryz.prog 80 #[.pointer (some ⟨bk, 0, none⟩)] w fun e w' => ∃ v b, e = .returned v ∧ w'.ownsRow w.heap.size 43 1 v m ((List.range m).map b) ∧ Famk elReals w' B 23 m a b (fun i => elReals.marks i 0 (n i)) (fun i => elReals.marks i 0 (n i + 72)) ∧ Tn B (cellsT 23) w w' := by
  obtain ⟨A1, p1, e1⟩ := srow_slice r1
  have bkc : ∀ W, Tn B (cellsT 23) w W → W.cell? ⟨bk, 26, none⟩ = some (.slice A1 m p1) := fun W hW => by
    have := (hW.blk hb (cellsT_ne (by decide) _ _)).cell 26
    rw [this, hf, e1]
  have s1 : ∀ W, Tn B (cellsT 23) w W → ∀ k, k < m → ∃ g, A1 = some ⟨g, 0, none⟩ ∧ W.cell? ⟨g, k, none⟩ = some (a k) := fun W hW k hk => by
    obtain ⟨g, c, h1, _, _, h2⟩ := srow_at (hW.own r1 (fun cs fr => cellsT_ne (by decide) _ _)) hk
    rw [e1] at h1
    injection h1 with h1 _ _
    exact ⟨g, h1, h2⟩
  have BK := Lib.hid bkc
  have S1 := Lib.hid s1
  have HR := Lib.hid hR
  have HN := Lib.hid hn
  have hm' : (m : Int) ≤ 250 := by omega
  obtain ⟨S, hS⟩ : ∃ S, w.heap.size = S := ⟨_, rfl⟩
  have HS := Lib.hid hS
  have HB := Lib.hid hB
  rw [hS]
  clear hb hf r1 hR hn e1 bkc s1 hS hB
  go_enter Tryz.func80, Tryz.ntmps80
  go_wp2_with fail
  go_loopw [3, 4] (fun o i wr => ∃ k : Nat, ∃ b : Nat → Value, ∃ H : Nat → List (Nat), k ≤ m ∧ i = .int .i64 (k : Int) ∧ Hid (wr.ownsRow S 43 1 o k ((List.range k).map b)) ∧ Hid (Famk elReals wr B 23 m a b (fun i => elReals.marks i 0 (n i)) H ∧ (∀ i, i < k → H i = elReals.marks i 0 (n i + 72)) ∧ ∀ i, k ≤ i → b i = a i ∧ H i = elReals.marks i 0 (n i)) ∧ Hid (Tn B (cellsT 23) w wr)) (fun _ i _ => m - (intOf i).toNat)
  case atStart => exact ⟨0, a, _, by omega, rfl, World.ownsRow_nil _ _ _ _, ⟨Famk.start HR.out, fun i hi => absurd hi (by omega), fun i _ => ⟨rfl, rfl⟩⟩, Tn.refl _ _ _⟩
  case round =>
    obtain ⟨k, b, H, hk, rfl, HO1, HF1, HT1⟩ := hrel
    have d4 := BK.out _ HT1.out
    obtain ⟨ao, co, eo⟩ := srow_slice HO1.out
    subst eo
    by_cases hl : k < m
    · obtain ⟨g1, rfl, s2⟩ := S1.out _ HT1.out k hl
      obtain ⟨nk, hnk⟩ : ∃ x, n k = x := ⟨_, rfl⟩
      have hnk2 := HN.out k hl
      rw [hnk] at hnk2
      obtain ⟨ak, ck, ek⟩ := (HF1.out.1.ra k hl).slice
      rw [El.marks_length, hnk] at ek
      rw [ek] at s2
      have Hnk := Lib.hid hnk
      have Ek := Lib.hid ek
      have hl1 : (k : Int) < (m : Int) := by omega
      have hnk3 : (nk : Int) ≤ 100000 := by omega
      have HF2 : Hid (Famk elReals wr B 23 m a (upk b k (.slice ak nk ck)) (fun i => elReals.marks i 0 (n i)) (upk H k (elReals.marks k 0 (nk + 0)))) := by
        unfold Hid
        rw [upk_self b k _ (by rw [(HF1.out.2.2 k (Nat.le_refl _)).1, ek]), upk_self H k _ (by rw [(HF1.out.2.2 k (Nat.le_refl _)).2, hnk]; rfl)]
        exact HF1.out.1
      clear hnk ek
      go_wp2_with fail
      go_loopw [5, 6] (fun l t wr' => ∃ j : Nat, j ≤ 12 ∧ t = .int .i64 (j : Int) ∧ Hid (wr'.ownsRow S 43 1 (.slice ao k co) k ((List.range k).map b)) ∧ Hid (Famk elReals wr' B 23 m a (upk b k l) (fun i => elReals.marks i 0 (n i)) (upk H k (elReals.marks k 0 (nk + j)))) ∧ Hid (Tn B (cellsT 23) w wr')) (fun _ t _ => 12 - (intOf t).toNat)
      case atStart => exact ⟨0, by omega, rfl, HO1, HF2, HT1⟩
      case round =>
        obtain ⟨j, hj, rfl, HO2, HF3, HT2⟩ := hrel
        have hrow := HF3.out.rb k hl
        rw [upk_at, upk_at] at hrow
        obtain ⟨N, hN⟩ : ∃ N, nk + j = N := ⟨_, rfl⟩
        rw [hN] at hrow HF3
        obtain ⟨al, cl, el⟩ := hrow.slice
        rw [El.marks_length] at el
        subst el
        have hN1 : N ≤ 100012 := by omega
        have HN4 := Lib.hid hN
        have Hrow := Lib.hid hrow
        clear hrow hN d4 s2
        by_cases hlj : j < 12
        · have hlj1 : (j : Int) < 12 := by omega
          have M := Lib.hid (markReals_any k N 1 wr (by omega) (by omega))
          go_wp2_with fail
          refine M.out.mono ?_
          rintro e w1 ⟨v, rfl, hN5, hb5⟩
          obtain ⟨av, cv, ev⟩ := hN5.slice
          rw [El.marks_length] at ev
          subst ev
          obtain ⟨hz9, hA, hM⟩ := own_reads hN5
          have hrow1 := Hrow.out.below (below_g hb5)
          have hB1 : B ≤ w1.heap.size := Nat.le_trans HB.out (Nat.le_trans HT2.out.size hb5.size)
          obtain ⟨l', w2, hr, hown, hgr, hold, hblk⟩ := app_own (P := Tryz.prog) elReals 43 23 (.float .f64 0) 8 underReals infoReals rfl w1 B (.slice al N cl) (elReals.marks k 0 N) (elReals.marks k N 1) hrow1 av cv hA hM (by rw [El.marks_length, El.marks_length]; unfold maxLen; omega) (by rw [El.marks_length, El.marks_length]; omega) hB1 1 (El.marks_length _ _ _ _).symm
          have HF5 := Lib.hid ((HF3.out.below (below_g hb5)).marked2 hl hown hgr hold hblk)
          have HT5 := Lib.hid ((HT2.out.trans (Tn.of_grown hb5)).grow hrow1 hgr)
          have HO5 : Hid (w2.ownsRow S 43 1 (.slice ao k co) k ((List.range k).map b)) := ((Tn.refl B (cellsT 23) w1).grow hrow1 hgr).own ((Tn.of_grown (B := B) (T := cellsT 23) hb5).own HO2.out (fun cs fr => cellsT_ne (by decide) _ _)) (fun cs fr => cellsT_ne (by decide) _ _)
          have HR5 := fun ty => Lib.hid (hr ty)
          clear hz9 hN5 hb5 hA hM hrow1 hB1 hr hown hgr hold hblk M hN1 hnk2 hnk3
          go_wp2_with (at_builtin; refine wpList_append_k _ w2 rfl (.tmp 27) (.tmp 31) 43 rfl _ _ l' rfl rfl (fun ty => (HR5 ty).out) ?_)
          go_roundw
          case rel => exact ⟨j + 1, by omega, by go_num, HO5, by rw [← Nat.add_assoc, HN4.out]; exact HF5, HT5⟩
          case measure => simp [intOf]; omega
        · obtain rfl : j = 12 := by omega
          have M := Lib.hid (markReals_any k N 60 wr (by omega) (by omega))
          go_wp2_with fail
          refine M.out.mono ?_
          rintro e w1 ⟨v, rfl, hN5, hb5⟩
          obtain ⟨av, cv, ev⟩ := hN5.slice
          rw [El.marks_length] at ev
          subst ev
          obtain ⟨hz9, hA, hM⟩ := own_reads hN5
          have hrow1 := Hrow.out.below (below_g hb5)
          have hB1 : B ≤ w1.heap.size := Nat.le_trans HB.out (Nat.le_trans HT2.out.size hb5.size)
          obtain ⟨l', w2, hr, hown, hgr, hold, hblk⟩ := app_own (P := Tryz.prog) elReals 43 23 (.float .f64 0) 8 underReals infoReals rfl w1 B (.slice al N cl) (elReals.marks k 0 N) (elReals.marks k N 60) hrow1 av cv hA hM (by rw [El.marks_length, El.marks_length]; unfold maxLen; omega) (by rw [El.marks_length, El.marks_length]; omega) hB1 60 (El.marks_length _ _ _ _).symm
          obtain ⟨al', cl', el'⟩ := hown.slice
          rw [List.length_append, El.marks_length, El.marks_length] at el'
          subst el'
          have hF5 := (HF3.out.below (below_g hb5)).marked2 hl hown hgr hold hblk
          have hT5 := (HT2.out.trans (Tn.of_grown hb5)).grow hrow1 hgr
          have hO5 : w2.ownsRow S 43 1 (.slice ao k co) k ((List.range k).map b) := ((Tn.refl B (cellsT 23) w1).grow hrow1 hgr).own ((Tn.of_grown (B := B) (T := cellsT 23) hb5).own HO2.out (fun cs fr => cellsT_ne (by decide) _ _)) (fun cs fr => cellsT_ne (by decide) _ _)
          have HR5 := fun ty => Lib.hid (hr ty)
          have hO6 := World.ownsRow.alloc hO5 (.cells #[.slice al' (N + 60) cl'] 43)
          obtain ⟨o', w3, hr3, hown3, hgr3, hold3, hblk3⟩ := app_srow (P := Tryz.prog) 38 43 sunderReals sinfoReals (w2.alloc (.cells #[.slice al' (N + 60) cl'] 43)) S (.slice ao k co) k _ hO6 (.slice al' (N + 60) cl') rfl w2.heap.size 1 ((Blk.new w2 43 #[.slice al' (N + 60) cl']).cell 0) (by omega) (Nat.le_trans (HS.out ▸ hT5.size) (by simp))
          have HR6 := fun ty => Lib.hid (hr3 ty)
          rw [range_upk] at hown3
          have HO7 := Lib.hid hown3
          have hT6 := (hT5.alloc (.cells #[.slice al' (N + 60) cl'] 43))
          have HT7 := Lib.hid (hT6.growNew hO6 (Nat.le_of_eq HS.out) hgr3)
          have HF7 : Hid (Famk elReals w3 B 23 m a (upk b k (.slice al' (N + 60) cl')) (fun i => elReals.marks i 0 (n i)) (upk H k (elReals.marks k 0 (N + 60)))) := by
            have h1 := hF5.below (below_g (World.grownBy_alloc w2 (.cells #[.slice al' (N + 60) cl'] 43) none))
            have h2 : Tn S (cellsT 43) (w2.alloc (.cells #[.slice al' (N + 60) cl'] 43)) w3 := (Tn.refl S (cellsT 43) _).grow hO6 hgr3
            exact h1.tn h2 (fun cs fr => cellsT_ne (by decide) _ _)
          clear hz9 hN5 hb5 hA hM hrow1 hB1 hr hown hgr hold hblk M hF5 hT5 hO5 hO6 hr3 hown3 hgr3 hold3 hblk3 hT6 hN1 hnk2 hnk3
          go_wp2_with (at_builtin; first | refine wpList_append_k _ w2 rfl (.tmp 34) (.tmp 38) 43 rfl _ _ (.slice al' (N + 60) cl') rfl rfl (fun ty => (HR5 ty).out) ?_ | refine wpList_append_k _ w3 rfl (.tmp 33) (.tmp 40) 38 rfl _ _ o' rfl rfl (fun ty => (HR6 ty).out) ?_)
          go_roundw
          case rel =>
            refine ⟨k + 1, upk b k (.slice al' (N + 60) cl'), _, by omega, by go_num, HO7, ⟨HF7.out, fun i hi => ?_, fun i hi => ?_⟩, HT7⟩
            · by_cases hik : i = k
              · subst hik
                rw [upk_at, Hnk.out, ← HN4.out]
              · rw [upk_ne _ _ hik]
                exact HF1.out.2.1 i (by omega)
            · rw [upk_ne _ _ (show i ≠ k by omega), upk_ne _ _ (show i ≠ k by omega)]
              exact HF1.out.2.2 i (by omega)
          case measure => simp [intOf]; omega
    · obtain rfl : k = m := by omega
      go_wp2_with fail
      go_ret
      refine ⟨_, b, rfl, HO1.out, ⟨HF1.out.1.ra, fun i hi => ?_, HF1.out.1.oaa, HF1.out.1.oab, HF1.out.1.obb, fun i hi => ?_⟩, HT1.out⟩
      · rw [← HF1.out.2.1 i hi]
        exact HF1.out.1.rb i hi
      · rw [← HF1.out.2.1 i hi]
        exact HF1.out.1.tie i hi

set_option maxRecDepth 100000 in
set_option maxHeartbeats 2000000 in
theorem markedReals_any (B B2 m : Nat) (v : Value) (a : Nat → Value) (n : Nat → Nat) (w : World) (hown : w.ownsRow B2 43 1 v m ((List.range m).map a)) (hR : ∀ i, i < m → Own elReals w B 23 (a i) (elReals.marks i 0 (n i))) (hn : ∀ i, i < m → n i ≤ 200000) (hm : m ≤ 250) :
    Calls Tryz.prog 95 #[v] w fun e w' => e = .returned (.bool true) ∧ w.grownBy w' none := by
  obtain ⟨A1, p1, e1⟩ := srow_slice hown
  subst e1
  have s1 : ∀ W, w.grownBy W none → ∀ k, k < m → ∃ g, A1 = some ⟨g, 0, none⟩ ∧ W.cell? ⟨g, k, none⟩ = some (a k) := fun W hW k hk => by
    obtain ⟨g, c, h1, _, _, h2⟩ := srow_at hown hk
    injection h1 with h1 _ _
    exact ⟨g, h1, hW.cell h2 (by simp)⟩
  have S1 := Lib.hid s1
  have HR := Lib.hid hR
  have HN := Lib.hid hn
  have hm' : (m : Int) ≤ 250 := by omega
  clear hown hR hn s1
  go_enter Tryz.func95, Tryz.ntmps95
  go_wp2_with fail
  go_loopw [3] (fun i wr => ∃ k : Nat, k ≤ m ∧ i = .int .i64 (k : Int) ∧ Hid (w.grownBy wr none)) (fun i _ => m - (intOf i).toNat)
  case atStart => exact ⟨0, by omega, rfl, grefl _ _⟩
  case round =>
    obtain ⟨k, hk, rfl, HG⟩ := hrel
    by_cases hl : k < m
    · obtain ⟨g1, rfl, s2⟩ := S1.out _ HG.out k hl
      obtain ⟨nk, hnk⟩ : ∃ x, n k = x := ⟨_, rfl⟩
      have hnk2 := HN.out k hl
      have hrow := HR.out k hl
      rw [hnk] at hnk2 hrow
      obtain ⟨ak, ck, ek⟩ := hrow.slice
      rw [El.marks_length] at ek
      rw [ek] at s2 hrow
      have M : ∀ W, wr.grownBy W none → Hid (Calls Tryz.prog 130 #[.int .i64 (k : Int), .int .i64 0, .int .i64 (nk : Int)] W fun e W1 => ∃ av cv, e = .returned (.slice av nk cv) ∧ W1.cell? ⟨g1, k, none⟩ = some (.slice ak nk ck) ∧ Hid (wr.grownBy W1 none) ∧ Hid (∀ W2, W1.grownBy W2 none → Calls Tryz.prog 10 #[.slice ak nk ck, .slice av nk cv] W2 fun e W3 => e = .returned (.bool true) ∧ W2.grownBy W3 none)) := by
        intro W hW
        refine (markReals_any k 0 nk W (by omega) (by omega)).mono ?_
        rintro e W1 ⟨v, rfl, hN5, hb5⟩
        obtain ⟨av, cv, ev⟩ := hN5.slice
        rw [El.marks_length] at ev
        subst ev
        have hg1 := gnone hW hb5
        refine ⟨av, cv, rfl, hg1.cell s2 (by simp), hg1, fun W2 h2 => ?_⟩
        refine (sameReals_any ak av nk nk ck cv B W.heap.size (elReals.marks k 0 nk) W2 ((hrow.below (below_g HG.out)).below (below_g (gnone hg1 h2))) (hN5.below (below_g h2)) (by rw [El.marks_length]; omega) (okmReals k 0 nk)).mono ?_
        rintro e W3 ⟨rfl, q, rfl⟩
        exact ⟨rfl, only_drewN (grefl _ _) q⟩
      have hl1 : (k : Int) < (m : Int) := by omega
      have hnk3 : (nk : Int) ≤ 200000 := by omega
      have G0 : wr.grownBy wr.drew none := ⟨rfl, rfl, rfl, Nat.le_refl _, fun _ _ _ => rfl⟩
      have HG0 := Lib.hid G0
      have c0 : wr.drew.cell? ⟨g1, k, none⟩ = some (.slice ak nk ck) := s2
      clear hnk hrow ek G0
      go_wp2_with fail
      go_region_held3 (fun W => W.cell? ⟨g1, k, none⟩ = some (.slice ak nk ck))
        (first | exact c0 | exact c1 | exact H2.out.cell c1 (by simp))
        (first
          | (go_at_call 130; refine (M _ HG0.out).out.mono ?_; rintro e W1 ⟨av, cv, rfl, c1, HG1, HS1⟩)
          | (go_at_call 10; refine (HS1.out _ (grefl _ _)).mono ?_; rintro e W3 ⟨rfl, h2⟩; have H2 := Lib.hid h2; clear h2))
      have HG9 := Lib.hid (gnone HG.out (gnone HG1.out H2.out))
      go_wp2_with fail
      go_roundw
      case rel => exact ⟨k + 1, by omega, by go_num, HG9⟩
      case measure => simp [intOf]; omega
    · obtain rfl : k = m := by omega
      go_wp2_with fail
      go_ret
      exact ⟨rfl, HG.out⟩
end Go.Proofs.YtkhmbkofkdnlkaaGreat

namespace Go.Proofs.YtkhmbkofkdnlkaaGreat
open Go.RowKit

/-- The book's fields f and f + 1 keep the lists Z of a kind, and copies of them; each lies in a block of its own below S. -/
def KSt {α : Type} (E : El α) (ok : α → Prop) (e te : TypeId) (f : Nat) (w : World) (B : Nat) (bcs : Array Value) (Z : List (List α)) (S : Nat) : Prop :=
  ∃ v1 v2 a c, bcs[f]? = some v1 ∧ bcs[f + 1]? = some v2 ∧ w.ownsRow B te 1 v1 Z.length ((List.range Z.length).map a) ∧ w.ownsRow B te 1 v2 Z.length ((List.range Z.length).map c) ∧ Off v1 v2 ∧ Rwk E w B e Z.length a (fun i => Z.getD i []) ∧
    (∀ i, i < Z.length → Own E w B e (c i) (Z.getD i [])) ∧ (∀ i, i < Z.length → (Z.getD i []).length ≤ 100000 ∧ ∀ x ∈ Z.getD i [], ok x) ∧ (∀ i, i < Z.length → ∀ g, (a i).ownBlock = some g → g < S) ∧ Z.length ≤ 250
section
variable {α : Type} {E : El α} {ok : α → Prop} {e te tB : TypeId} {f : Nat} {w w' : World} {B bk S : Nat} {bcs : Array Value} {Z : List (List α)}
theorem KSt.tn (h : KSt E ok e te f w B bcs Z S) {B' : Nat} {T : Obj → Bool} (g : Tn B' T w w') (h1 : ∀ cs fr, T (.cells cs e fr) = false) (h2 : ∀ cs fr, T (.cells cs te fr) = false) : KSt E ok e te f w' B bcs Z S := by
  obtain ⟨v1, v2, a, c, f1, f2, r1, r2, o, ra, rc, hz, hs, hm⟩ := h
  exact ⟨v1, v2, a, c, f1, f2, g.own r1 h2, g.own r2 h2, o, ra.tn g h1, fun i hi => (rc i hi).tn g h1, hz, hs, hm⟩
theorem KSt.below (h : KSt E ok e te f w B bcs Z S) (g : Below w.heap.size w w') : KSt E ok e te f w' B bcs Z S := h.tn (Tn.of_below (B := 0) (T := fun _ => false) g) (fun _ _ => rfl) (fun _ _ => rfl)
theorem KSt.fields (h : KSt E ok e te f w B bcs Z S) {bcs' : Array Value} (h1 : bcs'[f]? = bcs[f]?) (h2 : bcs'[f + 1]? = bcs[f + 1]?) : KSt E ok e te f w B bcs' Z S := by
  obtain ⟨v1, v2, a, c, f1, f2, r⟩ := h
  exact ⟨v1, v2, a, c, h1.trans f1, h2.trans f2, r⟩
theorem KSt.up (h : KSt E ok e te f w B bcs Z S) {S' : Nat} (hS : S ≤ S') : KSt E ok e te f w B bcs Z S' := by
  obtain ⟨v1, v2, a, c, f1, f2, r1, r2, o, ra, rc, hz, hs, hm⟩ := h
  exact ⟨v1, v2, a, c, f1, f2, r1, r2, o, ra, rc, hz, fun i hi g hg => Nat.lt_of_lt_of_le (hs i hi g hg) hS, hm⟩
theorem KSt.nil (h1 : bcs[f]? = some (.slice none 0 0)) (h2 : bcs[f + 1]? = some (.slice none 0 0)) : KSt E ok e te f w B bcs [] S :=
  ⟨_, _, fun _ => .slice none 0 0, fun _ => .slice none 0 0, h1, h2, World.ownsRow_nil _ _ _ _, World.ownsRow_nil _ _ _ _, fun g hg => by simp [Value.ownBlock] at hg, ⟨fun i hi => by simp at hi, fun i j hi => by simp at hi⟩, fun i hi => by simp at hi, fun i hi => by simp at hi, fun i hi => by simp at hi, Nat.zero_le _⟩
end

theorem own_ne_k {w : World} {B : Nat} {e t : TypeId} {sz : Nat} {v : Value} {n : Nat} {xs : List Value} {p : Nat} {cs : Array Value} (h : w.ownsRow B e sz v n xs) (hb : Blk w p t cs) (hne : e ≠ t) : v.ownBlock ≠ some p := by
  rcases h.2 with ⟨rfl, _⟩ | ⟨g, cap, cur, rfl, _, hg, _⟩
  · intro h; cases h
  · intro h
    cases h
    unfold Blk at hb
    rw [hg] at hb
    cases hb
    exact hne rfl
def twoT (te tB : TypeId) : Obj → Bool := fun o => cellsT te o || cellsT tB o
theorem twoT_ne {te tB t : TypeId} (h1 : t ≠ te) (h2 : t ≠ tB) (cs : Array Value) (fr : Nat × Nat) : twoT te tB (.cells cs t fr) = false := by
  unfold twoT
  rw [cellsT_ne h1, cellsT_ne h2]
  rfl
theorem Tn.two_l {B : Nat} {te tB : TypeId} {w w' : World} (h : Tn B (cellsT te) w w') : Tn B (twoT te tB) w w' := h.mono fun o ho => by unfold twoT at ho; rw [Bool.or_eq_false_iff] at ho; exact ho.1
theorem Tn.two_blk {B g : Nat} {te tB : TypeId} {w w' : World} {cs : Array Value} (h : Tn B (twoT te tB) w w') (hb : Blk w' g tB cs) (hB : B ≤ g) (i : Nat) (u : Value) : Tn B (twoT te tB) w (w'.setCell ⟨g, i, none⟩ u) :=
  h.setCell (p := ⟨g, i, none⟩) (Or.inr ⟨hB, _, hb, by unfold twoT; simp [cellsT]⟩) u

/-- A row of lists, one more at its end, and the field of the book that tells it. -/
theorem keep_row {P : Program} {tte te tB : TypeId} (ht : P.underlying tte = some (.slice te)) (hinfo : (P.info? te).map (fun i => (i.zero, i.size, i.bytes)) = some (some (.slice none 0 0), 1, 24)) (hne : te ≠ tB)
    {w : World} {B bk f m : Nat} {bcs : Array Value} {v u : Value} {xs : List Value} {r2 : Value} {m2 : Nat} {ys : List Value} (hb : Blk w bk tB bcs) (hB : B ≤ w.heap.size) (hBk : B ≤ bk) (hv : w.ownsRow B te 1 v m xs) (hr2 : w.ownsRow B te 1 r2 m2 ys) (hoff : Off v r2) (hm : m ≤ 250) (hu : u.oneCell' = true) :
    ∃ A d w1, (∀ ty, (Builtin.append_ #[tte, tte] ty #[v, .slice (some ⟨w.heap.size, 0, none⟩) 1 1]).run P (w.alloc (.cells #[u] te)) = .ok (.slice A (m + 1) d) w1) ∧ Blk w1 bk tB bcs ∧
      Blk (w1.setCell ⟨bk, f, none⟩ (.slice A (m + 1) d)) bk tB (bcs.setIfInBounds f (.slice A (m + 1) d)) ∧ (w1.setCell ⟨bk, f, none⟩ (.slice A (m + 1) d)).ownsRow B te 1 (.slice A (m + 1) d) (m + 1) (xs ++ [u]) ∧
      (w1.setCell ⟨bk, f, none⟩ (.slice A (m + 1) d)).ownsRow B te 1 r2 m2 ys ∧ Off (.slice A (m + 1) d) r2 ∧ Tn B (twoT te tB) w (w1.setCell ⟨bk, f, none⟩ (.slice A (m + 1) d)) := by
  have g0 : w.grownBy (w.alloc (.cells #[u] te)) none := World.grownBy_alloc _ _ _
  have hv0 := World.ownsRow.alloc hv (.cells #[u] te)
  have hr0 := World.ownsRow.alloc hr2 (.cells #[u] te)
  have hb0 := hb.alloc (.cells #[u] te)
  obtain ⟨v', w1, hr, hown, hgr, _, hblk⟩ := app_srow (P := P) tte te ht hinfo (w.alloc (.cells #[u] te)) B v m xs hv0 u hu w.heap.size 1 ((Blk.new w te #[u]).cell 0) (by omega) (Nat.le_trans hB (by simp))
  obtain ⟨A, d, rfl⟩ := srow_slice hown
  have hb1 : Blk w1 bk tB bcs := hb0.grown hgr (fun e => own_ne_k hv0 hb0 hne e.symm)
  have hr1 : w1.ownsRow B te 1 r2 m2 ys := World.ownsRow.kept hr0 hgr (offk_none hoff)
  have gs : ∀ u, w1.grownBy (w1.setCell ⟨bk, f, none⟩ u) (some bk) := fun u => only_setCell (grefl w1 _) (Or.inl rfl) u
  refine ⟨A, d, w1, hr, hb1, hb1.set_ f _, hown.kept (gs _) (Or.inr (own_ne_k hown hb1 hne)), hr1.kept (gs _) (Or.inr (own_ne_k hr1 hb1 hne)), fun g hg hv' => ?_, ?_⟩
  · rcases hblk with e | e
    · exact hoff g (e ▸ hg) hv'
    · have h1 := e g hg
      have h2 := (World.ownsRow.lt hr2 g hv').2
      simp at h1
      omega
  · exact Tn.two_blk ((Tn.two_l ((Tn.of_grown g0).grow hv0 hgr))) hb1 hBk f _

theorem getDk_lt {α : Type} (l : List α) (x d : α) {i : Nat} (h : i < l.length) : (l ++ [x]).getD i d = l.getD i d := by
  rw [List.getD_eq_getElem?_getD, List.getElem?_append_left h, ← List.getD_eq_getElem?_getD]
theorem getDk_eq {α : Type} (l : List α) (x d : α) {i : Nat} (h : i = l.length) : (l ++ [x]).getD i d = x := by
  subst h
  rw [List.getD_eq_getElem?_getD, List.getElem?_append_right (Nat.le_refl _)]
  simp
/-- One more is kept. -/
theorem KSt.add {α : Type} {E : El α} {ok : α → Prop} {e te : TypeId} {f : Nat} {w : World} {B S S' lo : Nat} {bcs : Array Value} {Z : List (List α)} {L : List α} {a c : Nat → Value} {v1 v2 x cp : Value}
    (f1 : bcs[f]? = some v1) (f2 : bcs[f + 1]? = some v2) (r1 : w.ownsRow B te 1 v1 (Z.length + 1) ((List.range Z.length).map a ++ [x])) (r2 : w.ownsRow B te 1 v2 (Z.length + 1) ((List.range Z.length).map c ++ [cp])) (o : Off v1 v2)
    (ra : Rwk E w B e Z.length a (fun i => Z.getD i [])) (rc : ∀ i, i < Z.length → Own E w B e (c i) (Z.getD i [])) (hz : ∀ i, i < Z.length → (Z.getD i []).length ≤ 100000 ∧ ∀ x ∈ Z.getD i [], ok x) (hs : ∀ i, i < Z.length → ∀ g, (a i).ownBlock = some g → g < S) (hm : Z.length < 250)
    (hx : Own E w lo e x L) (hc : Own E w B e cp L) (hSl : S ≤ lo) (hBl : B ≤ lo) (hL : L.length ≤ 100000 ∧ ∀ y ∈ L, ok y) (hS : ∀ g, x.ownBlock = some g → g < S') (hSS : S ≤ S') : KSt E ok e te f w B bcs (Z ++ [L]) S' := by
  rw [range_upk] at r1 r2
  have hl : (Z ++ [L]).length = Z.length + 1 := by simp
  have key : ∀ i, i < Z.length → Off (a i) x := fun i hi g hg hv => by
    have h1 := hs i hi g hg
    have h2 := (hx.lt hv).1
    omega
  refine ⟨v1, v2, upk a Z.length x, upk c Z.length cp, f1, f2, by rw [hl]; exact r1, by rw [hl]; exact r2, o, ⟨fun i hi => ?_, fun i j hi hj hij => ?_⟩, fun i hi => ?_, fun i hi => ?_, fun i hi g hg => ?_, by omega⟩
  · rw [hl] at hi
    by_cases hil : i < Z.length
    · rw [upk_ne _ _ (by omega), getDk_lt _ _ _ hil]
      exact ra.each i hil
    · obtain rfl : i = Z.length := by omega
      rw [upk_at, getDk_eq _ _ _ rfl]
      exact hx.low hBl
  · rw [hl] at hi hj
    by_cases hil : i < Z.length
    · rw [upk_ne _ _ (show i ≠ Z.length by omega)]
      by_cases hjl : j < Z.length
      · rw [upk_ne _ _ (show j ≠ Z.length by omega)]
        exact ra.apart i j hil hjl hij
      · rw [show j = Z.length by omega, upk_at]
        exact key i hil
    · rw [show i = Z.length by omega, upk_at, upk_ne _ _ (show j ≠ Z.length by omega)]
      exact (key j (by omega)).symm
  · rw [hl] at hi
    by_cases hil : i < Z.length
    · rw [upk_ne _ _ (by omega), getDk_lt _ _ _ hil]
      exact rc i hil
    · obtain rfl : i = Z.length := by omega
      rw [upk_at, getDk_eq _ _ _ rfl]
      exact hc
  · rw [hl] at hi
    by_cases hil : i < Z.length
    · rw [getDk_lt _ _ _ hil]
      exact hz i hil
    · rw [getDk_eq _ _ _ (by omega)]
      exact hL
  · rw [hl] at hi
    by_cases hil : i < Z.length
    · rw [upk_ne _ _ (by omega)] at hg
      have := hs i hil g hg
      omega
    · rw [show i = Z.length by omega, upk_at] at hg
      exact hS g hg
/-- A kind's lists, while marks are put. -/
structure PSt {α : Type} (E : El α) (e te : TypeId) (w : World) (B : Nat) (v1 : Value) (a : Nat → Value) (m : Nat) (F : Nat → List α) : Prop where
  r1 : w.ownsRow B te 1 v1 m ((List.range m).map a)
  ra : Rwk E w B e m a F
theorem PSt.tn {α : Type} {E : El α} {e te : TypeId} {w w' : World} {B : Nat} {v1 : Value} {a : Nat → Value} {m : Nat} {F : Nat → List α} (h : PSt E e te w B v1 a m F) {B' : Nat} {T : Obj → Bool} (g : Tn B' T w w') (h1 : ∀ cs fr, T (.cells cs e fr) = false) (h2 : ∀ cs fr, T (.cells cs te fr) = false) : PSt E e te w' B v1 a m F := ⟨g.own h.r1 h2, h.ra.tn g h1⟩
end Go.Proofs.YtkhmbkofkdnlkaaGreat

namespace Go.Proofs.YtkhmbkofkdnlkaaGreat
open Go.RowKit

abbrev KStReals := @KSt (Nat) elReals okReals 23 43 26
set_option maxRecDepth 100000 in
set_option maxHeartbeats 4000000 in
theorem keepReals_any (B bk S lo : Nat) (bcs : Array Value) (Z : List (List (Nat))) (A : Option Addr) (n c : Nat) (L : List (Nat)) (w : World) (hb : Blk w bk 41 bcs) (h : KStReals w B bcs Z S) (hx : Own elReals w lo 23 (.slice A n c) L) (hSl : S ≤ lo) (hBl : B ≤ lo) (hBk : B ≤ bk) (hB : B ≤ w.heap.size) (hS0 : S ≤ w.heap.size) (hL : L.length ≤ 100000 ∧ ∀ y ∈ L, okReals y) :
    Calls Tryz.prog 17 #[.pointer (some ⟨bk, 0, none⟩), .slice A n c] w fun e w' => e = .returned (.tuple #[]) ∧ ∃ bcs' Z', Blk w' bk 41 bcs' ∧ KStReals w' B bcs' Z' w.heap.size ∧ (∀ j, j ≠ 26 → j ≠ 27 → bcs'[j]? = bcs[j]?) ∧ Tn B (twoT 43 41) w w' ∧ (Z' = Z ++ [L] ∨ Z' = Z) := by
  have h0 := h
  obtain ⟨v1, v2, a, c', f1, f2, r1, r2, o, ra, rc, hz, hs, hm2⟩ := h
  obtain ⟨A1, p1, rfl⟩ := srow_slice r1
  obtain ⟨A2, p2, rfl⟩ := srow_slice r2
  have d1 : w.cell? ⟨bk, 26, none⟩ = some (.slice A1 Z.length p1) := by rw [hb.cell 26, f1]
  by_cases hm : Z.length < 250
  · obtain ⟨A3, d3, w1, hr1, hb1, hb2, q1, q2, qo, hT⟩ := keep_row (P := Tryz.prog) (f := 26) sunderReals sinfoReals (show 43 ≠ 41 by decide) (u := .slice A n c) hb hB hBk r1 r2 o (by omega) rfl
    have hsz : 27 < bcs.size := (Array.getElem?_eq_some_iff.1 f2).1
    have g1 : w1.cell? ⟨bk, 26, none⟩ = some (.slice A1 Z.length p1) := by rw [hb1.cell 26, f1]
    have g1f := hb1.frozen 26
    have eT : ∀ cs fr, twoT 43 41 (.cells cs 23 fr) = false := fun cs fr => twoT_ne (by decide) (by decide) _ _
    have hx2 := hx.tn hT eT
    have ra2 := ra.tn hT eT
    have rc2 := fun i hi => (rc i hi).tn hT eT
    have hB2 := Nat.le_trans hB hT.size
    have HR1 := fun ty => Lib.hid (hr1 ty)
    obtain ⟨w2, hw2⟩ : ∃ w2, w1.setCell ⟨bk, 26, none⟩ (.slice A3 (Z.length + 1) d3) = w2 := ⟨_, rfl⟩
    rw [hw2] at hb2 q1 q2 hT hx2 ra2 rc2 hB2
    have d2 : w2.cell? ⟨bk, 27, none⟩ = some (.slice A2 Z.length p2) := by
      rw [hb2.cell 27, Array.getElem?_setIfInBounds_ne (by decide), f2]
    have CP : Hid (Calls Tryz.prog 35 #[.slice A n c] w2.drew fun e w' => ∃ a3 c3, e = .returned (.slice a3 n c3) ∧ Own elReals w' w2.heap.size 23 (.slice a3 n c3) L ∧ w2.drew.grownBy w' none) :=
      copyReals_any A n c lo L w2.drew (hx2.below ⟨rfl, rfl, rfl, Nat.le_refl _, fun _ _ => rfl⟩) (by omega)
    have KP : ∀ w3 a3 c3, Own elReals w3 w2.heap.size 23 (.slice a3 n c3) L → w2.drew.grownBy w3 none → Hid (∃ A5 d5 w5, (∀ ty, (Builtin.append_ #[38, 38] ty #[.slice A2 Z.length p2, .slice (some ⟨w3.heap.size, 0, none⟩) 1 1]).run Tryz.prog (w3.alloc (.cells #[.slice a3 n c3] 43)) = .ok (.slice A5 (Z.length + 1) d5) w5) ∧
        w5.cell? ⟨bk, 27, none⟩ = some (.slice A2 Z.length p2) ∧ w5.frozen? ⟨bk, 27, none⟩ = false ∧ Hid (∃ bcs' Z', Blk (w5.setCell ⟨bk, 27, none⟩ (.slice A5 (Z.length + 1) d5)) bk 41 bcs' ∧ KStReals (w5.setCell ⟨bk, 27, none⟩ (.slice A5 (Z.length + 1) d5)) B bcs' Z' w.heap.size ∧ (∀ j, j ≠ 26 → j ≠ 27 → bcs'[j]? = bcs[j]?) ∧ Tn B (twoT 43 41) w (w5.setCell ⟨bk, 27, none⟩ (.slice A5 (Z.length + 1) d5)) ∧ (Z' = Z ++ [L] ∨ Z' = Z))) := by
      intro w3 a3 c3 hO hg
      have hg2 : w2.grownBy w3 none := ⟨hg.os, hg.tape, hg.output, hg.size, hg.block⟩
      have T3 : Tn B (twoT 43 41) w2 w3 := Tn.of_grown hg2
      have b3 : Blk w3 bk 41 (bcs.setIfInBounds 26 (.slice A3 (Z.length + 1) d3)) := hb2.grown hg2 (by simp)
      have g3 := below_g hg2
      have q13 := (Tn.of_below (B := 0) (T := fun _ => false) g3).own q1 (fun _ _ => rfl)
      have q23 := (Tn.of_below (B := 0) (T := fun _ => false) g3).own q2 (fun _ _ => rfl)
      obtain ⟨A5, d5, w5, hr5, hb5, hb6, s1, s2, so, hT5⟩ := keep_row (P := Tryz.prog) (f := 27) sunderReals sinfoReals (show 43 ≠ 41 by decide) (u := .slice a3 n c3) b3 (Nat.le_trans hB2 hg2.size) hBk q23 q13 qo.symm (by omega) rfl
      have T6 := (hT.trans T3).trans hT5
      refine ⟨A5, d5, w5, hr5, ?_, hb5.frozen _, (bcs.setIfInBounds 26 (.slice A3 (Z.length + 1) d3)).setIfInBounds 27 (.slice A5 (Z.length + 1) d5), Z ++ [L], hb6, ?_, fun j h1 h2 => ?_, T6, Or.inl rfl⟩
      · rw [hb5.cell 27, Array.getElem?_setIfInBounds_ne (by decide), f2]
      · refine KSt.add (S := S) (lo := lo) (v1 := .slice A3 (Z.length + 1) d3) (v2 := .slice A5 (Z.length + 1) d5) (x := .slice A n c) (cp := .slice a3 n c3) (a := a) (c := c') ?_ ?_ s2 s1 so.symm (ra.tn T6 eT) (fun i hi => (rc i hi).tn T6 eT) hz hs hm (hx.tn T6 eT) ((hO.tn hT5 eT).low hB2) hSl hBl hL (fun g hg' => (hx.lt hg').2) hS0
        · rw [Array.getElem?_setIfInBounds_ne (by decide), Array.getElem?_setIfInBounds_self_of_lt (by omega)]
        · rw [Array.getElem?_setIfInBounds_self_of_lt (by simp; omega)]
      · rw [Array.getElem?_setIfInBounds_ne (fun h => h2 h.symm), Array.getElem?_setIfInBounds_ne (fun h => h1 h.symm)]
    have m1 : (Z.length : Int) < 250 := by omega
    have D2 : w2.drew.cell? ⟨bk, 27, none⟩ = some (.slice A2 Z.length p2) := d2
    have HW2 := Lib.hid hw2
    clear h0 r1 r2 o ra rc hz hs hb1 hb2 q1 q2 qo hT hx hx2 ra2 rc2 hr1 f1 f2 hb hm2 hw2
    generalize Z.length = m at *
    go_enter Tryz.func17, Tryz.ntmps17
    go_wp2_with (at_builtin; refine wpList_append_k _ w1 rfl (.tmp 14) (.tmp 16) 38 rfl _ _ (.slice A3 (m + 1) d3) rfl rfl (fun ty => (HR1 ty).out) ?_)
    rw [HW2.out]
    go_region_law (first
      | (go_simp; go_at_call 35; refine CP.out.mono ?_; rintro e w3 ⟨a3, c3, rfl, hO3, hg3⟩; obtain ⟨A5, d5, w5, hr5, c5, z5, KF⟩ := (KP w3 a3 c3 hO3 hg3).out; have c3' : w3.cell? ⟨bk, 27, none⟩ = some (.slice A2 m p2) := hg3.cell D2 (by simp); have c4' : (w3.alloc (.cells #[.slice a3 n c3] 43)).cell? ⟨bk, 27, none⟩ = some (.slice A2 m p2) := (World.grownBy_alloc w3 _ none).cell c3' (by simp))
      | (refine step_append_k rfl (.tmp 24) (.tmp 27) 38 rfl _ _ (.slice A5 (m + 1) d5) (by simp [Act.eval]) (by simp [Act.eval]) (hr5 _) ?_))
    all_goals
      go_wp2_with fail
      go_end0
      obtain ⟨b9, Z9, k1, k2, k3, k4, k5⟩ := KF.out
      first | exact ⟨rfl, b9, Z9, k1, k2, k3, k4, k5⟩ | exact ⟨rfl, b9, k1, Z9, k2, k3, k4, k5⟩
  · have m1 : ¬ (Z.length : Int) < 250 := by omega
    have H0 := Lib.hid h0
    have HB := Lib.hid hb
    clear h0 r1 r2 o ra rc hz hs f1 f2 hb hx
    go_enter Tryz.func17, Tryz.ntmps17
    go_wp2_with fail
    go_end0
    exact ⟨rfl, bcs, HB.out, Z, H0.out.up hS0, fun _ _ _ => rfl, Tn.refl _ _ _, Or.inr rfl⟩
end Go.Proofs.YtkhmbkofkdnlkaaGreat

namespace Go.Proofs.YtkhmbkofkdnlkaaGreat
open Go.RowKit

set_option maxRecDepth 100000 in
set_option maxHeartbeats 1000000 in
theorem stillInts_any (B bk m : Nat) (v1 v2 : Value) (a c : Nat → Value) (F : Nat → List (Int)) (w : World) (hc1 : w.cell? ⟨bk, 2, none⟩ = some v1) (hc2 : w.cell? ⟨bk, 3, none⟩ = some v2) (r1 : w.ownsRow B 45 1 v1 m ((List.range m).map a)) (r2 : w.ownsRow B 45 1 v2 m ((List.range m).map c))
    (ra : ∀ i, i < m → Own elInts w B 3 (a i) (F i)) (rc : ∀ i, i < m → Own elInts w B 3 (c i) (F i)) (hF : ∀ i, i < m → (F i).length ≤ 1000000 ∧ ∀ x ∈ F i, okInts x) (hm : m ≤ 250) :
    Calls Tryz.prog 38 #[.pointer (some ⟨bk, 0, none⟩)] w fun e w' => e = .returned (.bool true) ∧ ∃ q, w' = w.drewN q := by
  obtain ⟨A1, p1, e1⟩ := srow_slice r1
  obtain ⟨A2, p2, e2⟩ := srow_slice r2
  have s1 := fun k (hk : k < m) => srow_at r1 hk
  have s2 := fun k (hk : k < m) => srow_at r2 hk
  rw [e1] at hc1 s1
  rw [e2] at hc2 s2
  have S1 := Lib.hid s1
  have S2 := Lib.hid s2
  have RA := Lib.hid ra
  have RC := Lib.hid rc
  have HF := Lib.hid hF
  have hm' : (m : Int) ≤ 250 := by omega
  clear r1 r2 ra rc hF s1 s2
  go_enter Tryz.func38, Tryz.ntmps38
  go_wp2_with fail
  go_loopw [3] (fun i wr => ∃ k q : Nat, k ≤ m ∧ i = .int .i64 (k : Int) ∧ Hid (wr = w.drewN q)) (fun i _ => m - (intOf i).toNat)
  case atStart => exact ⟨0, 0, by omega, rfl, rfl⟩
  case round =>
    obtain ⟨k, q, hk, rfl, Hw⟩ := hrel
    have d1 : wr.cell? ⟨bk, 2, none⟩ = some (.slice A1 m p1) := by rw [Hw.out]; exact hc1
    have d2 : wr.cell? ⟨bk, 3, none⟩ = some (.slice A2 m p2) := by rw [Hw.out]; exact hc2
    by_cases hl : k < m
    · obtain ⟨g1, q1, f1, _, _, t1⟩ := S1.out k hl
      obtain ⟨g2, q2, f2, _, _, t2⟩ := S2.out k hl
      injection f1 with f1 f1b f1c
      injection f2 with f2 f2b f2c
      clear f1b f1c f2b f2c
      subst f1 f2
      have ia := RA.out k hl
      have ic := RC.out k hl
      obtain ⟨B1, b1, x1⟩ := ia.slice
      obtain ⟨B2, b2, x2⟩ := ic.slice
      rw [x1] at ia t1
      rw [x2] at ic t2
      have hf := HF.out k hl
      have K : Hid (∀ q, Calls Tryz.prog 12 #[.slice B1 (F k).length b1, .slice B2 (F k).length b2] (wr.drewN q) fun e w' => e = .returned (.bool true) ∧ ∃ m, w' = (wr.drewN q).drewN m) := fun q' => by
        rw [Hw.out]
        exact sameInts_any B1 B2 _ _ b1 b2 B B (F k) _ ia ic hf.1 hf.2
      have u1 : wr.cell? ⟨g1, k, none⟩ = some (.slice B1 (F k).length b1) := by rw [Hw.out]; exact t1
      have u2 : wr.cell? ⟨g2, k, none⟩ = some (.slice B2 (F k).length b2) := by rw [Hw.out]; exact t2
      have hl1 : (k : Int) < (m : Int) := by omega
      clear ia ic x1 x2 t1 t2 hf
      generalize (F k).length = n1 at *
      go_wp2_with fail
      go_quiet (first | (go_at_call 12; refine Calls.quiet_of (K.out _)))
      go_wp2_with fail
      go_roundw
      case rel => exact ⟨k + 1, _, by omega, by go_num, (by rw [Hw.out, World.drewN_drewN]; rfl)⟩
      case measure => simp [intOf]; omega
    · obtain rfl : k = m := by omega
      go_wp2_with fail
      go_ret
      exact ⟨rfl, q, Hw.out⟩

set_option maxRecDepth 100000 in
set_option maxHeartbeats 4000000 in
theorem putInts_any (B bk m : Nat) (bcs : Array Value) (v1 : Value) (a : Nat → Value) (F : Nat → List (Int)) (w : World) (hb : Blk w bk 41 bcs) (hf : bcs[2]? = some v1) (r1 : w.ownsRow B 45 1 v1 m ((List.range m).map a)) (hR : Rwk elInts w B 3 m a F) (hF : ∀ i, i < m → (F i).length ≤ 100000) (hm : m ≤ 250) (_hB : B ≤ w.heap.size) :
    Calls Tryz.prog 58 #[.pointer (some ⟨bk, 0, none⟩)] w fun e w' => e = .returned (.tuple #[]) ∧ Rwk elInts w' B 3 m a (fun i => elInts.marks i 0 (F i).length) ∧ Tn B (cellsT 3) w w' := by
  obtain ⟨A1, p1, e1⟩ := srow_slice r1
  have bkc : ∀ W, Tn B (cellsT 3) w W → W.cell? ⟨bk, 2, none⟩ = some (.slice A1 m p1) := fun W hW => by
    have := (hW.blk hb (cellsT_ne (by decide) _ _)).cell 2
    rw [this, hf, e1]
  have s1 : ∀ W, Tn B (cellsT 3) w W → ∀ k, k < m → ∃ g, A1 = some ⟨g, 0, none⟩ ∧ W.cell? ⟨g, k, none⟩ = some (a k) := fun W hW k hk => by
    obtain ⟨g, c, h1, _, _, h2⟩ := srow_at (hW.own r1 (fun cs fr => cellsT_ne (by decide) _ _)) hk
    rw [e1] at h1
    injection h1 with h1 _ _
    exact ⟨g, h1, h2⟩
  have BK := Lib.hid bkc
  have S1 := Lib.hid s1
  have HR := Lib.hid hR
  have HF := Lib.hid hF
  have hm' : (m : Int) ≤ 250 := by omega
  clear hb hf r1 hR hF e1 bkc s1
  go_enter Tryz.func58, Tryz.ntmps58
  go_wp2_with fail
  go_loopw [2] (fun i wr => ∃ k : Nat, ∃ G : Nat → List (Int), k ≤ m ∧ i = .int .i64 (k : Int) ∧ Hid (Rwk elInts wr B 3 m a G ∧ (∀ i, i < m → (G i).length = (F i).length) ∧ ∀ i, i < k → G i = elInts.marks i 0 (F i).length) ∧ Hid (Tn B (cellsT 3) w wr)) (fun i _ => m - (intOf i).toNat)
  case atStart => exact ⟨0, F, by omega, rfl, ⟨HR.out, fun _ _ => rfl, fun i hi => absurd hi (by omega)⟩, Tn.refl _ _ _⟩
  case round =>
    obtain ⟨k, G, hk, rfl, HR1, HT1⟩ := hrel
    have d4 := BK.out _ HT1.out
    by_cases hl : k < m
    · obtain ⟨g1, rfl, s2⟩ := S1.out _ HT1.out k hl
      obtain ⟨nk, hnk⟩ : ∃ n, (F k).length = n := ⟨_, rfl⟩
      have hnk2 := HF.out k hl
      rw [hnk] at hnk2
      have hrow := HR1.out.1.each k hl
      have hGk := HR1.out.2.1 k hl
      rw [hnk] at hGk
      obtain ⟨ak, ck, ek⟩ := hrow.slice
      rw [hGk] at ek
      rw [ek] at s2
      have Hnk := Lib.hid hnk
      have Ek := Lib.hid ek
      have HGk := Lib.hid hGk
      have hl1 : (k : Int) < (m : Int) := by omega
      have hnk3 : (nk : Int) ≤ 100000 := by omega
      have M := Lib.hid (markInts_any k 0 nk wr (by omega) (by omega))
      have HG : Hid (∀ g, (Value.slice ak nk ck).ownBlock = some g → g < wr.heap.size) := fun g hg => (hrow.lt (by rw [Ek.out]; exact hg)).2
      clear hnk hrow hGk ek
      go_wp2_with fail
      refine M.out.mono ?_
      rintro e w1 ⟨v, rfl, hN, hb⟩
      obtain ⟨av, cv, ev⟩ := hN.slice
      rw [El.marks_length] at ev
      subst ev
      obtain ⟨S, hS⟩ : ∃ S, wr.heap.size = S := ⟨_, rfl⟩
      rw [hS] at hN HG
      have HN := Lib.hid hN
      have HR2 := Lib.hid (HR1.out.1.below (below_g hb))
      have HT2 := Lib.hid (HT1.out.trans (Tn.of_grown hb))
      clear hN hb M hS d4 s2
      go_wp2_with fail
      go_loopw [4] (fun i wr' => ∃ j : Nat, ∃ G' : Nat → List (Int), j ≤ nk ∧ i = .int .i64 (j : Int) ∧ Hid (Rwk elInts wr' B 3 m a G' ∧ (∀ i, i < m → (G' i).length = (F i).length) ∧ (∀ i, i < k → G' i = elInts.marks i 0 (F i).length) ∧ ∀ t, t < j → (G' k)[t]? = (elInts.marks k 0 nk)[t]?) ∧ Hid (Own elInts wr' S 3 (.slice av nk cv) (elInts.marks k 0 nk)) ∧ Hid (Tn B (cellsT 3) w wr')) (fun i _ => nk - (intOf i).toNat)
      case atStart => exact ⟨0, G, by omega, rfl, ⟨HR2.out, HR1.out.2.1, HR1.out.2.2, fun t ht => absurd ht (by omega)⟩, HN, HT2⟩
      case round =>
        obtain ⟨j, G', hj, rfl, HR3, HN3, HT3⟩ := hrel
        by_cases hlj : j < nk
        · have d5 := BK.out _ HT3.out
          obtain ⟨g1', q1, s3⟩ := S1.out _ HT3.out k hl
          simp only [Option.some.injEq, Addr.mk.injEq, and_true] at q1
          subst q1
          rw [Ek.out] at s3
          have hGl : (G' k).length = nk := by rw [HR3.out.2.1 k hl, Hnk.out]
          obtain ⟨gk, ck', curk, ek', _, hhk⟩ := (HR3.out.1.each k hl).some_ (by omega)
          rw [Ek.out] at ek'
          injection ek' with ek1 ek2 ek3
          clear ek2 ek3
          subst ek1
          have hrow := HR3.out.1.each k hl
          rw [Ek.out] at hrow
          obtain ⟨gv, cv', curv, ev', _, _⟩ := HN3.out.some_ (by rw [El.marks_length]; omega)
          injection ev' with ev1 ev2 ev3
          clear ev2 ev3
          subst ev1
          obtain ⟨x, hx⟩ : ∃ x, x = elInts.mark k j := ⟨_, rfl⟩
          have hxm : (elInts.marks k 0 nk)[j]? = some x := by rw [hx]; exact El.marks_at _ _ _ _ hlj
          obtain ⟨y, hy⟩ : ∃ y, (G' k)[j]? = some y := ⟨_, List.getElem?_eq_getElem (by omega)⟩
          have y0 : wr.cell? ⟨gv, j, none⟩ = some (.int .i64 x) := by
            have h9 := Own.cells (j := 0) HN3.out hxm (by decide) rfl
            rwa [show j * elInts.sz + 0 = j from by show j * 1 + 0 = _; omega] at h9
          have z0 : wr.cell? ⟨gk, j, none⟩ = some (.int .i64 y) := by
            have h9 := Own.cells (j := 0) hrow hy (by decide) rfl
            rwa [show j * elInts.sz + 0 = j from by show j * 1 + 0 = _; omega] at h9
          have hfz := fun i => (show Own elInts wr B 3 _ _ from hrow).frozen_ i
          have fz0 := hfz (j)
          have PK := Lib.hid (put_k (j := j) (x := x) HR3.out.1 hl Ek.out (by omega))
          have hgS : (Value.slice (some ⟨gv, 0, none⟩) nk cv).ownBlock ≠ some gk := by
            intro h
            have h1 := (HN3.out.lt h).1
            have h2 := HG.out gk rfl
            omega
          have PN := Lib.hid (PK.out.2.2 _ _ _ HN3.out hgS)
          have hlj1 : (j : Int) < (nk : Int) := by omega
          have Hxm := Lib.hid hxm
          have HGl := Lib.hid hGl
          clear hrow hx hxm hy hgS hfz hhk hGl
          have hE : setCells wr gk (j * elInts.sz) (elInts.cl x) = wr.setCell ⟨gk, j, none⟩ (.int .i64 x) := by show setCells wr gk (j * 1) _ = _; rw [Nat.mul_one]; rfl
          rw [hE] at PK PN
          clear hE
          go_wp2_with fail
          go_region
          go_wp2_with fail
          go_roundw
          case rel =>
            refine ⟨j + 1, upk G' k ((G' k).set j x), by omega, by go_num, ⟨⟨PK.out.1.each, PK.out.1.apart⟩, fun i hi => ?_, fun i hi => ?_, fun t ht => ?_⟩, PN, (HT3.out.drew.trans PK.out.2.1.fromDrew)⟩
            · by_cases hik : i = k
              · subst hik; rw [upk_at, List.length_set]; exact HR3.out.2.1 i hi
              · rw [upk_ne _ _ hik]; exact HR3.out.2.1 i hi
            · rw [upk_ne _ _ (by omega)]
              exact HR3.out.2.2.1 i hi
            · rw [upk_at]
              by_cases htj : t = j
              · subst htj
                rw [Hxm.out, List.getElem?_set_self (by rw [HGl.out]; exact hlj)]
              · rw [List.getElem?_set_ne (fun h => htj h.symm)]
                exact HR3.out.2.2.2 t (by omega)
          case measure => simp [intOf]; omega
        · obtain rfl : j = nk := by omega
          go_wp2_with fail
          go_roundw
          case rel =>
            refine ⟨k + 1, G', by omega, by go_num, ⟨HR3.out.1, HR3.out.2.1, fun i hi => ?_⟩, HT3⟩
            by_cases hik : i = k
            · subst hik
              rw [Hnk.out]
              refine List.ext_getElem? fun t => ?_
              by_cases ht : t < j
              · exact HR3.out.2.2.2 t ht
              · rw [List.getElem?_eq_none (by rw [HR3.out.2.1 i hl, Hnk.out]; omega), List.getElem?_eq_none (by rw [El.marks_length]; omega)]
            · exact HR3.out.2.2.1 i (by omega)
          case measure => simp [intOf]; omega
    · obtain rfl : k = m := by omega
      go_wp2_with fail
      go_end0
      exact ⟨rfl, ⟨fun i hi => by rw [← HR1.out.2.2 i hi]; exact HR1.out.1.each i hi, HR1.out.1.apart⟩, HT1.out⟩
end Go.Proofs.YtkhmbkofkdnlkaaGreat

namespace Go.Proofs.YtkhmbkofkdnlkaaGreat
open Go.RowKit

theorem sinfoInts : (Tryz.prog.info? 45).map (fun i => (i.zero, i.size, i.bytes)) = some (some (.slice none 0 0), 1, 24) := by kernel_rfl
theorem sunderInts : Tryz.prog.underlying 27 = some (.slice 45) := by kernel_rfl
set_option maxRecDepth 100000 in
set_option maxHeartbeats 4000000 in
theorem growInts_any (B bk m : Nat) (bcs : Array Value) (v1 : Value) (a : Nat → Value) (n : Nat → Nat) (w : World) (hb : Blk w bk 41 bcs) (hf : bcs[2]? = some v1) (r1 : w.ownsRow B 45 1 v1 m ((List.range m).map a)) (hR : Rwk elInts w B 3 m a (fun i => elInts.marks i 0 (n i))) (hn : ∀ i, i < m → n i ≤ 100000) (hm : m ≤ 250) (hB : B ≤ w.heap.size) :
    Calls Tryz.prog 68 #[.pointer (some ⟨bk, 0, none⟩)] w fun e w' => ∃ v b, e = .returned v ∧ w'.ownsRow w.heap.size 45 1 v m ((List.range m).map b) ∧ Famk elInts w' B 3 m a b (fun i => elInts.marks i 0 (n i)) (fun i => elInts.marks i 0 (n i + 72)) ∧ Tn B (cellsT 3) w w' := by
  obtain ⟨A1, p1, e1⟩ := srow_slice r1
  have bkc : ∀ W, Tn B (cellsT 3) w W → W.cell? ⟨bk, 2, none⟩ = some (.slice A1 m p1) := fun W hW => by
    have := (hW.blk hb (cellsT_ne (by decide) _ _)).cell 2
    rw [this, hf, e1]
  have s1 : ∀ W, Tn B (cellsT 3) w W → ∀ k, k < m → ∃ g, A1 = some ⟨g, 0, none⟩ ∧ W.cell? ⟨g, k, none⟩ = some (a k) := fun W hW k hk => by
    obtain ⟨g, c, h1, _, _, h2⟩ := srow_at (hW.own r1 (fun cs fr => cellsT_ne (by decide) _ _)) hk
    rw [e1] at h1
    injection h1 with h1 _ _
    exact ⟨g, h1, h2⟩
  have BK := Lib.hid bkc
  have S1 := Lib.hid s1
  have HR := Lib.hid hR
  have HN := Lib.hid hn
  have hm' : (m : Int) ≤ 250 := by omega
  obtain ⟨S, hS⟩ : ∃ S, w.heap.size = S := ⟨_, rfl⟩
  have HS := Lib.hid hS
  have HB := Lib.hid hB
  rw [hS]
  clear hb hf r1 hR hn e1 bkc s1 hS hB
  go_enter Tryz.func68, Tryz.ntmps68
  go_wp2_with fail
  go_loopw [3, 4] (fun o i wr => ∃ k : Nat, ∃ b : Nat → Value, ∃ H : Nat → List (Int), k ≤ m ∧ i = .int .i64 (k : Int) ∧ Hid (wr.ownsRow S 45 1 o k ((List.range k).map b)) ∧ Hid (Famk elInts wr B 3 m a b (fun i => elInts.marks i 0 (n i)) H ∧ (∀ i, i < k → H i = elInts.marks i 0 (n i + 72)) ∧ ∀ i, k ≤ i → b i = a i ∧ H i = elInts.marks i 0 (n i)) ∧ Hid (Tn B (cellsT 3) w wr)) (fun _ i _ => m - (intOf i).toNat)
  case atStart => exact ⟨0, a, _, by omega, rfl, World.ownsRow_nil _ _ _ _, ⟨Famk.start HR.out, fun i hi => absurd hi (by omega), fun i _ => ⟨rfl, rfl⟩⟩, Tn.refl _ _ _⟩
  case round =>
    obtain ⟨k, b, H, hk, rfl, HO1, HF1, HT1⟩ := hrel
    have d4 := BK.out _ HT1.out
    obtain ⟨ao, co, eo⟩ := srow_slice HO1.out
    subst eo
    by_cases hl : k < m
    · obtain ⟨g1, rfl, s2⟩ := S1.out _ HT1.out k hl
      obtain ⟨nk, hnk⟩ : ∃ x, n k = x := ⟨_, rfl⟩
      have hnk2 := HN.out k hl
      rw [hnk] at hnk2
      obtain ⟨ak, ck, ek⟩ := (HF1.out.1.ra k hl).slice
      rw [El.marks_length, hnk] at ek
      rw [ek] at s2
      have Hnk := Lib.hid hnk
      have Ek := Lib.hid ek
      have hl1 : (k : Int) < (m : Int) := by omega
      have hnk3 : (nk : Int) ≤ 100000 := by omega
      have HF2 : Hid (Famk elInts wr B 3 m a (upk b k (.slice ak nk ck)) (fun i => elInts.marks i 0 (n i)) (upk H k (elInts.marks k 0 (nk + 0)))) := by
        unfold Hid
        rw [upk_self b k _ (by rw [(HF1.out.2.2 k (Nat.le_refl _)).1, ek]), upk_self H k _ (by rw [(HF1.out.2.2 k (Nat.le_refl _)).2, hnk]; rfl)]
        exact HF1.out.1
      clear hnk ek
      go_wp2_with fail
      go_loopw [5, 6] (fun l t wr' => ∃ j : Nat, j ≤ 12 ∧ t = .int .i64 (j : Int) ∧ Hid (wr'.ownsRow S 45 1 (.slice ao k co) k ((List.range k).map b)) ∧ Hid (Famk elInts wr' B 3 m a (upk b k l) (fun i => elInts.marks i 0 (n i)) (upk H k (elInts.marks k 0 (nk + j)))) ∧ Hid (Tn B (cellsT 3) w wr')) (fun _ t _ => 12 - (intOf t).toNat)
      case atStart => exact ⟨0, by omega, rfl, HO1, HF2, HT1⟩
      case round =>
        obtain ⟨j, hj, rfl, HO2, HF3, HT2⟩ := hrel
        have hrow := HF3.out.rb k hl
        rw [upk_at, upk_at] at hrow
        obtain ⟨N, hN⟩ : ∃ N, nk + j = N := ⟨_, rfl⟩
        rw [hN] at hrow HF3
        obtain ⟨al, cl, el⟩ := hrow.slice
        rw [El.marks_length] at el
        subst el
        have hN1 : N ≤ 100012 := by omega
        have HN4 := Lib.hid hN
        have Hrow := Lib.hid hrow
        clear hrow hN d4 s2
        by_cases hlj : j < 12
        · have hlj1 : (j : Int) < 12 := by omega
          have M := Lib.hid (markInts_any k N 1 wr (by omega) (by omega))
          go_wp2_with fail
          refine M.out.mono ?_
          rintro e w1 ⟨v, rfl, hN5, hb5⟩
          obtain ⟨av, cv, ev⟩ := hN5.slice
          rw [El.marks_length] at ev
          subst ev
          obtain ⟨hz9, hA, hM⟩ := own_reads hN5
          have hrow1 := Hrow.out.below (below_g hb5)
          have hB1 : B ≤ w1.heap.size := Nat.le_trans HB.out (Nat.le_trans HT2.out.size hb5.size)
          obtain ⟨l', w2, hr, hown, hgr, hold, hblk⟩ := app_own (P := Tryz.prog) elInts 45 3 (.int .i64 0) 8 underInts infoInts rfl w1 B (.slice al N cl) (elInts.marks k 0 N) (elInts.marks k N 1) hrow1 av cv hA hM (by rw [El.marks_length, El.marks_length]; unfold maxLen; omega) (by rw [El.marks_length, El.marks_length]; omega) hB1 1 (El.marks_length _ _ _ _).symm
          have HF5 := Lib.hid ((HF3.out.below (below_g hb5)).marked2 hl hown hgr hold hblk)
          have HT5 := Lib.hid ((HT2.out.trans (Tn.of_grown hb5)).grow hrow1 hgr)
          have HO5 : Hid (w2.ownsRow S 45 1 (.slice ao k co) k ((List.range k).map b)) := ((Tn.refl B (cellsT 3) w1).grow hrow1 hgr).own ((Tn.of_grown (B := B) (T := cellsT 3) hb5).own HO2.out (fun cs fr => cellsT_ne (by decide) _ _)) (fun cs fr => cellsT_ne (by decide) _ _)
          have HR5 := fun ty => Lib.hid (hr ty)
          clear hz9 hN5 hb5 hA hM hrow1 hB1 hr hown hgr hold hblk M hN1 hnk2 hnk3
          go_wp2_with (at_builtin; refine wpList_append_k _ w2 rfl (.tmp 27) (.tmp 31) 45 rfl _ _ l' rfl rfl (fun ty => (HR5 ty).out) ?_)
          go_roundw
          case rel => exact ⟨j + 1, by omega, by go_num, HO5, by rw [← Nat.add_assoc, HN4.out]; exact HF5, HT5⟩
          case measure => simp [intOf]; omega
        · obtain rfl : j = 12 := by omega
          have M := Lib.hid (markInts_any k N 60 wr (by omega) (by omega))
          go_wp2_with fail
          refine M.out.mono ?_
          rintro e w1 ⟨v, rfl, hN5, hb5⟩
          obtain ⟨av, cv, ev⟩ := hN5.slice
          rw [El.marks_length] at ev
          subst ev
          obtain ⟨hz9, hA, hM⟩ := own_reads hN5
          have hrow1 := Hrow.out.below (below_g hb5)
          have hB1 : B ≤ w1.heap.size := Nat.le_trans HB.out (Nat.le_trans HT2.out.size hb5.size)
          obtain ⟨l', w2, hr, hown, hgr, hold, hblk⟩ := app_own (P := Tryz.prog) elInts 45 3 (.int .i64 0) 8 underInts infoInts rfl w1 B (.slice al N cl) (elInts.marks k 0 N) (elInts.marks k N 60) hrow1 av cv hA hM (by rw [El.marks_length, El.marks_length]; unfold maxLen; omega) (by rw [El.marks_length, El.marks_length]; omega) hB1 60 (El.marks_length _ _ _ _).symm
          obtain ⟨al', cl', el'⟩ := hown.slice
          rw [List.length_append, El.marks_length, El.marks_length] at el'
          subst el'
          have hF5 := (HF3.out.below (below_g hb5)).marked2 hl hown hgr hold hblk
          have hT5 := (HT2.out.trans (Tn.of_grown hb5)).grow hrow1 hgr
          have hO5 : w2.ownsRow S 45 1 (.slice ao k co) k ((List.range k).map b) := ((Tn.refl B (cellsT 3) w1).grow hrow1 hgr).own ((Tn.of_grown (B := B) (T := cellsT 3) hb5).own HO2.out (fun cs fr => cellsT_ne (by decide) _ _)) (fun cs fr => cellsT_ne (by decide) _ _)
          have HR5 := fun ty => Lib.hid (hr ty)
          have hO6 := World.ownsRow.alloc hO5 (.cells #[.slice al' (N + 60) cl'] 45)
          obtain ⟨o', w3, hr3, hown3, hgr3, hold3, hblk3⟩ := app_srow (P := Tryz.prog) 27 45 sunderInts sinfoInts (w2.alloc (.cells #[.slice al' (N + 60) cl'] 45)) S (.slice ao k co) k _ hO6 (.slice al' (N + 60) cl') rfl w2.heap.size 1 ((Blk.new w2 45 #[.slice al' (N + 60) cl']).cell 0) (by omega) (Nat.le_trans (HS.out ▸ hT5.size) (by simp))
          have HR6 := fun ty => Lib.hid (hr3 ty)
          rw [range_upk] at hown3
          have HO7 := Lib.hid hown3
          have hT6 := (hT5.alloc (.cells #[.slice al' (N + 60) cl'] 45))
          have HT7 := Lib.hid (hT6.growNew hO6 (Nat.le_of_eq HS.out) hgr3)
          have HF7 : Hid (Famk elInts w3 B 3 m a (upk b k (.slice al' (N + 60) cl')) (fun i => elInts.marks i 0 (n i)) (upk H k (elInts.marks k 0 (N + 60)))) := by
            have h1 := hF5.below (below_g (World.grownBy_alloc w2 (.cells #[.slice al' (N + 60) cl'] 45) none))
            have h2 : Tn S (cellsT 45) (w2.alloc (.cells #[.slice al' (N + 60) cl'] 45)) w3 := (Tn.refl S (cellsT 45) _).grow hO6 hgr3
            exact h1.tn h2 (fun cs fr => cellsT_ne (by decide) _ _)
          clear hz9 hN5 hb5 hA hM hrow1 hB1 hr hown hgr hold hblk M hF5 hT5 hO5 hO6 hr3 hown3 hgr3 hold3 hblk3 hT6 hN1 hnk2 hnk3
          go_wp2_with (at_builtin; first | refine wpList_append_k _ w2 rfl (.tmp 34) (.tmp 38) 45 rfl _ _ (.slice al' (N + 60) cl') rfl rfl (fun ty => (HR5 ty).out) ?_ | refine wpList_append_k _ w3 rfl (.tmp 33) (.tmp 40) 27 rfl _ _ o' rfl rfl (fun ty => (HR6 ty).out) ?_)
          go_roundw
          case rel =>
            refine ⟨k + 1, upk b k (.slice al' (N + 60) cl'), _, by omega, by go_num, HO7, ⟨HF7.out, fun i hi => ?_, fun i hi => ?_⟩, HT7⟩
            · by_cases hik : i = k
              · subst hik
                rw [upk_at, Hnk.out, ← HN4.out]
              · rw [upk_ne _ _ hik]
                exact HF1.out.2.1 i (by omega)
            · rw [upk_ne _ _ (show i ≠ k by omega), upk_ne _ _ (show i ≠ k by omega)]
              exact HF1.out.2.2 i (by omega)
          case measure => simp [intOf]; omega
    · obtain rfl : k = m := by omega
      go_wp2_with fail
      go_ret
      refine ⟨_, b, rfl, HO1.out, ⟨HF1.out.1.ra, fun i hi => ?_, HF1.out.1.oaa, HF1.out.1.oab, HF1.out.1.obb, fun i hi => ?_⟩, HT1.out⟩
      · rw [← HF1.out.2.1 i hi]
        exact HF1.out.1.rb i hi
      · rw [← HF1.out.2.1 i hi]
        exact HF1.out.1.tie i hi

set_option maxRecDepth 100000 in
set_option maxHeartbeats 2000000 in
theorem markedInts_any (B B2 m : Nat) (v : Value) (a : Nat → Value) (n : Nat → Nat) (w : World) (hown : w.ownsRow B2 45 1 v m ((List.range m).map a)) (hR : ∀ i, i < m → Own elInts w B 3 (a i) (elInts.marks i 0 (n i))) (hn : ∀ i, i < m → n i ≤ 200000) (hm : m ≤ 250) :
    Calls Tryz.prog 83 #[v] w fun e w' => e = .returned (.bool true) ∧ w.grownBy w' none := by
  obtain ⟨A1, p1, e1⟩ := srow_slice hown
  subst e1
  have s1 : ∀ W, w.grownBy W none → ∀ k, k < m → ∃ g, A1 = some ⟨g, 0, none⟩ ∧ W.cell? ⟨g, k, none⟩ = some (a k) := fun W hW k hk => by
    obtain ⟨g, c, h1, _, _, h2⟩ := srow_at hown hk
    injection h1 with h1 _ _
    exact ⟨g, h1, hW.cell h2 (by simp)⟩
  have S1 := Lib.hid s1
  have HR := Lib.hid hR
  have HN := Lib.hid hn
  have hm' : (m : Int) ≤ 250 := by omega
  clear hown hR hn s1
  go_enter Tryz.func83, Tryz.ntmps83
  go_wp2_with fail
  go_loopw [3] (fun i wr => ∃ k : Nat, k ≤ m ∧ i = .int .i64 (k : Int) ∧ Hid (w.grownBy wr none)) (fun i _ => m - (intOf i).toNat)
  case atStart => exact ⟨0, by omega, rfl, grefl _ _⟩
  case round =>
    obtain ⟨k, hk, rfl, HG⟩ := hrel
    by_cases hl : k < m
    · obtain ⟨g1, rfl, s2⟩ := S1.out _ HG.out k hl
      obtain ⟨nk, hnk⟩ : ∃ x, n k = x := ⟨_, rfl⟩
      have hnk2 := HN.out k hl
      have hrow := HR.out k hl
      rw [hnk] at hnk2 hrow
      obtain ⟨ak, ck, ek⟩ := hrow.slice
      rw [El.marks_length] at ek
      rw [ek] at s2 hrow
      have M : ∀ W, wr.grownBy W none → Hid (Calls Tryz.prog 122 #[.int .i64 (k : Int), .int .i64 0, .int .i64 (nk : Int)] W fun e W1 => ∃ av cv, e = .returned (.slice av nk cv) ∧ W1.cell? ⟨g1, k, none⟩ = some (.slice ak nk ck) ∧ Hid (wr.grownBy W1 none) ∧ Hid (∀ W2, W1.grownBy W2 none → Calls Tryz.prog 12 #[.slice ak nk ck, .slice av nk cv] W2 fun e W3 => e = .returned (.bool true) ∧ W2.grownBy W3 none)) := by
        intro W hW
        refine (markInts_any k 0 nk W (by omega) (by omega)).mono ?_
        rintro e W1 ⟨v, rfl, hN5, hb5⟩
        obtain ⟨av, cv, ev⟩ := hN5.slice
        rw [El.marks_length] at ev
        subst ev
        have hg1 := gnone hW hb5
        refine ⟨av, cv, rfl, hg1.cell s2 (by simp), hg1, fun W2 h2 => ?_⟩
        refine (sameInts_any ak av nk nk ck cv B W.heap.size (elInts.marks k 0 nk) W2 ((hrow.below (below_g HG.out)).below (below_g (gnone hg1 h2))) (hN5.below (below_g h2)) (by rw [El.marks_length]; omega) (okmInts k 0 nk)).mono ?_
        rintro e W3 ⟨rfl, q, rfl⟩
        exact ⟨rfl, only_drewN (grefl _ _) q⟩
      have hl1 : (k : Int) < (m : Int) := by omega
      have hnk3 : (nk : Int) ≤ 200000 := by omega
      have G0 : wr.grownBy wr.drew none := ⟨rfl, rfl, rfl, Nat.le_refl _, fun _ _ _ => rfl⟩
      have HG0 := Lib.hid G0
      have c0 : wr.drew.cell? ⟨g1, k, none⟩ = some (.slice ak nk ck) := s2
      clear hnk hrow ek G0
      go_wp2_with fail
      go_region_held3 (fun W => W.cell? ⟨g1, k, none⟩ = some (.slice ak nk ck))
        (first | exact c0 | exact c1 | exact H2.out.cell c1 (by simp))
        (first
          | (go_at_call 122; refine (M _ HG0.out).out.mono ?_; rintro e W1 ⟨av, cv, rfl, c1, HG1, HS1⟩)
          | (go_at_call 12; refine (HS1.out _ (grefl _ _)).mono ?_; rintro e W3 ⟨rfl, h2⟩; have H2 := Lib.hid h2; clear h2))
      have HG9 := Lib.hid (gnone HG.out (gnone HG1.out H2.out))
      go_wp2_with fail
      go_roundw
      case rel => exact ⟨k + 1, by omega, by go_num, HG9⟩
      case measure => simp [intOf]; omega
    · obtain rfl : k = m := by omega
      go_wp2_with fail
      go_ret
      exact ⟨rfl, HG.out⟩
end Go.Proofs.YtkhmbkofkdnlkaaGreat

namespace Go.Proofs.YtkhmbkofkdnlkaaGreat
open Go.RowKit

abbrev KStInts := @KSt (Int) elInts okInts 3 45 2
set_option maxRecDepth 100000 in
set_option maxHeartbeats 4000000 in
theorem keepInts_any (B bk S lo : Nat) (bcs : Array Value) (Z : List (List (Int))) (A : Option Addr) (n c : Nat) (L : List (Int)) (w : World) (hb : Blk w bk 41 bcs) (h : KStInts w B bcs Z S) (hx : Own elInts w lo 3 (.slice A n c) L) (hSl : S ≤ lo) (hBl : B ≤ lo) (hBk : B ≤ bk) (hB : B ≤ w.heap.size) (hS0 : S ≤ w.heap.size) (hL : L.length ≤ 100000 ∧ ∀ y ∈ L, okInts y) :
    Calls Tryz.prog 18 #[.pointer (some ⟨bk, 0, none⟩), .slice A n c] w fun e w' => e = .returned (.tuple #[]) ∧ ∃ bcs' Z', Blk w' bk 41 bcs' ∧ KStInts w' B bcs' Z' w.heap.size ∧ (∀ j, j ≠ 2 → j ≠ 3 → bcs'[j]? = bcs[j]?) ∧ Tn B (twoT 45 41) w w' ∧ (Z' = Z ++ [L] ∨ Z' = Z) := by
  have h0 := h
  obtain ⟨v1, v2, a, c', f1, f2, r1, r2, o, ra, rc, hz, hs, hm2⟩ := h
  obtain ⟨A1, p1, rfl⟩ := srow_slice r1
  obtain ⟨A2, p2, rfl⟩ := srow_slice r2
  have d1 : w.cell? ⟨bk, 2, none⟩ = some (.slice A1 Z.length p1) := by rw [hb.cell 2, f1]
  by_cases hm : Z.length < 250
  · obtain ⟨A3, d3, w1, hr1, hb1, hb2, q1, q2, qo, hT⟩ := keep_row (P := Tryz.prog) (f := 2) sunderInts sinfoInts (show 45 ≠ 41 by decide) (u := .slice A n c) hb hB hBk r1 r2 o (by omega) rfl
    have hsz : 3 < bcs.size := (Array.getElem?_eq_some_iff.1 f2).1
    have g1 : w1.cell? ⟨bk, 2, none⟩ = some (.slice A1 Z.length p1) := by rw [hb1.cell 2, f1]
    have g1f := hb1.frozen 2
    have eT : ∀ cs fr, twoT 45 41 (.cells cs 3 fr) = false := fun cs fr => twoT_ne (by decide) (by decide) _ _
    have hx2 := hx.tn hT eT
    have ra2 := ra.tn hT eT
    have rc2 := fun i hi => (rc i hi).tn hT eT
    have hB2 := Nat.le_trans hB hT.size
    have HR1 := fun ty => Lib.hid (hr1 ty)
    obtain ⟨w2, hw2⟩ : ∃ w2, w1.setCell ⟨bk, 2, none⟩ (.slice A3 (Z.length + 1) d3) = w2 := ⟨_, rfl⟩
    rw [hw2] at hb2 q1 q2 hT hx2 ra2 rc2 hB2
    have d2 : w2.cell? ⟨bk, 3, none⟩ = some (.slice A2 Z.length p2) := by
      rw [hb2.cell 3, Array.getElem?_setIfInBounds_ne (by decide), f2]
    have CP : Hid (Calls Tryz.prog 36 #[.slice A n c] w2.drew fun e w' => ∃ a3 c3, e = .returned (.slice a3 n c3) ∧ Own elInts w' w2.heap.size 3 (.slice a3 n c3) L ∧ w2.drew.grownBy w' none) :=
      copyInts_any A n c lo L w2.drew (hx2.below ⟨rfl, rfl, rfl, Nat.le_refl _, fun _ _ => rfl⟩) (by omega)
    have KP : ∀ w3 a3 c3, Own elInts w3 w2.heap.size 3 (.slice a3 n c3) L → w2.drew.grownBy w3 none → Hid (∃ A5 d5 w5, (∀ ty, (Builtin.append_ #[27, 27] ty #[.slice A2 Z.length p2, .slice (some ⟨w3.heap.size, 0, none⟩) 1 1]).run Tryz.prog (w3.alloc (.cells #[.slice a3 n c3] 45)) = .ok (.slice A5 (Z.length + 1) d5) w5) ∧
        w5.cell? ⟨bk, 3, none⟩ = some (.slice A2 Z.length p2) ∧ w5.frozen? ⟨bk, 3, none⟩ = false ∧ Hid (∃ bcs' Z', Blk (w5.setCell ⟨bk, 3, none⟩ (.slice A5 (Z.length + 1) d5)) bk 41 bcs' ∧ KStInts (w5.setCell ⟨bk, 3, none⟩ (.slice A5 (Z.length + 1) d5)) B bcs' Z' w.heap.size ∧ (∀ j, j ≠ 2 → j ≠ 3 → bcs'[j]? = bcs[j]?) ∧ Tn B (twoT 45 41) w (w5.setCell ⟨bk, 3, none⟩ (.slice A5 (Z.length + 1) d5)) ∧ (Z' = Z ++ [L] ∨ Z' = Z))) := by
      intro w3 a3 c3 hO hg
      have hg2 : w2.grownBy w3 none := ⟨hg.os, hg.tape, hg.output, hg.size, hg.block⟩
      have T3 : Tn B (twoT 45 41) w2 w3 := Tn.of_grown hg2
      have b3 : Blk w3 bk 41 (bcs.setIfInBounds 2 (.slice A3 (Z.length + 1) d3)) := hb2.grown hg2 (by simp)
      have g3 := below_g hg2
      have q13 := (Tn.of_below (B := 0) (T := fun _ => false) g3).own q1 (fun _ _ => rfl)
      have q23 := (Tn.of_below (B := 0) (T := fun _ => false) g3).own q2 (fun _ _ => rfl)
      obtain ⟨A5, d5, w5, hr5, hb5, hb6, s1, s2, so, hT5⟩ := keep_row (P := Tryz.prog) (f := 3) sunderInts sinfoInts (show 45 ≠ 41 by decide) (u := .slice a3 n c3) b3 (Nat.le_trans hB2 hg2.size) hBk q23 q13 qo.symm (by omega) rfl
      have T6 := (hT.trans T3).trans hT5
      refine ⟨A5, d5, w5, hr5, ?_, hb5.frozen _, (bcs.setIfInBounds 2 (.slice A3 (Z.length + 1) d3)).setIfInBounds 3 (.slice A5 (Z.length + 1) d5), Z ++ [L], hb6, ?_, fun j h1 h2 => ?_, T6, Or.inl rfl⟩
      · rw [hb5.cell 3, Array.getElem?_setIfInBounds_ne (by decide), f2]
      · refine KSt.add (S := S) (lo := lo) (v1 := .slice A3 (Z.length + 1) d3) (v2 := .slice A5 (Z.length + 1) d5) (x := .slice A n c) (cp := .slice a3 n c3) (a := a) (c := c') ?_ ?_ s2 s1 so.symm (ra.tn T6 eT) (fun i hi => (rc i hi).tn T6 eT) hz hs hm (hx.tn T6 eT) ((hO.tn hT5 eT).low hB2) hSl hBl hL (fun g hg' => (hx.lt hg').2) hS0
        · rw [Array.getElem?_setIfInBounds_ne (by decide), Array.getElem?_setIfInBounds_self_of_lt (by omega)]
        · rw [Array.getElem?_setIfInBounds_self_of_lt (by simp; omega)]
      · rw [Array.getElem?_setIfInBounds_ne (fun h => h2 h.symm), Array.getElem?_setIfInBounds_ne (fun h => h1 h.symm)]
    have m1 : (Z.length : Int) < 250 := by omega
    have D2 : w2.drew.cell? ⟨bk, 3, none⟩ = some (.slice A2 Z.length p2) := d2
    have HW2 := Lib.hid hw2
    clear h0 r1 r2 o ra rc hz hs hb1 hb2 q1 q2 qo hT hx hx2 ra2 rc2 hr1 f1 f2 hb hm2 hw2
    generalize Z.length = m at *
    go_enter Tryz.func18, Tryz.ntmps18
    go_wp2_with (at_builtin; refine wpList_append_k _ w1 rfl (.tmp 14) (.tmp 16) 27 rfl _ _ (.slice A3 (m + 1) d3) rfl rfl (fun ty => (HR1 ty).out) ?_)
    rw [HW2.out]
    go_region_law (first
      | (go_simp; go_at_call 36; refine CP.out.mono ?_; rintro e w3 ⟨a3, c3, rfl, hO3, hg3⟩; obtain ⟨A5, d5, w5, hr5, c5, z5, KF⟩ := (KP w3 a3 c3 hO3 hg3).out; have c3' : w3.cell? ⟨bk, 3, none⟩ = some (.slice A2 m p2) := hg3.cell D2 (by simp); have c4' : (w3.alloc (.cells #[.slice a3 n c3] 45)).cell? ⟨bk, 3, none⟩ = some (.slice A2 m p2) := (World.grownBy_alloc w3 _ none).cell c3' (by simp))
      | (refine step_append_k rfl (.tmp 24) (.tmp 27) 27 rfl _ _ (.slice A5 (m + 1) d5) (by simp [Act.eval]) (by simp [Act.eval]) (hr5 _) ?_))
    all_goals
      go_wp2_with fail
      go_end0
      obtain ⟨b9, Z9, k1, k2, k3, k4, k5⟩ := KF.out
      first | exact ⟨rfl, b9, Z9, k1, k2, k3, k4, k5⟩ | exact ⟨rfl, b9, k1, Z9, k2, k3, k4, k5⟩
  · have m1 : ¬ (Z.length : Int) < 250 := by omega
    have H0 := Lib.hid h0
    have HB := Lib.hid hb
    clear h0 r1 r2 o ra rc hz hs f1 f2 hb hx
    go_enter Tryz.func18, Tryz.ntmps18
    go_wp2_with fail
    go_end0
    exact ⟨rfl, bcs, HB.out, Z, H0.out.up hS0, fun _ _ _ => rfl, Tn.refl _ _ _, Or.inr rfl⟩
end Go.Proofs.YtkhmbkofkdnlkaaGreat
