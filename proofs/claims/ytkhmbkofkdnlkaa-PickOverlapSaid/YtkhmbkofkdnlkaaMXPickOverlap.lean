/-
  The law PickOverlap.
-/
import Derived.Test.YtkhmbkofkdnlkaaM3
import Derived.Test.YtkhmbkofkdnlkaaM4
namespace Go.Proofs.Ytkhmbkofkdnlkaa
open Go.RowKit

theorem filter_sub {α : Type} {p q : α → Bool} (h : ∀ x, p x = true → q x = true) (M : List α) : (M.filter p).Sublist (M.filter q) := by
  have e : M.filter p = (M.filter q).filter p := by
    rw [List.filter_filter]
    congr 1
    funext x
    cases hp : p x with
    | true => rw [h x hp]; rfl
    | false => rfl
  rw [e]
  exact List.filter_sublist
theorem over_sub (L : List FileM) (lv : Int) (a : ByteArray) {b c : ByteArray} (h : ¬ cmpT c b < 0) : (overP L lv a b).Sublist (overP L lv a c) := by
  unfold overP rangeP
  refine List.Sublist.map _ (filter_sub (fun f hf => ?_) _)
  simp only [Bool.not_eq_true', Bool.or_eq_false_iff, decide_eq_false_iff_not] at hf ⊢
  refine ⟨fun h0 => hf.1 ?_, hf.2⟩
  have h1 := cmpT_swap c b
  have h2 := cmpT_swap f.fi c
  have h3 := cmpT_swap f.fi b
  rcases Int.lt_or_eq_of_le (show cmpT b c ≤ 0 by omega) with h4 | h4
  · have := cmpT_trans h4 (show cmpT c f.fi < 0 by omega)
    have h5 := cmpT_swap b f.fi
    omega
  · rw [(cmpT_eq _ _).1 h4]; exact h0
/-- Greedily: the first of what is left of a sublist is met or not. -/
theorem sub_next {X Y : List Int} {i t : Nat} {u v : Int} (h : (X.drop t).Sublist (Y.drop i)) (hx : X[t]? = some u) (hy : Y[i]? = some v) : (X.drop (if v = u then t + 1 else t)).Sublist (Y.drop (i + 1)) := by
  obtain ⟨hx1, hx2⟩ := List.getElem?_eq_some_iff.1 hx
  obtain ⟨hy1, hy2⟩ := List.getElem?_eq_some_iff.1 hy
  rw [List.drop_eq_getElem_cons hx1, List.drop_eq_getElem_cons hy1, hx2, hy2] at h
  split
  · rename_i e
    subst e
    exact List.Sublist.of_cons_cons h
  · rename_i e
    cases h with
    | cons _ h => rw [List.drop_eq_getElem_cons hx1, hx2]; exact h
    | cons_cons _ h => exact absurd rfl e
theorem own_cellI {w : World} {B n c j g : Nat} {x : Int} {e : TypeId} {S : List Int} (h : Own elInts w B e (.slice (some ⟨g, 0, none⟩) n c) S) (hx : S[j]? = some x) : w.cell? ⟨g, j, none⟩ = some (.int .i64 x) := by
  have := Own.cells (j := 0) (u := .int .i64 x) h hx (by decide) rfl
  rwa [show j * elInts.sz + 0 = j by show j * 1 + 0 = j; omega] at this
set_option maxRecDepth 100000 in
set_option maxHeartbeats 8000000 in
theorem lawPickOverlap (A : Option Addr) (n c : Nat) (L : List FileM) (lv : Int) (_hlv : (Lit.int .i64 lv).wf = true) (a : ByteArray) (_sa : a.size ≤ 140737488351232) (b : ByteArray) (_sb : b.size ≤ 140737488351232) (d : ByteArray) (_sd : d.size ≤ 140737488351232) (w : World) (I : FilesAt w A n L ∧ n ≤ 9223372036854775807 ∧ ∀ f ∈ L, FileOk f) :
    Calls Try.prog 5 #[.slice A n c, .int .i64 lv, .string a, .string b, .string d] w fun e w' => e = .returned (.bool true) ∧ Below w.heap.size w w' := by
  have CA := fun W => Lib.hid (alive15_any W)
  have exit_ : ∀ (t1 t2 t3 : Bool), decide (200 < (n : Int)) = t1 → (!Op.bytesLess a.toList b.toList && !(a.toList == b.toList)) = t2 → (!Op.bytesLess b.toList d.toList && !(b.toList == d.toList)) = t3 → (t1 || t2 || t3) = true →
      Calls Try.prog 5 #[.slice A n c, .int .i64 lv, .string a, .string b, .string d] w fun e w' => e = .returned (.bool true) ∧ Below w.heap.size w w' := by
    intro t1 t2 t3 g1 g2 g3 g4
    clear I
    cases t1 <;> cases t2 <;> cases t3
    case false.false.false => cases g4
    all_goals
      clear g4
      go_enter Try.func5, Try.ntmps5
      go_wp2_with fail
      refine (CA _).out.mono ?_
      rintro e w1 ⟨rfl, hb1⟩
      have HB := Lib.hid (below_g hb1)
      clear hb1
      go_wp2_with fail
      go_ret
      exact ⟨rfl, HB.out⟩
  by_cases h1 : 200 < (n : Int)
  · exact exit_ true _ _ (decide_eq_true h1) rfl rfl rfl
  by_cases h2 : 0 < cmpT a b
  · exact exit_ _ true _ rfl (by rw [gtrP]; exact decide_eq_true h2) rfl (by cases decide (200 < (n : Int)) <;> rfl)
  by_cases h3 : 0 < cmpT b d
  · exact exit_ false false true (decide_eq_false h1) (by rw [gtrP]; exact decide_eq_false h2) (by rw [gtrP]; exact decide_eq_true h3) rfl
  clear exit_
  have t1 : decide (200 < (n : Int)) = false := decide_eq_false h1
  have t2 : (!Op.bytesLess a.toList b.toList && !(a.toList == b.toList)) = false := by rw [gtrP]; exact decide_eq_false h2
  have t3 : (!Op.bytesLess b.toList d.toList && !(b.toList == d.toList)) = false := by rw [gtrP]; exact decide_eq_false h3
  have h3 : ¬ cmpT d b < 0 := fun h => h3 (by have := cmpT_swap d b; omega)
  have hn : n ≤ 1000000 := by omega
  have HI := Lib.hid I.1
  have HS := Lib.hid (over_sub L lv a h3)
  have l1 := over_len L lv a b
  have l2 := over_len L lv a d
  have l3 := over_len L lv ⟨#[]⟩ ⟨#[255, 255, 255, 255]⟩
  rw [← I.1.len] at l1 l2 l3
  have L3 := Lib.hid l3
  clear l3
  have CV := fun W (h : w.grownBy W none) (fi la : ByteArray) => Lib.hid (poverlap_any A n c L lv fi la W (I.1.below (below_g h)) hn)
  have H1 := Lib.hid h1
  clear I h1 h2 h3
  go_enter Try.func5, Try.ntmps5
  go_wp2_with fail
  refine (CV w (grefl _ _) a b).out.mono ?_
  rintro e w1 ⟨v1, rfl, ho1, hg1⟩
  obtain ⟨a1, c1, rfl⟩ := ho1.slice
  have HG1 := Lib.hid hg1
  have HO1 := Lib.hid ho1
  clear ho1 hg1
  go_wp2_with fail
  refine (CV w1 HG1.out a d).out.mono ?_
  rintro e w2 ⟨v2, rfl, ho2, hg2⟩
  obtain ⟨a2, c2, rfl⟩ := ho2.slice
  have HG2 := Lib.hid (gnone HG1.out hg2)
  have HO2 := Lib.hid ho2
  have HO1b := Lib.hid (HO1.out.below (below_g hg2))
  clear ho2 hg2 HG1 HO1
  generalize overP L lv a b = X at *
  generalize overP L lv a d = Y at *
  obtain ⟨x', hx⟩ : ∃ x', X.length = x' := ⟨_, rfl⟩
  obtain ⟨y', hy⟩ : ∃ y', Y.length = y' := ⟨_, rfl⟩
  have HX := Lib.hid hx
  have HY := Lib.hid hy
  rw [hx] at l1 HO1b ⊢
  rw [hy] at l2 HO2 ⊢
  have O1 : Hid (0 < x' → ∃ g, a1 = some ⟨g, 0, none⟩) := Lib.hid fun h => by
    obtain ⟨g, c', cur, e1, _, _⟩ := HO1b.out.some_ (by omega)
    injection e1 with e1 e2 e3
    exact ⟨g, e1⟩
  have O2 : Hid (0 < y' → ∃ g, a2 = some ⟨g, 0, none⟩) := Lib.hid fun h => by
    obtain ⟨g, c', cur, e1, _, _⟩ := HO2.out.some_ (by omega)
    injection e1 with e1 e2 e3
    exact ⟨g, e1⟩
  clear hx hy
  go_wp2_with fail
  go_loopw [13, 14] (fun s r wr => ∃ (t i q : Nat), t ≤ x' ∧ i ≤ y' ∧ s = .int .i64 (t : Int) ∧ r = .int .i64 (i : Int) ∧ Hid ((X.drop t).Sublist (Y.drop i)) ∧ Hid (wr = w2.drewN q)) (fun _ r _ => y' - (intOf r).toNat)
  case atStart => exact ⟨0, 0, 0, by omega, by omega, rfl, rfl, Lib.hid HS.out, Lib.hid rfl⟩
  case round =>
    obtain ⟨t, i, q, ht, hi, rfl, rfl, HSB, HW⟩ := hrel
    clear HS
    have fin : ¬ (i < y' ∧ t < x') → t = x' := fun h => by
      by_cases e : t < x'
      · have e2 : Y.drop i = [] := List.drop_eq_nil_of_le (by rw [HY.out]; omega)
        have := HSB.out.length_le
        rw [e2, List.length_drop, HX.out] at this
        simp at this
        omega
      · omega
    by_cases hl : i < y'
    · by_cases hl2 : t < x'
      · have g1 : (i : Int) < (y' : Int) := Int.ofNat_lt.2 hl
        have g2 : (t : Int) < (x' : Int) := Int.ofNat_lt.2 hl2
        have g3 : (0 : Int) ≤ (i : Int) := Int.natCast_nonneg i
        have g4 : (0 : Int) ≤ (t : Int) := Int.natCast_nonneg t
        have w1' := wrap_sucP hl (Nat.le_trans l2 hn)
        have w2' := wrap_sucP hl2 (Nat.le_trans l1 hn)
        obtain ⟨gx, rfl⟩ := O1.out (Nat.lt_of_le_of_lt (Nat.zero_le _) hl2)
        obtain ⟨gy, rfl⟩ := O2.out (Nat.lt_of_le_of_lt (Nat.zero_le _) hl)
        have hu := List.getElem?_eq_getElem (show t < X.length by rw [HX.out]; exact hl2)
        have hv := List.getElem?_eq_getElem (show i < Y.length by rw [HY.out]; exact hl)
        generalize X[t]'_ = u at hu
        generalize Y[i]'_ = v at hv
        have z1 : wr.cell? ⟨gx, t, none⟩ = some (.int .i64 u) := by rw [HW.out]; exact own_cellI HO1b.out hu
        have z2 : wr.cell? ⟨gy, i, none⟩ = some (.int .i64 v) := by rw [HW.out]; exact own_cellI HO2.out hv
        have hnx := sub_next HSB.out hu hv
        clear fin hu hv
        by_cases e : v = u
        · rw [if_pos e] at hnx
          have te : (v == u) = true := beq_iff_eq.2 e
          have HN := Lib.hid hnx
          have HL1 := Lib.hid hl
          have HL2 := Lib.hid hl2
          clear e hnx HSB
          go_wp2_with fail
          go_quiet (fail)
          clear z1 z2 g1 g2 t1 t2 t3 l1 l2 hn ht hi hl hl2
          go_wp2_with fail
          go_roundw
          case rel => exact ⟨t + 1, i + 1, _, HL2.out, HL1.out, by go_num, by go_num, HN, Lib.hid (by rw [HW.out, World.drewN_drewN])⟩
          case measure => exact meas_lt2P w1' HL1.out
        · rw [if_neg e] at hnx
          have te : (v == u) = false := beq_eq_false_iff_ne.2 e
          have HN := Lib.hid hnx
          clear e hnx HSB
          go_wp2_with fail
          go_quiet (fail)
          go_wp2_with fail
          go_roundw
          case rel => exact ⟨t, i + 1, _, ht, hl, rfl, by go_num, HN, Lib.hid (by rw [HW.out, World.drewN_drewN])⟩
          case measure => exact meas_ltP hl
      · obtain rfl : t = x' := fin (fun h => hl2 h.2)
        have g1 : (i : Int) < (y' : Int) := Int.ofNat_lt.2 hl
        have g2 : ¬ (t : Int) < (t : Int) := Int.lt_irrefl _
        clear fin
        have CVV := CV wr (by rw [HW.out]; exact only_drewN HG2.out _) ⟨#[]⟩ ⟨#[255, 255, 255, 255]⟩
        have HGW : Hid (w.grownBy wr none) := Lib.hid (by rw [HW.out]; exact only_drewN HG2.out _)
        clear CV HSB
        go_wp2_with fail
        refine CVV.out.mono ?_
        rintro e w5 ⟨v5, rfl, ho5, hg5⟩
        obtain ⟨a5, c5, rfl⟩ := ho5.slice
        have HG5 := Lib.hid (gnone HGW.out hg5)
        clear ho5 hg5 CVV
        have l2' : (y' : Int) ≤ (n : Int) := Int.ofNat_le.2 l2
        have l3' : ((overP L lv ⟨#[]⟩ ⟨#[255, 255, 255, 255]⟩).length : Int) ≤ (n : Int) := Int.ofNat_le.2 L3.out
        generalize (overP L lv ⟨#[]⟩ ⟨#[255, 255, 255, 255]⟩).length = z' at *
        go_wp2_with fail
        refine (CA _).out.mono ?_
        rintro e w6 ⟨rfl, hg6⟩
        have HG6 := Lib.hid (gnone HG5.out hg6)
        clear hg6
        go_wp2_with fail
        go_ret
        exact ⟨rfl, below_g HG6.out⟩
    · obtain rfl : t = x' := fin (fun h => hl h.1)
      have g1 : ¬ (i : Int) < (y' : Int) := fun h => hl (Int.ofNat_lt.1 h)
      clear fin
      have CVV := CV wr (by rw [HW.out]; exact only_drewN HG2.out _) ⟨#[]⟩ ⟨#[255, 255, 255, 255]⟩
      have HGW : Hid (w.grownBy wr none) := Lib.hid (by rw [HW.out]; exact only_drewN HG2.out _)
      clear CV HSB
      go_wp2_with fail
      refine CVV.out.mono ?_
      rintro e w5 ⟨v5, rfl, ho5, hg5⟩
      obtain ⟨a5, c5, rfl⟩ := ho5.slice
      have HG5 := Lib.hid (gnone HGW.out hg5)
      clear ho5 hg5 CVV
      have l2' : (y' : Int) ≤ (n : Int) := Int.ofNat_le.2 l2
      have l3' : ((overP L lv ⟨#[]⟩ ⟨#[255, 255, 255, 255]⟩).length : Int) ≤ (n : Int) := Int.ofNat_le.2 L3.out
      generalize (overP L lv ⟨#[]⟩ ⟨#[255, 255, 255, 255]⟩).length = z' at *
      go_wp2_with fail
      refine (CA _).out.mono ?_
      rintro e w6 ⟨rfl, hg6⟩
      have HG6 := Lib.hid (gnone HG5.out hg6)
      clear hg6
      go_wp2_with fail
      go_ret
      exact ⟨rfl, below_g HG6.out⟩
end Go.Proofs.Ytkhmbkofkdnlkaa
