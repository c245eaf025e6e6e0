/-
  The document's own list of chapter 10, part 7: Lanes.
-/
import Derived.Test.YtmagkkkecihgmaaGreatSk1
import Derived.Test.YtmagkkkecihgmaaGreatBkInts1
namespace Go.Proofs.YtmagkkkecihgmaaGreat
open Go.RowKit

/-- How many pairs are higher than h. -/
def cntL (L : List P10) (h : Nat) : Nat := (L.filter fun m => decide ((h : Int) < m.2.2)).length
theorem cntL_le (L : List P10) (h : Nat) : cntL L h ≤ L.length := List.length_filter_le _ _
theorem cntL_take (L : List P10) (h k : Nat) (m : P10) (hm : L[k]? = some m) : cntL (L.take (k + 1)) h = cntL (L.take k) h + if (h : Int) < m.2.2 then 1 else 0 := by
  have hk := (List.getElem?_eq_some_iff.1 hm).1
  unfold cntL
  rw [List.take_succ_eq_append_getElem hk, (List.getElem?_eq_some_iff.1 hm).2, List.filter_append, List.length_append]
  by_cases z : (h : Int) < m.2.2
  · simp [z]
  · simp [z]
/-- The lanes below h. -/
def lanesTo (L : List P10) (k : Nat) : List Int := (List.range k).map fun h => (cntL L h : Int)
theorem lanesTo_length (L : List P10) (k : Nat) : (lanesTo L k).length = k := by simp [lanesTo]
theorem lanesTo_succ (L : List P10) (k : Nat) : lanesTo L k ++ [(cntL L k : Int)] = lanesTo L (k + 1) := by simp [lanesTo, List.range_succ]
/-- How many lanes there are. -/
def hiL (L : List P10) : Nat := ((List.range 12).takeWhile fun h => decide (0 < cntL L h)).length
theorem takeWhile_all (f : Nat → Bool) : ∀ (n k s : Nat), k ≤ n → (∀ i, i < k → f (s + i) = true) → (k < n → f (s + k) = false) → ((List.range' s n).takeWhile f).length = k := by
  intro n
  induction n with
  | zero => intro k s hk _ _; simp at hk; subst hk; rfl
  | succ n ih =>
    intro k s hk h1 h2
    rw [List.range'_succ]
    cases k with
    | zero =>
      have := h2 (by omega)
      rw [List.takeWhile_cons_of_neg (by simpa using this)]
      rfl
    | succ k =>
      have := h1 0 (by omega)
      rw [List.takeWhile_cons_of_pos (by simpa using this), List.length_cons, ih k (s + 1) (by omega) (fun i hi => by have := h1 (i + 1) (by omega); rwa [show s + 1 + i = s + (i + 1) by omega]) (fun hk' => by have := h2 (by omega); rwa [show s + 1 + k = s + (k + 1) by omega])]
theorem hiL_of (L : List P10) (k : Nat) (hk : k ≤ 12) (h1 : ∀ i, i < k → 0 < cntL L i) (h2 : k < 12 → cntL L k = 0) : hiL L = k := by
  unfold hiL
  rw [List.range_eq_range']
  exact takeWhile_all _ 12 k 0 hk (fun i hi => by rw [Nat.zero_add]; exact decide_eq_true (h1 i hi)) (fun hk => by rw [Nat.zero_add, h2 hk]; rfl)

set_option maxRecDepth 100000 in
set_option maxHeartbeats 4000000 in
theorem rlanes10 {B p : Nat} {s : S10} {w : World} (h : SkR B p w s) (hL : s.L.length ≤ 100000) :
    Calls Tryz.prog 24 #[.pointer (some ⟨p, 0, none⟩)] w fun e w' => ∃ v, e = .returned v ∧ Own elInts w' w.heap.size 3 v (lanesTo s.L (hiL s.L)) ∧ w.grownBy w' none := by
  obtain ⟨A, c, hC⟩ := h.cells
  have c0 := hC.c0
  have hat := hC.at_
  obtain ⟨L, hLL⟩ : ∃ L, s.L = L := ⟨_, rfl⟩
  rw [hLL] at c0 hat hL ⊢
  obtain ⟨n, hn⟩ : ∃ n, L.length = n := ⟨_, rfl⟩
  rw [hn] at c0 hL
  have Hat := Lib.hid hat
  have Hge := Lib.hid (fun k (hk : k < n) => (show ∃ m, L[k]? = some m from ⟨_, List.getElem?_eq_getElem (by omega)⟩))
  have HL := Lib.hid hL
  have Hn := Lib.hid hn
  obtain ⟨r, hr⟩ : ∃ r, hiL L = r := ⟨_, rfl⟩
  rw [hr]
  have Hr := Lib.hid hr
  clear h hC hat hn hL hLL hr
  go_enter Tryz.func24, Tryz.ntmps24
  go_wp2_with fail
  go_loopw [3, 4, 5, 6] (fun o i _ _ wr => ∃ k : Nat, k ≤ 12 ∧ i = .int .i64 (k : Int) ∧ Hid (∀ i, i < k → 0 < cntL L i) ∧ Hid (Own elInts wr w.heap.size 3 o (lanesTo L k)) ∧ Hid (w.grownBy wr none)) (fun _ i _ _ _ => 12 - (intOf i).toNat)
  case atStart => exact ⟨0, by omega, rfl, (fun i hi => by omega), World.ownsRow_nil _ _ _ _, grefl _ _⟩
  case round =>
    obtain ⟨k, hk, rfl, Hk, HN, HG⟩ := hrel
    obtain ⟨ao, co, eo⟩ := HN.out.slice
    rw [lanesTo_length] at eo
    subst eo
    by_cases hl : k < 12
    · have C0 : wr.cell? ⟨p, 0, none⟩ = some (.slice A n c) := HG.out.cell c0 (by simp)
      have g1 : (k : Int) < 12 := by omega
      go_wp2_with fail
      go_loopw [5, 6] (fun b i wi => ∃ q : Nat, q ≤ n ∧ i = .int .i64 (q : Int) ∧ b = .int .i64 (cntL (L.take q) k : Int) ∧ wi = wr) (fun _ i _ => n - (intOf i).toNat)
      case atStart => exact ⟨0, by omega, rfl, rfl, rfl⟩
      case round =>
        obtain ⟨q, hq, rfl, rfl, rfl⟩ := hrel
        by_cases hl2 : q < n
        · obtain ⟨m, hm⟩ := Hge.out q hl2
          obtain ⟨g, rfl, x0, x1, x2⟩ := Hat.out q m hm
          have X2 : wr.cell? ⟨g, q * 3 + 2, none⟩ = some (.int .i64 m.2.2) := HG.out.cell x2 (by simp)
          have g2 : (q : Int) < (n : Int) := by omega
          have hc1 := cntL_le (L.take q) k
          rw [List.length_take] at hc1
          have hT := Lib.hid (cntL_take L k q m hm)
          have hb1 : cntL (L.take q) k ≤ 100000 := by have := HL.out; omega
          have hq1 : q ≤ 100000 := by have := HL.out; omega
          obtain ⟨b0, hb0⟩ : ∃ b0, cntL (L.take q) k = b0 := ⟨_, rfl⟩
          have Hb0 := Lib.hid hb0
          rw [hb0] at hb1 ⊢
          clear hm x0 x1 x2 hc1 hb0
          by_cases z : (k : Int) < m.2.2
          · have hT2 : Hid (cntL (L.take (q + 1)) k = b0 + 1) := by have := hT.out; rw [if_pos z, Hb0.out] at this; exact this
            go_wp2_with fail
            go_roundw
            case rel => exact ⟨q + 1, by omega, by go_num, by rw [hT2.out]; go_num, by first | rfl | simp only []⟩
            case measure => simp [intOf]; omega
          · have hT2 : Hid (cntL (L.take (q + 1)) k = b0) := by have := hT.out; rw [if_neg z, Hb0.out] at this; exact this
            go_wp2_with fail
            go_roundw
            case rel => exact ⟨q + 1, by omega, by go_num, by rw [hT2.out], by first | rfl | simp only []⟩
            case measure => simp [intOf]; omega
        · obtain rfl : q = n := by omega
          have e1 : L.take q = L := List.take_of_length_le (by rw [Hn.out]; exact Nat.le_refl _)
          rw [e1]
          clear e1 hl2
          obtain ⟨b0, hb0⟩ : ∃ b0, cntL L k = b0 := ⟨_, rfl⟩
          have Hb0 := Lib.hid hb0
          rw [hb0]
          clear hb0
          by_cases z : b0 = 0
          · subst z
            have e2 : k = r := by
              rw [← Hr.out]
              exact (hiL_of L k (by omega) Hk.out (fun _ => Hb0.out)).symm
            subst e2
            go_wp2_with fail
            go_ret
            exact ⟨_, rfl, HN.out, HG.out⟩
          · have z1 : ((b0 : Int) == 0) = false := beq_eq_false_iff_ne.2 (by omega)
            have Hk2 : Hid (∀ i, i < k + 1 → 0 < cntL L i) := by
              intro i hi
              by_cases e : i = k
              · subst e
                rw [Hb0.out]
                omega
              · exact Hk.out i (by omega)
            have Ha : Own elInts (wr.alloc (.cells #[.int .i64 (b0 : Int)] 3)) w.heap.size 3 (.slice ao k co) (lanesTo L k) := World.ownsRow.alloc HN.out _
            obtain ⟨v', w2, hr, hown, hgr, _, _⟩ := app_own (P := Tryz.prog) elInts 68 3 (.int .i64 0) 8 underInts infoInts rfl (wr.alloc (.cells #[.int .i64 (b0 : Int)] 3)) w.heap.size (.slice ao k co) (lanesTo L k) [(b0 : Int)] Ha (some ⟨wr.heap.size, 0, none⟩) 1 (fun h => by cases h) (fun a ha j' u hu => by
              cases ha
              rw [El.row_one] at hu
              exact cells_new wr 3 [.int .i64 (b0 : Int)] j' u hu) (by rw [lanesTo_length]; unfold maxLen; simp; omega) (by rw [lanesTo_length]; simp; omega) (Nat.le_trans HG.out.size (by simp)) 1 rfl
            rw [← Hb0.out, lanesTo_succ] at hown
            have HR := fun ty => Lib.hid (hr ty)
            have HN2 := Lib.hid hown
            have HG2 := Lib.hid (grow_k (gnone HG.out (World.grownBy_alloc wr (.cells #[.int .i64 (b0 : Int)] 3) none)) Ha (Nat.le_refl _) hgr)
            clear hr hown hgr Ha HN HG Hk
            go_wp2_with (at_builtin; refine wpList_append_k _ w2 rfl (.tmp 34) (.tmp 36) 68 rfl _ _ v' rfl rfl (fun ty => (HR ty).out) ?_)
            go_roundw
            case rel => exact ⟨k + 1, by omega, by go_num, Hk2, HN2, HG2⟩
            case measure => simp [intOf]; omega
    · obtain rfl : k = 12 := by omega
      have e2 : 12 = r := by
        rw [← Hr.out]
        exact (hiL_of L 12 (by omega) Hk.out (fun h => by omega)).symm
      subst e2
      go_wp2_with fail
      go_ret
      exact ⟨_, rfl, HN.out, HG.out⟩
end Go.Proofs.YtmagkkkecihgmaaGreat
