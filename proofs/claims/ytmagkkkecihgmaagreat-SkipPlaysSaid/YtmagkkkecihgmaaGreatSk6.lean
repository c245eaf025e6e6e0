/-
  The document's own list of chapter 10, part 6: From.
-/
import Derived.Test.YtmagkkkecihgmaaGreatSk2
import Derived.Test.YtmagkkkecihgmaaGreatBkKeys1
namespace Go.Proofs.YtmagkkkecihgmaaGreat
open Go.RowKit

def pairsOf (L : List P10) (pl : Nat) : List (ByteArray × ByteArray) := (L.drop pl).map fun m => (m.1, m.2.1)
/-- What From answers. -/
def fromL (L : List P10) (key : ByteArray) (most : Int) : List (ByteArray × ByteArray) :=
  if most < 0 then pairsOf L (placeL L key) else (pairsOf L (placeL L key)).take most.toNat
theorem pairsOf_length (L : List P10) (pl : Nat) : (pairsOf L pl).length = L.length - pl := by simp [pairsOf]
theorem pairsOf_take (L : List P10) (pl q k : Nat) (m : P10) (hk : k = pl + q) (hm : L[k]? = some m) : (pairsOf L pl).take q ++ [(m.1, m.2.1)] = (pairsOf L pl).take (q + 1) := by
  have h : (pairsOf L pl)[q]? = some (m.1, m.2.1) := by
    unfold pairsOf
    rw [List.getElem?_map, List.getElem?_drop, ← hk, hm]
    rfl
  have hlt := (List.getElem?_eq_some_iff.1 h).1
  rw [List.take_succ_eq_append_getElem hlt, (List.getElem?_eq_some_iff.1 h).2]

set_option maxRecDepth 100000 in
set_option maxHeartbeats 4000000 in
theorem rfrom10 {B p : Nat} {s : S10} {w : World} (h : SkR B p w s) (key : ByteArray) (most : Int) (hkey : key.size ≤ 140737488351232) (hL : s.L.length ≤ 100000) :
    Calls Tryz.prog 13 #[.pointer (some ⟨p, 0, none⟩), .string key, .int .i64 most] w fun e w' => ∃ v, e = .returned v ∧ Own elKeys w' w.heap.size 78 v (fromL s.L key most) ∧ w.grownBy w' none := by
  obtain ⟨A, c, hC⟩ := h.cells
  have c0 := hC.c0
  have hat := hC.at_
  have CC := Lib.hid (rat_any h key hkey)
  have hle := placeL_le s.L key
  obtain ⟨r, hr⟩ : ∃ r, fromL s.L key most = r := ⟨_, rfl⟩
  rw [hr]
  unfold fromL at hr
  obtain ⟨pl, hpl⟩ : ∃ pl, placeL s.L key = pl := ⟨_, rfl⟩
  rw [hpl] at CC hle hr
  obtain ⟨M, hM⟩ : ∃ M, pairsOf s.L pl = M := ⟨_, rfl⟩
  obtain ⟨n, hn⟩ : ∃ n, s.L.length = n := ⟨_, rfl⟩
  have hML : M.length = n - pl := by rw [← hM, pairsOf_length, hn]
  have HT := Lib.hid (fun (q k : Nat) (m : P10) (hk : k = pl + q) (hm : s.L[k]? = some m) => (show M.take q ++ [(m.1, m.2.1)] = M.take (q + 1) by rw [← hM]; exact pairsOf_take s.L pl q k m hk hm))
  rw [hM] at hr
  rw [hn] at c0 hle hL
  have Hat := Lib.hid hat
  have Hr := Lib.hid hr
  have HML := Lib.hid hML
  have Hge := Lib.hid (fun k (hk : k < n) => (show ∃ m, s.L[k]? = some m from ⟨_, List.getElem?_eq_getElem (by omega)⟩))
  have HL := Lib.hid hL
  clear h hC hat hr hpl hM hn hML hkey hL
  go_enter Tryz.func13, Tryz.ntmps13
  go_wp2_with fail
  refine CC.out.mono ?_
  rintro e w7 ⟨rfl, j, rfl⟩
  go_wp2_with fail
  go_loopw [7, 8] (fun o i wr => ∃ k q : Nat, k ≤ n ∧ i = .int .i64 (k : Int) ∧ Hid (k = pl + q) ∧ Hid (most < 0 ∨ (q : Int) ≤ most) ∧ Hid (Own elKeys wr w.heap.size 78 o (M.take q)) ∧ Hid (w.grownBy wr none)) (fun _ i _ => n - (intOf i).toNat)
  case atStart => exact ⟨pl, 0, hle, rfl, Lib.hid rfl, Lib.hid (by omega), World.ownsRow_nil _ _ _ _, only_drewN (grefl w none) j⟩
  case round =>
    obtain ⟨k, q, hk, rfl, Hk, Hq, HN, HG⟩ := hrel
    obtain ⟨ao, co, eo⟩ := HN.out.slice
    have hq : (M.take q).length = q := by
      have := Hk.out
      rw [List.length_take, HML.out]
      omega
    rw [hq] at eo
    subst eo
    have C0 : wr.cell? ⟨p, 0, none⟩ = some (.slice A n c) := HG.out.cell c0 (by simp)
    by_cases hl : k < n
    · have g1 : (k : Int) < (n : Int) := by omega
      by_cases hb : most < 0 ∨ (q : Int) < most
      · have e1 : ∃ b : Bool, decide (most < 0) = b ∧ (b = true ∨ decide ((q : Int) < most) = true) := by
          by_cases z : most < 0
          · exact ⟨true, decide_eq_true z, Or.inl rfl⟩
          · exact ⟨false, decide_eq_false z, Or.inr (decide_eq_true (by omega))⟩
        obtain ⟨m, hm⟩ := Hge.out k hl
        obtain ⟨g, rfl, x0, x1, x2⟩ := Hat.out k m hm
        have X0 : wr.cell? ⟨g, k * 3, none⟩ = some (.string m.1) := HG.out.cell x0 (by simp)
        have X1 : wr.cell? ⟨g, k * 3 + 1, none⟩ = some (.string m.2.1) := HG.out.cell x1 (by simp)
        have Ha : Own elKeys (wr.alloc (.cells #[.string m.1, .string m.2.1] 78)) w.heap.size 78 (.slice ao q co) (M.take q) := World.ownsRow.alloc HN.out _
        have hqn : q ≤ 100000 := by have := Hk.out; have := HL.out; omega
        obtain ⟨v', w2, hr, hown, hgr, _, _⟩ := app_own (P := Tryz.prog) elKeys 60 78 (.agg #[.string ⟨#[]⟩, .string ⟨#[]⟩]) 32 underKeys infoKeys rfl (wr.alloc (.cells #[.string m.1, .string m.2.1] 78)) w.heap.size (.slice ao q co) (M.take q) [(m.1, m.2.1)] Ha (some ⟨wr.heap.size, 0, none⟩) 1 (fun h => by cases h) (fun a ha j' u hu => by
          cases ha
          rw [El.row_one] at hu
          exact cells_new wr 78 [.string m.1, .string m.2.1] j' u hu) (by rw [hq]; unfold maxLen; simp; omega) (by rw [hq]; simp; omega) (Nat.le_trans HG.out.size (by simp)) 1 rfl
        rw [HT.out q k m Hk.out hm] at hown
        have HR := fun ty => Lib.hid (hr ty)
        have HN2 := Lib.hid hown
        have HG2 := Lib.hid (grow_k (gnone HG.out (World.grownBy_alloc wr (.cells #[.string m.1, .string m.2.1] 78) none)) Ha (Nat.le_refl _) hgr)
        have Hk2 : Hid (k + 1 = pl + (q + 1)) := by have := Hk.out; show _ = _; omega
        have Hq2 : Hid (most < 0 ∨ ((q + 1 : Nat) : Int) ≤ most) := by show _ ∨ _; omega
        have hk1 : k < 9223372036854775807 := by have := HL.out; omega
        clear hr hown hgr Ha HN HG hm x0 x1 x2 hq Hk Hq hqn
        by_cases z : most < 0
        · clear hb e1
          go_wp2_with (at_builtin; refine wpList_append_k _ w2 rfl (.tmp 31) (.tmp 40) 60 rfl _ _ v' rfl rfl (fun ty => (HR ty).out) ?_)
          go_roundw
          case rel => exact ⟨k + 1, q + 1, by omega, by go_num, Hk2, Hq2, HN2, HG2⟩
          case measure => simp [intOf]; omega
        · have y : (q : Int) < most := by omega
          clear hb e1
          go_wp2_with (at_builtin; refine wpList_append_k _ w2 rfl (.tmp 31) (.tmp 40) 60 rfl _ _ v' rfl rfl (fun ty => (HR ty).out) ?_)
          go_roundw
          case rel => exact ⟨k + 1, q + 1, by omega, by go_num, Hk2, Hq2, HN2, HG2⟩
          case measure => simp [intOf]; omega
      · have z : ¬ most < 0 := by omega
        have y : ¬ (q : Int) < most := by omega
        have e2 : M.take q = r := by
          have h1 := Hr.out
          have h2 := Hq.out
          rw [if_neg z] at h1
          rw [← h1, show most.toNat = q by omega]
        rw [e2] at HN
        clear hb e2 Hq hq Hk
        go_wp2_with fail
        go_ret
        exact ⟨_, rfl, HN.out, HG.out⟩
    · obtain rfl : k = n := by omega
      have e2 : M.take q = r := by
        have h1 := Hr.out
        have h2 := Hq.out
        have h3 := Hk.out
        have h4 := HML.out
        rw [List.take_of_length_le (by omega)]
        by_cases z : most < 0
        · rw [if_pos z] at h1
          exact h1
        · rw [if_neg z, List.take_of_length_le (by omega)] at h1
          exact h1
      rw [e2] at HN
      clear e2 Hq hq Hk
      go_wp2_with fail
      go_ret
      exact ⟨_, rfl, HN.out, HG.out⟩
end Go.Proofs.YtmagkkkecihgmaaGreat
