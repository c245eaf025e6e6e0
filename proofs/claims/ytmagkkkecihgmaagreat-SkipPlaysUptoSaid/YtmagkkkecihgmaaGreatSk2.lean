/-
  The document's own list of chapter 10, part 2: Get, Before, Bytes.
-/
import Derived.Test.YtmagkkkecihgmaaGreatSk1
namespace Go.Proofs.YtmagkkkecihgmaaGreat
open Go.RowKit

theorem teq9 (a b : ByteArray) : (a.toList == b.toList) = decide (a = b) := by
  rw [Lib.toList_data, Lib.toList_data, Bool.eq_iff_iff, beq_iff_eq, decide_eq_true_eq]
  exact ⟨fun h => ByteArray.ext (Array.toList_inj.1 h), fun h => by rw [h]⟩
/-- What Get answers. -/
def getL (L : List P10) (key : ByteArray) : ByteArray × Int :=
  match L[placeL L key]? with
  | some m => if m.1 = key then (m.2.1, 0) else (⟨#[]⟩, 22)
  | none => (⟨#[]⟩, 22)

set_option maxRecDepth 100000 in
set_option maxHeartbeats 2000000 in
theorem rget10 {B p : Nat} {s : S10} {w : World} (h : SkR B p w s) (key : ByteArray) (hkey : key.size ≤ 140737488351232) :
    Calls Tryz.prog 9 #[.pointer (some ⟨p, 0, none⟩), .string key] w fun e w' => e = .returned (.tuple #[.string (getL s.L key).1, .int .i64 (getL s.L key).2]) ∧ ∃ j, w' = w.drewN j := by
  obtain ⟨A, c, hc⟩ := h.cells
  have c0 := hc.c0
  have hat := hc.at_
  have CC := Lib.hid (rat_any h key hkey)
  have hle := placeL_le s.L key
  obtain ⟨r, hr⟩ : ∃ r, getL s.L key = r := ⟨_, rfl⟩
  rw [hr]
  unfold getL at hr
  obtain ⟨k, hk⟩ : ∃ k, placeL s.L key = k := ⟨_, rfl⟩
  rw [hk] at CC hr hle
  clear hk hc h hkey
  by_cases hl : k < s.L.length
  · have e := List.getElem?_eq_getElem hl
    obtain ⟨m, hm⟩ : ∃ m, s.L[k] = m := ⟨_, rfl⟩
    rw [hm] at e
    rw [e] at hr
    obtain ⟨g, rfl, x0, x1, x2⟩ := hat k m e
    clear x2 hat e hm
    have g1 : (k : Int) < (s.L.length : Int) := by omega
    dsimp only at hr
    by_cases hq : m.1 = key
    · rw [if_pos hq] at hr
      have e1 : (m.1.toList == key.toList) = true := by rw [teq9]; exact decide_eq_true hq
      subst hr
      generalize s.L.length = n at *
      go_enter Tryz.func9, Tryz.ntmps9
      go_wp2_with fail
      refine CC.out.mono ?_
      rintro e w7 ⟨rfl, j1, rfl⟩
      go_wp2_with fail
      go_ret2
      exact ⟨rfl, _, rfl⟩
    · rw [if_neg hq] at hr
      have e1 : (m.1.toList == key.toList) = false := by rw [teq9]; exact decide_eq_false hq
      subst hr
      generalize s.L.length = n at *
      go_enter Tryz.func9, Tryz.ntmps9
      go_wp2_with fail
      refine CC.out.mono ?_
      rintro e w7 ⟨rfl, j1, rfl⟩
      go_wp2_with fail
      go_ret2
      exact ⟨rfl, _, rfl⟩
  · rw [List.getElem?_eq_none (by omega)] at hr
    have g1 : ¬ (k : Int) < (s.L.length : Int) := by omega
    clear hat
    subst hr
    generalize s.L.length = n at *
    go_enter Tryz.func9, Tryz.ntmps9
    go_wp2_with fail
    refine CC.out.mono ?_
    rintro e w7 ⟨rfl, j1, rfl⟩
    go_wp2_with fail
    go_ret2
    exact ⟨rfl, _, rfl⟩

/-- What Before answers. -/
def lastL (L : List P10) (key : ByteArray) : ByteArray × ByteArray × Bool :=
  match L[placeL L key - 1]? with
  | some m => if placeL L key = 0 then (⟨#[]⟩, ⟨#[]⟩, false) else (m.1, m.2.1, true)
  | none => (⟨#[]⟩, ⟨#[]⟩, false)

set_option maxRecDepth 100000 in
set_option maxHeartbeats 2000000 in
theorem rbefore10 {B p : Nat} {s : S10} {w : World} (h : SkR B p w s) (key : ByteArray) (hkey : key.size ≤ 140737488351232) :
    Calls Tryz.prog 15 #[.pointer (some ⟨p, 0, none⟩), .string key] w fun e w' => e = .returned (.tuple #[.string (lastL s.L key).1, .string (lastL s.L key).2.1, .bool (lastL s.L key).2.2]) ∧ ∃ j, w' = w.drewN j := by
  obtain ⟨A, c, hc⟩ := h.cells
  have c0 := hc.c0
  have hat := hc.at_
  have CC := Lib.hid (rat_any h key hkey)
  have hle := placeL_le s.L key
  have hcap : s.L.length ≤ maxLen := Nat.le_trans hc.le hc.cap
  unfold maxLen at hcap
  obtain ⟨r, hr⟩ : ∃ r, lastL s.L key = r := ⟨_, rfl⟩
  rw [hr]
  unfold lastL at hr
  obtain ⟨k, hk⟩ : ∃ k, placeL s.L key = k := ⟨_, rfl⟩
  rw [hk] at CC hr hle
  clear hk hc h hkey
  cases k with
  | zero =>
    have hr2 : r = (⟨#[]⟩, ⟨#[]⟩, false) := by
      rw [← hr]
      split <;> rfl
    subst hr2
    clear hr hat
    generalize s.L.length = n at *
    go_enter Tryz.func15, Tryz.ntmps15
    go_wp2_with fail
    refine CC.out.mono ?_
    rintro e w7 ⟨rfl, j1, rfl⟩
    go_wp2_with fail
    go_ret3
    exact ⟨rfl, _, rfl⟩
  | succ k =>
    have hl : k < s.L.length := by omega
    have e := List.getElem?_eq_getElem hl
    obtain ⟨m, hm⟩ : ∃ m, s.L[k] = m := ⟨_, rfl⟩
    rw [hm] at e
    rw [Nat.add_sub_cancel, e] at hr
    dsimp only at hr
    rw [if_neg (by omega)] at hr
    obtain ⟨g, rfl, x0, x1, x2⟩ := hat k m e
    clear x2 hat e hm
    subst hr
    have g1 : ((k : Int) + 1 == 0) = false := beq_eq_false_iff_ne.2 (by omega)
    have g3 : (k : Int) < (s.L.length : Int) := by omega
    generalize s.L.length = n at *
    go_enter Tryz.func15, Tryz.ntmps15
    go_wp2_with fail
    refine CC.out.mono ?_
    rintro e w7 ⟨rfl, j1, rfl⟩
    go_wp2_with fail
    go_quiet (fail)
    go_wp2_with fail
    go_ret3
    exact ⟨rfl, _, by simp only [World.drewN_drewN]; rfl⟩

/-- How many bytes keys and values have. -/
def bytesL (L : List P10) : Nat := (L.map fun m => m.1.size + m.2.1.size).sum
theorem bytesL_take (L : List P10) (k : Nat) (m : P10) (h : L[k]? = some m) : bytesL (L.take (k + 1)) = bytesL (L.take k) + m.1.size + m.2.1.size := by
  have hk := (List.getElem?_eq_some_iff.1 h).1
  have hm := (List.getElem?_eq_some_iff.1 h).2
  unfold bytesL
  rw [List.take_succ_eq_append_getElem hk, hm]
  simp
  omega
theorem bytesL_le (L : List P10) (h : ∀ m ∈ L, m.1.size ≤ 65536 ∧ m.2.1.size ≤ 65536) : bytesL L ≤ L.length * 131072 := by
  induction L with
  | nil => simp [bytesL]
  | cons x L ih =>
    have h1 := ih (fun m hm => h m (List.mem_cons_of_mem _ hm))
    have h2 := h x (List.mem_cons_self ..)
    simp only [bytesL, List.map_cons, List.sum_cons, List.length_cons] at *
    omega

theorem wrapB (b s t k n : Nat) (h : b ≤ k * 131072) (hk : k < n) (hn : n ≤ 100000000) (hs : s ≤ 65536) (ht : t ≤ 65536) :
    wrap64 ((b : Int) + (s : Int)) = (b : Int) + (s : Int) ∧ wrap64 ((b : Int) + (s : Int) + (t : Int)) = (b : Int) + (s : Int) + (t : Int) := by
  have h1 : k * 131072 ≤ 100000000 * 131072 := Nat.mul_le_mul_right _ (by omega)
  have h2 : b ≤ 13107200000000 := Nat.le_trans h h1
  clear h h1 hk hn
  exact ⟨IntWalk.wrap64_in _ (by omega), IntWalk.wrap64_in _ (by omega)⟩
set_option maxRecDepth 100000 in
set_option maxHeartbeats 2000000 in
theorem rbytes10 {B p : Nat} {s : S10} {w : World} (h : SkR B p w s) (hlen : s.L.length ≤ 100000000) :
    Calls Tryz.prog 26 #[.pointer (some ⟨p, 0, none⟩)] w fun e w' => e = .returned (.int .i64 (bytesL s.L)) ∧ ∃ j, w' = w.drewN j := by
  obtain ⟨A, c, hc⟩ := h.cells
  obtain ⟨sl, _, _, _, hs⟩ := h
  have c0 := hc.c0
  have hat := hc.at_
  obtain ⟨L, hL⟩ : ∃ L, L = s.L := ⟨_, rfl⟩
  rw [← hL] at hs c0 hat hlen ⊢
  obtain ⟨n, hn⟩ : ∃ n, n = L.length := ⟨_, rfl⟩
  rw [← hn] at c0 hlen
  have Hn := Lib.hid hn
  have Hat := Lib.hid hat
  have Hb := Lib.hid (fun k => bytesL_le (L.take k) (fun m hm => ⟨(hs m (List.mem_of_mem_take hm)).1, (hs m (List.mem_of_mem_take hm)).2.1⟩))
  have Hs := Lib.hid hs
  obtain ⟨r, hr⟩ : ∃ r, bytesL L = r := ⟨_, rfl⟩
  rw [hr]
  have Hr := Lib.hid hr
  have Hlen := Lib.hid hlen
  clear hat hn hs hr hc hL hlen
  go_enter Tryz.func26, Tryz.ntmps26
  go_wp2_with fail
  go_loopw [3, 4] (fun b i wr => ∃ k j : Nat, k ≤ n ∧ i = .int .i64 (k : Int) ∧ b = .int .i64 (bytesL (L.take k) : Int) ∧ wr = w.drewN j) (fun _ i _ => n - (intOf i).toNat)
  case atStart => exact ⟨0, 0, by omega, rfl, rfl, rfl⟩
  case round =>
    obtain ⟨k, j0, hk, rfl, rfl, rfl⟩ := hrel
    by_cases hl : k < n
    · have hlC : k < L.length := by rw [← Hn.out]; exact hl
      obtain ⟨m, hm⟩ : ∃ m, L[k] = m := ⟨_, rfl⟩
      have hk? : L[k]? = some m := by rw [List.getElem?_eq_getElem hlC, hm]
      have hmm := Hs.out m (by rw [← hm]; exact List.getElem_mem hlC)
      obtain ⟨g, rfl, x0, x1, x2⟩ := Hat.out k m hk?
      clear x2
      have g2 : (k : Int) < (n : Int) := by omega
      have g0 : (0 : Int) ≤ (k : Int) := by omega
      have hT := bytesL_take L k m hk?
      have hB := Hb.out k
      rw [List.length_take, Nat.min_eq_left (by omega)] at hB
      have hB2 := Hlen.out
      have hT := Lib.hid hT
      obtain ⟨b0, hb0⟩ : ∃ b0, bytesL (L.take k) = b0 := ⟨_, rfl⟩
      rw [hb0] at hB
      have hb0' := Lib.hid hb0
      rw [hb0]
      obtain ⟨a1, a2⟩ := wrapB b0 m.1.size m.2.1.size k n hB hl hB2 hmm.1 hmm.2.1
      have g3 : (k : Int) + 1 ≤ 9223372036854775807 := by omega
      clear hm hk? hmm hlC hB hB2 hb0
      go_wp2_with fail
      go_quiet (fail)
      go_wp2_with fail
      go_roundw
      case rel => exact ⟨k + 1, _, by omega, by go_num, by rw [hT.out, hb0'.out]; simp [a2], by first | rfl | (simp only [World.drewN_drewN, World.drewN_drew]; rfl)⟩
      case measure => simp [intOf]; omega
    · obtain rfl : k = n := by omega
      have e2 : bytesL (L.take k) = r := by rw [← Hr.out, List.take_of_length_le (by rw [← Hn.out]; exact Nat.le_refl _)]
      rw [e2]
      clear e2 hl hk
      go_wp2_with fail
      go_ret
      exact ⟨rfl, _, rfl⟩
end Go.Proofs.YtmagkkkecihgmaaGreat
