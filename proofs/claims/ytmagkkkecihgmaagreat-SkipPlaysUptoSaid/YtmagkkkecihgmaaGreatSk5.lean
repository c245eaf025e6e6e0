/-
  The document's own list of chapter 10, part 5: Put into an empty list; Put.
-/
import Derived.Test.YtmagkkkecihgmaaGreatSk4
namespace Go.Proofs.YtmagkkkecihgmaaGreat
open Go.RowKit

set_option maxRecDepth 100000 in
set_option maxHeartbeats 8000000 in
theorem rput_nil {B p : Nat} {s : S10} {w : World} (h : SkR B p w s) (key value : ByteArray) (ht : Int) (hB : B ≤ w.heap.size) (hL : s.L.length ≤ 100000) (hf : s.frozen = false) (hk : key.size ≤ 65536) (hv : value.size ≤ 65536) (hcell : w.cell? ⟨p, 0, none⟩ = some (.slice none 0 0)) (hne : s.L = []) :
    Calls Tryz.prog 7 #[.pointer (some ⟨p, 0, none⟩), .string key, .string value, .int .i64 ht] w fun e w' => e = .returned (.int .i64 0) ∧ SkR B p w' { s with L := insL s.L (placeL s.L key) (key, value, clampH ht) } ∧ Tn B (cellsT 29) w w' := by
  have CC := Lib.hid (rat_any h key (by omega))
  obtain ⟨sl, b1, b2, b3, b4⟩ := id h
  have hin : ∀ m ∈ insL s.L (placeL s.L key) (key, value, clampH ht), m.1.size ≤ 65536 ∧ m.2.1.size ≤ 65536 ∧ 1 ≤ m.2.2 ∧ m.2.2 ≤ 12 := by
    intro m hm
    unfold insL at hm
    rw [List.mem_append, List.mem_append, List.mem_singleton] at hm
    rcases hm with (hm | hm) | hm
    · exact b4 m (List.mem_of_mem_take hm)
    · subst hm
      exact ⟨hk, hv, clampH_in ht⟩
    · exact b4 m (List.mem_of_mem_drop hm)
  have e0 : placeL s.L key = 0 := by rw [hne]; rfl
  rw [e0] at CC hin ⊢
  have c0 := hcell
  obtain ⟨A', c', hC⟩ := h.cells
  have c1 := hC.c1
  rw [hf] at c1
  obtain ⟨hc', hch⟩ : ∃ h', h' = clampH ht := ⟨_, rfl⟩
  rw [← hch] at hin ⊢
  have hdr : s.L.drop 0 = [] := by rw [hne]; rfl
  have htk : s.L.take 0 = [] := by rw [hne]; rfl
  have RI := fun (j : Nat) (w0 : World) (g0 : (w.drewN j).grownBy w0 none) =>
    rins (w := w.drewN j) (w0 := w0) (A := none) (A2 := none) (c := 0) (c2 := 0) (k := 0) (n := 0) (L := s.L) (key, value, hc') (by omega) hL (by rw [hne]; rfl) g0 (fun _ => htk) (fun _ => hdr) (fun a ha => by cases ha) (fun a ha => by cases ha)
  have HW := fun j => Lib.hid (h.up (only_drewN (grefl w none) j))
  have HB := Lib.hid hB
  have Hin := Lib.hid hin
  have HRI := Lib.hid RI
  have gk : ¬ (65536 : Int) < (key.size : Int) := by omega
  have gv : ¬ (65536 : Int) < (value.size : Int) := by omega
  have mixed : Tryz.prog.follows .mixedOrders = true := by kernel_rfl
  have Hch := Lib.hid hch
  clear hin RI h b1 b2 b3 b4 hcell hC hk hv hf hne hL hB e0 hdr htk hch
  go_enter Tryz.func7, Tryz.ntmps7
  go_wp2_with fail
  refine CC.out.mono ?_
  rintro e w7 ⟨rfl, j, rfl⟩
  go_upto_region 6 with fail
  go_cut [44] (fun s44 wx => s44 = .bool false ∧ wx = w.drewN j)
  case first =>
    go_wp2_with fail
    go_meet
    exact ⟨rfl, rfl⟩
  case rest =>
  obtain ⟨rfl, rfl⟩ := hcut
  go_upto_if 46 with fail
  go_cut [3] (fun s3 wx => s3 = .int .i64 (if ht < 1 then 1 else ht) ∧ wx = w.drewN j)
  case first =>
    by_cases z : ht < 1
    · go_wp2_with fail
      go_meet
      exact ⟨by rw [if_pos z], rfl⟩
    · go_wp2_with fail
      go_meet
      exact ⟨by rw [if_neg (by omega)], rfl⟩
  case rest =>
  obtain ⟨rfl, rfl⟩ := hcut
  obtain ⟨h1, hh1⟩ : ∃ h1, h1 = (if ht < 1 then 1 else ht) := ⟨_, rfl⟩
  rw [← hh1]
  have Hh1 := Lib.hid hh1
  clear hh1
  go_upto_if 48 with fail
  go_cut [3] (fun s3 wx => s3 = .int .i64 hc' ∧ wx = w.drewN j)
  case first =>
    have e0 : hc' = if 12 < h1 then 12 else h1 := by
      rw [Hch.out, Hh1.out]
      unfold clampH
      by_cases z : ht < 1
      · rw [if_pos z, if_pos z]; rfl
      · rw [if_neg z, if_neg z]
    by_cases z : 12 < h1
    · rw [if_pos z] at e0
      subst e0
      go_wp2_with fail
      go_meet
      exact ⟨rfl, rfl⟩
    · rw [if_neg z] at e0
      subst e0
      go_wp2_with fail
      go_meet
      exact ⟨rfl, rfl⟩
  case rest =>
  obtain ⟨rfl, rfl⟩ := hcut
  obtain ⟨v1, w1, hr1, d1, N1⟩ := HRI.out (j + 1) (w.drewN (j + 1)) (grefl _ _)
  obtain ⟨v2, w2, hr2, d2, A7, n7, c7, w3, hr3, d3, R3⟩ := N1 (w1.alloc (.cells (cellsP (key, value, hc')) 80)) ⟨w1.heap.size, 0, none⟩ (World.grownBy_alloc _ _ _) (new_pair w1 (key, value, hc'))
  obtain ⟨v4, w4, hr4, d4, N4⟩ := HRI.out (j + 1) ((w.drewN (j + 1)).alloc (.cells (cellsP (key, value, hc')) 80)) (World.grownBy_alloc _ _ _)
  obtain ⟨v5, w5, hr5, d5, A8, n8, c8, w6, hr6, d6, R6⟩ := N4 w4 ⟨(w.drewN (j + 1)).heap.size, 0, none⟩ (grefl _ _) (fun j' u hu => d4.cell (new_pair (w.drewN (j + 1)) (key, value, hc') j' u hu) (by simp))
  have K3 := Lib.hid ((HW (j + 1)).out.setL d3 R3 HB.out Hin.out)
  have K6 := Lib.hid ((HW (j + 1)).out.setL d6 R6 HB.out Hin.out)
  have F3 : w3.frozen? ⟨p, 0, none⟩ = false := by
    obtain ⟨_, h1, _⟩ := (HW (j + 1)).out.up d3
    exact h1.frozen 0
  have F6 : w6.frozen? ⟨p, 0, none⟩ = false := by
    obtain ⟨_, h1, _⟩ := (HW (j + 1)).out.up d6
    exact h1.frozen 0
  have cW : (w.drewN (j + 1)).cell? ⟨p, 0, none⟩ = some (.slice none 0 0) := c0
  have P1 : w1.cell? ⟨p, 0, none⟩ = some (.slice none 0 0) := d1.cell cW (by simp)
  have P1a : (w1.alloc (.cells (cellsP (key, value, hc')) 80)).cell? ⟨p, 0, none⟩ = some (.slice none 0 0) := (World.grownBy_alloc w1 _ none).cell P1 (by simp)
  have P2 : w2.cell? ⟨p, 0, none⟩ = some (.slice none 0 0) := d2.cell cW (by simp)
  have P3 : w3.cell? ⟨p, 0, none⟩ = some (.slice none 0 0) := d3.cell cW (by simp)
  have P0 : ((w.drewN (j + 1)).alloc (.cells (cellsP (key, value, hc')) 80)).cell? ⟨p, 0, none⟩ = some (.slice none 0 0) := (World.grownBy_alloc _ _ none).cell cW (by simp)
  have P4 : w4.cell? ⟨p, 0, none⟩ = some (.slice none 0 0) := d4.cell P0 (by simp)
  have P5 : w5.cell? ⟨p, 0, none⟩ = some (.slice none 0 0) := d5.cell cW (by simp)
  have P6 : w6.cell? ⟨p, 0, none⟩ = some (.slice none 0 0) := d6.cell cW (by simp)
  simp only [cellsP] at hr2 hr4 P1a P0
  clear N1 N4 d1 d2 d3 d4 d5 d6 R3 R6 cW HRI HW
  go_wp2_with fail
  apply wp_meetS
  · intro Q8 q1 q2
    go_region_law (first
      | refine step_append_k rfl (.const (.slice none 0 0)) (.tmp 55) 27 rfl _ _ _ (by simp [Act.eval]) (by simp [Act.eval, Act.put]) (hr1 _) ?_
      | refine step_append_k rfl (.const (.slice none 0 0)) (.tmp 55) 27 rfl _ _ _ (by simp [Act.eval]) (by simp [Act.eval, Act.put]) (hr4 _) ?_
      | refine step_append_k rfl (.tmp 56) (.tmp 62) 27 rfl _ _ _ (by simp [Act.eval, Act.put]) (by simp [Act.eval, Act.put]) (hr2 _) ?_
      | refine step_append_k rfl (.tmp 56) (.tmp 62) 27 rfl _ _ _ (by simp [Act.eval, Act.put]) (by simp [Act.eval, Act.put]) (hr5 _) ?_
      | refine step_append_k rfl (.tmp 63) (.tmp 69) 27 rfl _ _ _ (by simp [Act.eval, Act.put]) (by simp [Act.eval, Act.put]) (hr3 _) ?_
      | refine step_append_k rfl (.tmp 63) (.tmp 69) 27 rfl _ _ _ (by simp [Act.eval, Act.put]) (by simp [Act.eval, Act.put]) (hr6 _) ?_)
    all_goals first | exact q1 | exact q2
  · go_wp2_with fail
    go_ret
    first | exact ⟨rfl, K3.out.1, ((Tn.refl B _ w).drewN (j + 1)).trans K3.out.2⟩ | exact ⟨rfl, K6.out.1, ((Tn.refl B _ w).drewN (j + 1)).trans K6.out.2⟩
  · go_wp2_with fail
    go_ret
    first | exact ⟨rfl, K3.out.1, ((Tn.refl B _ w).drewN (j + 1)).trans K3.out.2⟩ | exact ⟨rfl, K6.out.1, ((Tn.refl B _ w).drewN (j + 1)).trans K6.out.2⟩

/-- What Put answers, and what the list is then. -/
def putL (s : S10) (key value : ByteArray) (ht : Int) : Int × S10 :=
  if s.frozen then (30, s) else if 65536 < key.size ∨ 65536 < value.size then (2, s) else if hasL s.L key then (23, s) else (0, { s with L := insL s.L (placeL s.L key) (key, value, clampH ht) })

set_option maxRecDepth 100000 in
set_option maxHeartbeats 2000000 in
theorem rput_no {B p : Nat} {s : S10} {w : World} (h : SkR B p w s) (key value : ByteArray) (ht er : Int) (hk : key.size ≤ 140737488351232)
    (hno : (s.frozen = true ∧ er = 30) ∨ (s.frozen = false ∧ (65536 < key.size ∨ 65536 < value.size) ∧ er = 2) ∨ (s.frozen = false ∧ key.size ≤ 65536 ∧ value.size ≤ 65536 ∧ hasL s.L key = true ∧ er = 23)) :
    Calls Tryz.prog 7 #[.pointer (some ⟨p, 0, none⟩), .string key, .string value, .int .i64 ht] w fun e w' => e = .returned (.int .i64 er) ∧ ∃ j, w' = w.drewN j := by
  obtain ⟨A, c, hC⟩ := h.cells
  have c0 := hC.c0
  have c1 := hC.c1
  have hat := hC.at_
  rcases hno with ⟨hf, rfl⟩ | ⟨hf, hl, rfl⟩ | ⟨hf, h1, h2, h3, rfl⟩
  · rw [hf] at c1
    clear h hC hat hf c0 hk
    go_enter Tryz.func7, Tryz.ntmps7
    go_wp2_with fail
    go_ret
    exact ⟨rfl, 0, rfl⟩
  · rw [hf] at c1
    clear h hC hat hf c0 hk
    by_cases h1 : 65536 < key.size
    · have g1 : (65536 : Int) < (key.size : Int) := by omega
      clear hl
      go_enter Tryz.func7, Tryz.ntmps7
      go_wp2_with fail
      go_ret
      exact ⟨rfl, 0, rfl⟩
    · have g1 : ¬ (65536 : Int) < (key.size : Int) := by omega
      have g2 : (65536 : Int) < (value.size : Int) := by omega
      clear hl
      go_enter Tryz.func7, Tryz.ntmps7
      go_wp2_with fail
      go_ret
      exact ⟨rfl, 0, rfl⟩
  · rw [hf] at c1
    have g1 : ¬ (65536 : Int) < (key.size : Int) := by omega
    have g2 : ¬ (65536 : Int) < (value.size : Int) := by omega
    have CC := Lib.hid (rat_any h key hk)
    obtain ⟨k, hk0⟩ : ∃ k, placeL s.L key = k := ⟨_, rfl⟩
    unfold hasL at h3
    rw [hk0] at CC h3
    obtain ⟨m, hm⟩ : ∃ m, s.L[k]? = some m := by
      cases hm : s.L[k]? with
      | none => rw [hm] at h3; cases h3
      | some m => exact ⟨m, rfl⟩
    rw [hm] at h3
    have e1 : (m.1.toList == key.toList) = true := by rw [teq9]; exact h3
    obtain ⟨g, rfl, x0, x1, x2⟩ := hat k m hm
    have hlt := (List.getElem?_eq_some_iff.1 hm).1
    have g3 : (k : Int) < (s.L.length : Int) := by omega
    clear h hC hat hf h3 x1 x2 hm hk0 hk
    generalize s.L.length = n at *
    go_enter Tryz.func7, Tryz.ntmps7
    go_wp2_with fail
    refine CC.out.mono ?_
    rintro e w7 ⟨rfl, j, rfl⟩
    go_wp2_with fail
    go_ret
    exact ⟨rfl, j, rfl⟩

/-- Put of the document's own list. -/
theorem rput_any {B p : Nat} {s : S10} {w : World} (h : SkR B p w s) (key value : ByteArray) (ht : Int) (hB : B ≤ w.heap.size) (hL : s.L.length ≤ 100000) (hk : key.size ≤ 140737488351232) :
    Calls Tryz.prog 7 #[.pointer (some ⟨p, 0, none⟩), .string key, .string value, .int .i64 ht] w fun e w' => e = .returned (.int .i64 (putL s key value ht).1) ∧ SkR B p w' (putL s key value ht).2 ∧ Tn B (cellsT 29) w w' := by
  have no : ∀ er, putL s key value ht = (er, s) → ((s.frozen = true ∧ er = 30) ∨ (s.frozen = false ∧ (65536 < key.size ∨ 65536 < value.size) ∧ er = 2) ∨ (s.frozen = false ∧ key.size ≤ 65536 ∧ value.size ≤ 65536 ∧ hasL s.L key = true ∧ er = 23)) →
      Calls Tryz.prog 7 #[.pointer (some ⟨p, 0, none⟩), .string key, .string value, .int .i64 ht] w fun e w' => e = .returned (.int .i64 (putL s key value ht).1) ∧ SkR B p w' (putL s key value ht).2 ∧ Tn B (cellsT 29) w w' := by
    intro er e0 hno
    rw [e0]
    refine (rput_no h key value ht er hk hno).mono ?_
    rintro e w' ⟨rfl, j, rfl⟩
    exact ⟨rfl, h.up (only_drewN (grefl w none) j), (Tn.refl B _ w).drewN j⟩
  cases hf : s.frozen with
  | true => exact no 30 (by unfold putL; rw [hf]; rfl) (Or.inl ⟨hf, rfl⟩)
  | false =>
    by_cases hl : 65536 < key.size ∨ 65536 < value.size
    · exact no 2 (by unfold putL; rw [hf]; simp [hl]) (Or.inr (Or.inl ⟨hf, hl, rfl⟩))
    · cases hh : hasL s.L key with
      | true => exact no 23 (by unfold putL; rw [hf, hh]; simp [hl]) (Or.inr (Or.inr ⟨hf, by omega, by omega, hh, rfl⟩))
      | false =>
        rw [show putL s key value ht = (0, { s with L := insL s.L (placeL s.L key) (key, value, clampH ht) }) by unfold putL; rw [hf, hh]; simp [hl]]
        obtain ⟨sl, b1, b2, _⟩ := id h
        have c0 : w.cell? ⟨p, 0, none⟩ = some sl := b1.cell 0
        rcases b2.2 with ⟨rfl, e0⟩ | ⟨g, cap, cur, rfl, _, _, _⟩
        · exact rput_nil h key value ht hB hL hf (by omega) (by omega) c0 (List.eq_nil_of_length_eq_zero e0)
        · exact rput_some h key value ht hB hL hf (by omega) (by omega) hh g cap c0
end Go.Proofs.YtmagkkkecihgmaaGreat
