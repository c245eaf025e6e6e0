/-
  The document's own list of chapter 10, part 4: Put.
-/
import Derived.Test.YtmagkkkecihgmaaGreatSk3
import Derived.Deep.DeepCutAuto
namespace Go.Proofs.YtmagkkkecihgmaaGreat
open Go.RowKit

def clampH (h : Int) : Int := if h < 1 then 1 else if 12 < h then 12 else h
theorem clampH_in (h : Int) : 1 ≤ clampH h ∧ clampH h ≤ 12 := by
  unfold clampH
  split
  · omega
  · split <;> omega
/-- Whether the key is there. -/
def hasL (L : List P10) (key : ByteArray) : Bool :=
  match L[placeL L key]? with
  | some m => decide (m.1 = key)
  | none => false
def insL (L : List P10) (k : Nat) (m : P10) : List P10 := L.take k ++ [m] ++ L.drop k

set_option maxRecDepth 100000 in
set_option maxHeartbeats 8000000 in
theorem rput_some {B p : Nat} {s : S10} {w : World} (h : SkR B p w s) (key value : ByteArray) (ht : Int) (hB : B ≤ w.heap.size) (hL : s.L.length ≤ 100000) (hf : s.frozen = false) (hk : key.size ≤ 65536) (hv : value.size ≤ 65536) (hno : hasL s.L key = false) (g c : Nat) (hcell : w.cell? ⟨p, 0, none⟩ = some (.slice (some ⟨g, 0, none⟩) s.L.length c)) :
    Calls Tryz.prog 7 #[.pointer (some ⟨p, 0, none⟩), .string key, .string value, .int .i64 ht] w fun e w' => e = .returned (.int .i64 0) ∧ SkR B p w' { s with L := insL s.L (placeL s.L key) (key, value, clampH ht) } ∧ Tn B (cellsT 29) w w' := by
  have CC := Lib.hid (rat_any h key (by omega))
  have hle := placeL_le s.L key
  have hno2 : ∀ m, s.L[placeL s.L key]? = some m → (m.1.toList == key.toList) = false := by
    intro m hm
    unfold hasL at hno
    rw [hm] at hno
    rw [teq9]
    exact hno
  obtain ⟨sl, b1, b2, b3, b4⟩ := id h
  have hin : ∀ m ∈ insL s.L (placeL s.L key) (key, value, clampH ht), m.1.size ≤ 65536 ∧ m.2.1.size ≤ 65536 ∧ 1 ≤ m.2.2 ∧ m.2.2 ≤ 12 := by
    intro m hm
    unfold insL at hm
    rw [List.mem_append, List.mem_append, List.mem_singleton] at hm
    rcases hm with (hm | hm) | hm
    · exact b4 m (List.mem_of_mem_take hm)
    · subst hm
      exact ⟨hk, hv, clampH_in ht⟩
    · exact b4 m (List.mem_of_mem_drop hm)
  have c0' : w.cell? ⟨p, 0, none⟩ = some sl := b1.cell 0
  obtain rfl : sl = .slice (some ⟨g, 0, none⟩) s.L.length c := Option.some.inj (c0'.symm.trans hcell)
  obtain ⟨k, hk0⟩ : ∃ k, placeL s.L key = k := ⟨_, rfl⟩
  rw [hk0] at CC hle hno2 hin ⊢
  obtain ⟨A', c', hC⟩ := h.cells
  have c0 := hC.c0
  have ec : A' = some ⟨g, 0, none⟩ ∧ c' = c := by
    rw [hcell] at c0
    injection c0 with c0
    injection c0 with e1 e2 e3
    exact ⟨e1.symm, e3.symm⟩
  obtain ⟨rfl, rfl⟩ := ec
  have c1 := hC.c1
  rw [hf] at c1
  have hat := hC.at_
  have hlc := hC.le
  have hcm := hC.cap
  obtain ⟨n, hn⟩ : ∃ n, s.L.length = n := ⟨_, rfl⟩
  have hle0 : k ≤ n := by rw [← hn]; exact hle
  have hlc0 : n ≤ c' := by rw [← hn]; exact hlc
  rw [hn] at c0
  have hread := fun j => sub_reads (w := w.drewN j) (b2.tn (Tn.drewN (Tn.refl 0 (fun _ => false) w) j) (fun _ _ => rfl)) k
  obtain ⟨hc', hch⟩ : ∃ h', h' = clampH ht := ⟨_, rfl⟩
  rw [← hch] at hin ⊢
  have RI := fun (j : Nat) (w0 : World) (g0 : (w.drewN j).grownBy w0 none) (A2 : Option Addr) (hA2 : A2 = if c' = k then some ⟨g, 0, none⟩ else some ⟨g, k * 3, none⟩) =>
    rins (w := w.drewN j) (w0 := w0) (A := some ⟨g, 0, none⟩) (A2 := A2) (c := c') (c2 := c' - k) (k := k) (n := n - k) (L := s.L) (key, value, hc') hle hL (by rw [hn]) g0 (fun h => by cases h) (fun h => by rw [hA2] at h; split at h <;> cases h)
      (fun a ha j' u hu => by
        cases ha
        rw [Addr.add_lit, Nat.zero_add]
        exact (hread j).1 j' u hu) (fun a ha j' u hu => by
        by_cases ec : c' = k
        · have : s.L.drop k = [] := List.drop_eq_nil_of_le (by omega)
          rw [this] at hu
          simp [El.row] at hu
        · rw [hA2, if_neg ec] at ha
          cases ha
          rw [Addr.add_lit]
          exact (hread j).2 j' u hu)
  have HW := fun j => Lib.hid (h.up (only_drewN (grefl w none) j))
  have HB := Lib.hid hB
  have Hin := Lib.hid hin
  have HRI := Lib.hid RI
  have gk : ¬ (65536 : Int) < (key.size : Int) := by omega
  have gv : ¬ (65536 : Int) < (value.size : Int) := by omega
  have hatk : ∀ m, s.L[k]? = some m → w.cell? ⟨g, k * 3, none⟩ = some (.string m.1) := by
    intro m hm
    obtain ⟨g', e1, x0, _⟩ := hat k m hm
    cases e1
    exact x0
  have hm47 : c' ≤ 9223372036854775807 := by unfold maxLen at hcm; omega
  have h3 : k ≤ c' := by omega
  obtain ⟨A3, hA3⟩ : ∃ A3, (if c' = k then (some ⟨g, 0, none⟩ : Option Addr) else some ⟨g, k * 3, none⟩) = some A3 := by split <;> exact ⟨_, rfl⟩
  have mixed : Tryz.prog.follows .mixedOrders = true := by kernel_rfl
  have key0 : Hid (∀ m, s.L[k]? = some m → (m.1.toList == key.toList) = false) := hno2
  have key1 : Hid (∀ m, s.L[k]? = some m → k < n → w.cell? ⟨g, k * 3, none⟩ = some (.string m.1)) := fun m hm _ => hatk m hm
  have key2 : Hid (k < n → ∃ m, s.L[k]? = some m) := fun hl => ⟨_, List.getElem?_eq_getElem (show k < s.L.length by omega)⟩
  have Hch := Lib.hid hch
  clear hatk hno2 hno hin hread RI h b1 b2 b3 b4 c0' hcell hC hat hcm hk hv hf hL hB hn hle hlc hch
  go_enter Tryz.func7, Tryz.ntmps7
  go_wp2_with fail
  refine CC.out.mono ?_
  rintro e w7 ⟨rfl, j, rfl⟩
  go_upto_region 6 with fail
  go_cut [44] (fun s44 wx => s44 = .bool false ∧ wx = w.drewN j)
  case first =>
    by_cases hl : k < n
    · obtain ⟨m, e⟩ := key2.out hl
      have x0 := key1.out m e hl
      have e1 := key0.out m e
      have g1 : (k : Int) < (n : Int) := by omega
      clear e
      go_wp2_with fail
      go_meet
      exact ⟨rfl, rfl⟩
    · have g1 : ¬ (k : Int) < (n : Int) := by omega
      go_wp2_with fail
      go_meet
      exact ⟨rfl, rfl⟩
  case rest =>
  obtain ⟨rfl, rfl⟩ := hcut
  go_upto_if 46 with fail
  go_cut [3] (fun s3 wx => s3 = .int .i64 (if ht < 1 then 1 else ht) ∧ wx = w.drewN j)
  case first =>
    by_cases z : ht < 1
    · go_wp2_with fail
      go_meet
      exact ⟨by rw [if_pos z], rfl⟩
    · go_wp2_with fail
      go_meet
      exact ⟨by rw [if_neg (by omega)], rfl⟩
  case rest =>
  obtain ⟨rfl, rfl⟩ := hcut
  obtain ⟨h1, hh1⟩ : ∃ h1, h1 = (if ht < 1 then 1 else ht) := ⟨_, rfl⟩
  rw [← hh1]
  have Hh1 := Lib.hid hh1
  clear hh1
  go_upto_if 48 with fail
  go_cut [3] (fun s3 wx => s3 = .int .i64 hc' ∧ wx = w.drewN j)
  case first =>
    have e0 : hc' = if 12 < h1 then 12 else h1 := by
      rw [Hch.out, Hh1.out]
      unfold clampH
      by_cases z : ht < 1
      · rw [if_pos z, if_pos z]; rfl
      · rw [if_neg z, if_neg z]
    by_cases z : 12 < h1
    · rw [if_pos z] at e0
      subst e0
      go_wp2_with fail
      go_meet
      exact ⟨rfl, rfl⟩
    · rw [if_neg z] at e0
      subst e0
      go_wp2_with fail
      go_meet
      exact ⟨rfl, rfl⟩
  case rest =>
  obtain ⟨rfl, rfl⟩ := hcut
  obtain ⟨v1, w1, hr1, d1, N1⟩ := HRI.out (j + 1) (w.drewN (j + 1)) (grefl _ _) (some A3) hA3.symm
  obtain ⟨v2, w2, hr2, d2, A7, n7, c7, w3, hr3, d3, R3⟩ := N1 (w1.alloc (.cells (cellsP (key, value, hc')) 80)) ⟨w1.heap.size, 0, none⟩ (World.grownBy_alloc _ _ _) (new_pair w1 (key, value, hc'))
  obtain ⟨v4, w4, hr4, d4, N4⟩ := HRI.out (j + 1) ((w.drewN (j + 1)).alloc (.cells (cellsP (key, value, hc')) 80)) (World.grownBy_alloc _ _ _) (some A3) hA3.symm
  obtain ⟨v5, w5, hr5, d5, A8, n8, c8, w6, hr6, d6, R6⟩ := N4 w4 ⟨(w.drewN (j + 1)).heap.size, 0, none⟩ (grefl _ _) (fun j' u hu => d4.cell (new_pair (w.drewN (j + 1)) (key, value, hc') j' u hu) (by simp))
  have K3 := Lib.hid ((HW (j + 1)).out.setL d3 R3 HB.out Hin.out)
  have K6 := Lib.hid ((HW (j + 1)).out.setL d6 R6 HB.out Hin.out)
  have F3 : w3.frozen? ⟨p, 0, none⟩ = false := by
    obtain ⟨_, h1, _⟩ := (HW (j + 1)).out.up d3
    exact h1.frozen 0
  have F6 : w6.frozen? ⟨p, 0, none⟩ = false := by
    obtain ⟨_, h1, _⟩ := (HW (j + 1)).out.up d6
    exact h1.frozen 0
  have cW : (w.drewN (j + 1)).cell? ⟨p, 0, none⟩ = some (.slice (some ⟨g, 0, none⟩) n c') := c0
  have P1 : w1.cell? ⟨p, 0, none⟩ = some (.slice (some ⟨g, 0, none⟩) n c') := d1.cell cW (by simp)
  have P1a : (w1.alloc (.cells (cellsP (key, value, hc')) 80)).cell? ⟨p, 0, none⟩ = some (.slice (some ⟨g, 0, none⟩) n c') := (World.grownBy_alloc w1 _ none).cell P1 (by simp)
  have P2 : w2.cell? ⟨p, 0, none⟩ = some (.slice (some ⟨g, 0, none⟩) n c') := d2.cell cW (by simp)
  have P3 : w3.cell? ⟨p, 0, none⟩ = some (.slice (some ⟨g, 0, none⟩) n c') := d3.cell cW (by simp)
  have P0 : ((w.drewN (j + 1)).alloc (.cells (cellsP (key, value, hc')) 80)).cell? ⟨p, 0, none⟩ = some (.slice (some ⟨g, 0, none⟩) n c') := (World.grownBy_alloc _ _ none).cell cW (by simp)
  have P4 : w4.cell? ⟨p, 0, none⟩ = some (.slice (some ⟨g, 0, none⟩) n c') := d4.cell P0 (by simp)
  have P5 : w5.cell? ⟨p, 0, none⟩ = some (.slice (some ⟨g, 0, none⟩) n c') := d5.cell cW (by simp)
  have P6 : w6.cell? ⟨p, 0, none⟩ = some (.slice (some ⟨g, 0, none⟩) n c') := d6.cell cW (by simp)
  simp only [cellsP] at hr2 hr4 P1a P0
  clear N1 N4 d1 d2 d3 d4 d5 d6 R3 R6 cW HRI HW
  go_wp2_with fail
  apply wp_meetS
  · intro Q8 q1 q2
    go_region_law (first
      | refine step_append_k rfl (.const (.slice none 0 0)) (.tmp 55) 27 rfl _ _ _ (by simp [Act.eval]) (by simp [Act.eval, Act.put]) (hr1 _) ?_
      | refine step_append_k rfl (.const (.slice none 0 0)) (.tmp 55) 27 rfl _ _ _ (by simp [Act.eval]) (by simp [Act.eval, Act.put]) (hr4 _) ?_
      | refine step_append_k rfl (.tmp 56) (.tmp 62) 27 rfl _ _ _ (by simp [Act.eval, Act.put]) (by simp [Act.eval, Act.put]) (hr2 _) ?_
      | refine step_append_k rfl (.tmp 56) (.tmp 62) 27 rfl _ _ _ (by simp [Act.eval, Act.put]) (by simp [Act.eval, Act.put]) (hr5 _) ?_
      | refine step_append_k rfl (.tmp 63) (.tmp 69) 27 rfl _ _ _ (by simp [Act.eval, Act.put]) (by simp [Act.eval, Act.put]) (hr3 _) ?_
      | refine step_append_k rfl (.tmp 63) (.tmp 69) 27 rfl _ _ _ (by simp [Act.eval, Act.put]) (by simp [Act.eval, Act.put]) (hr6 _) ?_)
    all_goals first | exact q1 | exact q2
  · go_wp2_with fail
    go_ret
    first | exact ⟨rfl, K3.out.1, ((Tn.refl B _ w).drewN (j + 1)).trans K3.out.2⟩ | exact ⟨rfl, K6.out.1, ((Tn.refl B _ w).drewN (j + 1)).trans K6.out.2⟩
  · go_wp2_with fail
    go_ret
    first | exact ⟨rfl, K3.out.1, ((Tn.refl B _ w).drewN (j + 1)).trans K3.out.2⟩ | exact ⟨rfl, K6.out.1, ((Tn.refl B _ w).drewN (j + 1)).trans K6.out.2⟩
end Go.Proofs.YtmagkkkecihgmaaGreat
