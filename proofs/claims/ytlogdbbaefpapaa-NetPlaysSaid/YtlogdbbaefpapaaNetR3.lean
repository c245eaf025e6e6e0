/-
  The document's own net, part 3: Peek, Deliver, Drop.
-/
import Derived.Test.YtlogdbbaefpapaaNetR2
import Derived.Deep.RegionLaw
namespace Go.Proofs.Ytlogdbbaefpapaa
open Go.RowKit Go.Maps

theorem rpeek_any {B p : Nat} {x : N8} {w : World} (h : RAt B p w x) (i : Int) :
    Calls Try.prog 13 #[.pointer (some ⟨p, 0, none⟩), .int .i64 i] w fun e w' => e = ansP (peekP x i).1 (peekP x i).2 ∧ ∃ j, w' = w.drewN j := by
  obtain ⟨A, c, cu, c0, c1, c2, c3, f1, f2, f3, hA, hle, hm, hcc⟩ := h.cells
  unfold peekP
  by_cases hi : i < 0 ∨ (x.L.length : Int) ≤ i
  · rw [atP_out hi]
    refine (rpeek_out p A x.L.length c i w c1 hi).mono ?_
    rintro e w' ⟨rfl, rfl⟩
    exact ⟨rfl, 0, rfl⟩
  · obtain ⟨k, rfl⟩ : ∃ k : Nat, i = (k : Int) := ⟨i.toNat, by omega⟩
    have hk : k < x.L.length := by omega
    have hmm : x.L[k]? = some x.L[k] := List.getElem?_eq_getElem hk
    generalize x.L[k] = m at hmm
    rw [atP_in hmm]
    cases hA2 : A with
    | none =>
      rw [hA hA2] at hk
      exact absurd hk (by simp)
    | some a =>
      obtain ⟨e1, h8⟩ := hcc a hA2
      subst hA2
      rw [e1] at c1
      have r := rowC_at x.L k m hmm
      exact rpeek_in p a.block x.L.length c k m w c1 hk (h8 _ _ r.1) (h8 _ _ r.2.1) (h8 _ _ r.2.2)

theorem drewN_drew (w : World) (j : Nat) : (w.drewN j).drew = w.drewN (j + 1) := rfl
/-- 'append(append(nil, L[:k]...), L[k+1:]...)'. -/
theorem rcut_row {B p : Nat} {w : World} {x : N8} (h : RAt B p w x) (k : Nat) (hk : k < x.L.length) (hL : x.L.length ≤ 400) (g c : Nat) (c1 : w.cell? ⟨p, 1, none⟩ = some (.slice (some ⟨g, 0, none⟩) x.L.length c)) :
    ∃ v1 w1 v2 w2, (∀ ty, (Builtin.append_ #[27, 27] ty #[.slice none 0 0, .slice (some ⟨g, 0, none⟩) k c]).run Try.prog w = .ok v1 w1) ∧ w.grownBy w1 none ∧
      (∀ ty, (Builtin.append_ #[27, 27] ty #[v1, .slice (if c = k + 1 then some ⟨g, 0, none⟩ else some ⟨g, (k + 1) * 3, none⟩) (x.L.length - (k + 1)) (c - (k + 1))]).run Try.prog w1 = .ok v2 w2) ∧
      w.grownBy w2 none ∧ w2.ownsRow w.heap.size 42 3 v2 (x.L.take k ++ x.L.drop (k + 1)).length (rowC (x.L.take k ++ x.L.drop (k + 1))) := by
  obtain ⟨A', c', cu, _, e1, _, _, _, _, _, hA, hle, _, hc⟩ := h.cells
  rw [c1] at e1
  obtain ⟨rfl, rfl⟩ : some ⟨g, 0, none⟩ = A' ∧ c = c' := by injection e1 with e1; injection e1 with e1 e2 e3; exact ⟨e1, e3⟩
  have hcell := (hc _ rfl).2
  obtain ⟨v1, w1, hr1, R1, g1⟩ := app_rmsgs w w.heap.size (.slice none 0 0) [] (x.L.take k) (World.ownsRow_nil _ _ _ _) (some ⟨g, 0, none⟩) c (fun h => by cases h) (fun a ha j u hu => by
    cases ha
    rw [add_lit0]
    refine hcell j u ?_
    rw [rowC_take, List.getElem?_take] at hu
    split at hu
    · exact hu
    · cases hu) (by simp; omega) (Nat.le_refl _) k (by simp; omega)
  rw [List.nil_append] at R1
  have g1 : w.grownBy w1 none := g1
  obtain ⟨v2, w2, hr2, R2, g2⟩ := app_rmsgs w1 w.heap.size v1 (x.L.take k) (x.L.drop (k + 1)) R1 (if c = k + 1 then some ⟨g, 0, none⟩ else some ⟨g, (k + 1) * 3, none⟩) (c - (k + 1)) (fun h => by split at h <;> cases h) (fun a ha j u hu => by
    have hu' := hu
    rw [rowC_drop, List.getElem?_drop] at hu
    split at ha
    · rename_i hc1
      have hd : x.L.drop (k + 1) = [] := List.drop_eq_nil_of_le (by omega)
      rw [hd] at hu'
      simp [rowC] at hu'
    · cases ha
      rw [Addr.add_lit]
      exact g1.cell (hcell _ u hu) (by simp)) (by simp; omega) g1.size (x.L.length - (k + 1)) (by simp)
  exact ⟨v1, w1, v2, w2, hr1, g1, hr2, grow_own g1 R1 (Nat.le_refl _) g2, R2⟩

set_option maxRecDepth 100000 in
set_option maxHeartbeats 4000000 in
theorem rdeliver_in (p B : Nat) (x : N8) (k : Nat) (m : Int × Int × ByteArray) (w : World) (h : RAt B p w x) (hk : x.L[k]? = some m) (hL : x.L.length ≤ 400) (hB : B ≤ w.heap.size) :
    Calls Try.prog 15 #[.pointer (some ⟨p, 0, none⟩), .int .i64 (k : Int)] w fun e w' => e = ansP 0 m ∧ RAt B p w' { x with L := x.L.take k ++ x.L.drop (k + 1) } ∧ Fr B refObj w w' := by
  obtain ⟨A, c, cu, c0, c1, c2, c3, f1, f2, f3, hA, hle, hm, hcc⟩ := h.cells
  have hkl := (List.getElem?_eq_some_iff.1 hk).1
  obtain ⟨g, rfl⟩ : ∃ g, A = some ⟨g, 0, none⟩ := by
    cases A with
    | none => rw [hA rfl] at hkl; exact absurd hkl (by simp)
    | some a => exact ⟨a.block, by rw [(hcc a rfl).1]⟩
  have P := rpeek_any h (k : Int)
  rw [show peekP x (k : Int) = (0, m) by unfold peekP; rw [atP_in hk]] at P
  have P := Lib.hid P
  have F := fun j => Lib.hid (rcut_row (w := w.drewN j) (h.up (only_drewN (kgrow_refl w none) j)) k hkl hL g c c1)
  have HR := fun j => Lib.hid (h.up (only_drewN (kgrow_refl w none) j))
  have HB := Lib.hid hB
  obtain ⟨m0, m1, m2⟩ := m
  unfold ansP at P
  clear h hk c0 c2 c3 f2 f3 hA hcc hB hL
  generalize x.L.take k ++ x.L.drop (k + 1) = L' at *
  generalize x.L.length = n at *
  have mixed : Try.prog.follows .mixedOrders = true := by kernel_rfl
  go_enter Try.func15, Try.ntmps15
  go_wp2_with fail
  refine P.out.mono ?_
  rintro e w7 ⟨rfl, j, rfl⟩
  obtain ⟨v1, w1, v2, w2, hr1, g1, hr2, g2, R2⟩ := (F (j + 1)).out
  obtain ⟨A2, d2, rfl⟩ := owns_shape R2
  have K := Lib.hid ((HR (j + 1)).out.setL g2 R2 HB.out)
  have c1' : w1.cell? ⟨p, 1, none⟩ = some (.slice (some ⟨g, 0, none⟩) n c) := g1.cell c1 (by simp)
  have c1'' : w2.cell? ⟨p, 1, none⟩ = some (.slice (some ⟨g, 0, none⟩) n c) := g2.cell c1 (by simp)
  have F1 : w2.frozen? ⟨p, 1, none⟩ = false := by
    obtain ⟨_, _, h1, _⟩ := (HR (j + 1)).out.up g2
    exact h1.frozen 1
  clear F HR g1 g2 R2
  generalize L'.length = n2 at *
  obtain ⟨q, hq⟩ : ∃ q, q = k + 1 := ⟨_, rfl⟩
  rw [← hq] at hr2
  obtain ⟨A3, hA3⟩ : ∃ A3, (if c = q then (some ⟨g, 0, none⟩ : Option Addr) else some ⟨g, q * 3, none⟩) = some A3 := by split <;> exact ⟨_, rfl⟩
  rw [hA3] at hr2
  have h1 : IntKind.i64.wrap ((k : Int) + 1) = (q : Int) := by rw [hq]; exact IntWalk.i64_in _ (by unfold maxLen at hm; omega)
  have h2 : wrap64 ((k : Int) + 1) = (q : Int) := by rw [hq]; exact IntWalk.wrap64_in _ (by unfold maxLen at hm; omega)
  have h3 : k ≤ c := by omega
  have h4 : q ≤ n := by omega
  have h5 : q ≤ c := by omega
  have h6 : c ≤ 9223372036854775807 := by unfold maxLen at hm; omega
  clear hq hm
  go_wp2_with fail
  apply wp_meet
  · intro Q8 hQ8
    go_region_law (first | refine step_append_eq rfl (.const (.slice none 0 0)) (.tmp 28) 27 rfl _ _ _ (by simp [Act.eval]) (by simp [Act.eval, Act.put]) (hr1 _) ?_ | refine step_append_eq rfl (.tmp 29) (.tmp 36) 27 rfl _ _ _ (by simp [Act.eval, Act.put]) (by simp [Act.eval, Act.put]) (hr2 _) ?_)
    all_goals exact hQ8
  go_wp2_with fail
  refine bodyPost_ret (results_tmp4 rfl _ _ _) rfl ?_
  exact ⟨rfl, K.out.1, ((Fr.refl B refObj w).drewN (j + 1)).trans K.out.2⟩
set_option maxRecDepth 100000 in
set_option maxHeartbeats 2000000 in
theorem rdeliver_out (p B : Nat) (x : N8) (i : Int) (w : World) (h : RAt B p w x) (hi : atP x i = none) :
    Calls Try.prog 15 #[.pointer (some ⟨p, 0, none⟩), .int .i64 i] w fun e w' => e = ansP 5 noMsg ∧ ∃ j, w' = w.drewN j := by
  have P := rpeek_any h i
  rw [show peekP x i = (5, noMsg) by unfold peekP; rw [hi]] at P
  have P := Lib.hid P
  unfold ansP noMsg at P
  clear h hi
  go_enter Try.func15, Try.ntmps15
  go_wp2_with fail
  refine P.out.mono ?_
  rintro e w7 ⟨rfl, j, rfl⟩
  go_wp2_with fail
  refine bodyPost_ret (results_tmp4 rfl _ _ _) rfl ?_
  exact ⟨rfl, j, rfl⟩
/-- Deliver of the document's own net. -/
theorem rdeliver_any {B p : Nat} {x : N8} {w : World} (h : RAt B p w x) (i : Int) (hL : x.L.length ≤ 400) (hB : B ≤ w.heap.size) :
    Calls Try.prog 15 #[.pointer (some ⟨p, 0, none⟩), .int .i64 i] w fun e w' => e = ansP (peekP x i).1 (peekP x i).2 ∧ RAt B p w' (deliverP x i) ∧ Fr B refObj w w' := by
  by_cases ho : i < 0 ∨ (x.L.length : Int) ≤ i
  · have ha := atP_out ho
    refine (rdeliver_out p B x i w h ha).mono ?_
    rintro e w' ⟨rfl, j, rfl⟩
    unfold peekP deliverP
    rw [ha]
    exact ⟨rfl, h.up (only_drewN (kgrow_refl w none) j), (Fr.refl B refObj w).drewN j⟩
  · obtain ⟨j, rfl⟩ : ∃ j : Nat, i = (j : Int) := ⟨i.toNat, by omega⟩
    have hj : j < x.L.length := by omega
    have hm : x.L[j]? = some x.L[j] := List.getElem?_eq_getElem hj
    generalize x.L[j] = m at hm
    have e1 : peekP x (j : Int) = (0, m) := by unfold peekP; rw [atP_in hm]
    have e2 : deliverP x (j : Int) = { x with L := x.L.take j ++ x.L.drop (j + 1) } := by unfold deliverP; rw [atP_in hm]; simp [outP]
    rw [e1, e2]
    exact rdeliver_in p B x j m w h hm hL hB

set_option maxRecDepth 100000 in
set_option maxHeartbeats 2000000 in
/-- Drop of the document's own net. -/
theorem rdrop_any {B p : Nat} {x : N8} {w : World} (h : RAt B p w x) (i : Int) (hL : x.L.length ≤ 400) (hB : B ≤ w.heap.size) (l0 : 0 ≤ x.lost) (l1 : x.lost < 9223372036854775807) :
    Calls Try.prog 17 #[.pointer (some ⟨p, 0, none⟩), .int .i64 i] w fun e w' => e = .returned (.int .i64 (dropP x i).1) ∧ RAt B p w' (dropP x i).2 ∧ Fr B refObj w w' := by
  have D := rdeliver_any h i hL hB
  have gw : wrap64 (x.lost + 1) = x.lost + 1 := by unfold wrap64; omega
  unfold peekP deliverP at D
  unfold dropP
  cases ha : atP x i with
  | none =>
    rw [ha] at D
    have D := Lib.hid D
    unfold ansP noMsg at D
    dsimp only at D
    clear h hL hB l0 l1 ha
    go_enter Try.func17, Try.ntmps17
    go_wp2_with fail
    refine D.out.mono ?_
    rintro e w7 ⟨rfl, h⟩
    have H := Lib.hid h
    clear h
    go_wp2_with fail
    go_ret
    exact ⟨rfl, H.out⟩
  | some m =>
    rw [ha] at D
    have D := Lib.hid D
    obtain ⟨m0, m1, m2⟩ := m
    unfold ansP at D
    dsimp only at D
    clear h hL hB l0 l1 ha
    go_enter Try.func17, Try.ntmps17
    go_wp2_with fail
    refine D.out.mono ?_
    rintro e w7 ⟨rfl, h, hf⟩
    have K := Lib.hid (h.lose (x.lost + 1))
    have F := Lib.hid hf
    obtain ⟨A, c, cu, c0, c1, c2, c3, f1, f2, f3, _⟩ := h.cells
    have c3 : w7.cell? ⟨p, 3, none⟩ = some (.int .i64 x.lost) := c3
    have gw2 : wrap64 ((outP x i).lost + 1) = x.lost + 1 := gw
    clear h hf c0 c1 c2 f1 f2
    go_wp2_with fail
    go_ret
    exact ⟨rfl, K.out.1, F.out.trans K.out.2⟩
end Go.Proofs.Ytlogdbbaefpapaa
