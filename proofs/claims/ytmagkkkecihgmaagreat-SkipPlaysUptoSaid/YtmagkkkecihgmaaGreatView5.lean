/-
  Slices of structs of two whole numbers and two texts that came in: what a walk asks of them, out of how they read. No program is named.
-/
import Derived.Test.YtmagkkkecihgmaaGreatView
import Derived.Lib.SmallJoins
import Derived.Deep.Slices
import Derived.Deep.Strs
import Derived.SizedLaws
namespace Go.Proofs.YtmagkkkecihgmaaGreat
open Go.RowKit Go.WideShapes Go.ChangeShapes Go.Deep

/-- n structs of two whole numbers and two texts stand at A. -/
structure SOpsIn (w : World) (A : Option Addr) (n : Nat) (K X : Nat → Int) (Y D : Nat → ByteArray) : Prop where
  max : n ≤ 9223372036854775807
  some : 0 < n → ∃ b off, A = .some ⟨b, off, none⟩ ∧ b < w.heap.size ∧ ∀ j, j < n → w.cell? ⟨b, off + j * 4, none⟩ = .some (.int .i64 (K j)) ∧ w.cell? ⟨b, off + j * 4 + 1, none⟩ = .some (.int .i64 (X j)) ∧ w.cell? ⟨b, off + j * 4 + 2, none⟩ = .some (.string (Y j)) ∧ w.cell? ⟨b, off + j * 4 + 3, none⟩ = .some (.string (D j))
  wf : ∀ j, j < n → (Lit.int .i64 (X j)).wf = true ∧ (Y j).size ≤ 140737488351232 ∧ (D j).size ≤ 140737488351232

/-- One of them, in every world from there on. -/
theorem SOpsIn.at {w : World} {A : Option Addr} {n : Nat} {K X : Nat → Int} {Y D : Nat → ByteArray} (h : SOpsIn w A n K X Y D) {k : Nat} (hk : k < n) :
    ∃ b off, A = .some ⟨b, off, none⟩ ∧ (∀ W, Below w.heap.size w W → W.cell? ⟨b, off + k * 4, none⟩ = .some (.int .i64 (K k)) ∧ W.cell? ⟨b, off + k * 4 + 1, none⟩ = .some (.int .i64 (X k)) ∧ W.cell? ⟨b, off + k * 4 + 2, none⟩ = .some (.string (Y k)) ∧ W.cell? ⟨b, off + k * 4 + 3, none⟩ = .some (.string (D k))) := by
  obtain ⟨b, off, e, hlt, hc⟩ := h.some (by omega)
  obtain ⟨c0, c1, c2, c3⟩ := hc k hk
  exact ⟨b, off, e, fun W hb => ⟨(hb.cell (p := ⟨b, off + k * 4, none⟩) hlt).trans c0, (hb.cell (p := ⟨b, off + k * 4 + 1, none⟩) hlt).trans c1, (hb.cell (p := ⟨b, off + k * 4 + 2, none⟩) hlt).trans c2, (hb.cell (p := ⟨b, off + k * 4 + 3, none⟩) hlt).trans c3⟩⟩

theorem weights_all {H : Type} {P : Program} {e : TypeId} {n : Nat} {d : DataW H} (hn : n ∈ d.weights P e) : ∀ {l : List (DataW H)}, d ∈ l → n ∈ DataW.weightsAll P e l
  | x :: r, h => by
    rw [DataW.weightsAll, List.mem_append]
    rcases List.mem_cons.1 h with rfl | h
    · exact Or.inl hn
    · exact Or.inr (weights_all hn h)
section
variable {H : Type} {enc : TypeId × Value → H} {P : Program} {w : World} {t e : TypeId} {A : Option Addr} {n cp : Nat} {d : DataW H} {p : List MemPlace}
theorem sops_view {f0 f1 f2 f3 : Field} (ht : P.underlying t = some (.slice e)) (he : P.underlying e = some (.struct #[f0, f1, f2, f3])) (hc : P.cellsOf e = 4) (o0 : f0.offset = 0) (o1 : f1.offset = 1) (o2 : f2.offset = 2) (o3 : f3.offset = 3) (c0 : P.cellsOf f0.type = 1) (c1 : P.cellsOf f1.type = 1) (c2 : P.cellsOf f2.type = 1) (c3 : P.cellsOf f3.type = 1)
    (u0 : P.underlying f0.type = some (.int .i64)) (u1 : P.underlying f1.type = some (.int .i64)) (u2 : P.underlying f2.type = some .string) (u3 : P.underlying f3.type = some .string)
    (h : DataW.Trod enc P w 0 (fun _ => true) true t (.slice A n cp) d p) (hwt : ∀ x ∈ d.weights P t, x ≤ 140737488351232) : ∃ K X Y D, SOpsIn w A n K X Y D := by
  obtain ⟨fuel, hf⟩ := h
  rcases open_slice ht hf with ⟨hcs, _⟩ | ⟨a, len', cap', m, k, D, Pl, hcs, _, hl, hm, hmm, hdx, hx⟩
  · simp [Value.cells] at hcs
    obtain ⟨rfl, rfl, rfl⟩ := hcs
    exact ⟨fun _ => 0, fun _ => 0, fun _ => ByteArray.empty, fun _ => ByteArray.empty, by decide, fun h => absurd h (by decide), fun j h => absurd h (by omega)⟩
  · simp [Value.cells] at hcs
    obtain ⟨rfl, rfl, rfl⟩ := hcs
    rw [if_pos rfl] at hmm
    unfold maxLen at hm
    have each : ∀ j, j < n → ∃ q : Int × Int × ByteArray × ByteArray, w.cell? (a.add (j * 4)) = some (.int .i64 q.1) ∧ w.cell? (a.add (j * 4 + 1)) = some (.int .i64 q.2.1) ∧ w.cell? (a.add (j * 4 + 2)) = some (.string q.2.2.1) ∧ w.cell? (a.add (j * 4 + 3)) = some (.string q.2.2.2) ∧ (Lit.int .i64 q.2.1).wf = true ∧ q.2.2.1.size ≤ 140737488351232 ∧ q.2.2.2.size ≤ 140737488351232 := by
      intro j hj
      obtain ⟨cs', h1, h2⟩ := hx j (by omega)
      have hwj : ∀ x ∈ (D j).weights P e, x ≤ 140737488351232 := fun x hxm => hwt x (by
        rw [show d = _ from congrArg Prod.fst hdx]
        simp only [DataW.weights, ht]
        exact List.mem_cons_of_mem _ (List.mem_append_left _ (weights_all hxm (List.mem_map.2 ⟨j, List.mem_range.2 hj, rfl⟩))))
      rw [hc] at h1
      obtain ⟨_, hlen, hcell⟩ := World.cells?_some h1
      obtain ⟨y0, y1, y2, y3, g, hxe, _, g0, g1, g2, g3⟩ := Joins.trod_struct4 he h2
      have hDj : D j = .agg [y0.1, y1.1, y2.1, y3.1] := congrArg Prod.fst hxe
      rw [hDj, DataW.weights, he] at hwj
      match cs', hlen, hcell, g0, g1, g2, g3 with
      | [v0, v1, v2, v3], _, hcell, g0, g1, g2, g3 =>
        obtain ⟨k0, e0, _, _⟩ := DataW.trod_int u0 g0
        obtain ⟨k1, e1, _, w1⟩ := DataW.trod_int u1 g1
        obtain ⟨k2, e2, d2, w2⟩ := DataW.trod_string u2 g2
        obtain ⟨k3, e3, d3, w3⟩ := DataW.trod_string u3 g3
        simp [o0, o1, o2, o3, c0, c1, c2, c3] at e0 e1 e2 e3
        subst e0 e1 e2 e3
        have z2 := hwj k2.data.toList.length (by rw [d2]; simp [DataW.weightsEach, DataW.weights])
        have z3 := hwj k3.data.toList.length (by rw [d3]; simp [DataW.weightsEach, DataW.weights])
        rw [show k2.data.toList.length = k2.size from rfl] at z2
        rw [show k3.data.toList.length = k3.size from rfl] at z3
        refine ⟨(k0, k1, k2, k3), ?_, ?_, ?_, ?_, w1, by omega, by omega⟩
        · have := hcell 0 (by simp)
          simpa [Go.Deep.add_add] using this
        · have := hcell 1 (by simp)
          simpa [Go.Deep.add_add] using this
        · have := hcell 2 (by simp)
          simpa [Go.Deep.add_add] using this
        · have := hcell 3 (by simp)
          simpa [Go.Deep.add_add] using this
    obtain ⟨q, hq⟩ := choose_lt each
    refine ⟨fun j => (q j).1, fun j => (q j).2.1, fun j => (q j).2.2.1, fun j => (q j).2.2.2, by omega, fun hn => ?_, fun j hj => ⟨(hq j hj).2.2.2.2.1, (hq j hj).2.2.2.2.2.1, (hq j hj).2.2.2.2.2.2⟩⟩
    obtain ⟨b, off, spot⟩ := a
    have hspot : spot = none := by simpa [Addr.add] using World.cell?_spot (hq 0 hn).1
    subst hspot
    refine ⟨b, off, rfl, ?_, fun j hj => ?_⟩
    · have := (hq 0 hn).1
      rw [Go.WideShapes.add_plain] at this
      exact block_lt this
    · have := hq j hj
      rw [Go.WideShapes.add_plain, Go.WideShapes.add_plain, Go.WideShapes.add_plain, Go.WideShapes.add_plain, ← Nat.add_assoc, ← Nat.add_assoc, ← Nat.add_assoc] at this
      exact ⟨this.1, this.2.1, this.2.2.1, this.2.2.2.1⟩
end
end Go.Proofs.YtmagkkkecihgmaaGreat
