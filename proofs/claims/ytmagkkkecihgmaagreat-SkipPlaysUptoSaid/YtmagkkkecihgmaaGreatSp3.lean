/-
  Package skip, part 3: the steps of the way to a key, plain; an array of pairs loaded and stored.
-/
import Derived.Test.YtmagkkkecihgmaaGreatSp2
import Derived.LoopTactic
import Derived.BigQuiet
namespace Go.Proofs.YtmagkkkecihgmaaGreat
open Go.RowKit

/-! ### Steps -/
theorem scan_skip (key : ByteArray) (h : Nat) (L : List P10) (st : Nat × Nat) : ∀ (d k : Nat), k + d ≤ L.length → (∀ (i : Nat) (m : P10), k ≤ i → i < k + d → L[i]? = some m → m.2.2 ≤ (h : Int)) → scanL key h (L.drop k) k st = scanL key h (L.drop (k + d)) (k + d) st
  | 0, _, _, _ => rfl
  | d + 1, k, hk, hh => by
    obtain ⟨m, hm⟩ : ∃ m, L[k]? = some m := ⟨_, List.getElem?_eq_getElem (by omega)⟩
    rw [scanL_at key h L k st m hm, if_pos (hh k m (Nat.le_refl _) (by omega) hm), scan_skip key h L st d (k + 1) (by omega) (fun i n h1 h2 h3 => hh i n (by omega) (by omega) h3)]
    rw [show k + 1 + d = k + (d + 1) by omega]
theorem scan_none (key : ByteArray) (h : Nat) (L : List P10) (st : Nat × Nat) (k : Nat) (hh : ∀ (i : Nat) (m : P10), k ≤ i → L[i]? = some m → m.2.2 ≤ (h : Int)) : scanL key h (L.drop k) k st = st := by
  rcases Nat.lt_or_ge k L.length with hl | hl
  · rw [scan_skip key h L st (L.length - k) k (by omega) (fun i m h1 _ h3 => hh i m h1 h3), show k + (L.length - k) = L.length by omega, List.drop_length]
    rfl
  · rw [List.drop_eq_nil_of_le hl]
    rfl
theorem cntL_pos {L : List P10} {h i : Nat} {m : P10} (hm : L[i]? = some m) (hh : (h : Int) < m.2.2) : 0 < cntL L h := by
  unfold cntL
  refine List.length_pos_iff.2 fun e => ?_
  have : m ∈ L.filter fun m => decide ((h : Int) < m.2.2) := List.mem_filter.2 ⟨List.mem_of_getElem? hm, by simpa using hh⟩
  rw [e] at this
  simp at this
theorem cntL_zero {L : List P10} {h : Nat} (h0 : cntL L h = 0) (i : Nat) (m : P10) (hm : L[i]? = some m) : m.2.2 ≤ (h : Int) := by
  rcases Int.lt_or_le (h : Int) m.2.2 with z | z
  · have := cntL_pos hm z
    omega
  · exact z
theorem cntL_anti (L : List P10) {h h' : Nat} (hh : h ≤ h') : cntL L h' ≤ cntL L h := by
  unfold cntL
  induction L with
  | nil => simp
  | cons x L ih =>
    by_cases z : (h' : Int) < x.2.2
    · rw [List.filter_cons_of_pos (by simpa using z), List.filter_cons_of_pos (by simp; omega), List.length_cons, List.length_cons]
      omega
    · rw [List.filter_cons_of_neg (by simpa using z)]
      have := List.length_filter_le (fun m => decide ((h : Int) < m.2.2)) [x]
      by_cases y : (h : Int) < x.2.2
      · rw [List.filter_cons_of_pos (by simpa using y), List.length_cons]
        omega
      · rw [List.filter_cons_of_neg (by simpa using y)]
        exact ih
theorem hi_exists (f : Nat → Nat) : ∀ n, ∃ k, k ≤ n ∧ (∀ i, i < k → 0 < f i) ∧ (k < n → f k = 0)
  | 0 => ⟨0, Nat.le_refl _, fun i hi => by omega, fun h => by omega⟩
  | n + 1 => by
    obtain ⟨k, h1, h2, h3⟩ := hi_exists f n
    by_cases e : k < n
    · exact ⟨k, by omega, h2, fun _ => h3 e⟩
    · obtain rfl : k = n := by omega
      by_cases z : f k = 0
      · exact ⟨k, by omega, h2, fun _ => z⟩
      · exact ⟨k + 1, by omega, fun i hi => by
          by_cases e : i = k
          · subst e; omega
          · exact h2 i (by omega), fun h => by omega⟩
theorem hiL_spec (L : List P10) : (∀ i, i < hiL L → 0 < cntL L i) ∧ (hiL L < 12 → cntL L (hiL L) = 0) := by
  obtain ⟨k, h1, h2, h3⟩ := hi_exists (cntL L) 12
  rw [hiL_of L k h1 h2 h3]
  exact ⟨h2, h3⟩
theorem hiL_zero {L : List P10} {t : Nat} (h : hiL L ≤ t) (ht : t < 12) : cntL L t = 0 := by
  have h1 := (hiL_spec L).2 (by omega)
  have h2 := cntL_anti L h
  omega
/-- Lanes that have no pairs take no steps. -/
theorem down_hi (L : List P10) (key : ByteArray) : ∀ t, hiL L ≤ t → t ≤ 12 → (downL L key t (0, 0)).2 = stepsL L key
  | 0, h, _ => by
    unfold stepsL
    rw [show hiL L = 0 by omega]
  | t + 1, h, ht => by
    rcases Nat.lt_or_ge t (hiL L) with hl | hl
    · unfold stepsL
      rw [show hiL L = t + 1 by omega]
    · have h0 := hiL_zero hl (by omega)
      show (downL L key t (scanL key t (L.drop 0) 0 (0, 0))).2 = _
      rw [scan_none key t L (0, 0) 0 (fun i m _ hm => cntL_zero h0 i m hm)]
      exact down_hi L key t hl (by omega)

/-! ### Arrays -/
theorem infoArr : (Tryz.prog.info? 31).map (·.size) = some 12 := by kernel_rfl
theorem underArr : Tryz.prog.underlying 31 = some (.array 12 30) := by kernel_rfl
theorem setRow_blk {w : World} {g : Nat} {t : TypeId} {old cs : Array Value} (h : Blk w g t old) : Blk (w.setRow g cs) g t cs ∧ w.grownBy (w.setRow g cs) (some g) := by
  unfold World.setRow
  refine ⟨?_, rfl, rfl, rfl, by simp, fun i hi hne => ?_⟩
  · unfold Blk at h ⊢
    show (w.heap.modify g _)[g]? = _
    rw [Array.getElem?_modify, if_pos rfl, h]
    rfl
  · simp only [Array.getElem?_modify]
    rw [if_neg (fun e => hne (by rw [e]))]
/-- An array of pairs, loaded. -/
theorem wpList_load_arr {w : World} {ops : Array Oper} {rest : List Oper} {o : Oper} {a : Act} {Q : Exit → Act → World → Prop} {b : Nat} {cs : Array Value} (hb : Blk w b 31 cs) (hs : cs.size = 12) (hgd : o.guard = none) (x : Operand) (ho : o.op = .load 31 x) (hx : a.eval x = .pointer (some ⟨b, 0, none⟩))
    (h : wpList Tryz.prog ops Q rest (a.put o.dst (.agg cs)) w) : wpList Tryz.prog ops Q (o :: rest) a w :=
  wpList_load_row hgd _ x ho b hx 31 cs (0, 0) _ hb underArr rfl (infoArr.trans (by rw [hs])) h
/-- An array of pairs, stored. -/
theorem wpList_store_arr {w : World} {ops : Array Oper} {rest : List Oper} {o : Oper} {a : Act} {Q : Exit → Act → World → Prop} {b : Nat} {old cs : Array Value} (hb : Blk w b 31 old) (hs : old.size = 12) (hs' : cs.size = 12) (hone : cs.all (·.oneCell') = true) (hgd : o.guard = none) (x y : Operand) (ho : o.op = .store 31 x y) (hx : a.eval x = .pointer (some ⟨b, 0, none⟩)) (hy : a.eval y = .agg cs)
    (h : ∀ w', Blk w' b 31 cs → w.grownBy w' (some b) → wpList Tryz.prog ops Q rest (a.put o.dst undef) w') : wpList Tryz.prog ops Q (o :: rest) a w :=
  wpList_plain hgd fun _ hK => wp_store_row _ x y ho b cs hx hy 31 old hb (infoArr.trans (by rw [hs'])) (hs.trans hs'.symm) hone (hK _ _ (h _ (setRow_blk hb).1 (setRow_blk hb).2))
/-- What way hands back: an array that lies in a cell, and a number. -/
theorem results_way {p q : Tmp} {fn : Func} (hr : fn.results = #[.cell p 31, .tmp q]) (tmps : Array Value) (w : World) {b : Nat} {cs : Array Value} (hb : Blk w b 31 cs) (hs : cs.size = 12) (hp : tmps[p]?.getD undef = .pointer (some ⟨b, 0, none⟩)) :
    (results fn tmps).run Tryz.prog w = .ok (.tuple #[.agg cs, tmps[q]?.getD undef]) w := by
  have hl := run_loadVar_row (P := Tryz.prog) w b 31 _ cs (0, 0) _ hb underArr rfl (infoArr.trans (by rw [hs]))
  simp [results, hr, hp, asAddr, hl]

def posV (p : Nat) (Z : List Z10) (k : Nat) : Value := .pointer (some ⟨padr p Z k, 0, none⟩)
/-- What way tells ahead of a key. -/
def befV (p : Nat) (Z : List Z10) (pl : Nat) : Array Value := ((List.range 12).map fun h => posV p Z (bef Z h pl)).toArray
theorem befV_size (p : Nat) (Z : List Z10) (pl : Nat) : (befV p Z pl).size = 12 := by simp [befV]
theorem befV_at (p : Nat) (Z : List Z10) (pl : Nat) {h : Nat} (hh : h < 12) : (befV p Z pl)[h]? = some (posV p Z (bef Z h pl)) := by
  unfold befV
  rw [List.getElem?_toArray, List.getElem?_map, List.getElem?_range hh]
  rfl
theorem befV_one (p : Nat) (Z : List Z10) (pl : Nat) : (befV p Z pl).all (·.oneCell') = true := by
  rw [Array.all_eq_true_iff_forall_mem]
  intro v hv
  unfold befV at hv
  rw [List.mem_toArray, List.mem_map] at hv
  obtain ⟨h, _, rfl⟩ := hv
  rfl
theorem befV_of {p : Nat} {Z : List Z10} {pl : Nat} {cs : Array Value} (hs : cs.size = 12) (h : ∀ h, h < 12 → cs[h]? = some (posV p Z (bef Z h pl))) : cs = befV p Z pl := by
  apply Array.ext_getElem?
  intro i
  by_cases hi : i < 12
  · rw [h i hi, befV_at p Z pl hi]
  · rw [Array.getElem?_eq_none (by omega), Array.getElem?_eq_none (by rw [befV_size]; omega)]
end Go.Proofs.YtmagkkkecihgmaaGreat
