/-
  OpShuffled, first part: the law's own time; rows of versions in another order.
-/
import Derived.Test.YthacdegaeokgnaaDoorM7
import Derived.Test.YthacdegaeokgnaaDoorM8
import Derived.Test.YthacdegaeokgnaaDoorM6
namespace Go.Proofs.YthacdegaeokgnaaDoor
open Go.RowKit

/-- 'append(r, l...)' of versions that are there, at one operation. -/
theorem wp_append_vers (w : World) {o : Oper} {a : Act} {K : Act → World → Prop} {Q : Exit → Act → World → Prop} (s x : Operand)
    (ho : o.op = .call { callee := .builtin .append, args := #[s, x], argTypes := #[40, 40] })
    {B : Nat} {v : Value} {vs us : List VerR} (hs : a.eval s = v) (R : VRow w B 44 v vs) (b off n c : Nat) (hx : a.eval x = .slice (some ⟨b, off, none⟩) n c)
    (hl : us.length = n) (hc : ∀ j, j < n → ∀ k, k < 8 → w.cell? ⟨b, off + j * 8 + k, none⟩ = (us.getD j VerR.zero).cells[k]?) (hv : vs.length ≤ 100000) (hn : n ≤ 100000) (hB : B ≤ w.heap.size)
    (h : ∀ v' w', VRow w' B 44 v' (vs ++ us) → w.grownBy w' v.ownBlock → K (a.put o.dst v') w') : o.wp Tryd.prog a w K Q := by
  obtain ⟨i0, hi0, hz0, hz1, hz2⟩ := info_parts verinfo
  refine wp_append_own w s x 40 ho B 44 i0 _ 8 96 Tryd.underlying40 hi0 hz0 hz1 hz2 rfl (by decide) v vs.length (cellsV vs) hs R ⟨b, off, none⟩ n c (cellsV us) hx (by rw [cellsV_length, hl]) (vers_news hl hc) (cellsV_one_cell us) (by unfold maxLen; omega) (by omega) hB ?_
  intro v' w' h1 h2 _
  refine h v' w' ?_ h2
  unfold VRow
  rw [cellsV_append, List.length_append, hl]
  exact h1
/-- The same in a region that draws its order. -/
theorem frees_append_vers {C : World → Prop} {T : World → World → Prop} {S : Slot T} (w : World) {o : Oper} {a : Act} (s x : Operand)
    (ho : o.op = .call { callee := .builtin .append, args := #[s, x], argTypes := #[40, 40] })
    {B : Nat} {v : Value} {vs us : List VerR} (hs : a.eval s = v) (R : VRow w B 44 v vs) (b off n c : Nat) (hx : a.eval x = .slice (some ⟨b, off, none⟩) n c)
    (hl : us.length = n) (hc : ∀ j, j < n → ∀ k, k < 8 → w.cell? ⟨b, off + j * 8 + k, none⟩ = (us.getD j VerR.zero).cells[k]?) (hv : vs.length ≤ 100000) (hn : n ≤ 100000) (hB : B ≤ w.heap.size)
    (h : ∀ v' w', VRow w' B 44 v' (vs ++ us) → w.grownBy w' v.ownBlock → C w' ∧ T w w' ∧ S.p v' w' ∧ (S.new = true → ∃ p, v' = .pointer (some ⟨p, 0, none⟩) ∧ w.heap.size ≤ p ∧ p < w'.heap.size)) : frees Tryd.prog o a C S w := by
  obtain ⟨i0, hi0, hz0, hz1, hz2⟩ := info_parts verinfo
  obtain ⟨v', w', hr, h2, h3, _⟩ := run_append_own (P := Tryd.prog) w B 40 o.type 44 i0 _ 8 96 Tryd.underlying40 hi0 hz0 hz1 hz2 rfl (by decide) v vs.length (cellsV vs) R ⟨b, off, none⟩ n c (cellsV us) (by rw [cellsV_length, hl]) (vers_news hl hc) (cellsV_one_cell us) (by unfold maxLen; omega) (by omega) hB
  have h4 := h v' w' (by unfold VRow; rw [cellsV_append, List.length_append, hl]; exact h2) h3
  unfold frees execOp
  simp only [ho, resolve, invoke, builtin, Sem.run_bind, Sem.run_pure, Result.andThen_ok, List.map_toArray, List.map_cons, List.map_nil, hs, hx, hr]
  exact h4
/-- What a first part, a last part of a list reads. -/
theorem vers_drop {w : World} {b off n : Nat} {vs : List VerR} (_hl : vs.length = n) (hc : ∀ j, j < n → ∀ k, k < 8 → w.cell? ⟨b, off + j * 8 + k, none⟩ = (vs.getD j VerR.zero).cells[k]?) (m : Nat) :
    ∀ j, j < n - m → ∀ k, k < 8 → w.cell? ⟨b, off + m * 8 + j * 8 + k, none⟩ = ((vs.drop m).getD j VerR.zero).cells[k]? := by
  intro j hj k hk
  have h := hc (m + j) (by omega) k hk
  have e : (vs.drop m).getD j VerR.zero = vs.getD (m + j) VerR.zero := by
    rw [List.getD_eq_getElem?_getD, List.getElem?_drop, List.getD_eq_getElem?_getD]
  rw [e, ← h]
  congr 2
  omega
theorem vers_take {w : World} {b off n : Nat} {vs : List VerR} (hc : ∀ j, j < n → ∀ k, k < 8 → w.cell? ⟨b, off + j * 8 + k, none⟩ = (vs.getD j VerR.zero).cells[k]?) (m : Nat) (hm : m ≤ n) :
    ∀ j, j < m → ∀ k, k < 8 → w.cell? ⟨b, off + j * 8 + k, none⟩ = ((vs.take m).getD j VerR.zero).cells[k]? := by
  intro j hj k hk
  have h := hc j (by omega) k hk
  have e : (vs.take m).getD j VerR.zero = vs.getD j VerR.zero := by
    rw [List.getD_eq_getElem?_getD, List.getElem?_take_of_lt hj, List.getD_eq_getElem?_getD]
  rw [e, ← h]
/-- A row of the call's own whose versions all came in. -/
theorem vrow_all {w w2 : World} {A : Option Addr} {n B : Nat} {e : TypeId} {v : Value} {vs us : List VerR} (I : VersIn w A n vs) (h : VRow w2 B e v us) (hb : Below w.heap.size w w2) (hm : ∀ r ∈ us, r ∈ vs) :
    ∃ A2 c2, v = .slice A2 us.length c2 ∧ VersIn w2 A2 us.length us := by
  refine VRow.in_ h fun j hj => ?_
  have e1 : us.getD j VerR.zero = us[j] := by rw [List.getD_eq_getElem?_getD, List.getElem?_eq_getElem hj]; rfl
  rw [e1]
  obtain ⟨i, hi, hv⟩ := List.getElem_of_mem (hm _ (List.getElem_mem hj))
  have e2 : vs.getD i VerR.zero = us[j] := by rw [List.getD_eq_getElem?_getD, List.getElem?_eq_getElem hi, hv]; rfl
  have := I.each i (by rw [← I.len]; exact hi)
  rw [e2] at this
  exact this.below hb
set_option maxRecDepth 100000 in
set_option maxHeartbeats 4000000 in
theorem wtimez_any (key : ByteArray) (A : Option Addr) (n c : Nat) (o x kd : Int) (nu : Nat) (it : Int) (tx : ByteArray) (xs : List Int) (w : World) (V : VerIn w key A n xs o x kd nu it tx) :
    Calls Tryd.prog 32 #[verV key A n c o x kd nu it tx] w fun e w' => e = .returned (.int .i64 (timeZ xs o)) ∧ Below w.heap.size w w' := by
  unfold verV
  have I := Lib.hid V.ints
  have hl := V.ints.len
  have hmx := V.ints.max
  have B0 : Blk (w.alloc (.cells #[.string key, .slice A n c, .int .i64 o, .int .i64 x, .int .i64 kd, .float .f64 nu, .int .i64 it, .string tx] 44)) w.heap.size 44 (verC key A n c o x kd nu it tx) := Blk.new w _ _
  have hb0 : Below w.heap.size w (w.alloc (.cells #[.string key, .slice A n c, .int .i64 o, .int .i64 x, .int .i64 kd, .float .f64 nu, .int .i64 it, .string tx] 44)) := (Below.refl _ w).alloc (Nat.le_refl _) _
  obtain ⟨d0, d1, d2, d3, d4, d5, d6, d7⟩ := ver_cells B0
  clear V
  by_cases ho : o = 254
  · subst ho
    have ht : timeZ xs 254 = mostZ xs := by unfold timeZ; rw [if_pos rfl]
    rw [ht]
    have hb0 := Lib.hid hb0
    clear B0 d0 d3 d4 d5 d6 d7 ht
    go_enter Tryd.func32, Tryd.ntmps32
    go_wp2_with fail
    generalize w.alloc (.cells #[.string key, .slice A n c, .int .i64 254, .int .i64 x, .int .i64 kd, .float .f64 nu, .int .i64 it, .string tx] 44) = w0 at *
    have J := Lib.hid (I.out.below hb0.out)
    go_loop [3, 4] (fun t i => ∃ k : Nat, k ≤ n ∧ i = .int .i64 (k : Int) ∧ t = .int .i64 (mostZ (xs.take k))) (fun _ i => n - (intOf i).toNat)
    case atStart => exact ⟨0, by omega, rfl, rfl⟩
    case round =>
      obtain ⟨k, hk, rfl, rfl⟩ := hrel
      by_cases hlt : k < n
      · obtain ⟨b, off, rfl, _, hc⟩ := J.out.some (by omega)
        have d := hc k hlt
        have st := Lib.hid (mostZ_step xs k (by omega))
        obtain ⟨y, hy⟩ : ∃ y, xs.getD k 0 = y := ⟨_, rfl⟩
        rw [hy] at d st
        have hl1 : (k : Int) < (n : Int) := by omega
        clear hc hy
        by_cases hk0 : k = 0
        · have hk1 : ((k : Int) == 0) = true := by rw [beq_iff_eq]; omega
          have st2 : Hid (mostZ (xs.take (k + 1)) = y) := st.out.trans (if_pos hk0)
          clear st hk0
          generalize mostZ (xs.take k) = m at *
          go_wp2_with fail
          go_round
          case rel => exact ⟨k + 1, by omega, by go_num, by rw [st2.out]⟩
          case measure => simp [intOf]; omega
        · have hk1 : ((k : Int) == 0) = false := by rw [beq_eq_false_iff_ne]; omega
          have st : Hid (mostZ (xs.take (k + 1)) = _) := st.out.trans (if_neg hk0)
          generalize mostZ (xs.take k) = m at *
          by_cases hm : m < y
          · have st2 : Hid (mostZ (xs.take (k + 1)) = y) := st.out.trans (if_pos hm)
            clear st
            go_wp2_with fail
            go_round
            case rel => exact ⟨k + 1, by omega, by go_num, by rw [st2.out]⟩
            case measure => simp [intOf]; omega
          · have st2 : Hid (mostZ (xs.take (k + 1)) = m) := st.out.trans (if_neg hm)
            clear st
            go_wp2_with fail
            go_round
            case rel => exact ⟨k + 1, by omega, by go_num, by rw [st2.out]⟩
            case measure => simp [intOf]; omega
      · have hl1 : ¬ (k : Int) < (n : Int) := by omega
        have e : xs.take k = xs := List.take_of_length_le (by omega)
        rw [e]
        clear e
        go_wp2_with fail
        go_ret
        exact ⟨rfl, hb0.out⟩
  · have ho' : (o == 254) = false := by rw [beq_eq_false_iff_ne]; exact ho
    by_cases h0 : 0 ≤ o
    · by_cases hon : o < (n : Int)
      · have ht : timeZ xs o = xs.getD o.toNat 0 := by unfold timeZ; rw [if_neg ho, if_pos ⟨h0, by omega⟩]
        rw [ht]
        obtain ⟨b, off, rfl, hbl, hc⟩ := I.out.some (by omega)
        have d := hc o.toNat (by omega)
        have d8 := (hb0.cell (p := ⟨b, off + o.toNat, none⟩) hbl).trans d
        obtain ⟨j, hj⟩ : ∃ j : Nat, o = (j : Int) := ⟨o.toNat, by omega⟩
        have hb0 := Lib.hid hb0
        clear B0 d0 d3 d4 d5 d6 d7 ht d hc ho
        subst hj
        rw [Int.toNat_natCast] at d8 ⊢
        go_enter Tryd.func32, Tryd.ntmps32
        go_wp2_with fail
        go_ret
        exact ⟨rfl, hb0.out⟩
      · have ht : timeZ xs o = 0 := by unfold timeZ; rw [if_neg ho, if_neg (by omega)]
        rw [ht]
        have hb0 := Lib.hid hb0
        clear B0 d0 d3 d4 d5 d6 d7 ht ho
        go_enter Tryd.func32, Tryd.ntmps32
        go_wp2_with fail
        go_ret
        exact ⟨rfl, hb0.out⟩
    · have ht : timeZ xs o = 0 := by unfold timeZ; rw [if_neg ho, if_neg (by omega)]
      rw [ht]
      have hb0 := Lib.hid hb0
      clear B0 d0 d3 d4 d5 d6 d7 ht ho
      go_enter Tryd.func32, Tryd.ntmps32
      go_wp2_with fail
      go_ret
      exact ⟨rfl, hb0.out⟩

end Go.Proofs.YthacdegaeokgnaaDoor
