/-
  The document's own time of a version (chapter 5).
-/
import Derived.Test.YthjphiniljopgaaDoorIkL
import Derived.LoopTactic
namespace Go.Proofs.YthjphiniljopgaaDoor
open Go.RowKit

theorem most_step (xs : List Int) (k : Nat) (hk : k < xs.length) : mostL (xs.take (k + 1)) = if mostL (xs.take k) < xs.getD k 0 then xs.getD k 0 else mostL (xs.take k) := by
  have e : xs.getD k 0 = xs[k] := by rw [List.getD_eq_getElem?_getD, List.getElem?_eq_getElem hk]; rfl
  unfold mostL
  rw [e, List.take_succ_eq_append_getElem hk, List.foldl_append]
  rfl

/-- What stands while a version's time is told. -/
structure VerAt (w W : World) (p : Nat) (key : ByteArray) (A : Option Addr) (n c : Nat) (o x kd : Int) (nu : Nat) (it : Int) (tx : ByteArray) : Prop where
  blk : Blk W p 28 (verC key A n c o x kd nu it tx)
  below : Below w.heap.size w W

set_option maxRecDepth 100000 in
set_option maxHeartbeats 4000000 in
theorem rtime_any (key : ByteArray) (A : Option Addr) (n c : Nat) (o x kd : Int) (nu : Nat) (it : Int) (tx : ByteArray) (xs : List Int) (w : World) (V : VerIn w key A n xs o x kd nu it tx) (hv : validL xs = true) (h0 : 0 ≤ o) (h1 : o < (xs.length : Int) ∨ o = 254) :
    Calls Tryd.prog 14 #[verV key A n c o x kd nu it tx] w fun e w' => e = .returned (.int .i64 (timeN xs o)) ∧ Below w.heap.size w w' := by
  unfold verV
  have I := Lib.hid V.ints
  have hl := V.ints.len
  have hmx := V.ints.max
  have hwv := Lib.hid (valid_mem hv)
  have hlen := (validL_of hv).1
  have B0 : Blk (w.alloc (.cells #[.string key, .slice A n c, .int .i64 o, .int .i64 x, .int .i64 kd, .float .f64 nu, .int .i64 it, .string tx] 28)) w.heap.size 28 (verC key A n c o x kd nu it tx) := Blk.new w _ _
  have hb0 : Below w.heap.size w (w.alloc (.cells #[.string key, .slice A n c, .int .i64 o, .int .i64 x, .int .i64 kd, .float .f64 nu, .int .i64 it, .string tx] 28)) := (Below.refl _ w).alloc (Nat.le_refl _) _
  obtain ⟨d0, d1, d2, d3, d4, d5, d6, d7⟩ := ver_cells B0
  clear V
  by_cases ho : o = 254
  · subst ho
    have ht : timeN xs 254 = mostL xs := by unfold timeN; rw [if_pos rfl]
    rw [ht]
    have hb0 := Lib.hid hb0
    clear B0 d0 d3 d4 d5 d6 d7 ht h1
    go_enter Tryd.func14, Tryd.ntmps14
    go_wp2_with fail
    generalize w.alloc (.cells #[.string key, .slice A n c, .int .i64 254, .int .i64 x, .int .i64 kd, .float .f64 nu, .int .i64 it, .string tx] 28) = w0 at *
    have J := Lib.hid (I.out.below hb0.out)
    go_loop [3, 4] (fun t i => ∃ k : Nat, k ≤ n ∧ i = .int .i64 (k : Int) ∧ t = .int .i64 (mostL (xs.take k))) (fun _ i => n - (intOf i).toNat)
    case atStart => exact ⟨0, by omega, rfl, rfl⟩
    case round =>
      obtain ⟨k, hk, rfl, rfl⟩ := hrel
      by_cases hlt : k < n
      · obtain ⟨b, off, rfl, _, hc⟩ := J.out.some (by omega)
        have d := hc k hlt
        have st := Lib.hid (most_step xs k (by omega))
        have hx := hwv.out _ (getD_mem (xs := xs) (j := k) (by omega))
        have h2 := mostL_nonneg (xs.take k)
        obtain ⟨y, hy⟩ : ∃ y, xs.getD k 0 = y := ⟨_, rfl⟩
        rw [hy] at d hx st
        have hl1 : (k : Int) < (n : Int) := by omega
        clear hc hy
        by_cases hk0 : k = 0
        · have hk1 : ((k : Int) == 0) = true := by rw [beq_iff_eq]; omega
          have st2 : Hid (mostL (xs.take (k + 1)) = y) := by
            have h3 := st.out
            have h4 : mostL (xs.take k) = 0 := by rw [hk0]; rfl
            rw [h4] at h3
            split at h3
            · exact h3
            · unfold Hid; omega
          clear st hk0
          generalize mostL (xs.take k) = m at *
          go_wp2_with fail
          go_round
          case rel => exact ⟨k + 1, by omega, by go_num, by rw [st2.out]⟩
          case measure => simp [intOf]; omega
        · have hk1 : ((k : Int) == 0) = false := by rw [beq_eq_false_iff_ne]; omega
          generalize mostL (xs.take k) = m at *
          by_cases hm : m < y
          · have st2 : Hid (mostL (xs.take (k + 1)) = y) := st.out.trans (if_pos hm)
            clear st
            go_wp2_with fail
            go_round
            case rel => exact ⟨k + 1, by omega, by go_num, by rw [st2.out]⟩
            case measure => simp [intOf]; omega
          · have st2 : Hid (mostL (xs.take (k + 1)) = m) := st.out.trans (if_neg hm)
            clear st
            go_wp2_with fail
            go_round
            case rel => exact ⟨k + 1, by omega, by go_num, by rw [st2.out]⟩
            case measure => simp [intOf]; omega
      · have hl1 : ¬ (k : Int) < (n : Int) := by omega
        have e : xs.take k = xs := List.take_of_length_le (by omega)
        rw [e]
        clear e
        go_wp2_with fail
        go_ret
        exact ⟨rfl, hb0.out⟩
  · have ho' : (o == 254) = false := by rw [beq_eq_false_iff_ne]; exact ho
    have hon : o < (n : Int) := by rcases h1 with h | h; omega; exact absurd h ho
    have ht : timeN xs o = xs.getD o.toNat 0 := by unfold timeN; rw [if_neg ho]
    rw [ht]
    obtain ⟨b, off, rfl, hbl, hc⟩ := I.out.some (by omega)
    have d := hc o.toNat (by omega)
    have d8 := (hb0.cell (p := ⟨b, off + o.toNat, none⟩) hbl).trans d
    obtain ⟨j, hj⟩ : ∃ j : Nat, o = (j : Int) := ⟨o.toNat, by omega⟩
    have hb0 := Lib.hid hb0
    clear B0 d0 d3 d4 d5 d6 d7 ht h1 d hc ho
    subst hj
    rw [Int.toNat_natCast] at d8 ⊢
    go_enter Tryd.func14, Tryd.ntmps14
    go_wp2_with fail
    go_ret
    exact ⟨rfl, hb0.out⟩
end Go.Proofs.YthjphiniljopgaaDoor
