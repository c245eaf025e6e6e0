/-
  Walks over the document's own answer to chapter 1: Quote.
-/
import Derived.Test.YtkjfhgaiakienaaDoorRaw8
namespace Go.Proofs.YtkjfhgaiakienaaDoor
open Go.RowKit

set_option maxRecDepth 100000 in
set_option maxHeartbeats 2000000 in
theorem rquote_any (s : ByteArray) (w : World) (hs : s.size ≤ 30000000000000) :
    Calls Tryd.prog 31 #[.string s] w fun e w' => e = .returned (.string ⟨(quoteL s.data.toList).toArray⟩) ∧ Below w.heap.size w w' := by
  go_enter Tryd.func31, Tryd.ntmps31
  go_wp2_with fail
  go_loopw [3, 4] (fun q i wr => ∃ k : Nat, k ≤ s.size ∧ i = .int .i64 (k : Int) ∧ Byt wr w.heap.size 5 q (34 :: ((s.data.toList.take k).map qb).flatten) ∧ Below w.heap.size w wr)
    (fun _ i _ => s.size - (intOf i).toNat)
  case atStart =>
    refine ⟨0, by omega, rfl, ?_, below_alloc (Below.refl _ _) (Nat.le_refl _) _⟩
    have := World.ownsRow_lit (base := w.heap.size) (e := 5) (size := 1) w #[.int .u8 34] 1 (Nat.le_refl _) (by unfold maxLen; omega) rfl
    exact this
  case round =>
    obtain ⟨k, hk, rfl, hown, hbe⟩ := hrel
    by_cases hl : k < s.size
    · have hb8 := UInt8.toNat_lt s[k]
      have hlen : (34 :: ((s.data.toList.take k).map qb).flatten).length + 4 < 140737488355328 := by
        have h1 := flat_len (s.data.toList.take k)
        have h2 := List.length_take_le k s.data.toList
        rw [List.length_cons]
        omega
      have Hlen := Lib.hid hlen
      clear hlen
      by_cases hp : s[k].toNat < 32 ∨ 126 < s[k].toNat
      · obtain ⟨a1, ha1⟩ : ∃ a, a = s[k].toNat / 16 := ⟨_, rfl⟩
        obtain ⟨a2, ha2⟩ : ∃ a, a = s[k].toNat % 16 := ⟨_, rfl⟩
        have hq : qb s[k] = [92, 120, hx a1, hx a2] := by unfold qb; rw [if_pos hp, ha1, ha2]
        have e1 : ((s[k].toNat : Int) / 16) = (a1 : Int) := by omega
        have e2 : (s[k].toNat : Int).tmod 16 = (a2 : Int) := by rw [Int.tmod_eq_emod_of_nonneg (by omega)]; omega
        have e3 : IntKind.u8.wrap (a1 : Int) = (a1 : Int) := by rw [IntKind.wrap_u8]; omega
        have e4 : IntKind.u8.wrap (a2 : Int) = (a2 : Int) := by rw [IntKind.wrap_u8]; omega
        have i1 := hexidx a1 (by omega)
        have i2 := hexidx a2 (by omega)
        have q1 : ((s[k].toNat : Int) == 34) = false := by rw [beq_eq_false_iff_ne]; omega
        have q2 : ((s[k].toNat : Int) == 92) = false := by rw [beq_eq_false_iff_ne]; omega
        have Hq := Lib.hid hq
        have Hp : s[k].toNat < 32 ∨ (decide ((s[k].toNat : Int) < 32) = false ∧ 126 < s[k].toNat) := by
          rcases hp with h | h
          · exact Or.inl h
          · exact Or.inr ⟨decide_eq_false (by omega), h⟩
        clear ha1 ha2 hq hp
        rcases Hp with hp | ⟨hp', hp⟩
        all_goals
          go_wp2_with fail
          go_region_law (refine step_append_bytes rfl (.tmp 38) (.tmp 45) 42 rfl Tryd.underlying42 u8info rfl (hown.alloc _).drew ⟨wr.heap.size, 0, none⟩ 4 4 rfl [92, 120, hx a1, hx a2] rfl (cells_new wr 5 ([92, 120, hx a1, hx a2].map b8)) Hlen.out (Nat.le_trans hbe.size (by simp)) ?_; intro v' w' hown' hgr)
          all_goals
            have hb' := (hown.alloc (.cells #[.int .u8 92, .int .u8 120, .int .u8 ((hx a1).toNat : Int), .int .u8 ((hx a2).toNat : Int)] 5)).drew.grown (below_alloc hbe (Nat.le_refl _) _).drew (Nat.le_trans hbe.size (by simp)) hgr
            have Hb := Lib.hid hown'
            clear hown' hgr
            go_wp2
            go_roundw
            case rel => exact ⟨k + 1, by omega, by go_num, by rw [flat_snoc s k hl, Hq.out]; exact Hb.out, hb'⟩
            case measure => simp [intOf]; omega
      · have hp1 : (32 : Int) ≤ (s[k].toNat : Int) := by omega
        have hp2 : (s[k].toNat : Int) ≤ 126 := by omega
        by_cases h34 : s[k].toNat = 34 ∨ s[k].toNat = 92
        · have hq : qb s[k] = [92, s[k]] := by unfold qb; rw [if_neg hp, if_pos h34]
          have Hq := Lib.hid hq
          have Hc : ((s[k].toNat : Int) == 34) = true ∨ (((s[k].toNat : Int) == 34) = false ∧ ((s[k].toNat : Int) == 92) = true) := by
            rcases h34 with h | h
            · exact Or.inl (by rw [beq_iff_eq]; omega)
            · exact Or.inr ⟨by rw [beq_eq_false_iff_ne]; omega, by rw [beq_iff_eq]; omega⟩
          clear hq hp h34
          rcases Hc with c1 | ⟨c1, c2⟩
          all_goals
            go_wp2_with (at_builtin; refine wpList_append_bytes _ rfl (.tmp 27) (.tmp 29) 42 rfl Tryd.underlying42 u8info rfl (hown.alloc _) ⟨wr.heap.size, 0, none⟩ 2 2 rfl [92, s[k]] rfl (cells_new wr 5 ([92, s[k]].map b8)) (Nat.lt_of_le_of_lt (Nat.add_le_add_left (by decide) _) Hlen.out) (Nat.le_trans hbe.size (by simp)) ?_; intro v' w' hown' hgr; have hb' := (hown.alloc (.cells #[.int .u8 92, .int .u8 (s[k].toNat : Int)] 5)).grown (below_alloc hbe (Nat.le_refl _) _) (Nat.le_trans hbe.size (by simp)) hgr; have Hb := Lib.hid hown'; clear hown' hgr)
            go_roundw
            case rel => exact ⟨k + 1, by omega, by go_num, by rw [flat_snoc s k hl, Hq.out]; exact Hb.out, hb'⟩
            case measure => simp [intOf]; omega
        · have hq : qb s[k] = [s[k]] := by unfold qb; rw [if_neg hp, if_neg h34]
          have e1 : ((s[k].toNat : Int) == 34) = false := by rw [beq_eq_false_iff_ne]; omega
          have e2 : ((s[k].toNat : Int) == 92) = false := by rw [beq_eq_false_iff_ne]; omega
          have Hq := Lib.hid hq
          clear hq hp h34
          go_wp2_with (at_builtin; refine wpList_append_byte _ rfl (.tmp 16) (.tmp 18) 42 rfl Tryd.underlying42 u8info rfl (hown.alloc _) ⟨wr.heap.size, 0, none⟩ 1 rfl _ (cell_new _ _ _) s[k] rfl (Nat.lt_of_le_of_lt (Nat.le_add_right _ _) Hlen.out) (Nat.le_trans hbe.size (by simp)) ?_; intro v' w' hown' hgr; have hb' := (hown.alloc (.cells #[.int .u8 (s[k].toNat : Int)] 5)).grown (below_alloc hbe (Nat.le_refl _) _) (Nat.le_trans hbe.size (by simp)) hgr; have Hb := Lib.hid hown'; clear hown' hgr)
          go_roundw
          case rel => exact ⟨k + 1, by omega, by go_num, by rw [flat_snoc s k hl, Hq.out]; exact Hb.out, hb'⟩
          case measure => simp [intOf]; omega
    · obtain rfl : k = s.size := by omega
      have hlen : (34 :: ((s.data.toList.take s.size).map qb).flatten).length < 140737488355328 := by
        have h1 := flat_len (s.data.toList.take s.size)
        have h2 := List.length_take_le s.size s.data.toList
        rw [List.length_cons]
        omega
      have Hlen := Lib.hid hlen
      clear hlen
      go_wp2_with (at_builtin; refine wpList_append_byte _ rfl (.tmp 47) (.tmp 48) 42 rfl Tryd.underlying42 u8info rfl (hown.alloc _) ⟨wr.heap.size, 0, none⟩ 1 rfl _ (cell_new _ _ _) 34 rfl Hlen.out (Nat.le_trans hbe.size (by simp)) ?_; intro v' w' hown' hgr; have hb' := (hown.alloc (.cells #[.int .u8 34] 5)).grown (below_alloc hbe (Nat.le_refl _) _) (Nat.le_trans hbe.size (by simp)) hgr; have hcv := hown'.string (src := 42) (dst := 9) Tryd.underlying42 Tryd.underlying5 Tryd.underlying9; clear hown' hgr)
      go_ret
      refine ⟨?_, hb'⟩
      rw [List.take_of_length_le (by simp)]
      rfl
end Go.Proofs.YtkjfhgaiakienaaDoor
