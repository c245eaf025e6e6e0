/-
  Walks over package raw: Quote.
-/
import Derived.Test.YtkjfhgaiakienaaDoorRows
import Derived.Test.YtkjfhgaiakienaaDoorLib
import Derived.Test.YtkjfhgaiakienaaDoorRaw4
import Derived.Deep.RegionLaw
namespace Go.Proofs.YtkjfhgaiakienaaDoor
open Go.RowKit

set_option maxHeartbeats 400000 in
theorem plain_yes (c : Int) (w : World) (h1 : 32 ≤ c) (h2 : c ≤ 126) :
    Calls Tryd.prog 43 #[.int .u8 c] w fun e w' => e = .returned (.bool true) ∧ w = w' := by
  go_enter Tryd.func43, Tryd.ntmps43
  go_wp2
  go_ret
  exact ⟨rfl, rfl⟩
set_option maxHeartbeats 400000 in
theorem plain_no (c : Int) (w : World) (h : c < 32 ∨ 126 < c) :
    Calls Tryd.prog 43 #[.int .u8 c] w fun e w' => e = .returned (.bool false) ∧ w = w' := by
  by_cases h1 : c < 32
  · clear h
    go_enter Tryd.func43, Tryd.ntmps43
    go_wp2
    go_ret
    exact ⟨rfl, rfl⟩
  · have h2 : 126 < c := by omega
    have h3 : decide (c ≤ 126) = false := decide_eq_false (by omega)
    clear h
    go_enter Tryd.func43, Tryd.ntmps43
    go_wp2
    go_ret
    exact ⟨rfl, rfl⟩

/-- A digit of sixteen. -/
def hx (n : Nat) : UInt8 := if n < 10 then UInt8.ofNat (48 + n) else UInt8.ofNat (87 + n)
/-- A byte in quotes. -/
def qb (c : UInt8) : List UInt8 :=
  if c.toNat < 32 ∨ 126 < c.toNat then [92, 120, hx (c.toNat / 16), hx (c.toNat % 16)] else if c.toNat = 34 ∨ c.toNat = 92 then [92, c] else [c]
def quoteL (l : List UInt8) : List UInt8 := 34 :: (l.map qb).flatten ++ [34]
theorem qb_len (c : UInt8) : 1 ≤ (qb c).length ∧ (qb c).length ≤ 4 := by
  unfold qb
  split
  · simp
  · split <;> simp
theorem flat_len (l : List UInt8) : (l.map qb).flatten.length ≤ 4 * l.length := by
  induction l with
  | nil => simp
  | cons c r ih =>
    have := (qb_len c).2
    rw [List.map_cons, List.flatten_cons, List.length_append, List.length_cons]
    omega
theorem flat_snoc (s : ByteArray) (k : Nat) (h : k < s.size) : ((s.data.toList.take (k + 1)).map qb).flatten = ((s.data.toList.take k).map qb).flatten ++ qb s[k] := by
  rw [List.take_succ_eq_append_getElem (by simpa using h), List.map_append, List.flatten_append]
  simp; rfl

theorem hexidx0 (W : World) : (Instr.index 9 (.string ⟨#[48, 49, 50, 51, 52, 53, 54, 55, 56, 57, 97, 98, 99, 100, 101, 102]⟩) (.int .u8 0)).run Tryd.prog W = .ok (.int .u8 48) W := by kernel_rfl
theorem hexidx1 (W : World) : (Instr.index 9 (.string ⟨#[48, 49, 50, 51, 52, 53, 54, 55, 56, 57, 97, 98, 99, 100, 101, 102]⟩) (.int .u8 1)).run Tryd.prog W = .ok (.int .u8 49) W := by kernel_rfl
theorem hexidx2 (W : World) : (Instr.index 9 (.string ⟨#[48, 49, 50, 51, 52, 53, 54, 55, 56, 57, 97, 98, 99, 100, 101, 102]⟩) (.int .u8 2)).run Tryd.prog W = .ok (.int .u8 50) W := by kernel_rfl
theorem hexidx3 (W : World) : (Instr.index 9 (.string ⟨#[48, 49, 50, 51, 52, 53, 54, 55, 56, 57, 97, 98, 99, 100, 101, 102]⟩) (.int .u8 3)).run Tryd.prog W = .ok (.int .u8 51) W := by kernel_rfl
theorem hexidx4 (W : World) : (Instr.index 9 (.string ⟨#[48, 49, 50, 51, 52, 53, 54, 55, 56, 57, 97, 98, 99, 100, 101, 102]⟩) (.int .u8 4)).run Tryd.prog W = .ok (.int .u8 52) W := by kernel_rfl
theorem hexidx5 (W : World) : (Instr.index 9 (.string ⟨#[48, 49, 50, 51, 52, 53, 54, 55, 56, 57, 97, 98, 99, 100, 101, 102]⟩) (.int .u8 5)).run Tryd.prog W = .ok (.int .u8 53) W := by kernel_rfl
theorem hexidx6 (W : World) : (Instr.index 9 (.string ⟨#[48, 49, 50, 51, 52, 53, 54, 55, 56, 57, 97, 98, 99, 100, 101, 102]⟩) (.int .u8 6)).run Tryd.prog W = .ok (.int .u8 54) W := by kernel_rfl
theorem hexidx7 (W : World) : (Instr.index 9 (.string ⟨#[48, 49, 50, 51, 52, 53, 54, 55, 56, 57, 97, 98, 99, 100, 101, 102]⟩) (.int .u8 7)).run Tryd.prog W = .ok (.int .u8 55) W := by kernel_rfl
theorem hexidx8 (W : World) : (Instr.index 9 (.string ⟨#[48, 49, 50, 51, 52, 53, 54, 55, 56, 57, 97, 98, 99, 100, 101, 102]⟩) (.int .u8 8)).run Tryd.prog W = .ok (.int .u8 56) W := by kernel_rfl
theorem hexidx9 (W : World) : (Instr.index 9 (.string ⟨#[48, 49, 50, 51, 52, 53, 54, 55, 56, 57, 97, 98, 99, 100, 101, 102]⟩) (.int .u8 9)).run Tryd.prog W = .ok (.int .u8 57) W := by kernel_rfl
theorem hexidx10 (W : World) : (Instr.index 9 (.string ⟨#[48, 49, 50, 51, 52, 53, 54, 55, 56, 57, 97, 98, 99, 100, 101, 102]⟩) (.int .u8 10)).run Tryd.prog W = .ok (.int .u8 97) W := by kernel_rfl
theorem hexidx11 (W : World) : (Instr.index 9 (.string ⟨#[48, 49, 50, 51, 52, 53, 54, 55, 56, 57, 97, 98, 99, 100, 101, 102]⟩) (.int .u8 11)).run Tryd.prog W = .ok (.int .u8 98) W := by kernel_rfl
theorem hexidx12 (W : World) : (Instr.index 9 (.string ⟨#[48, 49, 50, 51, 52, 53, 54, 55, 56, 57, 97, 98, 99, 100, 101, 102]⟩) (.int .u8 12)).run Tryd.prog W = .ok (.int .u8 99) W := by kernel_rfl
theorem hexidx13 (W : World) : (Instr.index 9 (.string ⟨#[48, 49, 50, 51, 52, 53, 54, 55, 56, 57, 97, 98, 99, 100, 101, 102]⟩) (.int .u8 13)).run Tryd.prog W = .ok (.int .u8 100) W := by kernel_rfl
theorem hexidx14 (W : World) : (Instr.index 9 (.string ⟨#[48, 49, 50, 51, 52, 53, 54, 55, 56, 57, 97, 98, 99, 100, 101, 102]⟩) (.int .u8 14)).run Tryd.prog W = .ok (.int .u8 101) W := by kernel_rfl
theorem hexidx15 (W : World) : (Instr.index 9 (.string ⟨#[48, 49, 50, 51, 52, 53, 54, 55, 56, 57, 97, 98, 99, 100, 101, 102]⟩) (.int .u8 15)).run Tryd.prog W = .ok (.int .u8 102) W := by kernel_rfl
theorem hexidx (n : Nat) (h : n < 16) (W : World) : (Instr.index 9 (.string ⟨#[48, 49, 50, 51, 52, 53, 54, 55, 56, 57, 97, 98, 99, 100, 101, 102]⟩) (.int .u8 (n : Int))).run Tryd.prog W = .ok (.int .u8 ((hx n).toNat : Int)) W := by
  match n, h with
  | 0, _ => exact hexidx0 W
  | 1, _ => exact hexidx1 W
  | 2, _ => exact hexidx2 W
  | 3, _ => exact hexidx3 W
  | 4, _ => exact hexidx4 W
  | 5, _ => exact hexidx5 W
  | 6, _ => exact hexidx6 W
  | 7, _ => exact hexidx7 W
  | 8, _ => exact hexidx8 W
  | 9, _ => exact hexidx9 W
  | 10, _ => exact hexidx10 W
  | 11, _ => exact hexidx11 W
  | 12, _ => exact hexidx12 W
  | 13, _ => exact hexidx13 W
  | 14, _ => exact hexidx14 W
  | 15, _ => exact hexidx15 W
  | n + 16, h => omega
theorem and_15 : ∀ c : Nat, c < 256 → bits .and .u8 (c : Int) 15 = ((c % 16 : Nat) : Int) := by decide +kernel

set_option maxRecDepth 100000 in
set_option maxHeartbeats 2000000 in
theorem quote_any (s : ByteArray) (w : World) (hs : s.size ≤ 30000000000000) :
    Calls Tryd.prog 30 #[.string s] w fun e w' => e = .returned (.string ⟨(quoteL s.data.toList).toArray⟩) ∧ Below w.heap.size w w' := by
  go_enter Tryd.func30, Tryd.ntmps30
  go_wp2_with fail
  go_loopw [3, 9] (fun q i wr => ∃ k : Nat, k ≤ s.size ∧ i = .int .i64 (k : Int) ∧ Byt wr w.heap.size 5 q (34 :: ((s.data.toList.take k).map qb).flatten) ∧ Below w.heap.size w wr)
    (fun _ i _ => s.size - (intOf i).toNat)
  case atStart =>
    refine ⟨0, by omega, rfl, ?_, below_alloc (Below.refl _ _) (Nat.le_refl _) _⟩
    have := World.ownsRow_lit (base := w.heap.size) (e := 5) (size := 1) w #[.int .u8 34] 1 (Nat.le_refl _) (by unfold maxLen; omega) rfl
    exact this
  case round =>
    obtain ⟨k, hk, rfl, hown, hbe⟩ := hrel
    by_cases hl : k < s.size
    · have hb8 := UInt8.toNat_lt s[k]
      by_cases hp : s[k].toNat < 32 ∨ 126 < s[k].toNat
      · obtain ⟨a1, ha1⟩ : ∃ a, a = s[k].toNat / 16 := ⟨_, rfl⟩
        obtain ⟨a2, ha2⟩ : ∃ a, a = s[k].toNat % 16 := ⟨_, rfl⟩
        have hq : qb s[k] = [92, 120, hx a1, hx a2] := by unfold qb; rw [if_pos hp, ha1, ha2]
        have e1 : ((s[k].toNat : Int) / 16) = (a1 : Int) := by omega
        have e2 : bits .and .u8 (s[k].toNat : Int) 15 = (a2 : Int) := by rw [and_15 _ hb8, ha2]
        have i1 := hexidx a1 (by omega)
        have i2 := hexidx a2 (by omega)
        have Hq := Lib.hid hq
        clear ha1 ha2 hq
        go_wp2_with fail
        refine (plain_no _ _ (by omega)).mono ?_
        rintro e w1 ⟨rfl, rfl⟩
        go_wp2_with fail
        have hlen : (34 :: ((s.data.toList.take k).map qb).flatten).length + 4 < 140737488355328 := by
          have h1 := flat_len (s.data.toList.take k)
          have h2 := List.length_take_le k s.data.toList
          rw [List.length_cons]
          omega
        go_region_law (refine step_append_bytes rfl (.tmp 23) (.tmp 30) 42 rfl Tryd.underlying42 u8info rfl (hown.alloc _).drew ⟨wr.heap.size, 0, none⟩ 4 4 rfl [92, 120, hx a1, hx a2] rfl (cells_new wr 5 ([92, 120, hx a1, hx a2].map b8)) hlen (Nat.le_trans hbe.size (by simp)) ?_; intro v' w' hown' hgr)
        all_goals
          have hb' := (hown.alloc (.cells #[.int .u8 92, .int .u8 120, .int .u8 ((hx a1).toNat : Int), .int .u8 ((hx a2).toNat : Int)] 5)).drew.grown (below_alloc hbe (Nat.le_refl _) _).drew (Nat.le_trans hbe.size (by simp)) hgr
          have Hb := Lib.hid hown'
          clear hown' hgr hlen
          go_wp2
          go_roundw
          case rel => exact ⟨k + 1, by omega, by go_num, by rw [flat_snoc s k hl, Hq.out]; exact Hb.out, hb'⟩
          case measure => simp [intOf]; omega
      · have hp1 : (32 : Int) ≤ (s[k].toNat : Int) := by omega
        have hp2 : (s[k].toNat : Int) ≤ 126 := by omega
        have hlen : (34 :: ((s.data.toList.take k).map qb).flatten).length + 2 < 140737488355328 := by
          have h1 := flat_len (s.data.toList.take k)
          have h2 := List.length_take_le k s.data.toList
          rw [List.length_cons]
          omega
        have Hlen := Lib.hid hlen
        clear hlen
        by_cases h34 : s[k].toNat = 34 ∨ s[k].toNat = 92
        · have hq : qb s[k] = [92, s[k]] := by unfold qb; rw [if_neg hp, if_pos h34]
          have Hq := Lib.hid hq
          clear hq hp
          rcases h34 with h34 | h34
          · have e1 : ((s[k].toNat : Int) == 34) = true := by rw [beq_iff_eq]; omega
            clear h34
            go_wp2_with fail
            refine (plain_yes _ _ hp1 hp2).mono ?_
            rintro e w1 ⟨rfl, rfl⟩
            go_wp2_with (at_builtin; refine wpList_append_bytes _ rfl (.tmp 39) (.tmp 41) 42 rfl Tryd.underlying42 u8info rfl (hown.alloc _) ⟨wr.heap.size, 0, none⟩ 2 2 rfl [92, s[k]] rfl (cells_new wr 5 ([92, s[k]].map b8)) Hlen.out (Nat.le_trans hbe.size (by simp)) ?_; intro v' w' hown' hgr; have hb' := (hown.alloc (.cells #[.int .u8 92, .int .u8 (s[k].toNat : Int)] 5)).grown (below_alloc hbe (Nat.le_refl _) _) (Nat.le_trans hbe.size (by simp)) hgr; have Hb := Lib.hid hown'; clear hown' hgr)
            go_roundw
            case rel => exact ⟨k + 1, by omega, by go_num, by rw [flat_snoc s k hl, Hq.out]; exact Hb.out, hb'⟩
            case measure => simp [intOf]; omega
          · have e1 : ((s[k].toNat : Int) == 34) = false := by rw [beq_eq_false_iff_ne]; omega
            have e2 : ((s[k].toNat : Int) == 92) = true := by rw [beq_iff_eq]; omega
            clear h34
            go_wp2_with fail
            refine (plain_yes _ _ hp1 hp2).mono ?_
            rintro e w1 ⟨rfl, rfl⟩
            go_wp2_with (at_builtin; refine wpList_append_bytes _ rfl (.tmp 39) (.tmp 41) 42 rfl Tryd.underlying42 u8info rfl (hown.alloc _) ⟨wr.heap.size, 0, none⟩ 2 2 rfl [92, s[k]] rfl (cells_new wr 5 ([92, s[k]].map b8)) Hlen.out (Nat.le_trans hbe.size (by simp)) ?_; intro v' w' hown' hgr; have hb' := (hown.alloc (.cells #[.int .u8 92, .int .u8 (s[k].toNat : Int)] 5)).grown (below_alloc hbe (Nat.le_refl _) _) (Nat.le_trans hbe.size (by simp)) hgr; have Hb := Lib.hid hown'; clear hown' hgr)
            go_roundw
            case rel => exact ⟨k + 1, by omega, by go_num, by rw [flat_snoc s k hl, Hq.out]; exact Hb.out, hb'⟩
            case measure => simp [intOf]; omega
        · have hq : qb s[k] = [s[k]] := by unfold qb; rw [if_neg hp, if_neg h34]
          have e1 : ((s[k].toNat : Int) == 34) = false := by rw [beq_eq_false_iff_ne]; omega
          have e2 : ((s[k].toNat : Int) == 92) = false := by rw [beq_eq_false_iff_ne]; omega
          have Hq := Lib.hid hq
          clear hq hp h34
          go_wp2_with fail
          refine (plain_yes _ _ hp1 hp2).mono ?_
          rintro e w1 ⟨rfl, rfl⟩
          go_wp2_with (at_builtin; refine wpList_append_byte _ rfl (.tmp 15) (.tmp 17) 42 rfl Tryd.underlying42 u8info rfl (hown.alloc _) ⟨wr.heap.size, 0, none⟩ 1 rfl _ (cell_new _ _ _) s[k] rfl (Nat.lt_of_le_of_lt (Nat.le_add_right _ _) Hlen.out) (Nat.le_trans hbe.size (by simp)) ?_; intro v' w' hown' hgr; have hb' := (hown.alloc (.cells #[.int .u8 (s[k].toNat : Int)] 5)).grown (below_alloc hbe (Nat.le_refl _) _) (Nat.le_trans hbe.size (by simp)) hgr; have Hb := Lib.hid hown'; clear hown' hgr)
          go_roundw
          case rel => exact ⟨k + 1, by omega, by go_num, by rw [flat_snoc s k hl, Hq.out]; exact Hb.out, hb'⟩
          case measure => simp [intOf]; omega
    · obtain rfl : k = s.size := by omega
      have hlen : (34 :: ((s.data.toList.take s.size).map qb).flatten).length < 140737488355328 := by
        have h1 := flat_len (s.data.toList.take s.size)
        have h2 := List.length_take_le s.size s.data.toList
        rw [List.length_cons]
        omega
      have Hlen := Lib.hid hlen
      clear hlen
      go_wp2_with (at_builtin; refine wpList_append_byte _ rfl (.tmp 44) (.tmp 45) 42 rfl Tryd.underlying42 u8info rfl (hown.alloc _) ⟨wr.heap.size, 0, none⟩ 1 rfl _ (cell_new _ _ _) 34 rfl Hlen.out (Nat.le_trans hbe.size (by simp)) ?_; intro v' w' hown' hgr; have hb' := (hown.alloc (.cells #[.int .u8 34] 5)).grown (below_alloc hbe (Nat.le_refl _) _) (Nat.le_trans hbe.size (by simp)) hgr; have hcv := hown'.string (src := 42) (dst := 9) Tryd.underlying42 Tryd.underlying5 Tryd.underlying9; clear hown' hgr)
      go_ret
      refine ⟨?_, hb'⟩
      rw [List.take_of_length_le (by simp)]
      rfl
end Go.Proofs.YtkjfhgaiakienaaDoor
