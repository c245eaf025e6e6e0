/-
  Walks over package raw, part 4: PutVar.
-/
import Derived.Test.YtkjfhgaiakienaaDoorRows
import Derived.Test.YtkjfhgaiakienaaDoorLib
namespace Go.Proofs.YtkjfhgaiakienaaDoor
open Go.RowKit

theorem u8info : (Tryd.prog.info? 5).map (fun i => (i.zero, i.size, i.bytes)) = some (some (.int .u8 0), 1, 1) := by kernel_rfl

/-- A number in groups of seven bits. -/
def pv (v : Nat) : List UInt8 := if v < 128 then [UInt8.ofNat v] else UInt8.ofNat (v % 128 + 128) :: pv (v / 128)
  termination_by v
  decreasing_by omega

theorem or_128 : ∀ c : Nat, c < 256 → bits .or .u8 (c : Int) 128 = ((c % 128 + 128 : Nat) : Int) := by decide +kernel

theorem u8_of (n : Nat) (h : n < 256) : (n : Int) = ((UInt8.ofNat n).toNat : Int) := by simp; omega

theorem pv_more (v : Nat) (h : 128 ≤ v) : pv v = UInt8.ofNat (v % 128 + 128) :: pv (v / 128) := by rw [pv, if_neg (by omega)]
theorem pv_last (v : Nat) (h : v < 128) : pv v = [UInt8.ofNat v] := by rw [pv, if_pos h]

set_option maxRecDepth 100000 in
set_option maxHeartbeats 1000000 in
theorem putvar_any (v : Nat) (w : World) (hv : v < 9223372036854775808) :
    Calls Tryd.prog 22 #[.int .i64 (v : Int)] w fun e w' => e = .returned (.string ⟨(pv v).toArray⟩) ∧ Below w.heap.size w w' := by
  go_enter Tryd.func22, Tryd.ntmps22
  go_wp2
  go_loopw [0, 3] (fun x b wr => ∃ (u : Nat) (l : List UInt8), x = .int .i64 (u : Int) ∧ u * 2 ^ (7 * l.length) ≤ v ∧ l.length ≤ 9 ∧ Hid (pv v = l ++ pv u) ∧ Byt wr w.heap.size 5 b l ∧ Below w.heap.size w wr)
    (fun x _ _ => (intOf x).toNat)
  case atStart => exact ⟨v, [], rfl, by simp, by simp, rfl, Byt.nil _ _ _, Below.refl _ _⟩
  case round =>
    obtain ⟨u, l, rfl, hu, hll, Hl, hown, hbe⟩ := hrel
    have hu' : u ≤ v := Nat.le_trans (Nat.le_mul_of_pos_right u (Nat.two_pow_pos _)) hu
    have Hu := Lib.hid hu
    clear hu
    by_cases h : 128 ≤ u
    · obtain ⟨c, hc⟩ : ∃ c, c = UInt8.ofNat (u % 128 + 128) := ⟨_, rfl⟩
      have hcc : bits .or .u8 ((u : Int) % 256) 128 = (c.toNat : Int) := by
        have h1 := or_128 (u % 256) (by omega)
        rw [show ((u % 256 : Nat) : Int) = (u : Int) % 256 from by omega, show u % 256 % 128 = u % 128 from by omega] at h1
        rw [h1, hc, u8_of _ (by omega)]
      have HC := Lib.hid hcc
      have Hc := Lib.hid hc
      clear hc hcc
      go_wp2_with (at_builtin; refine wpList_append_byte _ rfl (.tmp 8) (.tmp 12) 42 rfl Tryd.underlying42 u8info rfl (hown.alloc _) ⟨wr.heap.size, 0, none⟩ 1 rfl _ (cell_new _ _ _) c HC.out ?c3 ?c4 ?_)
      case c3 => omega
      case c4 => have := hbe.size; simp; omega
      intro v' w' hown' hgr
      have hb' := (hown.alloc _).grown (below_alloc hbe (Nat.le_refl _) _) (by have := hbe.size; simp; omega) hgr
      clear hgr
      go_wp2
      go_roundw
      case rel =>
        refine ⟨u / 128, l ++ [c], by go_num, ?_, ?_, ?_, hown', hb'⟩
        · have h1 : u / 128 * 2 ^ (7 * (l ++ [c]).length) ≤ u * 2 ^ (7 * l.length) := by
            rw [List.length_append, List.length_singleton, Nat.mul_add, Nat.pow_add, ← Nat.mul_assoc, Nat.mul_right_comm]
            exact Nat.mul_le_mul_right _ (by omega)
          exact Nat.le_trans h1 Hu.out
        · rw [List.length_append, List.length_singleton]
          have h2 := Hu.out
          have h3 : 2 ^ 7 * 2 ^ (7 * l.length) ≤ v := Nat.le_trans (Nat.mul_le_mul_right _ h) h2
          rw [← Nat.pow_add] at h3
          have h4 : 7 + 7 * l.length < 63 := by
            rcases Nat.lt_or_ge (7 + 7 * l.length) 63 with h5 | h5
            · exact h5
            · have := Nat.pow_le_pow_right (n := 2) (by decide) h5
              omega
          omega
        · show pv v = _
          rw [Hl.out, pv_more u h, Hc.out]
          simp
      case measure => simp [intOf]; omega
    · obtain ⟨c, hc⟩ : ∃ c, c = UInt8.ofNat u := ⟨_, rfl⟩
      have HC : Hid ((u : Int) = (c.toNat : Int)) := by rw [hc]; exact Lib.hid (u8_of u (by omega))
      have Hc := Lib.hid hc
      clear hc
      go_wp2_with (at_builtin; refine wpList_append_byte _ rfl (.tmp 16) (.tmp 19) 42 rfl Tryd.underlying42 u8info rfl (hown.alloc _) ⟨wr.heap.size, 0, none⟩ 1 rfl _ (cell_new _ _ _) c HC.out ?d3 ?d4 ?_)
      case d3 => omega
      case d4 => have := hbe.size; simp; omega
      intro v' w' hown' hgr
      have hb' := (hown.alloc _).grown (below_alloc hbe (Nat.le_refl _) _) (by have := hbe.size; simp; omega) hgr
      have hcv := hown'.string (src := 42) (dst := 9) Tryd.underlying42 Tryd.underlying5 Tryd.underlying9
      clear hgr
      go_wp2
      go_ret
      exact ⟨by rw [Hl.out, pv_last u (by omega), Hc.out]; rfl, hb'⟩
end Go.Proofs.YtkjfhgaiakienaaDoor
