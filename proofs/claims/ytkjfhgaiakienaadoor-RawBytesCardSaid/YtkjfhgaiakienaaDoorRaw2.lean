/-
  Walks over package raw, part 2: a number in groups of seven bits.
-/
import Derived.Test.YtkjfhgaiakienaaDoorRaw1
import Derived.Test.YtkjfhgaiakienaaDoorLib
namespace Go.Proofs.YtkjfhgaiakienaaDoor
open Go.RowKit

inductive GV where
  | ok (v n : Nat)
  | err (e : Int)

/-- What GetVar makes of bytes: i groups are taken, v is what they say. -/
def gv : List UInt8 → Nat → Nat → GV
  | [], i, _ => if i < 9 then .err 3 else .err 4
  | c :: r, i, v => if 9 ≤ i then .err 4 else if 128 ≤ c.toNat then gv r (i + 1) (v + c.toNat % 128 * 2 ^ (7 * i)) else if c.toNat = 0 ∧ 0 < i then .err 4 else .ok (v + c.toNat % 128 * 2 ^ (7 * i)) (i + 1)

theorem gv_long (l : List UInt8) (i v : Nat) (h : 9 ≤ i) : gv l i v = .err 4 := by
  cases l with
  | nil => rw [gv, if_neg (by omega)]
  | cons c r => rw [gv, if_pos h]

theorem gv_short (l : List UInt8) (i v : Nat) (h : i < 9) (hl : l = []) : gv l i v = .err 3 := by
  subst hl; rw [gv, if_pos h]

theorem gv_more (s : ByteArray) (k a : Nat) (hl : k < s.size) (hk : k < 9) (h : 128 ≤ s[k].toNat) :
    gv (s.data.toList.drop k) k a = gv (s.data.toList.drop (k + 1)) (k + 1) (a + s[k].toNat % 128 * 2 ^ (7 * k)) := by
  rw [List.drop_eq_getElem_cons (by simpa using hl), gv, if_neg (by omega), if_pos (by exact h)]; rfl
theorem gv_zero (s : ByteArray) (k a : Nat) (hl : k < s.size) (hk : k < 9) (h : s[k].toNat = 0) (h0 : 0 < k) :
    gv (s.data.toList.drop k) k a = .err 4 := by
  have e : (s.data.toList[k]'(by simpa using hl)).toNat = 0 := h
  rw [List.drop_eq_getElem_cons (by simpa using hl), gv, if_neg (by omega), if_neg (by omega), if_pos ⟨e, h0⟩]
theorem gv_last (s : ByteArray) (k a : Nat) (hl : k < s.size) (hk : k < 9) (h : s[k].toNat < 128) (h0 : ¬ (s[k].toNat = 0 ∧ 0 < k)) :
    gv (s.data.toList.drop k) k a = .ok (a + s[k].toNat % 128 * 2 ^ (7 * k)) (k + 1) := by
  have h' : (s.data.toList[k]'(by simpa using hl)).toNat < 128 := h
  have h0' : ¬ ((s.data.toList[k]'(by simpa using hl)).toNat = 0 ∧ 0 < k) := h0
  rw [List.drop_eq_getElem_cons (by simpa using hl), gv, if_neg (by omega), if_neg (by omega), if_neg h0']; rfl

def VarPost (p : Nat) (w : World) : GV → Ending → World → Prop
  | .ok v n, e, w' => e = .returned (.int .i64 (v : Int)) ∧ w'.cell? ⟨p, 1, none⟩ = some (.int .i64 (n : Int)) ∧ w.grownBy w' (some p)
  | .err er, e, w' => e = .panicked [{ v := .iface 22 (.int .i64 er), recovered := false }] ∧ w.grownBy w' (some p)

set_option maxRecDepth 100000 in
set_option maxHeartbeats 1000000 in
theorem variable_any (p : Nat) (s : ByteArray) (w : World) (h0 : w.cell? ⟨p, 0, none⟩ = some (.string s)) (h1 : w.cell? ⟨p, 1, none⟩ = some (.int .i64 (0 : Nat)))
    (hz : w.frozen? ⟨p, 1, none⟩ = false) (hs : s.size ≤ 9223372036854775807) :
    Calls Tryd.prog 34 #[.pointer (some ⟨p, 0, none⟩)] w fun e w' => VarPost p w (gv s.data.toList 0 0) e w' := by
  obtain ⟨g, hg⟩ : ∃ g, g = gv s.data.toList 0 0 := ⟨_, rfl⟩
  rw [← hg]
  have Hg := Lib.hid hg
  clear hg
  go_enter Tryd.func34, Tryd.ntmps34
  go_wp2
  go_loopw [3, 6] (fun v i wr => ∃ k a : Nat, k ≤ 9 ∧ k ≤ s.size ∧ i = .int .i64 (k : Int) ∧ v = .int .i64 (a : Int) ∧ a < 2 ^ (7 * k) ∧ Hid (gv s.data.toList 0 0 = gv (s.data.toList.drop k) k a) ∧
      wr.cell? ⟨p, 0, none⟩ = some (.string s) ∧ wr.cell? ⟨p, 1, none⟩ = some (.int .i64 (k : Int)) ∧ wr.frozen? ⟨p, 1, none⟩ = false ∧ w.grownBy wr (some p))
    (fun _ i _ => 9 - (intOf i).toNat)
  case atStart => exact ⟨0, 0, by omega, by omega, rfl, rfl, by omega, rfl, h0, h1, hz, World.grownBy.refl _ _⟩
  case round =>
    obtain ⟨k, a, hk9, hks, rfl, rfl, ha, Ha, c0, c1, cz, hgr⟩ := hrel
    by_cases hk : k < 9
    · by_cases hl : k < s.size
      · have hb : s[k].toNat < 256 := UInt8.toNat_lt _
        have V := Lib.hid (vstep a k _ ha hk hb)
        go_wp2_with fail
        refine (next_some p k s _ _ c0 c1 cz hl hs).mono ?_
        rintro e w' ⟨rfl, n, rfl⟩
        go_wp2_with fail
        · have h128 : (128 : Int) ≤ ((s[k]'hl).toNat : Int) := by assumption
          have hgg := gv_more s k a hl hk (by omega)
          go_roundw
          case rel => exact ⟨k + 1, _, by omega, by omega, by go_num, by rw [V.out.1], V.out.2, Ha.out.trans hgg, (World.cell?_setCell_other _ _ _ _ (by simp)).trans c0, World.cell?_setCell_same _ _ _ c1, (World.frozen?_setCell _ _ _ _).trans cz, only_drewN (only_setCell hgr (.inl rfl) _) _⟩
          case measure => simp [intOf]; omega
        · have hzz : s[k].toNat = 0 := by assumption
          have h0k : 0 < k := by assumption
          have hgg := (Hg.out.trans Ha.out).trans (gv_zero s k a hl hk hzz h0k)
          refine ⟨rfl, ?_⟩
          rw [hgg]
          exact ⟨rfl, only_drewN (only_setCell hgr (.inl rfl) _) _⟩
        · have h128 : ((s[k]'hl).toNat : Int) < 128 := by assumption
          have hnk : ¬ 0 < k := by assumption
          have hz0 : s[k].toNat = 0 := by assumption
          have hgg := (Hg.out.trans Ha.out).trans (gv_last s k a hl hk (by omega) (fun h => hnk h.2))
          have V1 : bits .or .i64 (a : Int) (wrap64 (wrap64 (bits .andNot .u8 (0 : Int) 128) * 2 ^ (7 * k))) = ((a + s[k].toNat % 128 * 2 ^ (7 * k) : Nat) : Int) := by
            have := V.out.1
            rw [hz0] at this ⊢
            exact this
          go_ret
          rw [hgg]
          exact ⟨by rw [V1]; rfl, World.cell?_setCell_same _ _ _ c1, only_drewN (only_setCell hgr (.inl rfl) _) _⟩
        · have h128 : ((s[k]'hl).toNat : Int) < 128 := by assumption
          have hnk : ¬ s[k].toNat = 0 := by assumption
          have hgg := (Hg.out.trans Ha.out).trans (gv_last s k a hl hk (by omega) (fun h => hnk h.1))
          go_ret
          rw [hgg]
          exact ⟨by rw [V.out.1]; rfl, World.cell?_setCell_same _ _ _ c1, only_drewN (only_setCell hgr (.inl rfl) _) _⟩
      · obtain rfl : k = s.size := by omega
        have hgg := Lib.hid ((Hg.out.trans Ha.out).trans (gv_short _ _ a hk (by simp)))
        go_wp2_with fail
        refine (next_end p s _ _ c0 c1 hs).mono ?_
        rintro e w' ⟨rfl, n, rfl⟩
        refine ⟨rfl, ?_⟩
        rw [hgg.out]
        exact ⟨rfl, only_drewN hgr _⟩
    · have hgg := Lib.hid ((Hg.out.trans Ha.out).trans (gv_long _ _ a (by omega)))
      go_wp2_with fail
      refine ⟨rfl, ?_⟩
      rw [hgg.out]
      exact ⟨rfl, hgr⟩
end Go.Proofs.YtkjfhgaiakienaaDoor
