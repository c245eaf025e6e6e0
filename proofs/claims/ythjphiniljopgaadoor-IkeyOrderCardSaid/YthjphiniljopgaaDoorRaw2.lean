/-
  Walks over package raw, part 2: a number in groups of seven bits.
-/
import Derived.Test.YthjphiniljopgaaDoorRaw1
import Derived.Test.YthjphiniljopgaaDoorLib
namespace Go.Proofs.YthjphiniljopgaaDoor
open Go.RowKit

inductive GV where
  | ok (v n : Nat)
  | err (e : Int)

/-- What GetVar makes of bytes: i groups are taken, v is what they say. -/
def gv : List UInt8 → Nat → Nat → GV
  | [], i, _ => if i < 9 then .err 3 else .err 4
  | c :: r, i, v => if 9 ≤ i then .err 4 else if 128 ≤ c.toNat then gv r (i + 1) (v + c.toNat % 128 * 2 ^ (7 * i)) else if c.toNat = 0 ∧ 0 < i then .err 4 else .ok (v + c.toNat % 128 * 2 ^ (7 * i)) (i + 1)

theorem gv_long (l : List UInt8) (i v : Nat) (h : 9 ≤ i) : gv l i v = .err 4 := by
  cases l with
  | nil => rw [gv, if_neg (by omega)]
  | cons c r => rw [gv, if_pos h]

theorem gv_short (l : List UInt8) (i v : Nat) (h : i < 9) (hl : l = []) : gv l i v = .err 3 := by
  subst hl; rw [gv, if_pos h]

theorem gv_more (s : ByteArray) (k a : Nat) (hl : k < s.size) (hk : k < 9) (h : 128 ≤ s[k].toNat) :
    gv (s.data.toList.drop k) k a = gv (s.data.toList.drop (k + 1)) (k + 1) (a + s[k].toNat % 128 * 2 ^ (7 * k)) := by
  rw [List.drop_eq_getElem_cons (by simpa using hl), gv, if_neg (by omega), if_pos (by exact h)]; rfl
theorem gv_zero (s : ByteArray) (k a : Nat) (hl : k < s.size) (hk : k < 9) (h : s[k].toNat = 0) (h0 : 0 < k) :
    gv (s.data.toList.drop k) k a = .err 4 := by
  have e : (s.data.toList[k]'(by simpa using hl)).toNat = 0 := h
  rw [List.drop_eq_getElem_cons (by simpa using hl), gv, if_neg (by omega), if_neg (by omega), if_pos ⟨e, h0⟩]
theorem gv_last (s : ByteArray) (k a : Nat) (hl : k < s.size) (hk : k < 9) (h : s[k].toNat < 128) (h0 : ¬ (s[k].toNat = 0 ∧ 0 < k)) :
    gv (s.data.toList.drop k) k a = .ok (a + s[k].toNat % 128 * 2 ^ (7 * k)) (k + 1) := by
  have h' : (s.data.toList[k]'(by simpa using hl)).toNat < 128 := h
  have h0' : ¬ ((s.data.toList[k]'(by simpa using hl)).toNat = 0 ∧ 0 < k) := h0
  rw [List.drop_eq_getElem_cons (by simpa using hl), gv, if_neg (by omega), if_neg (by omega), if_neg h0']; rfl

def VarPost (p : Nat) (w : World) : GV → Ending → World → Prop
  | .ok v n, e, w' => e = .returned (.int .i64 (v : Int)) ∧ w'.cell? ⟨p, 1, none⟩ = some (.int .i64 (n : Int)) ∧ w.grownBy w' (some p)
  | .err er, e, w' => e = .panicked [{ v := .iface 29 (.int .i64 er), recovered := false }] ∧ w.grownBy w' (some p)

end Go.Proofs.YthjphiniljopgaaDoor
