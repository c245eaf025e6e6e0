/-
  Walks over package raw, part 1: the reader's steps.
-/
import Derived.Test.YtkjfhgaiakienaaDoorRows
import Derived.WalkKit
import Derived.WalkSpells
import Derived.WalkLawsBesides
import Derived.Deep.QuietTactic
import Derived.BigQuiet
import Derived.Lib.Hide
namespace Go.Proofs.YtkjfhgaiakienaaDoor
open Go.RowKit

set_option maxHeartbeats 400000 in
theorem next_some (p k : Nat) (s : ByteArray) (er : Int) (w : World) (h0 : w.cell? ⟨p, 0, none⟩ = some (.string s)) (h1 : w.cell? ⟨p, 1, none⟩ = some (.int .i64 k))
    (hz : w.frozen? ⟨p, 1, none⟩ = false) (hk : k < s.size) (hs : s.size ≤ 9223372036854775807) :
    Calls Tryd.prog 44 #[.pointer (some ⟨p, 0, none⟩), .int .i64 er] w fun e w' => e = .returned (.int .u8 (s[k]'hk).toNat) ∧ ∃ n, w' = (w.setCell ⟨p, 1, none⟩ (.int .i64 ((k : Int) + 1))).drewN n := by
  have hne : ((k : Int) == (s.size : Int)) = false := by simp; omega
  have hlt : (k : Int) < (s.size : Int) := by omega
  go_enter Tryd.func44, Tryd.ntmps44
  go_wp2
  go_quiet (fail)
  go_wp2
  go_quiet (fail)
  go_wp2
  go_ret
  exact ⟨rfl, _, rfl⟩

set_option maxHeartbeats 400000 in
theorem next_end (p : Nat) (s : ByteArray) (er : Int) (w : World) (h0 : w.cell? ⟨p, 0, none⟩ = some (.string s)) (h1 : w.cell? ⟨p, 1, none⟩ = some (.int .i64 (s.size : Int)))
    (hs : s.size ≤ 9223372036854775807) :
    Calls Tryd.prog 44 #[.pointer (some ⟨p, 0, none⟩), .int .i64 er] w fun e w' => e = .panicked [{ v := .iface 22 (.int .i64 er), recovered := false }] ∧ ∃ n, w' = w.drewN n := by
  have hne : ((s.size : Int) == (s.size : Int)) = true := by simp
  go_enter Tryd.func44, Tryd.ntmps44
  go_wp2
  go_quiet (fail)
  go_wp2
  exact ⟨rfl, rfl, _, rfl⟩
end Go.Proofs.YtkjfhgaiakienaaDoor
