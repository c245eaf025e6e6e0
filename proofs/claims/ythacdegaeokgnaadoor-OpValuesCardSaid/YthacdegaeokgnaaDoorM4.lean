/-
  Several texts in one: The document's own answer to chapter 6: an act's bytes.
  Chapter 6: results that lie in cells: an act, a value stored cell by cell.
  Walks over package real, part 6: a text's digits and power.
  Walks over package real, part 7: the number of digits and a power.
  Walks over package real, part 8: Parse, with its deferred closure.
  Walks over the document's own answer to chapter 2: Get.
  The document's own answer to chapter 6: bytes that tell an act.
  The document's own answer to chapter 6: bytes that tell a whole number, and all bytes.
  The landed package op: what its reader takes off.
-/
import Derived.Test.YthacdegaeokgnaaDoorM3
import Derived.Test.YthacdegaeokgnaaDoorM2
import Derived.Test.YthacdegaeokgnaaDoorM1
import Derived.Deep.QuietTactic
import Derived.Lib.IndexBytes
import Derived.Lib.IndexLaws
import Derived.Defers
import Derived.Recover
import Derived.Laws.ResultCell
namespace Go.Proofs.YthacdegaeokgnaaDoor
open Go.RowKit

set_option maxRecDepth 100000 in
set_option maxHeartbeats 1000000 in
theorem rput6_4 (nu : Nat) (it : Int) (tx : ByteArray) (I : ActIn 4 nu it tx) (hr : rightA (a6 4 nu it tx) = true) (w : World) :
    Calls Tryd.prog 13 #[actV 4 nu it tx] w fun e w' => e = .returned (.tuple #[.string ⟨([4]).toArray⟩, .int .i64 0]) ∧ Below w.heap.size w w' := by
  have R := fun W => Lib.hid (rright_any 4 nu it tx I W)
  rw [hr] at R
  simp only [actV] at R
  unfold actV
  have hb : Hid (Below w.heap.size w (w.alloc (.cells #[.int .i64 4, .float .f64 nu, .int .i64 it, .string tx] 24))) := (Below.refl _ w).alloc (Nat.le_refl _) _
  have B0 : Hid (Blk (w.alloc (.cells #[.int .i64 4, .float .f64 nu, .int .i64 it, .string tx] 24)) w.heap.size 24 (actC 4 nu it tx)) := Blk.new w _ _
  go_enter Tryd.func13, Tryd.ntmps13
  go_wp2_with fail
  refine (R _).out.mono ?_
  rintro e w1 ⟨rfl, g1⟩
  have hb1 := Lib.hid (hb.out.trans (g1.mono hb.out.size))
  have B1 := Lib.hid (B0.out.below g1 B0.out.lt)
  obtain ⟨a0, a1, a2, a3⟩ := act_cells B1.out
  have hcv := (Byt.one w1 w.heap.size hb1.out.size 5 4).string (src := 51) (dst := 9) Tryd.underlying51 Tryd.underlying5 Tryd.underlying9
  simp only [b8, show ((UInt8.toNat 4 : Nat) : Int) = 4 from rfl] at hcv
  have l1 := B1.out.lt
  have hb2 := Lib.hid (hb1.out.alloc hb1.out.size (.cells #[.int .u8 4] 5))
  go_wp2_with fail
  go_ret2
  exact ⟨rfl, hb2.out⟩

set_option maxRecDepth 100000 in
set_option maxHeartbeats 1000000 in
theorem rput6_2 (nu : Nat) (it : Int) (tx : ByteArray) (I : ActIn 2 nu it tx) (hr : rightA (a6 2 nu it tx) = true) (w : World) :
    Calls Tryd.prog 13 #[actV 2 nu it tx] w fun e w' => e = .returned (.tuple #[.string ⟨(2 :: be (rankN nu) 8).toArray⟩, .int .i64 0]) ∧ Below w.heap.size w w' := by
  have R := fun W => Lib.hid (rright_any 2 nu it tx I W)
  rw [hr] at R
  simp only [actV] at R
  unfold actV
  have hb : Hid (Below w.heap.size w (w.alloc (.cells #[.int .i64 2, .float .f64 nu, .int .i64 it, .string tx] 24))) := (Below.refl _ w).alloc (Nat.le_refl _) _
  have B0 : Hid (Blk (w.alloc (.cells #[.int .i64 2, .float .f64 nu, .int .i64 it, .string tx] 24)) w.heap.size 24 (actC 2 nu it tx)) := Blk.new w _ _
  go_enter Tryd.func13, Tryd.ntmps13
  go_wp2_with fail
  refine (R _).out.mono ?_
  rintro e w1 ⟨rfl, g1⟩
  have hb1 := Lib.hid (hb.out.trans (g1.mono hb.out.size))
  have B1 := Lib.hid (B0.out.below g1 B0.out.lt)
  obtain ⟨a0, a1, a2, a3⟩ := act_cells B1.out
  have hcv := (Byt.one w1 w.heap.size hb1.out.size 5 2).string (src := 51) (dst := 9) Tryd.underlying51 Tryd.underlying5 Tryd.underlying9
  simp only [b8, show ((UInt8.toNat 2 : Nat) : Int) = 2 from rfl] at hcv
  have l1 := B1.out.lt
  have hb2 := Lib.hid (hb1.out.alloc hb1.out.size (.cells #[.int .u8 2] 5))
  have P := fun W => Lib.hid (qput_any nu I.nu W)
  have hsz : (⟨(be (rankN nu) 8).toArray⟩ : ByteArray).size = 8 := be_length _ _
  have hcat := run_cat [2] (be (rankN nu) 8) (by decide) (by rw [be_length]; decide)
  go_wp2_with fail
  refine (P _).out.mono ?_
  rintro e w2 ⟨rfl, g2⟩
  go_wp2_with fail
  go_ret2
  exact ⟨rfl, hb2.out.trans (g2.mono hb2.out.size)⟩

set_option maxRecDepth 100000 in
set_option maxHeartbeats 1000000 in
theorem rput6_3 (nu : Nat) (it : Int) (tx : ByteArray) (I : ActIn 3 nu it tx) (hr : rightA (a6 3 nu it tx) = true) (w : World) :
    Calls Tryd.prog 13 #[actV 3 nu it tx] w fun e w' => e = .returned (.tuple #[.string ⟨(3 :: be (rankN nu) 8).toArray⟩, .int .i64 0]) ∧ Below w.heap.size w w' := by
  have R := fun W => Lib.hid (rright_any 3 nu it tx I W)
  rw [hr] at R
  simp only [actV] at R
  unfold actV
  have hb : Hid (Below w.heap.size w (w.alloc (.cells #[.int .i64 3, .float .f64 nu, .int .i64 it, .string tx] 24))) := (Below.refl _ w).alloc (Nat.le_refl _) _
  have B0 : Hid (Blk (w.alloc (.cells #[.int .i64 3, .float .f64 nu, .int .i64 it, .string tx] 24)) w.heap.size 24 (actC 3 nu it tx)) := Blk.new w _ _
  go_enter Tryd.func13, Tryd.ntmps13
  go_wp2_with fail
  refine (R _).out.mono ?_
  rintro e w1 ⟨rfl, g1⟩
  have hb1 := Lib.hid (hb.out.trans (g1.mono hb.out.size))
  have B1 := Lib.hid (B0.out.below g1 B0.out.lt)
  obtain ⟨a0, a1, a2, a3⟩ := act_cells B1.out
  have hcv := (Byt.one w1 w.heap.size hb1.out.size 5 3).string (src := 51) (dst := 9) Tryd.underlying51 Tryd.underlying5 Tryd.underlying9
  simp only [b8, show ((UInt8.toNat 3 : Nat) : Int) = 3 from rfl] at hcv
  have l1 := B1.out.lt
  have hb2 := Lib.hid (hb1.out.alloc hb1.out.size (.cells #[.int .u8 3] 5))
  have P := fun W => Lib.hid (qput_any nu I.nu W)
  have hsz : (⟨(be (rankN nu) 8).toArray⟩ : ByteArray).size = 8 := be_length _ _
  have hcat := run_cat [3] (be (rankN nu) 8) (by decide) (by rw [be_length]; decide)
  go_wp2_with fail
  refine (P _).out.mono ?_
  rintro e w2 ⟨rfl, g2⟩
  go_wp2_with fail
  go_ret2
  exact ⟨rfl, hb2.out.trans (g2.mono hb2.out.size)⟩

set_option maxRecDepth 100000 in
set_option maxHeartbeats 1000000 in
theorem rput6_1 (nu : Nat) (it : Int) (tx : ByteArray) (I : ActIn 1 nu it tx) (hr : rightA (a6 1 nu it tx) = true) (w : World) :
    Calls Tryd.prog 13 #[actV 1 nu it tx] w fun e w' => e = .returned (.tuple #[.string ⟨(1 :: be (eightN it) 8).toArray⟩, .int .i64 0]) ∧ Below w.heap.size w w' := by
  have R := fun W => Lib.hid (rright_any 1 nu it tx I W)
  rw [hr] at R
  simp only [actV] at R
  unfold actV
  have hb : Hid (Below w.heap.size w (w.alloc (.cells #[.int .i64 1, .float .f64 nu, .int .i64 it, .string tx] 24))) := (Below.refl _ w).alloc (Nat.le_refl _) _
  have B0 : Hid (Blk (w.alloc (.cells #[.int .i64 1, .float .f64 nu, .int .i64 it, .string tx] 24)) w.heap.size 24 (actC 1 nu it tx)) := Blk.new w _ _
  go_enter Tryd.func13, Tryd.ntmps13
  go_wp2_with fail
  refine (R _).out.mono ?_
  rintro e w1 ⟨rfl, g1⟩
  have hb1 := Lib.hid (hb.out.trans (g1.mono hb.out.size))
  have B1 := Lib.hid (B0.out.below g1 B0.out.lt)
  obtain ⟨a0, a1, a2, a3⟩ := act_cells B1.out
  have hcv := (Byt.one w1 w.heap.size hb1.out.size 5 1).string (src := 51) (dst := 9) Tryd.underlying51 Tryd.underlying5 Tryd.underlying9
  simp only [b8, show ((UInt8.toNat 1 : Nat) : Int) = 1 from rfl] at hcv
  have l1 := B1.out.lt
  have hb2 := Lib.hid (hb1.out.alloc hb1.out.size (.cells #[.int .u8 1] 5))
  have P := fun W => Lib.hid (reight_any it I.it W)
  have hcat := run_cat [1] (be (eightN it) 8) (by decide) (by rw [be_length]; decide)
  go_wp2_with fail
  refine (P _).out.mono ?_
  rintro e w2 ⟨rfl, g2⟩
  go_wp2_with fail
  go_ret2
  exact ⟨rfl, hb2.out.trans (g2.mono hb2.out.size)⟩

set_option maxRecDepth 100000 in
set_option maxHeartbeats 1000000 in
theorem rput6_n (nu : Nat) (it : Int) (tx : ByteArray) (I : ActIn 0 nu it tx) (hr : rightA (a6 0 nu it tx) = true) (ht : (tx.toList == []) = true) (w : World) :
    Calls Tryd.prog 13 #[actV 0 nu it tx] w fun e w' => e = .returned (.tuple #[.string ⟨(0 :: 110 :: be (rankN nu) 8).toArray⟩, .int .i64 0]) ∧ Below w.heap.size w w' := by
  have R := fun W => Lib.hid (rright_any 0 nu it tx I W)
  rw [hr] at R
  simp only [actV] at R
  unfold actV
  have hb : Hid (Below w.heap.size w (w.alloc (.cells #[.int .i64 0, .float .f64 nu, .int .i64 it, .string tx] 24))) := (Below.refl _ w).alloc (Nat.le_refl _) _
  have B0 : Hid (Blk (w.alloc (.cells #[.int .i64 0, .float .f64 nu, .int .i64 it, .string tx] 24)) w.heap.size 24 (actC 0 nu it tx)) := Blk.new w _ _
  go_enter Tryd.func13, Tryd.ntmps13
  go_wp2_with fail
  refine (R _).out.mono ?_
  rintro e w1 ⟨rfl, g1⟩
  have hb1 := Lib.hid (hb.out.trans (g1.mono hb.out.size))
  have B1 := Lib.hid (B0.out.below g1 B0.out.lt)
  obtain ⟨a0, a1, a2, a3⟩ := act_cells B1.out
  have hcv := (Byt.one w1 w.heap.size hb1.out.size 5 0).string (src := 51) (dst := 9) Tryd.underlying51 Tryd.underlying5 Tryd.underlying9
  simp only [b8, show ((UInt8.toNat 0 : Nat) : Int) = 0 from rfl] at hcv
  have l1 := B1.out.lt
  have hb2 := Lib.hid (hb1.out.alloc hb1.out.size (.cells #[.int .u8 0] 5))
  have P := fun W => Lib.hid (qput_any nu I.nu W)
  have ht' : (tx.toList != []) = false := by rw [bne, ht]; rfl
  have hcat0 := run_cat [0] [110] (by decide) (by decide)
  have hcat := run_cat [0, 110] (be (rankN nu) 8) (by decide) (by rw [be_length]; decide)
  go_wp2_with fail
  refine (P _).out.mono ?_
  rintro e w2 ⟨rfl, g2⟩
  go_wp2_with fail
  go_ret2
  exact ⟨rfl, hb2.out.trans (g2.mono hb2.out.size)⟩

set_option maxRecDepth 100000 in
set_option maxHeartbeats 1000000 in
theorem rput6_t (nu : Nat) (it : Int) (tx : ByteArray) (I : ActIn 0 nu it tx) (hr : rightA (a6 0 nu it tx) = true) (ht : (tx.toList == []) = false) (hl : tx.data.toList.length ≤ 1024) (w : World) :
    Calls Tryd.prog 13 #[actV 0 nu it tx] w fun e w' => e = .returned (.tuple #[.string ⟨(0 :: 116 :: tx.data.toList).toArray⟩, .int .i64 0]) ∧ Below w.heap.size w w' := by
  have R := fun W => Lib.hid (rright_any 0 nu it tx I W)
  rw [hr] at R
  simp only [actV] at R
  unfold actV
  have hb : Hid (Below w.heap.size w (w.alloc (.cells #[.int .i64 0, .float .f64 nu, .int .i64 it, .string tx] 24))) := (Below.refl _ w).alloc (Nat.le_refl _) _
  have B0 : Hid (Blk (w.alloc (.cells #[.int .i64 0, .float .f64 nu, .int .i64 it, .string tx] 24)) w.heap.size 24 (actC 0 nu it tx)) := Blk.new w _ _
  go_enter Tryd.func13, Tryd.ntmps13
  go_wp2_with fail
  refine (R _).out.mono ?_
  rintro e w1 ⟨rfl, g1⟩
  have hb1 := Lib.hid (hb.out.trans (g1.mono hb.out.size))
  have B1 := Lib.hid (B0.out.below g1 B0.out.lt)
  obtain ⟨a0, a1, a2, a3⟩ := act_cells B1.out
  have hcv := (Byt.one w1 w.heap.size hb1.out.size 5 0).string (src := 51) (dst := 9) Tryd.underlying51 Tryd.underlying5 Tryd.underlying9
  simp only [b8, show ((UInt8.toNat 0 : Nat) : Int) = 0 from rfl] at hcv
  have l1 := B1.out.lt
  have hb2 := Lib.hid (hb1.out.alloc hb1.out.size (.cells #[.int .u8 0] 5))
  have ht' : (tx.toList != []) = true := by rw [bne, ht]; rfl
  have hcat0 := run_cat [0] [116] (by decide) (by decide)
  have hcat := run_cat [0, 116] tx.data.toList (by decide) (by omega)
  have htx : (⟨tx.data.toList.toArray⟩ : ByteArray) = tx := by simp
  rw [htx] at hcat
  go_wp2_with fail
  go_ret2
  exact ⟨rfl, hb2.out⟩

set_option maxRecDepth 100000 in
set_option maxHeartbeats 1000000 in
theorem rput6_no (kd : Int) (nu : Nat) (it : Int) (tx : ByteArray) (I : ActIn kd nu it tx) (hr : rightA (a6 kd nu it tx) = false) (w : World) :
    Calls Tryd.prog 13 #[actV kd nu it tx] w fun e w' => e = .returned (.tuple #[.string ⟨#[]⟩, .int .i64 40]) ∧ Below w.heap.size w w' := by
  have R := fun W => Lib.hid (rright_any kd nu it tx I W)
  rw [hr] at R
  simp only [actV] at R
  unfold actV
  have hb : Hid (Below w.heap.size w (w.alloc (.cells #[.int .i64 kd, .float .f64 nu, .int .i64 it, .string tx] 24))) := (Below.refl _ w).alloc (Nat.le_refl _) _
  have B0 : Hid (Blk (w.alloc (.cells #[.int .i64 kd, .float .f64 nu, .int .i64 it, .string tx] 24)) w.heap.size 24 (actC kd nu it tx)) := Blk.new w _ _
  go_enter Tryd.func13, Tryd.ntmps13
  go_wp2_with fail
  refine (R _).out.mono ?_
  rintro e w1 ⟨rfl, g1⟩
  have hb1 := Lib.hid (hb.out.trans (g1.mono hb.out.size))
  have B1 := Lib.hid (B0.out.below g1 B0.out.lt)
  obtain ⟨a0, a1, a2, a3⟩ := act_cells B1.out
  go_wp2_with fail
  go_ret2
  exact ⟨rfl, hb1.out⟩

/-- The document's own bytes of an act. -/
theorem rputact_any (kd : Int) (nu : Nat) (it : Int) (tx : ByteArray) (I : ActIn kd nu it tx) (w : World) :
    Calls Tryd.prog 13 #[actV kd nu it tx] w fun e w' => e = .returned (.tuple #[.string ⟨(if rightA (a6 kd nu it tx) then putAL (a6 kd nu it tx) else []).toArray⟩, .int .i64 (if rightA (a6 kd nu it tx) then 0 else 40)]) ∧ Below w.heap.size w w' := by
  by_cases hr : rightA (a6 kd nu it tx) = true
  · rw [hr]
    simp only [if_true]
    have hk : 0 ≤ kd ∧ kd ≤ 4 := right_kind hr
    have hk : kd = 0 ∨ kd = 1 ∨ kd = 2 ∨ kd = 3 ∨ kd = 4 := by omega
    rcases hk with rfl | rfl | rfl | rfl | rfl
    · by_cases ht : (tx.toList == []) = true
      · have hp : putAL (a6 0 nu it tx) = 0 :: 110 :: be (rankN nu) 8 := by
          have h2 := ht
          rw [str_nil] at h2
          unfold putAL a6
          simp [of_decide_eq_true h2]
        rw [hp]
        exact rput6_n nu it tx I hr ht w
      · have ht := Bool.eq_false_iff.2 ht
        have h2 := ht
        rw [str_nil] at h2
        have h2 := of_decide_eq_false h2
        have hp : putAL (a6 0 nu it tx) = 0 :: 116 :: tx.data.toList := by
          unfold putAL a6
          simp only [if_neg h2]
          rfl
        have hl : tx.data.toList.length ≤ 1024 := by
          have := hr
          unfold rightA a6 at this
          simp only [if_pos] at this
          exact (of_decide_eq_true this).2.1
        rw [hp]
        exact rput6_t nu it tx I hr ht hl w
    · exact rput6_1 nu it tx I hr w
    · exact rput6_2 nu it tx I hr w
    · exact rput6_3 nu it tx I hr w
    · exact rput6_4 nu it tx I hr w
  · have hr := Bool.eq_false_iff.2 hr
    rw [hr]
    exact rput6_no kd nu it tx I hr w
end Go.Proofs.YthacdegaeokgnaaDoor

namespace Go.Proofs.YthacdegaeokgnaaDoor
open Go.RowKit

theorem blk_set4 {w : World} {p : Nat} {t : TypeId} {a b c d : Value} (B : Blk w p t #[a, b, c, d]) (a' b' c' d' : Value) :
    Blk ((((w.setCell ⟨p, 0, none⟩ a').setCell ⟨p, 1, none⟩ b').setCell ⟨p, 2, none⟩ c').setCell ⟨p, 3, none⟩ d') p t #[a', b', c', d'] :=
  (((B.set_ 0 a').set_ 1 b').set_ 2 c').set_ 3 d'
theorem below_set4 {w0 w : World} {p B : Nat} (h : Below B w0 w) (hp : B ≤ p) (v0 v1 v2 v3 : Value) :
    Below B w0 ((((w.setCell ⟨p, 0, none⟩ v0).setCell ⟨p, 1, none⟩ v1).setCell ⟨p, 2, none⟩ v2).setCell ⟨p, 3, none⟩ v3) :=
  below_setCell (below_setCell (below_setCell (below_setCell h hp _) hp _) hp _) hp _
theorem blk_far4 {w : World} {p q : Nat} {t : TypeId} {cs : Array Value} (B : Blk w q t cs) (h : q ≠ p) (v0 v1 v2 v3 : Value) :
    Blk ((((w.setCell ⟨p, 0, none⟩ v0).setCell ⟨p, 1, none⟩ v1).setCell ⟨p, 2, none⟩ v2).setCell ⟨p, 3, none⟩ v3) q t cs :=
  (((B.far (p := ⟨p, 0, none⟩) h v0).far (p := ⟨p, 1, none⟩) h v1).far (p := ⟨p, 2, none⟩) h v2).far (p := ⟨p, 3, none⟩) h v3
theorem maxN_lt {a b : Nat} (ha : a < 18446744073709551616) (hb : b < 18446744073709551616) : maxN a b < 18446744073709551616 := by unfold maxN; split <;> assumption
theorem minN_lt {a b : Nat} (ha : a < 18446744073709551616) (hb : b < 18446744073709551616) : minN a b < 18446744073709551616 := by unfold minN; split <;> assumption
theorem wrap_wf (z : Int) : (Lit.int .i64 (wrap64 z)).wf = true := WalkArith.wf_i64 (by unfold wrap64; omega)
/-- What an act that fits is, by its kind alone. -/
theorem fits_kind {key : List UInt8} {a : A6} (h : fitsA key a = true) : a.kd = 4 ∨ a.kd = 0 ∨ a.kd = 1 ∨ a.kd = 2 ∨ a.kd = 3 := by
  rcases fits_cases h with ⟨_, h | h⟩ | ⟨_, h | h⟩ | ⟨_, h⟩ | ⟨_, h⟩ | ⟨_, h⟩ <;> omega
end Go.Proofs.YthacdegaeokgnaaDoor

namespace Go.Proofs.YthacdegaeokgnaaDoor
open Go.RowKit

/-- A text at its first 'p'. -/
def cutP : List UInt8 → List UInt8 × Option (List UInt8)
  | [] => ([], none)
  | c :: l => if c = 112 then ([], some l) else (c :: (cutP l).1, (cutP l).2)

theorem cutP_none : ∀ l : List UInt8, Lib.indexByte l 112 = -1 → cutP l = (l, none)
  | [], _ => rfl
  | c :: l, h => by
    unfold Lib.indexByte at h
    by_cases hc : c = 112
    · subst hc
      simp at h
    · rw [if_neg (by simpa using hc)] at h
      by_cases h1 : Lib.indexByte l 112 = -1
      · unfold cutP
        rw [if_neg hc, cutP_none l h1]
      · have := Lib.indexByte_ge l 112
        rw [if_neg (by simpa using h1)] at h
        omega
theorem cutP_some : ∀ (l : List UInt8) (i : Nat), Lib.indexByte l 112 = (i : Int) → cutP l = (l.take i, some (l.drop (i + 1))) ∧ i < l.length
  | [], i, h => by simp [Lib.indexByte] at h
  | c :: l, i, h => by
    unfold Lib.indexByte at h
    by_cases hc : c = 112
    · subst hc
      simp at h
      obtain rfl : i = 0 := by omega
      exact ⟨by simp [cutP], by simp⟩
    · rw [if_neg (by simpa using hc)] at h
      by_cases h1 : Lib.indexByte l 112 = -1
      · rw [if_pos (by simpa using h1)] at h
        omega
      · have := Lib.indexByte_ge l 112
        rw [if_neg (by simpa using h1)] at h
        obtain ⟨j, rfl⟩ : ∃ j, i = j + 1 := ⟨i - 1, by omega⟩
        obtain ⟨g1, g2⟩ := cutP_some l j (by omega)
        refine ⟨?_, by simp; omega⟩
        unfold cutP
        rw [if_neg hc, g1]
        simp

theorem run_of_data {s t : ByteArray} (h : s.data = t.data) : s = t := ByteArray.ext h

def NumP (w : World) (g : Option Int) (e : Ending) (w' : World) : Prop :=
  (match g with
   | some v => e = .returned (.int .i64 v)
   | none => e = .panicked [{ v := .iface 28 (.int .i64 4), recovered := false }]) ∧ Below w.heap.size w w'

/-- The digits and the power of a text. -/
def prodL (l : List UInt8) : Option (Nat × Int) :=
  if Lib.hasPrefix (cutP l).1 [45] then none else if 5 < ((cutP l).2.getD []).length then none else
    match numL (cutP l).1 with
    | none => none
    | some m => match (cutP l).2 with
      | none => some (m.toNat, 0)
      | some b => match numL b with
        | none => none
        | some p => some (m.toNat, p)

def ProdP (w : World) (g : Option (Nat × Int)) (e : Ending) (w' : World) : Prop :=
  (match g with
   | some v => e = .returned (.tuple #[.int .u64 (v.1 : Int), .int .i64 v.2])
   | none => e = .panicked [{ v := .iface 28 (.int .i64 4), recovered := false }]) ∧ Below w.heap.size w w'

theorem numL_nonneg (l : List UInt8) (v : Int) (h : numL l = some v) (hp : Lib.hasPrefix l [45] = false) : 0 ≤ v := by
  unfold numL at h
  split at h
  · injection h with h; omega
  · obtain ⟨u, _, hv⟩ := Option.map_eq_some_iff.1 h
    rw [hp] at hv
    simp at hv
    omega
theorem numL_lt (l : List UInt8) (v : Int) (h : numL l = some v) : -10000000000000000 < v ∧ v < 10000000000000000 := by
  unfold numL at h
  split at h
  · injection h with h; omega
  · obtain ⟨u, hu, hv⟩ := Option.map_eq_some_iff.1 h
    have := natL_lt hu
    split at hv <;> omega

theorem cutP_len (l : List UInt8) : (cutP l).1.length ≤ l.length ∧ ((cutP l).2.getD []).length ≤ l.length := by
  induction l with
  | nil => exact ⟨Nat.le_refl _, Nat.le_refl _⟩
  | cons c l ih =>
    unfold cutP
    split
    · exact ⟨Nat.zero_le _, by simp⟩
    · exact ⟨by simp; exact ih.1, by simp; omega⟩

end Go.Proofs.YthacdegaeokgnaaDoor

namespace Go.Proofs.YthacdegaeokgnaaDoor
open Go.RowKit

/-- The word of odd digits and a power, as far to the left as there is room. -/
def leftN (m : Nat) (p : Int) : Int := if 53 - (Lib.bitLen m : Int) ≤ p + 1074 then 53 - (Lib.bitLen m : Int) else p + 1074
def packN (m : Nat) (p : Int) : Nat := (p - leftN m p + 1074).toNat * 4503599627370496 + m * 2 ^ (leftN m p).toNat
/-- The number that m times 2 to the power p is, if there is one. -/
def joinN (m : Nat) (p : Int) : Option Nat :=
  if 9007199254740992 ≤ m then none else if m = 0 then some 0 else
    if p + (tzN m : Int) < -1074 ∨ 1024 < (Lib.bitLen (oddN m) : Int) + (p + (tzN m : Int)) then none else some (packN (oddN m) (p + (tzN m : Int)))

def JoinP (w : World) (g : Option Nat) (e : Ending) (w' : World) : Prop :=
  (match g with
   | some v => e = .returned (.float .f64 v)
   | none => e = .panicked [{ v := .iface 28 (.int .i64 11), recovered := false }]) ∧ w = w'

theorem oddN_pos (m : Nat) (h0 : m ≠ 0) (hm : m < 18446744073709551616) : oddN m ≠ 0 := by
  obtain ⟨k, hk, hlt⟩ := Lib.ctzFrom_spec 64 m (by omega) hm
  have e : tzN m = Lib.ctzFrom 64 m := by unfold tzN Lib.ctz; rw [if_neg h0]
  unfold oddN
  rw [e]
  intro h
  have hp := Nat.two_pow_pos (Lib.ctzFrom 64 m)
  have h1 := (Nat.div_eq_zero_iff_lt hp).1 h
  have h2 : 2 ^ Lib.ctzFrom 64 m * 1 ≤ 2 ^ Lib.ctzFrom 64 m * (2 * k + 1) := Nat.mul_le_mul_left _ (by omega)
  rw [← hk] at h2
  omega

theorem bitLen_facts (m : Nat) (h0 : m ≠ 0) (hm : m < 9007199254740992) : 1 ≤ Lib.bitLen m ∧ Lib.bitLen m ≤ 53 ∧ m < 2 ^ Lib.bitLen m ∧ 2 ^ (Lib.bitLen m - 1) ≤ m := by
  obtain ⟨h1, h2, h3⟩ := Lib.bitLenAux_bounds 64 m (by omega) h0
  exact ⟨h1, Lib.bitLen_le m 53 (by omega) hm, h3, h2⟩

theorem leftN_min (m : Nat) (p : Int) : leftN m p = min (53 - (Lib.bitLen m : Int)) (p + 1074) := by
  unfold leftN
  split <;> omega
theorem left_facts (m : Nat) (p : Int) (h0 : m ≠ 0) (hm : m < 9007199254740992) (h1 : -1074 ≤ p) (h2 : (Lib.bitLen m : Int) + p ≤ 1024) :
    0 ≤ leftN m p ∧ 0 ≤ p - leftN m p + 1074 ∧ p - leftN m p + 1074 ≤ 2045 ∧ m * 2 ^ (leftN m p).toNat < 9007199254740992 := by
  obtain ⟨l1, l2, l3, l4⟩ := bitLen_facts m h0 hm
  have hle : leftN m p ≤ 53 - (Lib.bitLen m : Int) := by unfold leftN; split <;> omega
  have ha : 0 ≤ leftN m p := by unfold leftN; split <;> omega
  refine ⟨ha, by unfold leftN; split <;> omega, by unfold leftN; split <;> omega, ?_⟩
  have h3 : m * 2 ^ (leftN m p).toNat < 2 ^ Lib.bitLen m * 2 ^ (leftN m p).toNat := Nat.mul_lt_mul_of_pos_right l3 (Nat.two_pow_pos _)
  rw [← Nat.pow_add] at h3
  have h5 : 2 ^ (Lib.bitLen m + (leftN m p).toNat) ≤ 2 ^ 53 := Nat.pow_le_pow_right (by decide) (by omega)
  exact Nat.lt_of_lt_of_le h3 h5
theorem pack_wrap (m : Nat) (p : Int) (h0 : m ≠ 0) (hm : m < 9007199254740992) (h1 : -1074 ≤ p) (h2 : (Lib.bitLen m : Int) + p ≤ 1024) :
    (IntKind.u64.wrap ((p - min (53 - (Lib.bitLen m : Int)) (p + 1074) + 1074) * 4503599627370496 + IntKind.u64.wrap ((m : Int) * 2 ^ (min (53 - (Lib.bitLen m : Int)) (p + 1074)).toNat))).toNat = packN m p := by
  rw [← leftN_min]
  obtain ⟨f1, f2, f3, f4⟩ := left_facts m p h0 hm h1 h2
  unfold packN
  generalize leftN m p = a at *
  have e1 : ((m : Int) * 2 ^ a.toNat) = ((m * 2 ^ a.toNat : Nat) : Int) := by push_cast; rfl
  rw [e1, wrap_u64_nat _ (by omega)]
  obtain ⟨d, hd⟩ := Int.eq_ofNat_of_zero_le f2
  rw [hd] at f3 ⊢
  generalize m * 2 ^ a.toNat = z at *
  rw [show ((d : Int) * 4503599627370496 + (z : Int)) = ((d * 4503599627370496 + z : Nat) : Int) from by omega, wrap_u64_nat _ (by omega)]
  omega

end Go.Proofs.YthacdegaeokgnaaDoor

namespace Go.Proofs.YthacdegaeokgnaaDoor
open Go.RowKit

set_option maxRecDepth 100000 in
set_option maxHeartbeats 400000 in
theorem mnan_any (w : World) : Calls Tryd.prog 71 #[] w fun e w' => e = .returned (.float .f64 9221120237041090561) ∧ w = w' := by
  have hfb := run_float64frombits
  go_enter Tryd.func71, Tryd.ntmps71
  go_wp2_with fail
  go_ret
  exact ⟨rfl, rfl⟩
theorem run_store_f64 (W : World) (ad : Addr) (v : Nat) : (store ad (.float .f64 v)).run Tryd.prog W = stored Tryd.prog W ad (.float .f64 v) .plain := run_store _ W ad _ _ rfl

/-- What Parse answers: a word and an error. -/
def parseN (l : List UInt8) : Nat × Int :=
  if l = [110, 97, 110] then (9221120237041090561, 0) else if l = [105, 110, 102] then (9218868437227405312, 0) else if l = [45, 105, 110, 102] then (18442240474082181120, 0) else
    match prodL (Lib.trimPrefix l [45]) with
    | none => (0, 4)
    | some (m, p) => match joinN m p with
      | none => (0, 11)
      | some f => (if Lib.hasPrefix l [45] then Op.negFloat .f64 f else f, 0)

def ParseP (w : World) (g : Nat × Int) (e : Ending) (w' : World) : Prop := e = .returned (.tuple #[.float .f64 g.1, .int .i64 g.2]) ∧ Below w.heap.size w w'

/-- The two result cells, new. -/
def cellsW (w : World) : World := (w.alloc (.cells #[.float .f64 0] 22)).alloc (.cells #[.int .i64 0] 28)
theorem cellsW_facts (w : World) : Blk (cellsW w) w.heap.size 22 #[.float .f64 0] ∧ Blk (cellsW w) (w.heap.size + 1) 28 #[.int .i64 0] ∧ Below w.heap.size w (cellsW w) ∧ w.heap.size + 2 ≤ (cellsW w).heap.size :=
  ⟨(Blk.new _ _ _).alloc _, Blk.new' (by simp) _ _, below_alloc (below_alloc (Below.refl _ _) (Nat.le_refl _) _) (Nat.le_refl _) _, by simp [cellsW]⟩

theorem prodL_bounds (l : List UInt8) (m : Nat) (p : Int) (h : prodL l = some (m, p)) : -100000000000000000 ≤ p ∧ p ≤ 100000000000000000 := by
  unfold prodL at h
  split at h
  · cases h
  · split at h
    · cases h
    · split at h
      · cases h
      · split at h
        · injection h with h; injection h with h1 h2; omega
        · split at h
          · cases h
          · rename_i hb
            injection h with h; injection h with h1 h2
            have := numL_lt _ _ hb
            omega

end Go.Proofs.YthacdegaeokgnaaDoor

namespace Go.Proofs.YthacdegaeokgnaaDoor
open Go.RowKit

theorem getL_cat (a b : List UInt8) : getL (a ++ b) = getL a * 256 ^ b.length + getL b := by
  have h := foldl_get b (getL a)
  rw [← h]
  unfold getL
  rw [List.foldl_append]
theorem getL_lt : ∀ l : List UInt8, getL l < 256 ^ l.length
  | [] => by decide
  | c :: r => by
    have := getL_lt r
    have hc := UInt8.toNat_lt c
    rw [getL_cons, List.length_cons, Nat.pow_succ]
    have h2 : c.toNat * 256 ^ r.length ≤ 255 * 256 ^ r.length := Nat.mul_le_mul_right _ (by omega)
    omega

/-- The document's answer of eight bytes. -/
def qgetF (x : Nat) : Nat × Int := if x = 0 then (9221120237041090561, 0) else if isN (unrankN x) then (0, 4) else (unrankN x, 0)

set_option maxRecDepth 100000 in
theorem qget_bad (s : ByteArray) (w : World) (h : s.size ≠ 8) (_hs : s.size ≤ 9223372036854775807) :
    Calls Tryd.prog 43 #[.string s] w fun e w' => e = .returned (.tuple #[.float .f64 0, .int .i64 4]) ∧ w = w' := by
  have h1 : ((s.size : Int) != 8) = true := by rw [bne_iff_ne]; omega
  go_enter Tryd.func43, Tryd.ntmps43
  go_wp2
  go_ret2
  exact ⟨rfl, rfl⟩

set_option maxRecDepth 100000 in
set_option maxHeartbeats 2000000 in
theorem qget_ok (s : ByteArray) (w : World) (h : s.size = 8) :
    Calls Tryd.prog 43 #[.string s] w fun e w' => e = .returned (.tuple #[.float .f64 (qgetF (getL s.data.toList)).1, .int .i64 (qgetF (getL s.data.toList)).2]) ∧ w = w' := by
  have h1 : ((s.size : Int) != 8) = false := by rw [bne_eq_false_iff_eq]; omega
  have e1 : (s.extract 0 4).data.toList = s.data.toList.take 4 := by simp
  have e2 : (s.extract 4 8).data.toList = s.data.toList.drop 4 := by simp; rw [List.take_of_length_le (by simp; omega)]
  have s1 : (s.extract 0 4).size = 4 := by simp [h]
  have s2 : (s.extract 4 8).size = 4 := by simp [h]
  have hl : s.data.toList.length = 8 := h
  have hcat := getL_cat (s.data.toList.take 4) (s.data.toList.drop 4)
  rw [List.take_append_drop, List.length_drop, hl, show (256 : Nat) ^ (8 - 4) = 4294967296 from by decide] at hcat
  have b1 := getL_lt (s.data.toList.take 4)
  rw [List.length_take, hl, show (256 : Nat) ^ (min 4 8) = 4294967296 from by decide] at b1
  have b2 := getL_lt (s.data.toList.drop 4)
  rw [List.length_drop, hl, show (256 : Nat) ^ (8 - 4) = 4294967296 from by decide] at b2
  have C1 := rget_ok (s.extract 0 4) w (by omega) (by omega)
  have C2 := rget_ok (s.extract 4 8) w (by omega) (by omega)
  rw [e1] at C1
  rw [e2] at C2
  generalize getL (s.data.toList.take 4) = a at *
  generalize getL (s.data.toList.drop 4) = c at *
  generalize getL s.data.toList = x at *
  have C1 := Lib.hid C1
  have C2 := Lib.hid C2
  have hfb := run_float64frombits
  clear e1 e2 s1 s2 hl
  by_cases hx0 : x = 0
  · obtain rfl : a = 0 := by omega
    obtain rfl : c = 0 := by omega
    have hg : qgetF x = (9221120237041090561, 0) := if_pos hx0
    rw [hg]
    clear hcat hx0 hg b1 b2
    go_enter Tryd.func43, Tryd.ntmps43
    go_wp2_with fail
    refine C1.out.mono ?_
    rintro e w' ⟨rfl, rfl⟩
    go_wp2_with fail
    refine C2.out.mono ?_
    rintro e w' ⟨rfl, rfl⟩
    go_wp2_with fail
    refine (mnan_any _).mono ?_
    rintro e w' ⟨rfl, rfl⟩
    go_wp2_with fail
    go_ret2
    exact ⟨rfl, rfl⟩
  · have hq : ((a : Int) == 0) = false ∨ (((a : Int) == 0) = true ∧ ((c : Int) == 0) = false) := by
      by_cases ha : a = 0
      · exact Or.inr ⟨by rw [beq_iff_eq]; omega, by rw [beq_eq_false_iff_ne]; omega⟩
      · exact Or.inl (by rw [beq_eq_false_iff_ne]; omega)
    have N := Lib.hid (qisnan_any (unrankN x) w)
    have hg : qgetF x = if isN (unrankN x) then (0, 4) else (unrankN x, 0) := if_neg hx0
    have hA : (a : Int) ≤ 4294967295 := by omega
    have hC : (c : Int) ≤ 4294967295 := by omega
    obtain ⟨g, hgg⟩ : ∃ g, g = qgetF x := ⟨_, rfl⟩
    rw [← hgg]
    rw [← hgg] at hg
    by_cases ha : 2147483648 ≤ a
    · have hd : decide ((2147483648 : Int) ≤ (a : Int)) = true := decide_eq_true (by omega)
      have hu : unrankN x = (IntKind.u64.wrap (IntKind.u64.wrap (IntKind.u64.wrap ((a : Int) - 2147483648) * 4294967296) + (c : Int))).toNat := by
        unfold unrankN
        rw [word_neg x (by omega), decide_eq_true (by omega)]
        simp only [if_true, IntKind.wrap_u64]
        omega
      rw [hu] at N hg
      have hq : ((a : Int) == 0) = false := by rw [beq_eq_false_iff_ne]; omega
      clear b1 b2 hcat hx0 hu hgg ha
      cases hn : isN (IntKind.u64.wrap (IntKind.u64.wrap (IntKind.u64.wrap ((a : Int) - 2147483648) * 4294967296) + (c : Int))).toNat
      · rw [hn] at N hg
        have HG := Lib.hid hg
        clear hg hn
        go_enter Tryd.func43, Tryd.ntmps43
        go_wp2_with fail
        refine C1.out.mono ?_
        rintro e w' ⟨rfl, rfl⟩
        go_wp2_with fail
        refine C2.out.mono ?_
        rintro e w' ⟨rfl, rfl⟩
        go_wp2_with fail
        refine N.out.mono ?_
        rintro e w' ⟨rfl, rfl⟩
        go_wp2_with fail
        go_ret2
        exact ⟨by rw [HG.out]; rfl, rfl⟩
      · rw [hn] at N hg
        have HG := Lib.hid hg
        clear hg hn
        go_enter Tryd.func43, Tryd.ntmps43
        go_wp2_with fail
        refine C1.out.mono ?_
        rintro e w' ⟨rfl, rfl⟩
        go_wp2_with fail
        refine C2.out.mono ?_
        rintro e w' ⟨rfl, rfl⟩
        go_wp2_with fail
        refine N.out.mono ?_
        rintro e w' ⟨rfl, rfl⟩
        go_wp2_with fail
        go_ret2
        exact ⟨by rw [HG.out]; rfl, rfl⟩
    · have hd : decide ((2147483648 : Int) ≤ (a : Int)) = false := decide_eq_false (by omega)
      have hu : unrankN x = (4294967295 - a) * 4294967296 + (4294967295 - c) := by
        unfold unrankN
        rw [word_neg x (by omega), decide_eq_false (by omega)]
        simp only [Bool.false_eq_true, if_false]
        omega
      rw [hu] at N hg
      clear b1 b2 hcat hx0 hu hgg ha
      cases hn : isN ((4294967295 - a) * 4294967296 + (4294967295 - c))
      · rw [hn] at N hg
        have HG := Lib.hid hg
        clear hg hn
        rcases hq with hq | ⟨hq, hq2⟩
        · skip
          go_enter Tryd.func43, Tryd.ntmps43
          go_wp2_with fail
          refine C1.out.mono ?_
          rintro e w' ⟨rfl, rfl⟩
          go_wp2_with fail
          refine C2.out.mono ?_
          rintro e w' ⟨rfl, rfl⟩
          go_wp2_with fail
          refine N.out.mono ?_
          rintro e w' ⟨rfl, rfl⟩
          go_wp2_with fail
          go_ret2
          exact ⟨by rw [HG.out]; rfl, rfl⟩
        · skip
          go_enter Tryd.func43, Tryd.ntmps43
          go_wp2_with fail
          refine C1.out.mono ?_
          rintro e w' ⟨rfl, rfl⟩
          go_wp2_with fail
          refine C2.out.mono ?_
          rintro e w' ⟨rfl, rfl⟩
          go_wp2_with fail
          refine N.out.mono ?_
          rintro e w' ⟨rfl, rfl⟩
          go_wp2_with fail
          go_ret2
          exact ⟨by rw [HG.out]; rfl, rfl⟩
      · rw [hn] at N hg
        have HG := Lib.hid hg
        clear hg hn
        rcases hq with hq | ⟨hq, hq2⟩
        · skip
          go_enter Tryd.func43, Tryd.ntmps43
          go_wp2_with fail
          refine C1.out.mono ?_
          rintro e w' ⟨rfl, rfl⟩
          go_wp2_with fail
          refine C2.out.mono ?_
          rintro e w' ⟨rfl, rfl⟩
          go_wp2_with fail
          refine N.out.mono ?_
          rintro e w' ⟨rfl, rfl⟩
          go_wp2_with fail
          go_ret2
          exact ⟨by rw [HG.out]; rfl, rfl⟩
        · skip
          go_enter Tryd.func43, Tryd.ntmps43
          go_wp2_with fail
          refine C1.out.mono ?_
          rintro e w' ⟨rfl, rfl⟩
          go_wp2_with fail
          refine C2.out.mono ?_
          rintro e w' ⟨rfl, rfl⟩
          go_wp2_with fail
          refine N.out.mono ?_
          rintro e w' ⟨rfl, rfl⟩
          go_wp2_with fail
          go_ret2
          exact ⟨by rw [HG.out]; rfl, rfl⟩
end Go.Proofs.YthacdegaeokgnaaDoor

namespace Go.Proofs.YthacdegaeokgnaaDoor
open Go.RowKit

/-- What stands while bytes are read: the act so far, the result's cells, and all that was there. -/
structure Get6 (w : World) (kd : Int) (nu : Nat) (it : Int) (tx : ByteArray) (W : World) : Prop where
  a : Blk W (w.heap.size + 1) 24 (actC kd nu it tx)
  r : Blk W w.heap.size 24 (actC 0 0 0 ⟨#[]⟩)
  below : Below w.heap.size w W
section
variable {w W W' : World} {kd : Int} {nu : Nat} {it : Int} {tx : ByteArray}
theorem Get6.on (h : Get6 w kd nu it tx W) (hb : Below W.heap.size W W') : Get6 w kd nu it tx W' := ⟨h.a.below hb h.a.lt, h.r.below hb h.r.lt, h.below.trans (hb.mono h.below.size)⟩
theorem Get6.drew (h : Get6 w kd nu it tx W) : Get6 w kd nu it tx W.drew := ⟨h.a, h.r, h.below.drew⟩
theorem Get6.start (w : World) (kd : Int) (nu : Nat) (it : Int) (tx : ByteArray) : Get6 w kd nu it tx ((w.alloc (.cells #[.int .i64 0, .float .f64 0, .int .i64 0, .string ⟨#[]⟩] 24)).alloc (.cells #[.int .i64 kd, .float .f64 nu, .int .i64 it, .string tx] 24)) :=
  ⟨Blk.new' (by simp) _ _, (Blk.new w _ _).alloc _, ((Below.refl _ w).alloc (Nat.le_refl _) _).alloc (by simp) _⟩
theorem Get6.num (h : Get6 w kd nu it tx W) (x : Nat) : Get6 w kd x it tx (W.setCell ⟨w.heap.size + 1, 1, none⟩ (.float .f64 x)) :=
  ⟨by simpa [actC] using h.a.set_ 1 (.float .f64 x), h.r.far (p := ⟨w.heap.size + 1, 1, none⟩) (by show w.heap.size ≠ w.heap.size + 1; omega) _, below_setCell h.below (Nat.le_succ _) _⟩
theorem Get6.int (h : Get6 w kd nu it tx W) (x : Int) : Get6 w kd nu x tx (W.setCell ⟨w.heap.size + 1, 2, none⟩ (.int .i64 x)) :=
  ⟨by simpa [actC] using h.a.set_ 2 (.int .i64 x), h.r.far (p := ⟨w.heap.size + 1, 2, none⟩) (by show w.heap.size ≠ w.heap.size + 1; omega) _, below_setCell h.below (Nat.le_succ _) _⟩
theorem Get6.text (h : Get6 w kd nu it tx W) (x : ByteArray) : Get6 w kd nu it x (W.setCell ⟨w.heap.size + 1, 3, none⟩ (.string x)) :=
  ⟨by simpa [actC] using h.a.set_ 3 (.string x), h.r.far (p := ⟨w.heap.size + 1, 3, none⟩) (by show w.heap.size ≠ w.heap.size + 1; omega) _, below_setCell h.below (Nat.le_succ _) _⟩
end
/-- Bytes that are there have a first one. -/
theorem list_first (s : ByteArray) (hp : 0 < s.size) : ∃ l, s.data.toList = s[0] :: l := by
  have hlen : s.data.toList.length = s.size := (str_size s).symm
  cases hx : s.data.toList with
  | nil => rw [hx] at hlen; simp at hlen; omega
  | cons a l =>
    have : s[0] = s.data.toList[0]'(by rw [hlen]; omega) := rfl
    rw [this]
    exact ⟨l, by simp [hx]⟩
theorem list_one (s : ByteArray) (hp : 0 < s.size) : ∃ l, s.data.toList = s[0] :: l ∧ l.length + 1 = s.size := by
  obtain ⟨l, hl⟩ := list_first s hp
  have hlen : s.data.toList.length = s.size := (str_size s).symm
  exact ⟨l, hl, by rw [← hlen, hl]; rfl⟩
theorem list_two (s : ByteArray) (hp : 1 < s.size) : ∃ l, s.data.toList = s[0] :: s[1] :: l ∧ l.length + 2 = s.size := by
  obtain ⟨l, hl, hn⟩ := list_one s (by omega)
  cases l with
  | nil => simp at hn; omega
  | cons b m =>
    have e : s[1] = s.data.toList[1]'(by rw [hl]; simp) := rfl
    have e2 : s.data.toList[1]'(by rw [hl]; simp) = b := by simp [hl]
    exact ⟨m, by rw [e, e2]; exact hl, by simpa using hn⟩
theorem list_rest1 (s : ByteArray) (hp : 0 < s.size) : s.data.toList = s[0] :: (s.extract 1 s.size).data.toList := by
  obtain ⟨l, hl, hn⟩ := list_one s hp
  rw [cut_list, hl]
  simp only [List.drop_succ_cons, List.drop_zero]
  rw [List.take_of_length_le (by omega)]
theorem list_rest2 (s : ByteArray) (hp : 1 < s.size) : s.data.toList = s[0] :: s[1] :: (s.extract 2 s.size).data.toList := by
  obtain ⟨l, hl, hn⟩ := list_two s hp
  rw [cut_list, hl]
  simp only [List.drop_succ_cons, List.drop_zero]
  rw [List.take_of_length_le (by omega)]
/-- What the document's own Get tells of eight bytes. -/
theorem qgetF_num (r : Nat) (hr : r < 18446744073709551616) : NumAt r (qgetF r).1 (qgetF r).2 := by
  unfold qgetF
  by_cases h0 : r = 0
  · rw [if_pos h0, h0]
    exact ⟨by decide, Or.inl ⟨rfl, by decide⟩⟩
  · rw [if_neg h0]
    have hu := unrankN_lt r hr
    cases hn : isN (unrankN r)
    · simp only [Bool.false_eq_true, if_false]
      refine ⟨hu, Or.inl ⟨rfl, ?_⟩⟩
      unfold rankN
      rw [hn]
      unfold unrankN
      rcases word_parts r hr with ⟨h1, h2, h3⟩ | ⟨h1, h2, h3⟩
      · rw [h1]
        simp only [Bool.false_eq_true, if_false, if_true]
        have hs : isNeg (r - 9223372036854775808) = false := by rw [word_neg _ (by omega)]; exact decide_eq_false (by omega)
        rw [hs]
        simp only [Bool.false_eq_true, if_false]
        omega
      · rw [h1]
        simp only [Bool.false_eq_true, if_false]
        have hs : isNeg (18446744073709551615 - r) = true := by rw [word_neg _ (by omega)]; exact decide_eq_true (by omega)
        rw [hs]
        simp only [if_true]
        omega
    · simp only [if_true]
      refine ⟨by decide, Or.inr ⟨rfl, ?_⟩⟩
      intro y hy he
      cases hy' : isN y
      · have := unrank_rank y hy hy'
        rw [he] at this
        rw [this, hy'] at hn
        cases hn
      · rw [rank_nan y hy'] at he
        exact h0 he.symm
theorem qnum_any (s : ByteArray) (h : s.size = 8) : ∃ x er, (∀ W : World, Hid (Calls Tryd.prog 43 #[.string s] W fun e w' => e = .returned (.tuple #[.float .f64 x, .int .i64 er]) ∧ W = w')) ∧ NumAt (getL s.data.toList) x er := by
  have hlt : getL s.data.toList < 18446744073709551616 := by
    have := getL_lt s.data.toList
    rw [show s.data.toList.length = 8 from h] at this
    exact this
  exact ⟨_, _, fun W => qget_ok s W h, qgetF_num _ hlt⟩
theorem gact_end {w2 : World} {p : Nat} {t : Array Value} {kd : Int} {nu : Nat} {it : Int} {tx : ByteArray} {er : Int} {R : Ending → World → Prop} (B : Blk w2 p 24 (actC kd nu it tx))
    (t2 : t[2]?.getD undef = .pointer (some ⟨p, 0, none⟩)) (t3 : t[3]?.getD undef = .int .i64 er) (h : R (.returned (.tuple #[actV kd nu it tx, .int .i64 er])) w2) :
    bodyPost Tryd.prog Tryd.f15 R .ret { tmps := t, defers := [] } w2 := by
  refine bodyPost_ret (v := .tuple #[actV kd nu it tx, .int .i64 er]) ?_ rfl h
  obtain ⟨c0, c1, c2, c3⟩ := act_cells B
  rw [results_cell_tmp rfl]
  simp [go_sem, t2, t3, c0, c1, c2, c3, actV]

set_option maxRecDepth 100000 in
set_option maxHeartbeats 2000000 in
theorem rget6_4 (s : ByteArray) (hs : s.size ≤ 140737488351232) (hp : 0 < s.size) (h0 : s[0] = 4) (w : World) :
    Calls Tryd.prog 15 #[.string s] w fun e w' => RetG e s.data.toList ∧ Below w.heap.size w w' := by
  have S0 := Get6.start w 4 0 0 ⟨#[]⟩
  have hsz : (s.size == 0) = false := by rw [beq_eq_false_iff_ne]; omega
  have hsz' : ((s.size : Int) == 0) = false := by rw [beq_eq_false_iff_ne]; omega
  have hst0 := run_sto_f64
  have N : Hid (NoOther s.data.toList (a6 4 0 0 ⟨#[]⟩) 0) := by
    obtain ⟨l, hl⟩ := list_first s hp
    rw [h0] at hl
    unfold Hid a6
    rw [hl, rank_zero]
    exact no_clear l
  have I : Hid (ActIn 4 0 0 ⟨#[]⟩) := ⟨by decide, by decide, by decide, by decide⟩
  have S := Lib.hid S0
  go_enter Tryd.func15, Tryd.ntmps15
  go_wp2_with fail
  generalize (w.alloc (.cells #[.int .i64 0, .float .f64 0, .int .i64 0, .string ⟨#[]⟩] 24)).alloc (.cells #[.int .i64 4, .float .f64 0, .int .i64 0, .string ⟨#[]⟩] 24) = w1 at S ⊢
  clear S0
  have PA := fun W => Lib.hid (rputact_any 4 0 0 ⟨#[]⟩ I.out W)
  obtain ⟨q, hq⟩ : ∃ q, rightA (a6 4 0 0 ⟨#[]⟩) = q := ⟨_, rfl⟩
  rw [hq] at PA
  simp only [actV] at PA
  refine (PA _).out.mono ?_
  rintro e w3 ⟨rfl, g3⟩
  have S3 := S.out.on g3
  clear S g3 PA
  obtain ⟨a0, a1, a2, a3⟩ := act_cells S3.a
  obtain ⟨r0, r1, r2, r3⟩ := act_cells S3.r
  have z0 := S3.r.frozen 0
  have z1 := S3.r.frozen 1
  have z2 := S3.r.frozen 2
  have z3 := S3.r.frozen 3
  have S3 := Lib.hid S3
  have hst := run_sto_f64
  cases q
  · have G : Hid (GotA s.data.toList ⟨0, zr, 0, []⟩ 4) := GotA.no N.out (fun h => by rw [hq] at h; exact absurd h.2.1 (by decide))
    clear N hq I
    simp only [Bool.false_eq_true, if_false] at *
    go_wp2_with fail
    try simp only [Exit.inBlock, Exit.then]
    exact gact_end (blk_set4 S3.out.r (.int .i64 0) (.float .f64 0) (.int .i64 0) (.string ⟨#[]⟩)) rfl rfl ⟨⟨0, 0, 0, ⟨#[]⟩, 4, rfl, ActIn.zero, by rw [a6_zero]; exact G.out⟩, below_set4 S3.out.below (Nat.le_refl _) _ _ _ _⟩
  · simp only [if_true] at *
    by_cases hs : putAL (a6 4 0 0 ⟨#[]⟩) = s.data.toList
    · have G := Lib.hid (GotA.ok hq hs)
      have hne : (putAL (a6 4 0 0 ⟨#[]⟩) == s.toList) = true := by
        rw [beq_iff_eq, Lib.toList_data]
        exact hs
      clear N hq hs
      generalize putAL (a6 4 0 0 ⟨#[]⟩) = P at *
      go_wp2_with fail
      try simp only [Exit.inBlock, Exit.then]
      exact gact_end (blk_set4 S3.out.r (.int .i64 4) (.float .f64 0) (.int .i64 0) (.string ⟨#[]⟩)) rfl rfl ⟨⟨4, 0, 0, ⟨#[]⟩, 0, rfl, I.out, G.out⟩, below_set4 S3.out.below (Nat.le_refl _) _ _ _ _⟩
    · have G : Hid (GotA s.data.toList ⟨0, zr, 0, []⟩ 4) := GotA.no N.out (fun h => hs h.2.2)
      have hne : (putAL (a6 4 0 0 ⟨#[]⟩) == s.toList) = false := by
        rw [beq_eq_false_iff_ne, Lib.toList_data]
        exact hs
      clear N hq hs
      generalize putAL (a6 4 0 0 ⟨#[]⟩) = P at *
      go_wp2_with fail
      try simp only [Exit.inBlock, Exit.then]
      exact gact_end (blk_set4 S3.out.r (.int .i64 0) (.float .f64 0) (.int .i64 0) (.string ⟨#[]⟩)) rfl rfl ⟨⟨0, 0, 0, ⟨#[]⟩, 4, rfl, ActIn.zero, by rw [a6_zero]; exact G.out⟩, below_set4 S3.out.below (Nat.le_refl _) _ _ _ _⟩

set_option maxRecDepth 100000 in
set_option maxHeartbeats 2000000 in
theorem rget6_nil (s : ByteArray) (h : s.size = 0) (w : World) :
    Calls Tryd.prog 15 #[.string s] w fun e w' => RetG e s.data.toList ∧ Below w.heap.size w w' := by
  have hz : ((s.size : Int) == 0) = true := by rw [beq_iff_eq]; omega
  have hb : Hid (Below w.heap.size w (w.alloc (.cells #[.int .i64 0, .float .f64 0, .int .i64 0, .string ⟨#[]⟩] 24))) := (Below.refl _ w).alloc (Nat.le_refl _) _
  have B : Hid (Blk (w.alloc (.cells #[.int .i64 0, .float .f64 0, .int .i64 0, .string ⟨#[]⟩] 24)) w.heap.size 24 (actC 0 0 0 ⟨#[]⟩)) := Blk.new w _ _
  have hl : s.data.toList = [] := List.eq_nil_of_length_eq_zero ((str_size s).symm.trans h)
  have G : Hid (GotA s.data.toList ⟨0, zr, 0, []⟩ 4) := by rw [hl]; exact GotA.no (no_nil ⟨0, zr, 0, []⟩ 4) (fun h => absurd h.1 (by decide))
  clear hl
  have hst := run_sto_f64
  go_enter Tryd.func15, Tryd.ntmps15
  go_wp2_with fail
  try simp only [Exit.inBlock, Exit.then]
  exact gact_end B.out rfl rfl ⟨⟨0, 0, 0, ⟨#[]⟩, 4, rfl, ActIn.zero, by rw [a6_zero]; exact G.out⟩, hb.out⟩

set_option maxRecDepth 100000 in
set_option maxHeartbeats 2000000 in
theorem rget6_big (s : ByteArray) (hp : 0 < s.size) (h4 : 4 < s[0].toNat) (w : World) :
    Calls Tryd.prog 15 #[.string s] w fun e w' => RetG e s.data.toList ∧ Below w.heap.size w w' := by
  have hz : ((s.size : Int) == 0) = false := by rw [beq_eq_false_iff_ne]; omega
  have hb : Hid (Below w.heap.size w (w.alloc (.cells #[.int .i64 0, .float .f64 0, .int .i64 0, .string ⟨#[]⟩] 24))) := (Below.refl _ w).alloc (Nat.le_refl _) _
  have B : Hid (Blk (w.alloc (.cells #[.int .i64 0, .float .f64 0, .int .i64 0, .string ⟨#[]⟩] 24)) w.heap.size 24 (actC 0 0 0 ⟨#[]⟩)) := Blk.new w _ _
  have G : Hid (GotA s.data.toList ⟨0, zr, 0, []⟩ 4) := by
    obtain ⟨l, hl⟩ := list_first s hp
    rw [hl]
    exact GotA.no (no_big ⟨0, zr, 0, []⟩ 4 h4) (fun h => absurd h.1 (by decide))
  have h4' : (4 : Int) < (s[0].toNat : Int) := by omega
  have hst := run_sto_f64
  go_enter Tryd.func15, Tryd.ntmps15
  go_wp2_with fail
  try simp only [Exit.inBlock, Exit.then]
  exact gact_end B.out rfl rfl ⟨⟨0, 0, 0, ⟨#[]⟩, 4, rfl, ActIn.zero, by rw [a6_zero]; exact G.out⟩, hb.out⟩

set_option maxRecDepth 100000 in
set_option maxHeartbeats 2000000 in
theorem rget6_0a (s : ByteArray) (_hs : s.size ≤ 140737488351232) (h1 : s.size = 1) (hp : 0 < s.size) (h0 : s[0] = 0) (w : World) :
    Calls Tryd.prog 15 #[.string s] w fun e w' => RetG e s.data.toList ∧ Below w.heap.size w w' := by
  have S0 := Get6.start w 0 0 0 ⟨#[]⟩
  have hsz : (s.size == 0) = false := by rw [beq_eq_false_iff_ne]; omega
  have hsz' : ((s.size : Int) == 0) = false := by rw [beq_eq_false_iff_ne]; omega
  have hst0 := run_sto_f64
  have N : Hid (NoOther s.data.toList (a6 0 0 0 ⟨#[]⟩) 4) := by
    obtain ⟨l, hl, hll⟩ := list_one s hp
    rw [h0] at hl
    unfold Hid
    rw [hl]
    refine no_set _ 4 (fun t ht => ?_) (fun t ht => ?_)
    all_goals (rw [ht] at hll; simp at hll; omega)
  have I : Hid (ActIn 0 0 0 ⟨#[]⟩) := ⟨by decide, by decide, by decide, by decide⟩
  have k1 : ¬ ((1 : Int) < (s.size : Int)) := by omega
  have k2 : ¬ ((2 : Int) < (s.size : Int)) := by omega
  have S := Lib.hid S0
  go_enter Tryd.func15, Tryd.ntmps15
  go_wp2_with fail
  generalize (w.alloc (.cells #[.int .i64 0, .float .f64 0, .int .i64 0, .string ⟨#[]⟩] 24)).alloc (.cells #[.int .i64 0, .float .f64 0, .int .i64 0, .string ⟨#[]⟩] 24) = w1 at S ⊢
  clear S0
  have PA := fun W => Lib.hid (rputact_any 0 0 0 ⟨#[]⟩ I.out W)
  obtain ⟨q, hq⟩ : ∃ q, rightA (a6 0 0 0 ⟨#[]⟩) = q := ⟨_, rfl⟩
  rw [hq] at PA
  simp only [actV] at PA
  refine (PA _).out.mono ?_
  rintro e w3 ⟨rfl, g3⟩
  have S3 := S.out.on g3
  clear S g3 PA
  obtain ⟨a0, a1, a2, a3⟩ := act_cells S3.a
  obtain ⟨r0, r1, r2, r3⟩ := act_cells S3.r
  have z0 := S3.r.frozen 0
  have z1 := S3.r.frozen 1
  have z2 := S3.r.frozen 2
  have z3 := S3.r.frozen 3
  have S3 := Lib.hid S3
  have hst := run_sto_f64
  have G : Hid (GotA s.data.toList ⟨0, zr, 0, []⟩ 4) := GotA.no N.out (fun h => absurd h.1 (by decide))
  cases q
  all_goals
    go_wp2_with fail
    try simp only [Exit.inBlock, Exit.then]
    exact gact_end (blk_set4 S3.out.r (.int .i64 0) (.float .f64 0) (.int .i64 0) (.string ⟨#[]⟩)) rfl rfl ⟨⟨0, 0, 0, ⟨#[]⟩, 4, rfl, ActIn.zero, by rw [a6_zero]; exact G.out⟩, below_set4 S3.out.below (Nat.le_refl _) _ _ _ _⟩

set_option maxRecDepth 100000 in
set_option maxHeartbeats 2000000 in
theorem rget6_0b (s : ByteArray) (_hs : s.size ≤ 140737488351232) (h2 : s.size = 2) (hp : 1 < s.size) (h0 : s[0] = 0) (h1 : s[1] = 116) (w : World) :
    Calls Tryd.prog 15 #[.string s] w fun e w' => RetG e s.data.toList ∧ Below w.heap.size w w' := by
  have S0 := Get6.start w 0 0 0 ⟨#[]⟩
  have hsz : (s.size == 0) = false := by rw [beq_eq_false_iff_ne]; omega
  have hsz' : ((s.size : Int) == 0) = false := by rw [beq_eq_false_iff_ne]; omega
  have hst0 := run_sto_f64
  have N : Hid (NoOther s.data.toList (a6 0 0 0 ⟨#[]⟩) 4) := by
    obtain ⟨l, hl, hll⟩ := list_two s hp
    rw [h0] at hl
    unfold Hid
    rw [hl, h1]
    refine no_set _ 4 (fun t ht => ?_) (fun t ht => ?_)
    · have := (List.cons.inj ht).2
      rw [← this]
      exact List.eq_nil_of_length_eq_zero (by omega)
    · exact absurd (List.cons.inj ht).1 (by decide)
  have I : Hid (ActIn 0 0 0 ⟨#[]⟩) := ⟨by decide, by decide, by decide, by decide⟩
  have k1 : (1 : Int) < (s.size : Int) := by omega
  have k2 : ¬ ((2 : Int) < (s.size : Int)) := by omega
  have S := Lib.hid S0
  go_enter Tryd.func15, Tryd.ntmps15
  go_wp2_with fail
  generalize (w.alloc (.cells #[.int .i64 0, .float .f64 0, .int .i64 0, .string ⟨#[]⟩] 24)).alloc (.cells #[.int .i64 0, .float .f64 0, .int .i64 0, .string ⟨#[]⟩] 24) = w1 at S ⊢
  clear S0
  have PA := fun W => Lib.hid (rputact_any 0 0 0 ⟨#[]⟩ I.out W)
  obtain ⟨q, hq⟩ : ∃ q, rightA (a6 0 0 0 ⟨#[]⟩) = q := ⟨_, rfl⟩
  rw [hq] at PA
  simp only [actV] at PA
  refine (PA _).out.mono ?_
  rintro e w3 ⟨rfl, g3⟩
  have S3 := S.out.on g3
  clear S g3 PA
  obtain ⟨a0, a1, a2, a3⟩ := act_cells S3.a
  obtain ⟨r0, r1, r2, r3⟩ := act_cells S3.r
  have z0 := S3.r.frozen 0
  have z1 := S3.r.frozen 1
  have z2 := S3.r.frozen 2
  have z3 := S3.r.frozen 3
  have S3 := Lib.hid S3
  have hst := run_sto_f64
  have G : Hid (GotA s.data.toList ⟨0, zr, 0, []⟩ 4) := GotA.no N.out (fun h => absurd h.1 (by decide))
  cases q
  all_goals
    go_wp2_with fail
    try simp only [Exit.inBlock, Exit.then]
    exact gact_end (blk_set4 S3.out.r (.int .i64 0) (.float .f64 0) (.int .i64 0) (.string ⟨#[]⟩)) rfl rfl ⟨⟨0, 0, 0, ⟨#[]⟩, 4, rfl, ActIn.zero, by rw [a6_zero]; exact G.out⟩, below_set4 S3.out.below (Nat.le_refl _) _ _ _ _⟩

set_option maxRecDepth 100000 in
set_option maxHeartbeats 2000000 in
theorem rget6_0c (s : ByteArray) (hs : s.size ≤ 140737488351232) (h2 : 2 < s.size) (hp : 1 < s.size) (h0 : s[0] = 0) (h1 : s[1] ≠ 116) (h3 : s[1] ≠ 110) (w : World) :
    Calls Tryd.prog 15 #[.string s] w fun e w' => RetG e s.data.toList ∧ Below w.heap.size w w' := by
  have S0 := Get6.start w 0 0 0 ⟨#[]⟩
  have hsz : (s.size == 0) = false := by rw [beq_eq_false_iff_ne]; omega
  have hsz' : ((s.size : Int) == 0) = false := by rw [beq_eq_false_iff_ne]; omega
  have hst0 := run_sto_f64
  have N : Hid (NoOther s.data.toList (a6 0 0 0 ⟨#[]⟩) 4) := by
    obtain ⟨l, hl, hll⟩ := list_two s hp
    rw [h0] at hl
    unfold Hid
    rw [hl]
    refine no_set _ 4 (fun t ht => ?_) (fun t ht => ?_)
    · exact absurd (List.cons.inj ht).1 h1
    · exact absurd (List.cons.inj ht).1 h3
  have I : Hid (ActIn 0 0 0 ⟨#[]⟩) := ⟨by decide, by decide, by decide, by decide⟩
  have k1 : (1 : Int) < (s.size : Int) := by omega
  have k2 : (2 : Int) < (s.size : Int) := by omega
  have b1 : ((s[1].toNat : Int) == 116) = false := (byte_eq s[1] 116).trans (decide_eq_false h1)
  have b2 : ((s[1].toNat : Int) == 110) = false := (byte_eq s[1] 110).trans (decide_eq_false h3)
  clear h1 h3
  have S := Lib.hid S0
  go_enter Tryd.func15, Tryd.ntmps15
  go_wp2_with fail
  generalize (w.alloc (.cells #[.int .i64 0, .float .f64 0, .int .i64 0, .string ⟨#[]⟩] 24)).alloc (.cells #[.int .i64 0, .float .f64 0, .int .i64 0, .string ⟨#[]⟩] 24) = w1 at S ⊢
  clear S0
  have PA := fun W => Lib.hid (rputact_any 0 0 0 ⟨#[]⟩ I.out W)
  obtain ⟨q, hq⟩ : ∃ q, rightA (a6 0 0 0 ⟨#[]⟩) = q := ⟨_, rfl⟩
  rw [hq] at PA
  simp only [actV] at PA
  refine (PA _).out.mono ?_
  rintro e w3 ⟨rfl, g3⟩
  have S3 := S.out.on g3
  clear S g3 PA
  obtain ⟨a0, a1, a2, a3⟩ := act_cells S3.a
  obtain ⟨r0, r1, r2, r3⟩ := act_cells S3.r
  have z0 := S3.r.frozen 0
  have z1 := S3.r.frozen 1
  have z2 := S3.r.frozen 2
  have z3 := S3.r.frozen 3
  have S3 := Lib.hid S3
  have hst := run_sto_f64
  have G : Hid (GotA s.data.toList ⟨0, zr, 0, []⟩ 4) := GotA.no N.out (fun h => absurd h.1 (by decide))
  cases q
  all_goals
    go_wp2_with fail
    try simp only [Exit.inBlock, Exit.then]
    exact gact_end (blk_set4 S3.out.r (.int .i64 0) (.float .f64 0) (.int .i64 0) (.string ⟨#[]⟩)) rfl rfl ⟨⟨0, 0, 0, ⟨#[]⟩, 4, rfl, ActIn.zero, by rw [a6_zero]; exact G.out⟩, below_set4 S3.out.below (Nat.le_refl _) _ _ _ _⟩

set_option maxRecDepth 100000 in
set_option maxHeartbeats 2000000 in
theorem rget6_0d (s : ByteArray) (hs : s.size ≤ 140737488351232) (h2 : ¬ 2 < s.size) (hp : 1 < s.size) (h0 : s[0] = 0) (h1 : s[1] ≠ 116) (h3 : s[1] ≠ 110) (w : World) :
    Calls Tryd.prog 15 #[.string s] w fun e w' => RetG e s.data.toList ∧ Below w.heap.size w w' := by
  have S0 := Get6.start w 0 0 0 ⟨#[]⟩
  have hsz : (s.size == 0) = false := by rw [beq_eq_false_iff_ne]; omega
  have hsz' : ((s.size : Int) == 0) = false := by rw [beq_eq_false_iff_ne]; omega
  have hst0 := run_sto_f64
  have N : Hid (NoOther s.data.toList (a6 0 0 0 ⟨#[]⟩) 4) := by
    obtain ⟨l, hl, hll⟩ := list_two s hp
    rw [h0] at hl
    unfold Hid
    rw [hl]
    refine no_set _ 4 (fun t ht => ?_) (fun t ht => ?_)
    · exact absurd (List.cons.inj ht).1 h1
    · exact absurd (List.cons.inj ht).1 h3
  have I : Hid (ActIn 0 0 0 ⟨#[]⟩) := ⟨by decide, by decide, by decide, by decide⟩
  have k1 : (1 : Int) < (s.size : Int) := by omega
  have k2 : ¬ (2 : Int) < (s.size : Int) := by omega
  have b1 : ((s[1].toNat : Int) == 116) = false := (byte_eq s[1] 116).trans (decide_eq_false h1)
  have b2 : ((s[1].toNat : Int) == 110) = false := (byte_eq s[1] 110).trans (decide_eq_false h3)
  clear h1 h3
  have S := Lib.hid S0
  go_enter Tryd.func15, Tryd.ntmps15
  go_wp2_with fail
  generalize (w.alloc (.cells #[.int .i64 0, .float .f64 0, .int .i64 0, .string ⟨#[]⟩] 24)).alloc (.cells #[.int .i64 0, .float .f64 0, .int .i64 0, .string ⟨#[]⟩] 24) = w1 at S ⊢
  clear S0
  have PA := fun W => Lib.hid (rputact_any 0 0 0 ⟨#[]⟩ I.out W)
  obtain ⟨q, hq⟩ : ∃ q, rightA (a6 0 0 0 ⟨#[]⟩) = q := ⟨_, rfl⟩
  rw [hq] at PA
  simp only [actV] at PA
  refine (PA _).out.mono ?_
  rintro e w3 ⟨rfl, g3⟩
  have S3 := S.out.on g3
  clear S g3 PA
  obtain ⟨a0, a1, a2, a3⟩ := act_cells S3.a
  obtain ⟨r0, r1, r2, r3⟩ := act_cells S3.r
  have z0 := S3.r.frozen 0
  have z1 := S3.r.frozen 1
  have z2 := S3.r.frozen 2
  have z3 := S3.r.frozen 3
  have S3 := Lib.hid S3
  have hst := run_sto_f64
  have G : Hid (GotA s.data.toList ⟨0, zr, 0, []⟩ 4) := GotA.no N.out (fun h => absurd h.1 (by decide))
  cases q
  all_goals
    go_wp2_with fail
    try simp only [Exit.inBlock, Exit.then]
    exact gact_end (blk_set4 S3.out.r (.int .i64 0) (.float .f64 0) (.int .i64 0) (.string ⟨#[]⟩)) rfl rfl ⟨⟨0, 0, 0, ⟨#[]⟩, 4, rfl, ActIn.zero, by rw [a6_zero]; exact G.out⟩, below_set4 S3.out.below (Nat.le_refl _) _ _ _ _⟩

set_option maxRecDepth 100000 in
set_option maxHeartbeats 2000000 in
theorem rget6_0t (s : ByteArray) (hs : s.size ≤ 140737488351232) (h2 : 2 < s.size) (hp : 1 < s.size) (h0 : s[0] = 0) (h1 : s[1] = 116) (w : World) :
    Calls Tryd.prog 15 #[.string s] w fun e w' => RetG e s.data.toList ∧ Below w.heap.size w w' := by
  have S0 := Get6.start w 0 0 0 ⟨#[]⟩
  have hsz : (s.size == 0) = false := by rw [beq_eq_false_iff_ne]; omega
  have hsz' : ((s.size : Int) == 0) = false := by rw [beq_eq_false_iff_ne]; omega
  have hst0 := run_sto_f64
  obtain ⟨t, ht⟩ : ∃ t, s.extract 2 s.size = t := ⟨_, rfl⟩
  have N : Hid (NoOther s.data.toList (a6 0 0 0 t) 0) := by
    have hl := list_rest2 s hp
    rw [h0, h1, ht] at hl
    unfold Hid a6
    rw [hl, rank_zero]
    refine no_text (fun hn => ?_)
    have h5 := congrArg List.length hl
    rw [hn] at h5
    have h6 : s.data.toList.length = s.size := (str_size s).symm
    simp at h5
    omega
  have I : Hid (ActIn 0 0 0 t) := ⟨by decide, by decide, by decide, by rw [← ht]; simp; omega⟩
  have k1 : (1 : Int) < (s.size : Int) := by omega
  have k2 : (2 : Int) < (s.size : Int) := by omega
  have k3 : (2 : Int) ≤ (s.size : Int) := by omega
  have S := Lib.hid (Get6.start w 0 0 0 t)
  go_enter Tryd.func15, Tryd.ntmps15
  go_wp2_with fail
  generalize (w.alloc (.cells #[.int .i64 0, .float .f64 0, .int .i64 0, .string ⟨#[]⟩] 24)).alloc (.cells #[.int .i64 0, .float .f64 0, .int .i64 0, .string t] 24) = w1 at S ⊢
  clear S0
  have PA := fun W => Lib.hid (rputact_any 0 0 0 t I.out W)
  obtain ⟨q, hq⟩ : ∃ q, rightA (a6 0 0 0 t) = q := ⟨_, rfl⟩
  rw [hq] at PA
  simp only [actV] at PA
  refine (PA _).out.mono ?_
  rintro e w3 ⟨rfl, g3⟩
  have S3 := S.out.on g3
  clear S g3 PA
  obtain ⟨a0, a1, a2, a3⟩ := act_cells S3.a
  obtain ⟨r0, r1, r2, r3⟩ := act_cells S3.r
  have z0 := S3.r.frozen 0
  have z1 := S3.r.frozen 1
  have z2 := S3.r.frozen 2
  have z3 := S3.r.frozen 3
  have S3 := Lib.hid S3
  have hst := run_sto_f64
  cases q
  · have G : Hid (GotA s.data.toList ⟨0, zr, 0, []⟩ 4) := GotA.no N.out (fun h => by rw [hq] at h; exact absurd h.2.1 (by decide))
    clear N hq I
    simp only [Bool.false_eq_true, if_false] at *
    go_wp2_with fail
    try simp only [Exit.inBlock, Exit.then]
    exact gact_end (blk_set4 S3.out.r (.int .i64 0) (.float .f64 0) (.int .i64 0) (.string ⟨#[]⟩)) rfl rfl ⟨⟨0, 0, 0, ⟨#[]⟩, 4, rfl, ActIn.zero, by rw [a6_zero]; exact G.out⟩, below_set4 S3.out.below (Nat.le_refl _) _ _ _ _⟩
  · simp only [if_true] at *
    by_cases hs : putAL (a6 0 0 0 t) = s.data.toList
    · have G := Lib.hid (GotA.ok hq hs)
      have hne : (putAL (a6 0 0 0 t) == s.toList) = true := by
        rw [beq_iff_eq, Lib.toList_data]
        exact hs
      clear N hq hs
      generalize putAL (a6 0 0 0 t) = P at *
      go_wp2_with fail
      try simp only [Exit.inBlock, Exit.then]
      exact gact_end (blk_set4 S3.out.r (.int .i64 0) (.float .f64 0) (.int .i64 0) (.string t)) rfl rfl ⟨⟨0, 0, 0, t, 0, rfl, I.out, G.out⟩, below_set4 S3.out.below (Nat.le_refl _) _ _ _ _⟩
    · have G : Hid (GotA s.data.toList ⟨0, zr, 0, []⟩ 4) := GotA.no N.out (fun h => hs h.2.2)
      have hne : (putAL (a6 0 0 0 t) == s.toList) = false := by
        rw [beq_eq_false_iff_ne, Lib.toList_data]
        exact hs
      clear N hq hs
      generalize putAL (a6 0 0 0 t) = P at *
      go_wp2_with fail
      try simp only [Exit.inBlock, Exit.then]
      exact gact_end (blk_set4 S3.out.r (.int .i64 0) (.float .f64 0) (.int .i64 0) (.string ⟨#[]⟩)) rfl rfl ⟨⟨0, 0, 0, ⟨#[]⟩, 4, rfl, ActIn.zero, by rw [a6_zero]; exact G.out⟩, below_set4 S3.out.below (Nat.le_refl _) _ _ _ _⟩

set_option maxRecDepth 100000 in
set_option maxHeartbeats 2000000 in
theorem rget6_gn (s : ByteArray) (hs : s.size ≤ 140737488351232) (hp : 1 < s.size) (h0 : s[0] = 0) (h1 : s[1] = 110) (h8 : s.size = 10) (w : World) :
    Calls Tryd.prog 15 #[.string s] w fun e w' => RetG e s.data.toList ∧ Below w.heap.size w w' := by
  have S0 := Get6.start w 0 0 0 ⟨#[]⟩
  have hsz : (s.size == 0) = false := by rw [beq_eq_false_iff_ne]; omega
  have hsz' : ((s.size : Int) == 0) = false := by rw [beq_eq_false_iff_ne]; omega
  have hst0 := run_sto_f64
  obtain ⟨t, ht⟩ : ∃ t, s.extract 2 s.size = t := ⟨_, rfl⟩
  have hts : t.size = s.size - 2 := by rw [← ht]; simp
  have hl := list_rest2 s hp
  rw [h0, h1, ht] at hl
  have htl : t.data.toList.length = t.size := (str_size t).symm
  have k1 : (1 : Int) < (s.size : Int) := by omega
  have k3 : (2 : Int) ≤ (s.size : Int) := by omega
  obtain ⟨x, er, Q, HX⟩ := qnum_any t (by omega)
  have S := Lib.hid (Get6.start w 0 x 0 ⟨#[]⟩)
  have I : Hid (ActIn 0 x 0 ⟨#[]⟩) := ⟨HX.1, by decide, by decide, by decide⟩
  have N : Hid (NoOther s.data.toList (a6 0 x 0 ⟨#[]⟩) er) := by
    unfold Hid a6
    rw [hl]
    exact no_num (by omega) HX
  clear hl htl
  have k2 : (2 : Int) < (s.size : Int) := by omega
  clear h8 hts
  rcases HX.2 with ⟨rfl, _⟩ | ⟨rfl, _⟩
  · clear HX
    go_enter Tryd.func15, Tryd.ntmps15
    go_wp2_with fail
    refine (Q _).out.mono ?_
    rintro e w9 ⟨rfl, rfl⟩
    go_wp2_with fail
    generalize (w.alloc (.cells #[.int .i64 0, .float .f64 0, .int .i64 0, .string ⟨#[]⟩] 24)).alloc (.cells #[.int .i64 0, .float .f64 x, .int .i64 0, .string ⟨#[]⟩] 24) = w1 at S ⊢
    clear S0
    have PA := fun W => Lib.hid (rputact_any 0 x 0 ⟨#[]⟩ I.out W)
    obtain ⟨q, hq⟩ : ∃ q, rightA (a6 0 x 0 ⟨#[]⟩) = q := ⟨_, rfl⟩
    rw [hq] at PA
    simp only [actV] at PA
    refine (PA _).out.mono ?_
    rintro e w3 ⟨rfl, g3⟩
    have S3 := S.out.on g3
    clear S g3 PA
    obtain ⟨a0, a1, a2, a3⟩ := act_cells S3.a
    obtain ⟨r0, r1, r2, r3⟩ := act_cells S3.r
    have z0 := S3.r.frozen 0
    have z1 := S3.r.frozen 1
    have z2 := S3.r.frozen 2
    have z3 := S3.r.frozen 3
    have S3 := Lib.hid S3
    have hst := run_sto_f64
    cases q
    · have G : Hid (GotA s.data.toList ⟨0, zr, 0, []⟩ 4) := GotA.no N.out (fun h => by rw [hq] at h; exact absurd h.2.1 (by decide))
      clear N hq I
      simp only [Bool.false_eq_true, if_false] at *
      go_wp2_with fail
      try simp only [Exit.inBlock, Exit.then]
      exact gact_end (blk_set4 S3.out.r (.int .i64 0) (.float .f64 0) (.int .i64 0) (.string ⟨#[]⟩)) rfl rfl ⟨⟨0, 0, 0, ⟨#[]⟩, 4, rfl, ActIn.zero, by rw [a6_zero]; exact G.out⟩, below_set4 S3.out.below (Nat.le_refl _) _ _ _ _⟩
    · simp only [if_true] at *
      by_cases hs : putAL (a6 0 x 0 ⟨#[]⟩) = s.data.toList
      · have G := Lib.hid (GotA.ok hq hs)
        have hne : (putAL (a6 0 x 0 ⟨#[]⟩) == s.toList) = true := by
          rw [beq_iff_eq, Lib.toList_data]
          exact hs
        clear N hq hs
        generalize putAL (a6 0 x 0 ⟨#[]⟩) = P at *
        go_wp2_with fail
        try simp only [Exit.inBlock, Exit.then]
        exact gact_end (blk_set4 S3.out.r (.int .i64 0) (.float .f64 x) (.int .i64 0) (.string ⟨#[]⟩)) rfl rfl ⟨⟨0, x, 0, ⟨#[]⟩, 0, rfl, I.out, G.out⟩, below_set4 S3.out.below (Nat.le_refl _) _ _ _ _⟩
      · have G : Hid (GotA s.data.toList ⟨0, zr, 0, []⟩ 4) := GotA.no N.out (fun h => hs h.2.2)
        have hne : (putAL (a6 0 x 0 ⟨#[]⟩) == s.toList) = false := by
          rw [beq_eq_false_iff_ne, Lib.toList_data]
          exact hs
        clear N hq hs
        generalize putAL (a6 0 x 0 ⟨#[]⟩) = P at *
        go_wp2_with fail
        try simp only [Exit.inBlock, Exit.then]
        exact gact_end (blk_set4 S3.out.r (.int .i64 0) (.float .f64 0) (.int .i64 0) (.string ⟨#[]⟩)) rfl rfl ⟨⟨0, 0, 0, ⟨#[]⟩, 4, rfl, ActIn.zero, by rw [a6_zero]; exact G.out⟩, below_set4 S3.out.below (Nat.le_refl _) _ _ _ _⟩
  · clear HX
    go_enter Tryd.func15, Tryd.ntmps15
    go_wp2_with fail
    refine (Q _).out.mono ?_
    rintro e w9 ⟨rfl, rfl⟩
    go_wp2_with fail
    generalize (w.alloc (.cells #[.int .i64 0, .float .f64 0, .int .i64 0, .string ⟨#[]⟩] 24)).alloc (.cells #[.int .i64 0, .float .f64 x, .int .i64 0, .string ⟨#[]⟩] 24) = w1 at S ⊢
    clear S0
    have PA := fun W => Lib.hid (rputact_any 0 x 0 ⟨#[]⟩ I.out W)
    obtain ⟨q, hq⟩ : ∃ q, rightA (a6 0 x 0 ⟨#[]⟩) = q := ⟨_, rfl⟩
    rw [hq] at PA
    simp only [actV] at PA
    refine (PA _).out.mono ?_
    rintro e w3 ⟨rfl, g3⟩
    have S3 := S.out.on g3
    clear S g3 PA
    obtain ⟨a0, a1, a2, a3⟩ := act_cells S3.a
    obtain ⟨r0, r1, r2, r3⟩ := act_cells S3.r
    have z0 := S3.r.frozen 0
    have z1 := S3.r.frozen 1
    have z2 := S3.r.frozen 2
    have z3 := S3.r.frozen 3
    have S3 := Lib.hid S3
    have hst := run_sto_f64
    have G : Hid (GotA s.data.toList ⟨0, zr, 0, []⟩ 4) := GotA.no N.out (fun h => absurd h.1 (by decide))
    cases q
    all_goals
      go_wp2_with fail
      try simp only [Exit.inBlock, Exit.then]
      exact gact_end (blk_set4 S3.out.r (.int .i64 0) (.float .f64 0) (.int .i64 0) (.string ⟨#[]⟩)) rfl rfl ⟨⟨0, 0, 0, ⟨#[]⟩, 4, rfl, ActIn.zero, by rw [a6_zero]; exact G.out⟩, below_set4 S3.out.below (Nat.le_refl _) _ _ _ _⟩

set_option maxRecDepth 100000 in
set_option maxHeartbeats 2000000 in
theorem rget6_nbp (s : ByteArray) (hs : s.size ≤ 140737488351232) (hp : 1 < s.size) (h0 : s[0] = 0) (h1 : s[1] = 110) (h8 : s.size ≠ 10) (h2 : 2 < s.size) (w : World) :
    Calls Tryd.prog 15 #[.string s] w fun e w' => RetG e s.data.toList ∧ Below w.heap.size w w' := by
  have S0 := Get6.start w 0 0 0 ⟨#[]⟩
  have hsz : (s.size == 0) = false := by rw [beq_eq_false_iff_ne]; omega
  have hsz' : ((s.size : Int) == 0) = false := by rw [beq_eq_false_iff_ne]; omega
  have hst0 := run_sto_f64
  obtain ⟨t, ht⟩ : ∃ t, s.extract 2 s.size = t := ⟨_, rfl⟩
  have hts : t.size = s.size - 2 := by rw [← ht]; simp
  have hl := list_rest2 s hp
  rw [h0, h1, ht] at hl
  have htl : t.data.toList.length = t.size := (str_size t).symm
  have k1 : (1 : Int) < (s.size : Int) := by omega
  have k3 : (2 : Int) ≤ (s.size : Int) := by omega
  have Q := fun W => Lib.hid (qget_bad t W (by omega) (by omega))
  have S := Lib.hid (Get6.start w 0 0 0 ⟨#[]⟩)
  have I : Hid (ActIn 0 0 0 ⟨#[]⟩) := ⟨by decide, by decide, by decide, by decide⟩
  have N : Hid (NoOther s.data.toList (a6 0 0 0 ⟨#[]⟩) 4) := by
    unfold Hid a6
    rw [hl]
    exact no_num8 _ 4 (by omega)
  clear hl htl
  have k2 : (2 : Int) < (s.size : Int) := by omega
  go_enter Tryd.func15, Tryd.ntmps15
  go_wp2_with fail
  refine (Q _).out.mono ?_
  rintro e w9 ⟨rfl, rfl⟩
  go_wp2_with fail
  generalize (w.alloc (.cells #[.int .i64 0, .float .f64 0, .int .i64 0, .string ⟨#[]⟩] 24)).alloc (.cells #[.int .i64 0, .float .f64 0, .int .i64 0, .string ⟨#[]⟩] 24) = w1 at S ⊢
  clear S0
  have PA := fun W => Lib.hid (rputact_any 0 0 0 ⟨#[]⟩ I.out W)
  obtain ⟨q, hq⟩ : ∃ q, rightA (a6 0 0 0 ⟨#[]⟩) = q := ⟨_, rfl⟩
  rw [hq] at PA
  simp only [actV] at PA
  refine (PA _).out.mono ?_
  rintro e w3 ⟨rfl, g3⟩
  have S3 := S.out.on g3
  clear S g3 PA
  obtain ⟨a0, a1, a2, a3⟩ := act_cells S3.a
  obtain ⟨r0, r1, r2, r3⟩ := act_cells S3.r
  have z0 := S3.r.frozen 0
  have z1 := S3.r.frozen 1
  have z2 := S3.r.frozen 2
  have z3 := S3.r.frozen 3
  have S3 := Lib.hid S3
  have hst := run_sto_f64
  have G : Hid (GotA s.data.toList ⟨0, zr, 0, []⟩ 4) := GotA.no N.out (fun h => absurd h.1 (by decide))
  cases q
  all_goals
    go_wp2_with fail
    try simp only [Exit.inBlock, Exit.then]
    exact gact_end (blk_set4 S3.out.r (.int .i64 0) (.float .f64 0) (.int .i64 0) (.string ⟨#[]⟩)) rfl rfl ⟨⟨0, 0, 0, ⟨#[]⟩, 4, rfl, ActIn.zero, by rw [a6_zero]; exact G.out⟩, below_set4 S3.out.below (Nat.le_refl _) _ _ _ _⟩

set_option maxRecDepth 100000 in
set_option maxHeartbeats 2000000 in
theorem rget6_nbq (s : ByteArray) (hs : s.size ≤ 140737488351232) (hp : 1 < s.size) (h0 : s[0] = 0) (h1 : s[1] = 110) (_h8 : s.size ≠ 10) (h2 : ¬ 2 < s.size) (w : World) :
    Calls Tryd.prog 15 #[.string s] w fun e w' => RetG e s.data.toList ∧ Below w.heap.size w w' := by
  have S0 := Get6.start w 0 0 0 ⟨#[]⟩
  have hsz : (s.size == 0) = false := by rw [beq_eq_false_iff_ne]; omega
  have hsz' : ((s.size : Int) == 0) = false := by rw [beq_eq_false_iff_ne]; omega
  have hst0 := run_sto_f64
  obtain ⟨t, ht⟩ : ∃ t, s.extract 2 s.size = t := ⟨_, rfl⟩
  have hts : t.size = s.size - 2 := by rw [← ht]; simp
  have hl := list_rest2 s hp
  rw [h0, h1, ht] at hl
  have htl : t.data.toList.length = t.size := (str_size t).symm
  have k1 : (1 : Int) < (s.size : Int) := by omega
  have k3 : (2 : Int) ≤ (s.size : Int) := by omega
  have Q := fun W => Lib.hid (qget_bad t W (by omega) (by omega))
  have S := Lib.hid (Get6.start w 0 0 0 ⟨#[]⟩)
  have I : Hid (ActIn 0 0 0 ⟨#[]⟩) := ⟨by decide, by decide, by decide, by decide⟩
  have N : Hid (NoOther s.data.toList (a6 0 0 0 ⟨#[]⟩) 4) := by
    unfold Hid a6
    rw [hl]
    exact no_num8 _ 4 (by omega)
  clear hl htl
  have k2 : ¬ (2 : Int) < (s.size : Int) := by omega
  go_enter Tryd.func15, Tryd.ntmps15
  go_wp2_with fail
  refine (Q _).out.mono ?_
  rintro e w9 ⟨rfl, rfl⟩
  go_wp2_with fail
  generalize (w.alloc (.cells #[.int .i64 0, .float .f64 0, .int .i64 0, .string ⟨#[]⟩] 24)).alloc (.cells #[.int .i64 0, .float .f64 0, .int .i64 0, .string ⟨#[]⟩] 24) = w1 at S ⊢
  clear S0
  have PA := fun W => Lib.hid (rputact_any 0 0 0 ⟨#[]⟩ I.out W)
  obtain ⟨q, hq⟩ : ∃ q, rightA (a6 0 0 0 ⟨#[]⟩) = q := ⟨_, rfl⟩
  rw [hq] at PA
  simp only [actV] at PA
  refine (PA _).out.mono ?_
  rintro e w3 ⟨rfl, g3⟩
  have S3 := S.out.on g3
  clear S g3 PA
  obtain ⟨a0, a1, a2, a3⟩ := act_cells S3.a
  obtain ⟨r0, r1, r2, r3⟩ := act_cells S3.r
  have z0 := S3.r.frozen 0
  have z1 := S3.r.frozen 1
  have z2 := S3.r.frozen 2
  have z3 := S3.r.frozen 3
  have S3 := Lib.hid S3
  have hst := run_sto_f64
  have G : Hid (GotA s.data.toList ⟨0, zr, 0, []⟩ 4) := GotA.no N.out (fun h => absurd h.1 (by decide))
  cases q
  all_goals
    go_wp2_with fail
    try simp only [Exit.inBlock, Exit.then]
    exact gact_end (blk_set4 S3.out.r (.int .i64 0) (.float .f64 0) (.int .i64 0) (.string ⟨#[]⟩)) rfl rfl ⟨⟨0, 0, 0, ⟨#[]⟩, 4, rfl, ActIn.zero, by rw [a6_zero]; exact G.out⟩, below_set4 S3.out.below (Nat.le_refl _) _ _ _ _⟩

set_option maxRecDepth 100000 in
set_option maxHeartbeats 2000000 in
theorem rget6_g2 (s : ByteArray) (_hs : s.size ≤ 140737488351232) (hp : 0 < s.size) (h0 : s[0] = 2) (h8 : s.size = 9) (w : World) :
    Calls Tryd.prog 15 #[.string s] w fun e w' => RetG e s.data.toList ∧ Below w.heap.size w w' := by
  have S0 := Get6.start w 2 0 0 ⟨#[]⟩
  have hsz : (s.size == 0) = false := by rw [beq_eq_false_iff_ne]; omega
  have hsz' : ((s.size : Int) == 0) = false := by rw [beq_eq_false_iff_ne]; omega
  have hst0 := run_sto_f64
  obtain ⟨t, ht⟩ : ∃ t, s.extract 1 s.size = t := ⟨_, rfl⟩
  have hts : t.size = s.size - 1 := by rw [← ht]; simp
  have hl := list_rest1 s hp
  rw [h0, ht] at hl
  have htl : t.data.toList.length = t.size := (str_size t).symm
  have k3 : (1 : Int) ≤ (s.size : Int) := by omega
  obtain ⟨x, er, Q, HX⟩ := qnum_any t (by omega)
  have S := Lib.hid (Get6.start w 2 x 0 ⟨#[]⟩)
  have I : Hid (ActIn 2 x 0 ⟨#[]⟩) := ⟨HX.1, by decide, by decide, by decide⟩
  have N : Hid (NoOther s.data.toList (a6 2 x 0 ⟨#[]⟩) er) := by
    unfold Hid a6
    rw [hl]
    exact no_most (Or.inl rfl) (by omega) HX
  clear hl htl
  clear h8 hts
  rcases HX.2 with ⟨rfl, _⟩ | ⟨rfl, _⟩
  · clear HX
    go_enter Tryd.func15, Tryd.ntmps15
    go_wp2_with fail
    refine (Q _).out.mono ?_
    rintro e w9 ⟨rfl, rfl⟩
    go_wp2_with fail
    generalize (w.alloc (.cells #[.int .i64 0, .float .f64 0, .int .i64 0, .string ⟨#[]⟩] 24)).alloc (.cells #[.int .i64 2, .float .f64 x, .int .i64 0, .string ⟨#[]⟩] 24) = w1 at S ⊢
    clear S0
    have PA := fun W => Lib.hid (rputact_any 2 x 0 ⟨#[]⟩ I.out W)
    obtain ⟨q, hq⟩ : ∃ q, rightA (a6 2 x 0 ⟨#[]⟩) = q := ⟨_, rfl⟩
    rw [hq] at PA
    simp only [actV] at PA
    refine (PA _).out.mono ?_
    rintro e w3 ⟨rfl, g3⟩
    have S3 := S.out.on g3
    clear S g3 PA
    obtain ⟨a0, a1, a2, a3⟩ := act_cells S3.a
    obtain ⟨r0, r1, r2, r3⟩ := act_cells S3.r
    have z0 := S3.r.frozen 0
    have z1 := S3.r.frozen 1
    have z2 := S3.r.frozen 2
    have z3 := S3.r.frozen 3
    have S3 := Lib.hid S3
    have hst := run_sto_f64
    cases q
    · have G : Hid (GotA s.data.toList ⟨0, zr, 0, []⟩ 4) := GotA.no N.out (fun h => by rw [hq] at h; exact absurd h.2.1 (by decide))
      clear N hq I
      simp only [Bool.false_eq_true, if_false] at *
      go_wp2_with fail
      try simp only [Exit.inBlock, Exit.then]
      exact gact_end (blk_set4 S3.out.r (.int .i64 0) (.float .f64 0) (.int .i64 0) (.string ⟨#[]⟩)) rfl rfl ⟨⟨0, 0, 0, ⟨#[]⟩, 4, rfl, ActIn.zero, by rw [a6_zero]; exact G.out⟩, below_set4 S3.out.below (Nat.le_refl _) _ _ _ _⟩
    · simp only [if_true] at *
      by_cases hs : putAL (a6 2 x 0 ⟨#[]⟩) = s.data.toList
      · have G := Lib.hid (GotA.ok hq hs)
        have hne : (putAL (a6 2 x 0 ⟨#[]⟩) == s.toList) = true := by
          rw [beq_iff_eq, Lib.toList_data]
          exact hs
        clear N hq hs
        generalize putAL (a6 2 x 0 ⟨#[]⟩) = P at *
        go_wp2_with fail
        try simp only [Exit.inBlock, Exit.then]
        exact gact_end (blk_set4 S3.out.r (.int .i64 2) (.float .f64 x) (.int .i64 0) (.string ⟨#[]⟩)) rfl rfl ⟨⟨2, x, 0, ⟨#[]⟩, 0, rfl, I.out, G.out⟩, below_set4 S3.out.below (Nat.le_refl _) _ _ _ _⟩
      · have G : Hid (GotA s.data.toList ⟨0, zr, 0, []⟩ 4) := GotA.no N.out (fun h => hs h.2.2)
        have hne : (putAL (a6 2 x 0 ⟨#[]⟩) == s.toList) = false := by
          rw [beq_eq_false_iff_ne, Lib.toList_data]
          exact hs
        clear N hq hs
        generalize putAL (a6 2 x 0 ⟨#[]⟩) = P at *
        go_wp2_with fail
        try simp only [Exit.inBlock, Exit.then]
        exact gact_end (blk_set4 S3.out.r (.int .i64 0) (.float .f64 0) (.int .i64 0) (.string ⟨#[]⟩)) rfl rfl ⟨⟨0, 0, 0, ⟨#[]⟩, 4, rfl, ActIn.zero, by rw [a6_zero]; exact G.out⟩, below_set4 S3.out.below (Nat.le_refl _) _ _ _ _⟩
  · clear HX
    go_enter Tryd.func15, Tryd.ntmps15
    go_wp2_with fail
    refine (Q _).out.mono ?_
    rintro e w9 ⟨rfl, rfl⟩
    go_wp2_with fail
    generalize (w.alloc (.cells #[.int .i64 0, .float .f64 0, .int .i64 0, .string ⟨#[]⟩] 24)).alloc (.cells #[.int .i64 2, .float .f64 x, .int .i64 0, .string ⟨#[]⟩] 24) = w1 at S ⊢
    clear S0
    have PA := fun W => Lib.hid (rputact_any 2 x 0 ⟨#[]⟩ I.out W)
    obtain ⟨q, hq⟩ : ∃ q, rightA (a6 2 x 0 ⟨#[]⟩) = q := ⟨_, rfl⟩
    rw [hq] at PA
    simp only [actV] at PA
    refine (PA _).out.mono ?_
    rintro e w3 ⟨rfl, g3⟩
    have S3 := S.out.on g3
    clear S g3 PA
    obtain ⟨a0, a1, a2, a3⟩ := act_cells S3.a
    obtain ⟨r0, r1, r2, r3⟩ := act_cells S3.r
    have z0 := S3.r.frozen 0
    have z1 := S3.r.frozen 1
    have z2 := S3.r.frozen 2
    have z3 := S3.r.frozen 3
    have S3 := Lib.hid S3
    have hst := run_sto_f64
    have G : Hid (GotA s.data.toList ⟨0, zr, 0, []⟩ 4) := GotA.no N.out (fun h => absurd h.1 (by decide))
    cases q
    all_goals
      go_wp2_with fail
      try simp only [Exit.inBlock, Exit.then]
      exact gact_end (blk_set4 S3.out.r (.int .i64 0) (.float .f64 0) (.int .i64 0) (.string ⟨#[]⟩)) rfl rfl ⟨⟨0, 0, 0, ⟨#[]⟩, 4, rfl, ActIn.zero, by rw [a6_zero]; exact G.out⟩, below_set4 S3.out.below (Nat.le_refl _) _ _ _ _⟩

set_option maxRecDepth 100000 in
set_option maxHeartbeats 2000000 in
theorem rget6_b2 (s : ByteArray) (hs : s.size ≤ 140737488351232) (hp : 0 < s.size) (h0 : s[0] = 2) (h8 : s.size ≠ 9) (w : World) :
    Calls Tryd.prog 15 #[.string s] w fun e w' => RetG e s.data.toList ∧ Below w.heap.size w w' := by
  have S0 := Get6.start w 2 0 0 ⟨#[]⟩
  have hsz : (s.size == 0) = false := by rw [beq_eq_false_iff_ne]; omega
  have hsz' : ((s.size : Int) == 0) = false := by rw [beq_eq_false_iff_ne]; omega
  have hst0 := run_sto_f64
  obtain ⟨t, ht⟩ : ∃ t, s.extract 1 s.size = t := ⟨_, rfl⟩
  have hts : t.size = s.size - 1 := by rw [← ht]; simp
  have hl := list_rest1 s hp
  rw [h0, ht] at hl
  have htl : t.data.toList.length = t.size := (str_size t).symm
  have k3 : (1 : Int) ≤ (s.size : Int) := by omega
  have Q := fun W => Lib.hid (qget_bad t W (by omega) (by omega))
  have S := Lib.hid (Get6.start w 2 0 0 ⟨#[]⟩)
  have I : Hid (ActIn 2 0 0 ⟨#[]⟩) := ⟨by decide, by decide, by decide, by decide⟩
  have N : Hid (NoOther s.data.toList (a6 2 0 0 ⟨#[]⟩) 4) := by
    unfold Hid a6
    rw [hl]
    exact no_most8 _ 4 (by decide) (by omega)
  clear hl htl
  go_enter Tryd.func15, Tryd.ntmps15
  go_wp2_with fail
  refine (Q _).out.mono ?_
  rintro e w9 ⟨rfl, rfl⟩
  go_wp2_with fail
  generalize (w.alloc (.cells #[.int .i64 0, .float .f64 0, .int .i64 0, .string ⟨#[]⟩] 24)).alloc (.cells #[.int .i64 2, .float .f64 0, .int .i64 0, .string ⟨#[]⟩] 24) = w1 at S ⊢
  clear S0
  have PA := fun W => Lib.hid (rputact_any 2 0 0 ⟨#[]⟩ I.out W)
  obtain ⟨q, hq⟩ : ∃ q, rightA (a6 2 0 0 ⟨#[]⟩) = q := ⟨_, rfl⟩
  rw [hq] at PA
  simp only [actV] at PA
  refine (PA _).out.mono ?_
  rintro e w3 ⟨rfl, g3⟩
  have S3 := S.out.on g3
  clear S g3 PA
  obtain ⟨a0, a1, a2, a3⟩ := act_cells S3.a
  obtain ⟨r0, r1, r2, r3⟩ := act_cells S3.r
  have z0 := S3.r.frozen 0
  have z1 := S3.r.frozen 1
  have z2 := S3.r.frozen 2
  have z3 := S3.r.frozen 3
  have S3 := Lib.hid S3
  have hst := run_sto_f64
  have G : Hid (GotA s.data.toList ⟨0, zr, 0, []⟩ 4) := GotA.no N.out (fun h => absurd h.1 (by decide))
  cases q
  all_goals
    go_wp2_with fail
    try simp only [Exit.inBlock, Exit.then]
    exact gact_end (blk_set4 S3.out.r (.int .i64 0) (.float .f64 0) (.int .i64 0) (.string ⟨#[]⟩)) rfl rfl ⟨⟨0, 0, 0, ⟨#[]⟩, 4, rfl, ActIn.zero, by rw [a6_zero]; exact G.out⟩, below_set4 S3.out.below (Nat.le_refl _) _ _ _ _⟩

set_option maxRecDepth 100000 in
set_option maxHeartbeats 2000000 in
theorem rget6_g3 (s : ByteArray) (_hs : s.size ≤ 140737488351232) (hp : 0 < s.size) (h0 : s[0] = 3) (h8 : s.size = 9) (w : World) :
    Calls Tryd.prog 15 #[.string s] w fun e w' => RetG e s.data.toList ∧ Below w.heap.size w w' := by
  have S0 := Get6.start w 3 0 0 ⟨#[]⟩
  have hsz : (s.size == 0) = false := by rw [beq_eq_false_iff_ne]; omega
  have hsz' : ((s.size : Int) == 0) = false := by rw [beq_eq_false_iff_ne]; omega
  have hst0 := run_sto_f64
  obtain ⟨t, ht⟩ : ∃ t, s.extract 1 s.size = t := ⟨_, rfl⟩
  have hts : t.size = s.size - 1 := by rw [← ht]; simp
  have hl := list_rest1 s hp
  rw [h0, ht] at hl
  have htl : t.data.toList.length = t.size := (str_size t).symm
  have k3 : (1 : Int) ≤ (s.size : Int) := by omega
  obtain ⟨x, er, Q, HX⟩ := qnum_any t (by omega)
  have S := Lib.hid (Get6.start w 3 x 0 ⟨#[]⟩)
  have I : Hid (ActIn 3 x 0 ⟨#[]⟩) := ⟨HX.1, by decide, by decide, by decide⟩
  have N : Hid (NoOther s.data.toList (a6 3 x 0 ⟨#[]⟩) er) := by
    unfold Hid a6
    rw [hl]
    exact no_most (Or.inr rfl) (by omega) HX
  clear hl htl
  clear h8 hts
  rcases HX.2 with ⟨rfl, _⟩ | ⟨rfl, _⟩
  · clear HX
    go_enter Tryd.func15, Tryd.ntmps15
    go_wp2_with fail
    refine (Q _).out.mono ?_
    rintro e w9 ⟨rfl, rfl⟩
    go_wp2_with fail
    generalize (w.alloc (.cells #[.int .i64 0, .float .f64 0, .int .i64 0, .string ⟨#[]⟩] 24)).alloc (.cells #[.int .i64 3, .float .f64 x, .int .i64 0, .string ⟨#[]⟩] 24) = w1 at S ⊢
    clear S0
    have PA := fun W => Lib.hid (rputact_any 3 x 0 ⟨#[]⟩ I.out W)
    obtain ⟨q, hq⟩ : ∃ q, rightA (a6 3 x 0 ⟨#[]⟩) = q := ⟨_, rfl⟩
    rw [hq] at PA
    simp only [actV] at PA
    refine (PA _).out.mono ?_
    rintro e w3 ⟨rfl, g3⟩
    have S3 := S.out.on g3
    clear S g3 PA
    obtain ⟨a0, a1, a2, a3⟩ := act_cells S3.a
    obtain ⟨r0, r1, r2, r3⟩ := act_cells S3.r
    have z0 := S3.r.frozen 0
    have z1 := S3.r.frozen 1
    have z2 := S3.r.frozen 2
    have z3 := S3.r.frozen 3
    have S3 := Lib.hid S3
    have hst := run_sto_f64
    cases q
    · have G : Hid (GotA s.data.toList ⟨0, zr, 0, []⟩ 4) := GotA.no N.out (fun h => by rw [hq] at h; exact absurd h.2.1 (by decide))
      clear N hq I
      simp only [Bool.false_eq_true, if_false] at *
      go_wp2_with fail
      try simp only [Exit.inBlock, Exit.then]
      exact gact_end (blk_set4 S3.out.r (.int .i64 0) (.float .f64 0) (.int .i64 0) (.string ⟨#[]⟩)) rfl rfl ⟨⟨0, 0, 0, ⟨#[]⟩, 4, rfl, ActIn.zero, by rw [a6_zero]; exact G.out⟩, below_set4 S3.out.below (Nat.le_refl _) _ _ _ _⟩
    · simp only [if_true] at *
      by_cases hs : putAL (a6 3 x 0 ⟨#[]⟩) = s.data.toList
      · have G := Lib.hid (GotA.ok hq hs)
        have hne : (putAL (a6 3 x 0 ⟨#[]⟩) == s.toList) = true := by
          rw [beq_iff_eq, Lib.toList_data]
          exact hs
        clear N hq hs
        generalize putAL (a6 3 x 0 ⟨#[]⟩) = P at *
        go_wp2_with fail
        try simp only [Exit.inBlock, Exit.then]
        exact gact_end (blk_set4 S3.out.r (.int .i64 3) (.float .f64 x) (.int .i64 0) (.string ⟨#[]⟩)) rfl rfl ⟨⟨3, x, 0, ⟨#[]⟩, 0, rfl, I.out, G.out⟩, below_set4 S3.out.below (Nat.le_refl _) _ _ _ _⟩
      · have G : Hid (GotA s.data.toList ⟨0, zr, 0, []⟩ 4) := GotA.no N.out (fun h => hs h.2.2)
        have hne : (putAL (a6 3 x 0 ⟨#[]⟩) == s.toList) = false := by
          rw [beq_eq_false_iff_ne, Lib.toList_data]
          exact hs
        clear N hq hs
        generalize putAL (a6 3 x 0 ⟨#[]⟩) = P at *
        go_wp2_with fail
        try simp only [Exit.inBlock, Exit.then]
        exact gact_end (blk_set4 S3.out.r (.int .i64 0) (.float .f64 0) (.int .i64 0) (.string ⟨#[]⟩)) rfl rfl ⟨⟨0, 0, 0, ⟨#[]⟩, 4, rfl, ActIn.zero, by rw [a6_zero]; exact G.out⟩, below_set4 S3.out.below (Nat.le_refl _) _ _ _ _⟩
  · clear HX
    go_enter Tryd.func15, Tryd.ntmps15
    go_wp2_with fail
    refine (Q _).out.mono ?_
    rintro e w9 ⟨rfl, rfl⟩
    go_wp2_with fail
    generalize (w.alloc (.cells #[.int .i64 0, .float .f64 0, .int .i64 0, .string ⟨#[]⟩] 24)).alloc (.cells #[.int .i64 3, .float .f64 x, .int .i64 0, .string ⟨#[]⟩] 24) = w1 at S ⊢
    clear S0
    have PA := fun W => Lib.hid (rputact_any 3 x 0 ⟨#[]⟩ I.out W)
    obtain ⟨q, hq⟩ : ∃ q, rightA (a6 3 x 0 ⟨#[]⟩) = q := ⟨_, rfl⟩
    rw [hq] at PA
    simp only [actV] at PA
    refine (PA _).out.mono ?_
    rintro e w3 ⟨rfl, g3⟩
    have S3 := S.out.on g3
    clear S g3 PA
    obtain ⟨a0, a1, a2, a3⟩ := act_cells S3.a
    obtain ⟨r0, r1, r2, r3⟩ := act_cells S3.r
    have z0 := S3.r.frozen 0
    have z1 := S3.r.frozen 1
    have z2 := S3.r.frozen 2
    have z3 := S3.r.frozen 3
    have S3 := Lib.hid S3
    have hst := run_sto_f64
    have G : Hid (GotA s.data.toList ⟨0, zr, 0, []⟩ 4) := GotA.no N.out (fun h => absurd h.1 (by decide))
    cases q
    all_goals
      go_wp2_with fail
      try simp only [Exit.inBlock, Exit.then]
      exact gact_end (blk_set4 S3.out.r (.int .i64 0) (.float .f64 0) (.int .i64 0) (.string ⟨#[]⟩)) rfl rfl ⟨⟨0, 0, 0, ⟨#[]⟩, 4, rfl, ActIn.zero, by rw [a6_zero]; exact G.out⟩, below_set4 S3.out.below (Nat.le_refl _) _ _ _ _⟩

set_option maxRecDepth 100000 in
set_option maxHeartbeats 2000000 in
theorem rget6_b3 (s : ByteArray) (hs : s.size ≤ 140737488351232) (hp : 0 < s.size) (h0 : s[0] = 3) (h8 : s.size ≠ 9) (w : World) :
    Calls Tryd.prog 15 #[.string s] w fun e w' => RetG e s.data.toList ∧ Below w.heap.size w w' := by
  have S0 := Get6.start w 3 0 0 ⟨#[]⟩
  have hsz : (s.size == 0) = false := by rw [beq_eq_false_iff_ne]; omega
  have hsz' : ((s.size : Int) == 0) = false := by rw [beq_eq_false_iff_ne]; omega
  have hst0 := run_sto_f64
  obtain ⟨t, ht⟩ : ∃ t, s.extract 1 s.size = t := ⟨_, rfl⟩
  have hts : t.size = s.size - 1 := by rw [← ht]; simp
  have hl := list_rest1 s hp
  rw [h0, ht] at hl
  have htl : t.data.toList.length = t.size := (str_size t).symm
  have k3 : (1 : Int) ≤ (s.size : Int) := by omega
  have Q := fun W => Lib.hid (qget_bad t W (by omega) (by omega))
  have S := Lib.hid (Get6.start w 3 0 0 ⟨#[]⟩)
  have I : Hid (ActIn 3 0 0 ⟨#[]⟩) := ⟨by decide, by decide, by decide, by decide⟩
  have N : Hid (NoOther s.data.toList (a6 3 0 0 ⟨#[]⟩) 4) := by
    unfold Hid a6
    rw [hl]
    exact no_most8 _ 4 (by decide) (by omega)
  clear hl htl
  go_enter Tryd.func15, Tryd.ntmps15
  go_wp2_with fail
  refine (Q _).out.mono ?_
  rintro e w9 ⟨rfl, rfl⟩
  go_wp2_with fail
  generalize (w.alloc (.cells #[.int .i64 0, .float .f64 0, .int .i64 0, .string ⟨#[]⟩] 24)).alloc (.cells #[.int .i64 3, .float .f64 0, .int .i64 0, .string ⟨#[]⟩] 24) = w1 at S ⊢
  clear S0
  have PA := fun W => Lib.hid (rputact_any 3 0 0 ⟨#[]⟩ I.out W)
  obtain ⟨q, hq⟩ : ∃ q, rightA (a6 3 0 0 ⟨#[]⟩) = q := ⟨_, rfl⟩
  rw [hq] at PA
  simp only [actV] at PA
  refine (PA _).out.mono ?_
  rintro e w3 ⟨rfl, g3⟩
  have S3 := S.out.on g3
  clear S g3 PA
  obtain ⟨a0, a1, a2, a3⟩ := act_cells S3.a
  obtain ⟨r0, r1, r2, r3⟩ := act_cells S3.r
  have z0 := S3.r.frozen 0
  have z1 := S3.r.frozen 1
  have z2 := S3.r.frozen 2
  have z3 := S3.r.frozen 3
  have S3 := Lib.hid S3
  have hst := run_sto_f64
  have G : Hid (GotA s.data.toList ⟨0, zr, 0, []⟩ 4) := GotA.no N.out (fun h => absurd h.1 (by decide))
  cases q
  all_goals
    go_wp2_with fail
    try simp only [Exit.inBlock, Exit.then]
    exact gact_end (blk_set4 S3.out.r (.int .i64 0) (.float .f64 0) (.int .i64 0) (.string ⟨#[]⟩)) rfl rfl ⟨⟨0, 0, 0, ⟨#[]⟩, 4, rfl, ActIn.zero, by rw [a6_zero]; exact G.out⟩, below_set4 S3.out.below (Nat.le_refl _) _ _ _ _⟩

set_option maxRecDepth 100000 in
set_option maxHeartbeats 2000000 in
theorem rget6_1x (s : ByteArray) (hs : s.size ≤ 140737488351232) (hp : 0 < s.size) (h0 : s[0] = 1) (h8 : s.size ≠ 9) (w : World) :
    Calls Tryd.prog 15 #[.string s] w fun e w' => RetG e s.data.toList ∧ Below w.heap.size w w' := by
  have S0 := Get6.start w 1 0 0 ⟨#[]⟩
  have hsz : (s.size == 0) = false := by rw [beq_eq_false_iff_ne]; omega
  have hsz' : ((s.size : Int) == 0) = false := by rw [beq_eq_false_iff_ne]; omega
  have hst0 := run_sto_f64
  have N : Hid (NoOther s.data.toList (a6 1 0 0 ⟨#[]⟩) 4) := by
    obtain ⟨l, hl, hll⟩ := list_one s hp
    rw [h0] at hl
    unfold Hid
    rw [hl]
    exact no_int8 _ 4 (by omega)
  have I : Hid (ActIn 1 0 0 ⟨#[]⟩) := ⟨by decide, by decide, by decide, by decide⟩
  have k9 : ((s.size : Int) == 9) = false := by rw [beq_eq_false_iff_ne]; omega
  have S := Lib.hid S0
  go_enter Tryd.func15, Tryd.ntmps15
  go_wp2_with fail
  generalize (w.alloc (.cells #[.int .i64 0, .float .f64 0, .int .i64 0, .string ⟨#[]⟩] 24)).alloc (.cells #[.int .i64 1, .float .f64 0, .int .i64 0, .string ⟨#[]⟩] 24) = w1 at S ⊢
  clear S0
  have PA := fun W => Lib.hid (rputact_any 1 0 0 ⟨#[]⟩ I.out W)
  obtain ⟨q, hq⟩ : ∃ q, rightA (a6 1 0 0 ⟨#[]⟩) = q := ⟨_, rfl⟩
  rw [hq] at PA
  simp only [actV] at PA
  refine (PA _).out.mono ?_
  rintro e w3 ⟨rfl, g3⟩
  have S3 := S.out.on g3
  clear S g3 PA
  obtain ⟨a0, a1, a2, a3⟩ := act_cells S3.a
  obtain ⟨r0, r1, r2, r3⟩ := act_cells S3.r
  have z0 := S3.r.frozen 0
  have z1 := S3.r.frozen 1
  have z2 := S3.r.frozen 2
  have z3 := S3.r.frozen 3
  have S3 := Lib.hid S3
  have hst := run_sto_f64
  have G : Hid (GotA s.data.toList ⟨0, zr, 0, []⟩ 4) := GotA.no N.out (fun h => absurd h.1 (by decide))
  cases q
  all_goals
    go_wp2_with fail
    try simp only [Exit.inBlock, Exit.then]
    exact gact_end (blk_set4 S3.out.r (.int .i64 0) (.float .f64 0) (.int .i64 0) (.string ⟨#[]⟩)) rfl rfl ⟨⟨0, 0, 0, ⟨#[]⟩, 4, rfl, ActIn.zero, by rw [a6_zero]; exact G.out⟩, below_set4 S3.out.below (Nat.le_refl _) _ _ _ _⟩

end Go.Proofs.YthacdegaeokgnaaDoor

namespace Go.Proofs.YthacdegaeokgnaaDoor
open Go.RowKit

/-- The number so far. -/
def sofar (s : ByteArray) (j : Nat) : Int := wrap64 (getL ((s.data.toList.drop 1).take j))
theorem or_byte (n c : Nat) (hc : c < 256) : bits .or .i64 (wrap64 (wrap64 (n : Int) * 256)) (wrap64 (c : Int)) = wrap64 (((n * 256 + c : Nat)) : Int) := by
  have e1 : (BitVec.ofInt 64 (wrap64 (wrap64 (n : Int) * 256))).toNat = (n % 72057594037927936) <<< 8 := by
    rw [BitVec.toNat_ofInt, Nat.shiftLeft_eq]
    unfold wrap64
    omega
  have e2 : (BitVec.ofInt 64 (wrap64 (c : Int))).toNat = c := by
    rw [BitVec.toNat_ofInt]
    unfold wrap64
    omega
  show IntKind.i64.wrap ((BitVec.ofInt 64 (wrap64 (wrap64 (n : Int) * 256)) ||| BitVec.ofInt 64 (wrap64 (c : Int))).toNat : Int) = _
  rw [BitVec.toNat_or, e1, e2, ← Nat.shiftLeft_add_eq_or_of_lt (by omega), Nat.shiftLeft_eq, IntKind.wrap_i64]
  unfold wrap64
  omega
theorem sofar_step (s : ByteArray) (k : Nat) (h : k + 1 < s.size) : sofar s (k + 1) = bits .or .i64 (wrap64 (sofar s k * 256)) (wrap64 (s[k + 1].toNat : Int)) := by
  have hln : s.data.toList.length = s.size := (str_size s).symm
  have hk : k < (s.data.toList.drop 1).length := by rw [List.length_drop]; omega
  have hg : (s.data.toList.drop 1)[k] = s[k + 1] := by
    rw [List.getElem_drop]
    have : s[k + 1] = s.data.toList[k + 1]'(by omega) := rfl
    rw [this]
    congr 1
    omega
  unfold sofar
  rw [or_byte _ _ (UInt8.toNat_lt _), List.take_succ_eq_append_getElem hk, hg]
  unfold getL
  rw [List.foldl_append]
  rfl
theorem sofar_wf (s : ByteArray) (j : Nat) : (Lit.int .i64 (sofar s j)).wf = true := wrap_wf _

set_option maxRecDepth 100000 in
set_option maxHeartbeats 2000000 in
theorem rget6_1 (s : ByteArray) (_hs : s.size ≤ 140737488351232) (hp : 0 < s.size) (h0 : s[0] = 1) (h8 : s.size = 9) (w : World) :
    Calls Tryd.prog 15 #[.string s] w fun e w' => RetG e s.data.toList ∧ Below w.heap.size w w' := by
  have S0 := Get6.start w 1 0 0 ⟨#[]⟩
  have hsz : (s.size == 0) = false := by rw [beq_eq_false_iff_ne]; omega
  have hsz' : ((s.size : Int) == 0) = false := by rw [beq_eq_false_iff_ne]; omega
  have k9 : ((s.size : Int) == 9) = true := by rw [beq_iff_eq]; omega
  have hst0 := run_sto_f64
  have H8 := Lib.hid h8
  have N : Hid (NoOther s.data.toList (a6 1 0 (sofar s 8) ⟨#[]⟩) 0) := by
    have hl := list_rest1 s hp
    have hd : s.data.toList.drop 1 = (s.extract 1 s.size).data.toList := by rw [hl]; rfl
    have hln : (s.extract 1 s.size).data.toList.length = 8 := by rw [← str_size]; simp; omega
    unfold Hid a6 sofar
    rw [hd, List.take_of_length_le (Nat.le_of_eq hln), hl, h0, rank_zero]
    exact no_int hln
  have I : Hid (ActIn 1 0 (sofar s 8) ⟨#[]⟩) := ⟨by decide, by decide, sofar_wf s 8, by decide⟩
  clear h8
  go_enter Tryd.func15, Tryd.ntmps15
  go_wp2_with fail
  generalize (w.alloc (.cells #[.int .i64 0, .float .f64 0, .int .i64 0, .string ⟨#[]⟩] 24)).alloc (.cells #[.int .i64 1, .float .f64 0, .int .i64 0, .string ⟨#[]⟩] 24) = w1 at S0 ⊢
  go_loopw [6] (fun i wr => ∃ k : Nat, k ≤ 8 ∧ i = .int .i64 ((k : Int) + 1) ∧ Get6 w 1 0 (sofar s k) ⟨#[]⟩ wr)
    (fun i _ => (9 - intOf i).toNat)
  case atStart => exact ⟨0, by omega, rfl, by rw [show sofar s 0 = 0 from by unfold sofar; rw [List.take_zero]; decide +kernel]; exact S0⟩
  case round =>
    obtain ⟨k, hk, rfl, S⟩ := hrel
    obtain ⟨a0, a1, a2, a3⟩ := act_cells S.a
    have z2 := S.a.frozen 2
    by_cases hlt : k < 8
    · have hlt' : (k : Int) + 1 < 9 := by omega
      have hpos : (0 : Int) ≤ (k : Int) + 1 := by omega
      have hix : k + 1 < s.size := by have := H8.out; omega
      have hix' : (k : Int) + 1 < (s.size : Int) := by omega
      have S := Lib.hid S
      have E := Lib.hid (sofar_step s k hix)
      generalize sofar s k = V at *
      go_wp2_with fail
      go_region
      simp only [Exit.inBlock, Exit.then]
      rw [← E.out]
      go_wp2_with fail
      go_roundw
      case rel => exact ⟨k + 1, by omega, by go_num, (S.out.int _).drew⟩
      case measure => simp [intOf]; omega
    · obtain rfl : k = 8 := by omega
      have S := Lib.hid S
      generalize sofar s 8 = V at *
      go_wp2_with fail
      have PA := fun W => Lib.hid (rputact_any 1 0 V ⟨#[]⟩ I.out W)
      obtain ⟨q, hq⟩ : ∃ q, rightA (a6 1 0 V ⟨#[]⟩) = q := ⟨_, rfl⟩
      rw [hq] at PA
      simp only [actV] at PA
      refine (PA _).out.mono ?_
      rintro e w3 ⟨rfl, g3⟩
      have S3 := S.out.on g3
      clear S g3 PA
      obtain ⟨a0, a1, a2, a3⟩ := act_cells S3.a
      obtain ⟨r0, r1, r2, r3⟩ := act_cells S3.r
      have z0 := S3.r.frozen 0
      have z1 := S3.r.frozen 1
      have z2 := S3.r.frozen 2
      have z3 := S3.r.frozen 3
      have S3 := Lib.hid S3
      have hst := run_sto_f64
      cases q
      · have G : Hid (GotA s.data.toList ⟨0, zr, 0, []⟩ 4) := GotA.no N.out (fun h => by rw [hq] at h; exact absurd h.2.1 (by decide))
        clear N hq I
        simp only [Bool.false_eq_true, if_false] at *
        go_wp2_with fail
        try simp only [Exit.inBlock, Exit.then]
        exact gact_end (blk_set4 S3.out.r (.int .i64 0) (.float .f64 0) (.int .i64 0) (.string ⟨#[]⟩)) rfl rfl ⟨⟨0, 0, 0, ⟨#[]⟩, 4, rfl, ActIn.zero, by rw [a6_zero]; exact G.out⟩, below_set4 S3.out.below (Nat.le_refl _) _ _ _ _⟩
      · simp only [if_true] at *
        by_cases hs : putAL (a6 1 0 V ⟨#[]⟩) = s.data.toList
        · have G := Lib.hid (GotA.ok hq hs)
          have hne : (putAL (a6 1 0 V ⟨#[]⟩) == s.toList) = true := by
            rw [beq_iff_eq, Lib.toList_data]
            exact hs
          clear N hq hs
          generalize putAL (a6 1 0 V ⟨#[]⟩) = P at *
          go_wp2_with fail
          try simp only [Exit.inBlock, Exit.then]
          exact gact_end (blk_set4 S3.out.r (.int .i64 1) (.float .f64 0) (.int .i64 V) (.string ⟨#[]⟩)) rfl rfl ⟨⟨1, 0, V, ⟨#[]⟩, 0, rfl, I.out, G.out⟩, below_set4 S3.out.below (Nat.le_refl _) _ _ _ _⟩
        · have G : Hid (GotA s.data.toList ⟨0, zr, 0, []⟩ 4) := GotA.no N.out (fun h => hs h.2.2)
          have hne : (putAL (a6 1 0 V ⟨#[]⟩) == s.toList) = false := by
            rw [beq_eq_false_iff_ne, Lib.toList_data]
            exact hs
          clear N hq hs
          generalize putAL (a6 1 0 V ⟨#[]⟩) = P at *
          go_wp2_with fail
          try simp only [Exit.inBlock, Exit.then]
          exact gact_end (blk_set4 S3.out.r (.int .i64 0) (.float .f64 0) (.int .i64 0) (.string ⟨#[]⟩)) rfl rfl ⟨⟨0, 0, 0, ⟨#[]⟩, 4, rfl, ActIn.zero, by rw [a6_zero]; exact G.out⟩, below_set4 S3.out.below (Nat.le_refl _) _ _ _ _⟩


/-- The document's own reading of bytes. -/
theorem rgetact_any (s : ByteArray) (hs : s.size ≤ 140737488351232) (w : World) :
    Calls Tryd.prog 15 #[.string s] w fun e w' => RetG e s.data.toList ∧ Below w.heap.size w w' := by
  by_cases hz : s.size = 0
  · exact rget6_nil s hz w
  have hp : 0 < s.size := by omega
  by_cases hb : 4 < s[0].toNat
  · exact rget6_big s hp hb w
  have hc : s[0] = 0 ∨ s[0] = 1 ∨ s[0] = 2 ∨ s[0] = 3 ∨ s[0] = 4 := by
    have hk : s[0].toNat = 0 ∨ s[0].toNat = 1 ∨ s[0].toNat = 2 ∨ s[0].toNat = 3 ∨ s[0].toNat = 4 := by omega
    rcases hk with h | h | h | h | h
    · exact Or.inl (UInt8.toNat_inj.1 h)
    · exact Or.inr (Or.inl (UInt8.toNat_inj.1 h))
    · exact Or.inr (Or.inr (Or.inl (UInt8.toNat_inj.1 h)))
    · exact Or.inr (Or.inr (Or.inr (Or.inl (UInt8.toNat_inj.1 h))))
    · exact Or.inr (Or.inr (Or.inr (Or.inr (UInt8.toNat_inj.1 h))))
  rcases hc with h0 | h0 | h0 | h0 | h0
  · by_cases h1 : s.size = 1
    · exact rget6_0a s hs h1 hp h0 w
    have hp1 : 1 < s.size := by omega
    by_cases ht : s[1] = 116
    · by_cases h2 : 2 < s.size
      · exact rget6_0t s hs h2 hp1 h0 ht w
      · exact rget6_0b s hs (by omega) hp1 h0 ht w
    · by_cases hn : s[1] = 110
      · by_cases h8 : s.size = 10
        · exact rget6_gn s hs hp1 h0 hn h8 w
        · by_cases h2 : 2 < s.size
          · exact rget6_nbp s hs hp1 h0 hn h8 h2 w
          · exact rget6_nbq s hs hp1 h0 hn h8 h2 w
      · by_cases h2 : 2 < s.size
        · exact rget6_0c s hs h2 hp1 h0 ht hn w
        · exact rget6_0d s hs h2 hp1 h0 ht hn w
  · by_cases h8 : s.size = 9
    · exact rget6_1 s hs hp h0 h8 w
    · exact rget6_1x s hs hp h0 h8 w
  · by_cases h8 : s.size = 9
    · exact rget6_g2 s hs hp h0 h8 w
    · exact rget6_b2 s hs hp h0 h8 w
  · by_cases h8 : s.size = 9
    · exact rget6_g3 s hs hp h0 h8 w
    · exact rget6_b3 s hs hp h0 h8 w
  · exact rget6_4 s hs hp h0 w
end Go.Proofs.YthacdegaeokgnaaDoor

namespace Go.Proofs.YthacdegaeokgnaaDoor
open Go.RowKit

/-- The reader holds what is left. -/
abbrev ORd (w : World) (p : Nat) (s : ByteArray) : Prop := Blk w p 64 #[.string s]
/-- A step gave up. -/
abbrev oGave : Ending := .panicked [{ v := .iface 28 (.int .i64 4), recovered := false }]

theorem ext_size (s : ByteArray) (k : Nat) (_h : k ≤ s.size) : (s.extract k s.size).size = s.size - k := by simp [ByteArray.size_extract]
theorem ext_first (s : ByteArray) (h : 0 < s.size) : (s.extract 0 1).size = 1 := by simp [ByteArray.size_extract]; omega
theorem ext_get (s : ByteArray) (a b i : Nat) (h : i < (s.extract a b).size) (h2 : a + i < s.size) : (s.extract a b)[i] = s[a + i] := by
  have e1 : (s.extract a b).data.toList.length = (s.extract a b).size := (str_size _).symm
  have e2 : s.data.toList.length = s.size := (str_size _).symm
  have h3 : i < ((s.data.toList.drop a).take (b - a)).length := by rw [← cut_list]; omega
  have h4 : (s.extract a b)[i] = (s.extract a b).data.toList[i]'(by omega) := rfl
  have h5 : s[a + i] = s.data.toList[a + i]'(by omega) := rfl
  rw [h4, h5, List.getElem_of_eq (cut_list s a b)]
  simp
theorem ext_first_at (s : ByteArray) (h : 0 < s.size) (h1 : 0 < (s.extract 0 1).size) : (s.extract 0 1)[0] = s[0] := by
  have := ext_get s 0 1 0 h1 (by omega)
  simpa using this
theorem bytes_list {X Y : ByteArray} (h : X.data.toList = Y.data.toList) : X = Y := ByteArray.ext (Array.toList_inj.1 h)

set_option maxRecDepth 100000 in
set_option maxHeartbeats 2000000 in
theorem otake_ok (p : Nat) (s : ByteArray) (k : Nat) (w : World) (B : ORd w p s) (hk : k ≤ s.size) (_hs : s.size ≤ 140737488351232) :
    Calls Tryd.prog 91 #[.pointer (some ⟨p, 0, none⟩), .int .i64 (k : Int)] w fun e w' => e = .returned (.string (s.extract 0 k)) ∧ ORd w' p (s.extract k s.size) ∧ w.grownBy w' (some p) := by
  have c0 : w.cell? ⟨p, 0, none⟩ = some (.string s) := B.cell 0
  have f0 := B.frozen 0
  have hk1 : ¬ (s.size : Int) < (k : Int) := by omega
  have hk2 : (k : Int) ≤ (s.size : Int) := by omega
  have B := Lib.hid B
  clear hk
  go_enter Tryd.func91, Tryd.ntmps91
  go_wp2_with fail
  go_ret
  exact ⟨rfl, B.out.set_ 0 _, only_setCell (kgrow_refl w (some p)) (Or.inl rfl) _⟩

set_option maxRecDepth 100000 in
set_option maxHeartbeats 2000000 in
theorem otake_short (p : Nat) (s : ByteArray) (k : Nat) (w : World) (B : ORd w p s) (hk : s.size < k) :
    Calls Tryd.prog 91 #[.pointer (some ⟨p, 0, none⟩), .int .i64 (k : Int)] w fun e w' => e = oGave ∧ w' = w := by
  have c0 : w.cell? ⟨p, 0, none⟩ = some (.string s) := B.cell 0
  have hk1 : (s.size : Int) < (k : Int) := by omega
  clear hk
  go_enter Tryd.func91, Tryd.ntmps91
  go_wp2_with fail
  exact ⟨rfl, rfl, rfl⟩

set_option maxRecDepth 100000 in
set_option maxHeartbeats 2000000 in
theorem onext_ok (p : Nat) (s : ByteArray) (w : World) (B : ORd w p s) (hk : 0 < s.size) (hs : s.size ≤ 140737488351232) :
    Calls Tryd.prog 66 #[.pointer (some ⟨p, 0, none⟩)] w fun e w' => e = .returned (.int .u8 (s[0].toNat : Int)) ∧ ORd w' p (s.extract 1 s.size) ∧ w.grownBy w' (some p) := by
  have T := Lib.hid (otake_ok p s 1 w B hk hs)
  have h1 := ext_first s hk
  have h2 := ext_first_at s hk (by omega)
  obtain ⟨c, hc⟩ : ∃ c, s[0] = c := ⟨_, rfl⟩
  rw [hc] at h2 ⊢
  obtain ⟨u, hu⟩ : ∃ u, s.extract 0 1 = u := ⟨_, rfl⟩
  simp only [hu] at h1 h2 T
  have h3 : 0 < u.size := by omega
  have h2 : u[0] = c := h2
  clear hc hk
  go_enter Tryd.func66, Tryd.ntmps66
  go_wp2_with fail
  refine T.out.mono ?_
  rintro e w1 ⟨rfl, B1, g1⟩
  go_wp2_with fail
  go_ret
  exact ⟨rfl, B1, g1⟩

set_option maxRecDepth 100000 in
set_option maxHeartbeats 2000000 in
theorem onext_short (p : Nat) (s : ByteArray) (w : World) (B : ORd w p s) (hk : s.size = 0) :
    Calls Tryd.prog 66 #[.pointer (some ⟨p, 0, none⟩)] w fun e w' => e = oGave ∧ w' = w := by
  have T := Lib.hid (otake_short p s 1 w B (by omega))
  go_enter Tryd.func66, Tryd.ntmps66
  go_wp2_with fail
  refine T.out.mono ?_
  rintro e w1 ⟨rfl, rfl⟩
  go_wp2_with fail
  exact ⟨rfl, rfl, rfl⟩

/-- What the landed Get tells of eight bytes. -/
theorem getF_num (r : Nat) (hr : r < 18446744073709551616) : NumAt r (getF r).1 (getF r).2 := by
  unfold getF
  by_cases h : rankN (unrankN r) = r
  · rw [if_pos h]
    exact ⟨unrankN_lt r hr, Or.inl ⟨rfl, h⟩⟩
  · rw [if_neg h]
    refine ⟨by decide, Or.inr ⟨rfl, ?_⟩⟩
    intro y hy he
    cases hy' : isN y
    · have := unrank_rank y hy hy'
      rw [he] at this
      rw [this] at h
      exact h he
    · rw [rank_nan y hy'] at he
      rw [← he] at h
      exact h (by decide)
theorem fnum_any (s : ByteArray) (h : s.size = 8) : ∃ x er, (∀ W : World, Hid (Calls Tryd.prog 93 #[.string s] W fun e w' => e = .returned (.tuple #[.float .f64 x, .int .i64 er]) ∧ W = w')) ∧ NumAt (getL s.data.toList) x er := by
  have hlt : getL s.data.toList < 18446744073709551616 := by
    have := getL_lt s.data.toList
    rw [show s.data.toList.length = 8 from h] at this
    exact this
  exact ⟨_, _, fun W => fget_ok s W h, getF_num _ hlt⟩

set_option maxRecDepth 100000 in
set_option maxHeartbeats 2000000 in
theorem onum_ok (p : Nat) (s : ByteArray) (x : Nat) (w : World) (B : ORd w p s) (hk : 8 ≤ s.size) (hs : s.size ≤ 140737488351232)
    (G : ∀ W : World, Calls Tryd.prog 93 #[.string (s.extract 0 8)] W fun e w' => e = .returned (.tuple #[.float .f64 x, .int .i64 0]) ∧ W = w') :
    Calls Tryd.prog 69 #[.pointer (some ⟨p, 0, none⟩)] w fun e w' => e = .returned (.float .f64 x) ∧ ORd w' p (s.extract 8 s.size) ∧ w.grownBy w' (some p) := by
  have T := Lib.hid (otake_ok p s 8 w B hk hs)
  go_enter Tryd.func69, Tryd.ntmps69
  go_wp2_with fail
  refine T.out.mono ?_
  rintro e w1 ⟨rfl, B1, g1⟩
  go_wp2_with fail
  refine (G _).mono ?_
  rintro e w2 ⟨rfl, rfl⟩
  go_wp2_with fail
  go_ret
  exact ⟨rfl, B1, g1⟩

set_option maxRecDepth 100000 in
set_option maxHeartbeats 2000000 in
theorem onum_bad (p : Nat) (s : ByteArray) (x : Nat) (w : World) (B : ORd w p s) (hk : 8 ≤ s.size) (hs : s.size ≤ 140737488351232)
    (G : ∀ W : World, Calls Tryd.prog 93 #[.string (s.extract 0 8)] W fun e w' => e = .returned (.tuple #[.float .f64 x, .int .i64 4]) ∧ W = w') :
    Calls Tryd.prog 69 #[.pointer (some ⟨p, 0, none⟩)] w fun e w' => e = oGave ∧ w.grownBy w' (some p) := by
  have T := Lib.hid (otake_ok p s 8 w B hk hs)
  go_enter Tryd.func69, Tryd.ntmps69
  go_wp2_with fail
  refine T.out.mono ?_
  rintro e w1 ⟨rfl, B1, g1⟩
  go_wp2_with fail
  refine (G _).mono ?_
  rintro e w2 ⟨rfl, rfl⟩
  go_wp2_with fail
  exact ⟨rfl, rfl, g1⟩

set_option maxRecDepth 100000 in
set_option maxHeartbeats 2000000 in
theorem onum_short (p : Nat) (s : ByteArray) (w : World) (B : ORd w p s) (hk : s.size < 8) :
    Calls Tryd.prog 69 #[.pointer (some ⟨p, 0, none⟩)] w fun e w' => e = oGave ∧ w' = w := by
  have T := Lib.hid (otake_short p s 8 w B hk)
  go_enter Tryd.func69, Tryd.ntmps69
  go_wp2_with fail
  refine T.out.mono ?_
  rintro e w1 ⟨rfl, rfl⟩
  go_wp2_with fail
  exact ⟨rfl, rfl, rfl⟩

set_option maxRecDepth 100000 in
set_option maxHeartbeats 2000000 in
theorem otext_ok (p : Nat) (s : ByteArray) (w : World) (B : ORd w p s) (hk : 0 < s.size) (hs : s.size ≤ 140737488351232) :
    Calls Tryd.prog 92 #[.pointer (some ⟨p, 0, none⟩)] w fun e w' => e = .returned (.string s) ∧ ORd w' p ⟨#[]⟩ ∧ w.grownBy w' (some p) := by
  have c0 : w.cell? ⟨p, 0, none⟩ = some (.string s) := B.cell 0
  have T := otake_ok p s s.size w B (Nat.le_refl _) hs
  have e1 : s.extract 0 s.size = s := by
    apply ByteArray.ext
    simp
  have e2 : s.extract s.size s.size = (⟨#[]⟩ : ByteArray) := by
    apply ByteArray.ext
    simp
  rw [e1, e2] at T
  have T := Lib.hid T
  have hn : (s.toList == []) = false := by
    rw [str_nil, decide_eq_false]
    intro h
    have : s.data.toList.length = s.size := (str_size s).symm
    rw [h] at this
    simp at this
    omega
  clear e1 e2 hk
  go_enter Tryd.func92, Tryd.ntmps92
  go_wp2_with fail
  refine T.out.mono ?_
  rintro e w1 ⟨rfl, B1, g1⟩
  go_wp2_with fail
  go_ret
  exact ⟨rfl, B1, g1⟩

set_option maxRecDepth 100000 in
set_option maxHeartbeats 2000000 in
theorem otext_short (p : Nat) (s : ByteArray) (w : World) (B : ORd w p s) (hk : s.size = 0) :
    Calls Tryd.prog 92 #[.pointer (some ⟨p, 0, none⟩)] w fun e w' => e = oGave ∧ w' = w := by
  have c0 : w.cell? ⟨p, 0, none⟩ = some (.string s) := B.cell 0
  have hn : (s.toList == []) = true := by
    rw [str_nil, decide_eq_true]
    have : s.data.toList.length = s.size := (str_size s).symm
    exact List.eq_nil_of_length_eq_zero (by omega)
  clear hk
  go_enter Tryd.func92, Tryd.ntmps92
  go_wp2_with fail
  exact ⟨rfl, rfl, rfl⟩

/-- The number so far, of the bytes from the first one on. -/
def sofar0 (s : ByteArray) (j : Nat) : Int := wrap64 (getL (s.data.toList.take j))
theorem sofar0_step (s : ByteArray) (k : Nat) (h : k < s.size) : sofar0 s (k + 1) = bits .or .i64 (wrap64 (sofar0 s k * 256)) (wrap64 (s[k].toNat : Int)) := by
  have hln : s.data.toList.length = s.size := (str_size s).symm
  have hk : k < s.data.toList.length := by omega
  have hg : s.data.toList[k] = s[k] := rfl
  unfold sofar0
  rw [or_byte _ _ (UInt8.toNat_lt _), List.take_succ_eq_append_getElem hk, hg]
  unfold getL
  rw [List.foldl_append]
  rfl
theorem ext_ext (s : ByteArray) (k : Nat) (h : k < s.size) : (s.extract k s.size).extract 1 (s.extract k s.size).size = s.extract (k + 1) s.size := by
  have e2 : s.data.toList.length = s.size := (str_size _).symm
  apply bytes_list
  rw [cut_list, ext_size s k (by omega), cut_list, cut_list, List.take_of_length_le (l := s.data.toList.drop k) (by rw [List.length_drop]; omega), List.drop_drop, Nat.sub_sub]
theorem ext_at (s : ByteArray) (k : Nat) (h : k < s.size) (h0 : 0 < (s.extract k s.size).size) : (s.extract k s.size)[0] = s[k] := by
  have := ext_get s k s.size 0 h0 (by omega)
  simpa using this

set_option maxRecDepth 100000 in
set_option maxHeartbeats 2000000 in
theorem owhole_ok (p : Nat) (s : ByteArray) (w : World) (B : ORd w p s) (hk : 8 ≤ s.size) (hs : s.size ≤ 140737488351232) :
    Calls Tryd.prog 68 #[.pointer (some ⟨p, 0, none⟩)] w fun e w' => e = .returned (.int .i64 (sofar0 s 8)) ∧ ORd w' p (s.extract 8 s.size) ∧ w.grownBy w' (some p) := by
  have B := Lib.hid B
  go_enter Tryd.func68, Tryd.ntmps68
  go_wp2_with fail
  go_loopw [3, 4] (fun n i wr => ∃ k : Nat, k ≤ 8 ∧ i = .int .i64 (k : Int) ∧ n = .int .i64 (sofar0 s k) ∧ ORd wr p (s.extract k s.size) ∧ w.grownBy wr (some p))
    (fun _ i _ => (8 - intOf i).toNat)
  case atStart => exact ⟨0, by omega, rfl, by rw [show sofar0 s 0 = 0 from by unfold sofar0; rw [List.take_zero]; decide +kernel], by have h := B.out; rw [show s.extract 0 s.size = s from by apply ByteArray.ext; simp]; exact h, kgrow_refl w (some p)⟩
  case round =>
    obtain ⟨k, hk8, rfl, rfl, Bk, g⟩ := hrel
    by_cases hlt : k < 8
    · have hlt' : (k : Int) < 8 := by omega
      have hks : k < s.size := by omega
      have hz := ext_size s k (by omega)
      have N := onext_ok p (s.extract k s.size) wr Bk (by omega) (by omega)
      rw [ext_ext s k hks] at N
      have ea := ext_at s k hks (by omega)
      rw [ea] at N
      have N := Lib.hid N
      have E := Lib.hid (sofar0_step s k hks)
      generalize sofar0 s k = V at *
      clear hz ea
      go_wp2_with fail
      refine N.out.mono ?_
      rintro e w1 ⟨rfl, B1, g1⟩
      have G1 := Lib.hid (kgrow_trans g g1)
      have B1 := Lib.hid B1
      clear N g g1
      go_wp2_with fail
      rw [← E.out]
      go_wp2_with fail
      go_roundw
      case rel => exact ⟨k + 1, by omega, by go_num, rfl, B1.out, G1.out⟩
      case measure => simp [intOf]; omega
    · obtain rfl : k = 8 := by omega
      go_wp2_with fail
      go_ret
      exact ⟨rfl, Bk, g⟩

set_option maxRecDepth 100000 in
set_option maxHeartbeats 2000000 in
theorem owhole_short (p : Nat) (s : ByteArray) (w : World) (B : ORd w p s) (hk : s.size < 8) (_hs : s.size ≤ 140737488351232) :
    Calls Tryd.prog 68 #[.pointer (some ⟨p, 0, none⟩)] w fun e w' => e = oGave ∧ w.grownBy w' (some p) := by
  have B := Lib.hid B
  go_enter Tryd.func68, Tryd.ntmps68
  go_wp2_with fail
  go_loopw [3, 4] (fun n i wr => ∃ k : Nat, k ≤ s.size ∧ i = .int .i64 (k : Int) ∧ n = .int .i64 (sofar0 s k) ∧ ORd wr p (s.extract k s.size) ∧ w.grownBy wr (some p))
    (fun _ i _ => (8 - intOf i).toNat)
  case atStart => exact ⟨0, by omega, rfl, by rw [show sofar0 s 0 = 0 from by unfold sofar0; rw [List.take_zero]; decide +kernel], by have h := B.out; rw [show s.extract 0 s.size = s from by apply ByteArray.ext; simp]; exact h, kgrow_refl w (some p)⟩
  case round =>
    obtain ⟨k, hk8, rfl, rfl, Bk, g⟩ := hrel
    have hlt' : (k : Int) < 8 := by omega
    have hz := ext_size s k (by omega)
    by_cases hks : k < s.size
    · have N := onext_ok p (s.extract k s.size) wr Bk (by omega) (by omega)
      rw [ext_ext s k hks] at N
      have ea := ext_at s k hks (by omega)
      rw [ea] at N
      have N := Lib.hid N
      have E := Lib.hid (sofar0_step s k hks)
      generalize sofar0 s k = V at *
      clear hz ea
      go_wp2_with fail
      refine N.out.mono ?_
      rintro e w1 ⟨rfl, B1, g1⟩
      have G1 := Lib.hid (kgrow_trans g g1)
      have B1 := Lib.hid B1
      clear N g g1
      go_wp2_with fail
      rw [← E.out]
      go_wp2_with fail
      go_roundw
      case rel => exact ⟨k + 1, by omega, by go_num, rfl, B1.out, G1.out⟩
      case measure => simp [intOf]; omega
    · have N := Lib.hid (onext_short p (s.extract k s.size) wr Bk (by omega))
      generalize sofar0 s k = V at *
      go_wp2_with fail
      refine N.out.mono ?_
      rintro e w1 ⟨rfl, rfl⟩
      go_wp2_with fail
      exact ⟨rfl, rfl, g⟩
end Go.Proofs.YthacdegaeokgnaaDoor
