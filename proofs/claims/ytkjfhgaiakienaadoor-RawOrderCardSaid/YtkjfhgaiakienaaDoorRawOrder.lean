/-
  RawOrder: bytes have an order that goes on; of two numbers in as many bytes the greater one has the greater bytes.
-/
import Derived.Test.YtkjfhgaiakienaaDoorAlive
import Derived.Test.YtkjfhgaiakienaaDoorRaw7
import Derived.Lib.Strings
import Derived.OpenShut
namespace Go.Proofs.YtkjfhgaiakienaaDoor
open Go.RowKit

set_option maxRecDepth 100000 in
set_option maxHeartbeats 1000000 in
theorem rawOrder_big (a b c : ByteArray) (v u n : Int) (w : World) (hL : Laid w) (ha : a.size ≤ 140737488351232) (hb : b.size ≤ 140737488351232) (hc : c.size ≤ 140737488351232) (h : 9000 < a.size + b.size + c.size) :
    Calls Tryd.prog 9 #[.string a, .string b, .string c, .int .i64 v, .int .i64 u, .int .i64 n] w fun e w' => e = .returned (.bool true) ∧ Below w.heap.size w w' := by
  go_enter Tryd.func9, Tryd.ntmps9
  go_wp2_with fail
  refine (alive_any w hL).mono ?_
  rintro e w1 ⟨rfl, hb1⟩
  go_wp2_with fail
  go_ret
  exact ⟨rfl, hb1⟩

set_option maxRecDepth 100000 in
set_option maxHeartbeats 4000000 in
theorem rawOrder_small (a b c : ByteArray) (v u n : Int) (w : World) (hL : Laid w) (h : a.size + b.size + c.size ≤ 9000) (hv0 : -9223372036854775808 ≤ v) (hv : v < 9223372036854775808) (hu0 : -9223372036854775808 ≤ u) (hu : u < 9223372036854775808) :
    Calls Tryd.prog 9 #[.string a, .string b, .string c, .int .i64 v, .int .i64 u, .int .i64 n] w fun e w' => e = .returned (.bool true) ∧ Below w.heap.size w w' := by
  have hvb := Lib.hid (And.intro hv0 hv)
  have hub := Lib.hid (And.intro hu0 hu)
  clear hv0 hv hu0 hu
  have hT := Lib.hid (cmp_trans a.data.toList b.data.toList c.data.toList)
  have hsw := Lib.hid (cmp_swap a.data.toList b.data.toList)
  have hxe : (Lib.compareBytes a.data.toList b.data.toList == 0) = (a.toList == b.toList) := by
    rw [Bool.eq_iff_iff, beq_iff_eq, beq_iff_eq, cmp_eq, Lib.toList_data, Lib.toList_data]
  obtain ⟨hx1, hx2⟩ := cmp_range a.data.toList b.data.toList
  obtain ⟨hy1, hy2⟩ := cmp_range b.data.toList c.data.toList
  obtain ⟨hz1, hz2⟩ := cmp_range a.data.toList c.data.toList
  have Cx := Lib.hid (compare_any a b w)
  have Cy := Lib.hid (compare_any b c w)
  have Cz := Lib.hid (compare_any a c w)
  have Ct := compare_any b a w
  rw [hsw.out] at Ct
  have Ct := Lib.hid Ct
  generalize Lib.compareBytes a.data.toList b.data.toList = x at *
  generalize Lib.compareBytes b.data.toList c.data.toList = y at *
  generalize Lib.compareBytes a.data.toList c.data.toList = z at *
  have HL := Lib.hid hL
  clear hsw hL
  have goal3 : 0 ≤ z → ¬ (x < 0 ∧ y ≤ 0) := fun h0 hh => by have := (hT.out (by omega) hh.2).2 hh.1; omega
  have goal4 : 0 < z → ¬ (x ≤ 0 ∧ y ≤ 0) := fun h0 hh => by have := (hT.out hh.1 hh.2).1; omega
  have G3 := Lib.hid goal3
  have G4 := Lib.hid goal4
  clear goal3 goal4
  go_enter Tryd.func9, Tryd.ntmps9
  go_wp2_with fail
  refine Cx.out.mono ?_
  rintro e w1 ⟨rfl, rfl⟩
  go_wp2_with fail
  refine Cy.out.mono ?_
  rintro e w1 ⟨rfl, rfl⟩
  go_wp2_with fail
  refine Cz.out.mono ?_
  rintro e w1 ⟨rfl, rfl⟩
  go_wp2_with fail
  refine Ct.out.mono ?_
  rintro e w1 ⟨rfl, rfl⟩
  go_wp2_with fail
  all_goals try (exfalso; first | exact G3.out (by omega) ⟨by omega, by omega⟩ | exact G4.out (by omega) ⟨by omega, by omega⟩ | omega)
  all_goals
    clear Cx Cy Cz Ct G3 G4 hT
    refine (put_any v n w hvb.out.1 hvb.out.2).mono ?_
    rintro e w1 ⟨s, es, rfl, Hs, hb1⟩
    go_wp2_with fail
    refine (put_any u n w1 hub.out.1 hub.out.2).mono ?_
    rintro e w2 ⟨t, et, rfl, Ht, hb2⟩
    have L2 := (HL.out.on hb1).on hb2
    have hb := hb1.trans (hb2.mono hb1.size)
    go_wp2_with fail
  all_goals first
    | (go_at_call 19
       refine (alive_any w2 L2).mono ?_
       rintro e w3 ⟨rfl, hb3⟩
       go_wp2_with fail
       go_ret
       exact ⟨rfl, hb.trans (hb3.mono hb.size)⟩)
    | (have he : es = 0 := by assumption
       have hf : (et != 0) = false := by assumption
       have hf' : et = 0 := by simpa using hf
       subst he
       subst hf'
       have hC := put_cmp Hs.out Ht.out
       have Hc := Lib.hid (compare_any s t w2)
       generalize Lib.compareBytes s.data.toList t.data.toList = k at *
       clear Hs Ht hf
       rcases hC with ⟨hvu, rfl⟩ | ⟨rfl, rfl⟩ | ⟨hvu, rfl⟩
       · have e1 : (v == u) = false := by rw [beq_eq_false_iff_ne]; omega
         refine Hc.out.mono ?_
         rintro e w3 ⟨rfl, rfl⟩
         go_wp2_with fail
         refine (alive_any w2 L2).mono ?_
         rintro e w3 ⟨rfl, hb3⟩
         go_wp2_with fail
         go_ret
         exact ⟨rfl, hb.trans (hb3.mono hb.size)⟩
       · refine Hc.out.mono ?_
         rintro e w3 ⟨rfl, rfl⟩
         go_wp2_with fail
         refine (alive_any w2 L2).mono ?_
         rintro e w3 ⟨rfl, hb3⟩
         go_wp2_with fail
         go_ret
         exact ⟨rfl, hb.trans (hb3.mono hb.size)⟩
       · have e1 : (v == u) = false := by rw [beq_eq_false_iff_ne]; omega
         have e2 : decide (v < u) = false := decide_eq_false (by omega)
         refine Hc.out.mono ?_
         rintro e w3 ⟨rfl, rfl⟩
         go_wp2_with fail
         refine (alive_any w2 L2).mono ?_
         rintro e w3 ⟨rfl, hb3⟩
         go_wp2_with fail
         go_ret
         exact ⟨rfl, hb.trans (hb3.mono hb.size)⟩)

theorem lawRawOrder (a : ByteArray) (ha : a.size ≤ 140737488351232) (b : ByteArray) (hb : b.size ≤ 140737488351232) (c : ByteArray) (hc : c.size ≤ 140737488351232) (v : Int) (hv : (Lit.int .i64 v).wf = true) (u : Int) (hu : (Lit.int .i64 u).wf = true) (n : Int) (_hn : (Lit.int .i64 n).wf = true) (w : World) (hL : Laid w) :
    Calls Tryd.prog 9 #[.string a, .string b, .string c, .int .i64 v, .int .i64 u, .int .i64 n] w fun e w' => e = .returned (.bool true) ∧ Below w.heap.size w w' := by
  have h1 := bounds_i64 hv
  have h2 := bounds_i64 hu
  by_cases h : 9000 < a.size + b.size + c.size
  · exact rawOrder_big a b c v u n w hL ha hb hc h
  · exact rawOrder_small a b c v u n w hL (by omega) (by omega) (by omega) (by omega) (by omega)
end Go.Proofs.YtkjfhgaiakienaaDoor
