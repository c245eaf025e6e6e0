/-
  The landed package ikey: Key; chapter 5's first call.
-/
import Derived.Test.YthjphiniljopgaaDoorIkC7
namespace Go.Proofs.YthjphiniljopgaaDoor
open Go.RowKit

set_option maxRecDepth 100000 in
set_option maxHeartbeats 2000000 in
theorem kkey_any (s : ByteArray) (w : World) (hs : s.size ≤ 140737488351232) :
    Calls Tryd.prog 11 #[.string s] w fun e w' => ((∃ key : ByteArray, ∃ xs o x, OkV key.data.toList xs o x ∧ s.data.toList = putVL key.data.toList xs o x ∧ e = .returned (.tuple #[.string key, .int .i64 0])) ∨
      ((∀ (key : ByteArray) (xs : List Int) (o x : Int), OkV key.data.toList xs o x → s.data.toList ≠ putVL key.data.toList xs o x) ∧ e = .returned (.tuple #[.string ByteArray.empty, .int .i64 4]))) ∧ Below w.heap.size w w' := by
  have C := Lib.hid (kget_any s w hs)
  have hst := run_sto_f64
  go_enter Tryd.func11, Tryd.ntmps11
  go_wp2_with fail
  refine C.out.mono ?_
  rintro e w1 ⟨h, hb⟩
  have hb := Lib.hid hb
  rcases h with ⟨key, A, c, o, x, xs, h1, h2, rfl, hN⟩ | ⟨h1, rfl⟩
  · have H1 := Lib.hid h1
    have H2 := Lib.hid h2
    have B := Lib.hid (Blk.new w1 28 (verC key A xs.length c o x 0 0 0 ByteArray.empty))
    have hbB := Lib.hid (hb.out.alloc (o := .cells (verC key A xs.length c o x 0 0 0 ByteArray.empty) 28) hb.out.size)
    unfold verC at B hbB
    unfold verV
    clear hN h1 h2
    have d0 := B.out.cell 0
    simp at d0
    go_wp2_with fail
    go_ret2
    exact ⟨Or.inl ⟨key, xs, o, x, H1.out, H2.out, rfl⟩, hbB.out⟩
  · have H1 := Lib.hid h1
    have B := Lib.hid (Blk.new w1 28 (verC ByteArray.empty none 0 0 0 0 0 0 0 ByteArray.empty))
    have hbB := Lib.hid (hb.out.alloc (o := .cells (verC ByteArray.empty none 0 0 0 0 0 0 0 ByteArray.empty) 28) hb.out.size)
    unfold verC at B hbB
    unfold verV
    clear h1
    have d0 := B.out.cell 0
    simp at d0
    go_wp2_with fail
    go_ret2
    exact ⟨Or.inr ⟨H1.out, rfl⟩, hbB.out⟩

theorem kints_blk {w : World} {g : Nat} {t : TypeId} (zs : List Int) (h : Blk w g t (zs.map (Value.int .i64)).toArray) (hm : zs.length ≤ 9223372036854775807) (hwf : ∀ z ∈ zs, (Lit.int .i64 z).wf = true) : IntsIn w (some ⟨g, 0, none⟩) zs.length zs :=
  ⟨rfl, hm, fun _ => ⟨g, 0, rfl, h.lt, fun j hj => by rw [Nat.zero_add, h.cell j]; simp [List.getD, hj]⟩, hwf⟩
/-- The first call's bytes. -/
def firstB : List UInt8 := [114, 0, 1, 255, 255, 255, 255, 255, 250, 255, 255, 255, 255, 255, 255, 248, 1, 0, 0, 0, 0, 0, 5]
theorem first_put : putVL [114] [5] 0 7 = firstB := by decide +kernel
theorem first_head : headL [114, 0] = [114, 0, 255, 0, 1] := by decide
theorem first_ok : OkV [114] [5] 0 7 := okV_of (by decide +kernel)
theorem first_toList (l : List UInt8) : (⟨l.toArray⟩ : ByteArray).toList = l := by rw [Lib.toList_data]

theorem kfirst_put (w : World) (V : VerIn w ⟨#[114]⟩ (some ⟨w.heap.size - 1, 0, none⟩) 1 [5] 0 7 0 0 0 ⟨#[]⟩) :
    Calls Tryd.prog 7 #[verV ⟨#[114]⟩ (some ⟨w.heap.size - 1, 0, none⟩) 1 1 0 7 0 0 0 ⟨#[]⟩] w fun e w' => e = .returned (.tuple #[.string ⟨firstB.toArray⟩, .int .i64 0]) ∧ Below w.heap.size w w' := by
  refine (kput_any _ _ 1 1 0 7 0 0 0 _ [5] w V).mono ?_
  rintro e w' ⟨h, hb⟩
  refine ⟨?_, hb⟩
  have h1 : (⟨#[114]⟩ : ByteArray).data.toList = [114] := rfl
  rw [h1, first_put, first_ok.ok] at h
  rcases h with ⟨_, h⟩ | ⟨h, _⟩
  · exact h
  · cases h
theorem kfirst_get (w : World) :
    Calls Tryd.prog 10 #[.string ⟨firstB.toArray⟩] w fun e w' => (∃ A c, e = .returned (.tuple #[verV ⟨#[114]⟩ A 1 c 0 7 0 0 0 ByteArray.empty, .int .i64 0])) ∧ Below w.heap.size w w' := by
  refine (kget_any _ w (by rw [size_mk]; decide)).mono ?_
  rintro e w' ⟨h, hb⟩
  refine ⟨?_, hb⟩
  rw [mk_data, ← first_put] at h
  rcases h with ⟨key, A, c, o, x, xs, h1, h2, rfl, _⟩ | ⟨h1, _⟩
  · obtain ⟨k1, k2, k3, k4⟩ := putVL_inj first_ok h1 h2
    have k1 : (⟨#[114]⟩ : ByteArray) = key := kbytes_ext k1
    subst k1 k2 k3 k4
    exact ⟨A, c, rfl⟩
  · exact absurd rfl (h1 ⟨#[114]⟩ [5] 0 7 first_ok)
theorem kfirst_head (w : World) :
    Calls Tryd.prog 13 #[.string ⟨#[114, 0]⟩] w fun e w' => e = .returned (.string ⟨([114, 0, 255, 0, 1] : List UInt8).toArray⟩) ∧ Below w.heap.size w w' := by
  have h := khead_any ⟨#[114, 0]⟩ w (by decide)
  rw [show (⟨#[114, 0]⟩ : ByteArray).data.toList = [114, 0] from rfl, first_head] at h
  exact h
theorem kfirst_iskey (w : World) :
    Calls Tryd.prog 18 #[.string ⟨#[113]⟩] w fun e w' => e = .returned (.bool false) ∧ w' = w := by
  have h := kiskey_any ⟨#[113]⟩ w (by decide)
  rw [show isKeyL (⟨#[113]⟩ : ByteArray).data.toList = false from by decide] at h
  exact h

set_option maxRecDepth 100000 in
set_option maxHeartbeats 4000000 in
theorem kalive_any (w : World) : Calls Tryd.prog 8 #[] w fun e w' => e = .returned (.bool true) ∧ Below w.heap.size w w' := by
  have B0 : Blk (w.alloc (.cells #[.int .i64 5] 3)) w.heap.size 3 #[.int .i64 5] := Blk.new w _ _
  have V0 : VerIn (w.alloc (.cells #[.int .i64 5] 3)) ⟨#[114]⟩ (some ⟨w.heap.size, 0, none⟩) 1 [5] 0 7 0 0 0 ⟨#[]⟩ :=
    ⟨kints_blk [5] B0 (by decide) (by decide), by decide, by decide, by decide, by decide, by decide, by decide, by decide⟩
  have C1 := kfirst_put (w.alloc (.cells #[.int .i64 5] 3)) (by simpa using V0)
  rw [show (w.alloc (.cells #[.int .i64 5] 3)).heap.size - 1 = w.heap.size by simp] at C1
  have hb0 : Hid (Below w.heap.size w (w.alloc (.cells #[.int .i64 5] 3))) := (Below.refl _ w).alloc (Nat.le_refl _) _
  have C2 := fun W => Lib.hid (kfirst_get W)
  have C3 := fun W => Lib.hid (kfirst_head W)
  have C4 := fun W => Lib.hid (kfirst_iskey W)
  simp only [verV] at C1 C2
  have q1 : ((⟨firstB.toArray⟩ : ByteArray).toList == [114, 0, 1, 255, 255, 255, 255, 255, 250, 255, 255, 255, 255, 255, 255, 248, 1, 0, 0, 0, 0, 0, 5]) = true := by rw [first_toList]; decide
  have q2 : ((⟨([114, 0, 255, 0, 1] : List UInt8).toArray⟩ : ByteArray).toList == [114, 0, 255, 0, 1]) = true := by rw [first_toList]; decide
  generalize (⟨firstB.toArray⟩ : ByteArray) = S at *
  generalize (⟨([114, 0, 255, 0, 1] : List UInt8).toArray⟩ : ByteArray) = H at *
  have C1 := Lib.hid C1
  have hst := run_sto_f64
  clear B0 V0
  go_enter Tryd.func8, Tryd.ntmps8
  go_wp2_with fail
  refine C1.out.mono ?_
  rintro e w1 ⟨rfl, hb1⟩
  have HB1 := Lib.hid (hb0.out.trans (hb1.mono hb0.out.size))
  clear C1 hb0 hb1
  go_wp2_with fail
  refine (C2 _).out.mono ?_
  rintro e w2 ⟨⟨A, c, rfl⟩, hb2⟩
  have HB2 := Lib.hid (HB1.out.trans (hb2.mono HB1.out.size))
  clear hb2 HB1 C2
  have B := Lib.hid (Blk.new w2 28 (verC ⟨#[114]⟩ A 1 c 0 7 0 0 0 ByteArray.empty))
  have HB3 := Lib.hid (HB2.out.alloc (o := .cells (verC ⟨#[114]⟩ A 1 c 0 7 0 0 0 ByteArray.empty) 28) HB2.out.size)
  unfold verC at B HB3
  go_wp2_with fail
  refine (C3 _).out.mono ?_
  rintro e w3 ⟨rfl, hb3⟩
  have HB4 := Lib.hid (HB3.out.trans (hb3.mono HB3.out.size))
  clear hb3 HB3 C3 B
  go_wp2_with fail
  refine (C4 _).out.mono ?_
  rintro e w4 ⟨rfl, rfl⟩
  go_wp2_with fail
  go_ret
  exact ⟨by simp, HB4.out⟩
end Go.Proofs.YthjphiniljopgaaDoor
