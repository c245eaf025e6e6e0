/-
  Walks over package real, part 6: a text's digits and power.
-/
import Derived.Test.YtcnjjolmjpeeoaaDoorRaw13
import Derived.Test.YtcnjjolmjpeeoaaDoorGlob
import Derived.Deep.QuietTactic
import Derived.Lib.IndexBytes
import Derived.Lib.IndexLaws
namespace Go.Proofs.YtcnjjolmjpeeoaaDoor
open Go.RowKit

/-- A text at its first 'p'. -/
def cutP : List UInt8 → List UInt8 × Option (List UInt8)
  | [] => ([], none)
  | c :: l => if c = 112 then ([], some l) else (c :: (cutP l).1, (cutP l).2)

theorem cutP_none : ∀ l : List UInt8, Lib.indexByte l 112 = -1 → cutP l = (l, none)
  | [], _ => rfl
  | c :: l, h => by
    unfold Lib.indexByte at h
    by_cases hc : c = 112
    · subst hc
      simp at h
    · rw [if_neg (by simpa using hc)] at h
      by_cases h1 : Lib.indexByte l 112 = -1
      · unfold cutP
        rw [if_neg hc, cutP_none l h1]
      · have := Lib.indexByte_ge l 112
        rw [if_neg (by simpa using h1)] at h
        omega
theorem cutP_some : ∀ (l : List UInt8) (i : Nat), Lib.indexByte l 112 = (i : Int) → cutP l = (l.take i, some (l.drop (i + 1))) ∧ i < l.length
  | [], i, h => by simp [Lib.indexByte] at h
  | c :: l, i, h => by
    unfold Lib.indexByte at h
    by_cases hc : c = 112
    · subst hc
      simp at h
      obtain rfl : i = 0 := by omega
      exact ⟨by simp [cutP], by simp⟩
    · rw [if_neg (by simpa using hc)] at h
      by_cases h1 : Lib.indexByte l 112 = -1
      · rw [if_pos (by simpa using h1)] at h
        omega
      · have := Lib.indexByte_ge l 112
        rw [if_neg (by simpa using h1)] at h
        obtain ⟨j, rfl⟩ : ∃ j, i = j + 1 := ⟨i - 1, by omega⟩
        obtain ⟨g1, g2⟩ := cutP_some l j (by omega)
        refine ⟨?_, by simp; omega⟩
        unfold cutP
        rw [if_neg hc, g1]
        simp

theorem run_of_data {s t : ByteArray} (h : s.data = t.data) : s = t := ByteArray.ext h

set_option maxRecDepth 100000 in
set_option maxHeartbeats 1000000 in
theorem lcut_any (s : ByteArray) (hs : s.size ≤ 4611686018427387904) (w : World) :
    Calls Tryd.prog 81 #[.string s, .string ⟨#[112]⟩] w fun e w' => e = .returned (.tuple #[.string ⟨(cutP s.data.toList).1.toArray⟩, .string ⟨((cutP s.data.toList).2.getD []).toArray⟩, .bool (cutP s.data.toList).2.isSome]) ∧ ∃ n, w' = w.drewN n := by
  have C := Lib.hid (Tryd.stringslite_Index_one s 112 w)
  by_cases h : Lib.indexByte s.data.toList 112 = -1
  · have hc := cutP_none _ h
    have C := C.out
    rw [h] at C
    have C := Lib.hid C
    rw [hc]
    clear hc h
    go_enter Tryd.func81, Tryd.ntmps81
    go_wp2_with fail
    refine C.out.mono ?_
    rintro e w' ⟨rfl, rfl⟩
    go_wp2_with fail
    go_ret3
    exact ⟨rfl, 0, rfl⟩
  · have := Lib.indexByte_ge s.data.toList 112
    obtain ⟨i, hi⟩ := Int.eq_ofNat_of_zero_le (show 0 ≤ Lib.indexByte s.data.toList 112 by omega)
    obtain ⟨hc, hl⟩ := cutP_some _ i hi
    have hl' : i < s.size := hl
    have C := C.out
    rw [hi] at C
    have C := Lib.hid C
    rw [hc]
    have e1 : (⟨(s.data.toList.take i).toArray⟩ : ByteArray) = s.extract 0 i := by
      apply ByteArray.ext
      apply Array.toList_inj.1
      simp
    have e2 : (⟨((some (s.data.toList.drop (i + 1))).getD []).toArray⟩ : ByteArray) = s.extract (i + 1) s.size := by
      apply ByteArray.ext
      apply Array.toList_inj.1
      simp
      rw [List.take_of_length_le (by simp)]
    rw [e1, e2]
    clear hc hi hl e1 e2 h this
    go_enter Tryd.func81, Tryd.ntmps81
    go_wp2_with fail
    refine C.out.mono ?_
    rintro e w' ⟨rfl, rfl⟩
    go_wp2_with fail
    go_region
    go_wp2_with fail
    go_ret3
    exact ⟨rfl, 1, rfl⟩

set_option maxRecDepth 100000 in
set_option maxHeartbeats 1000000 in
theorem scut_any (s : ByteArray) (hs : s.size ≤ 4611686018427387904) (w : World) :
    Calls Tryd.prog 69 #[.string s, .string ⟨#[112]⟩] w fun e w' => e = .returned (.tuple #[.string ⟨(cutP s.data.toList).1.toArray⟩, .string ⟨((cutP s.data.toList).2.getD []).toArray⟩, .bool (cutP s.data.toList).2.isSome]) ∧ ∃ n, w' = w.drewN n := by
  have C := Lib.hid (lcut_any s hs w)
  go_enter Tryd.func69, Tryd.ntmps69
  go_wp2_with fail
  refine C.out.mono ?_
  rintro e w' ⟨rfl, n, rfl⟩
  go_wp2_with fail
  go_ret3
  exact ⟨rfl, n, rfl⟩

def NumP (w : World) (g : Option Int) (e : Ending) (w' : World) : Prop :=
  (match g with
   | some v => e = .returned (.int .i64 v)
   | none => e = .panicked [{ v := .iface 25 (.int .i64 4), recovered := false }]) ∧ Below w.heap.size w w'

set_option maxRecDepth 100000 in
set_option maxHeartbeats 1000000 in
theorem rnum_any (s : ByteArray) (w : World) (hs : s.size ≤ 9223372036854775807) :
    Calls Tryd.prog 71 #[.string s] w fun e w' => NumP w (numL s.data.toList) e w' := by
  have C := number_any s w hs
  cases h : numL s.data.toList with
  | none =>
    rw [h] at C
    have C := Lib.hid C
    clear h
    go_enter Tryd.func71, Tryd.ntmps71
    go_wp2_with fail
    refine C.out.mono ?_
    rintro e w' ⟨rfl, hb⟩
    go_wp2_with fail
    exact ⟨rfl, rfl, hb⟩
  | some v =>
    rw [h] at C
    have C := Lib.hid C
    clear h
    go_enter Tryd.func71, Tryd.ntmps71
    go_wp2_with fail
    refine C.out.mono ?_
    rintro e w' ⟨rfl, hb⟩
    go_wp2_with fail
    go_ret
    exact ⟨rfl, hb⟩

/-- The digits and the power of a text. -/
def prodL (l : List UInt8) : Option (Nat × Int) :=
  if Lib.hasPrefix (cutP l).1 [45] then none else if 5 < ((cutP l).2.getD []).length then none else
    match numL (cutP l).1 with
    | none => none
    | some m => match (cutP l).2 with
      | none => some (m.toNat, 0)
      | some b => match numL b with
        | none => none
        | some p => some (m.toNat, p)

def ProdP (w : World) (g : Option (Nat × Int)) (e : Ending) (w' : World) : Prop :=
  (match g with
   | some v => e = .returned (.tuple #[.int .u64 (v.1 : Int), .int .i64 v.2])
   | none => e = .panicked [{ v := .iface 25 (.int .i64 4), recovered := false }]) ∧ Below w.heap.size w w'

theorem numL_nonneg (l : List UInt8) (v : Int) (h : numL l = some v) (hp : Lib.hasPrefix l [45] = false) : 0 ≤ v := by
  unfold numL at h
  split at h
  · injection h with h; omega
  · obtain ⟨u, _, hv⟩ := Option.map_eq_some_iff.1 h
    rw [hp] at hv
    simp at hv
    omega
theorem numL_lt (l : List UInt8) (v : Int) (h : numL l = some v) : -10000000000000000 < v ∧ v < 10000000000000000 := by
  unfold numL at h
  split at h
  · injection h with h; omega
  · obtain ⟨u, hu, hv⟩ := Option.map_eq_some_iff.1 h
    have := natL_lt hu
    split at hv <;> omega

theorem cutP_len (l : List UInt8) : (cutP l).1.length ≤ l.length ∧ ((cutP l).2.getD []).length ≤ l.length := by
  induction l with
  | nil => exact ⟨Nat.le_refl _, Nat.le_refl _⟩
  | cons c l ih =>
    unfold cutP
    split
    · exact ⟨Nat.zero_le _, by simp⟩
    · exact ⟨by simp; exact ih.1, by simp; omega⟩

set_option maxRecDepth 100000 in
set_option maxHeartbeats 2000000 in
theorem product_any (s : ByteArray) (hs : s.size ≤ 4611686018427387904) (w : World) :
    Calls Tryd.prog 40 #[.string s] w fun e w' => ProdP w (prodL s.data.toList) e w' := by
  have C := scut_any s hs w
  obtain ⟨n1, n2⟩ := cutP_len s.data.toList
  have hlen : s.data.toList.length = s.size := rfl
  unfold prodL
  obtain ⟨a, o, hao⟩ : ∃ a o, cutP s.data.toList = (a, o) := ⟨_, _, rfl⟩
  rw [hao] at C n1 n2 ⊢
  dsimp only at C n1 n2 ⊢
  have HP := fun W => Lib.hid (Tryd.strings_HasPrefix ⟨a.toArray⟩ ⟨#[45]⟩ W)
  have HP : ∀ W : World, Hid (Calls Tryd.prog 70 #[.string ⟨a.toArray⟩, .string ⟨#[45]⟩] W fun e w' => e = .returned (.bool (Lib.hasPrefix a [45])) ∧ w' = W) := HP
  have NA := fun W => rnum_any ⟨a.toArray⟩ W (by rw [size_mk]; omega)
  rw [show (⟨a.toArray⟩ : ByteArray).data.toList = a from rfl] at NA
  have NB := fun W => rnum_any ⟨(o.getD []).toArray⟩ W (by rw [size_mk]; omega)
  rw [show (⟨(o.getD []).toArray⟩ : ByteArray).data.toList = o.getD [] from rfl] at NB
  have hsz : (⟨(o.getD []).toArray⟩ : ByteArray).size = (o.getD []).length := size_mk _
  have C := Lib.hid C
  clear hao hs n1 n2 hlen
  cases hp : Lib.hasPrefix a [45]
  · rw [hp] at HP
    simp only [Bool.false_eq_true, if_false]
    by_cases h5 : 5 < (o.getD []).length
    · rw [if_pos h5]
      have h5' : (5 : Int) < ((o.getD []).length : Int) := by omega
      clear h5 hsz NA NB hp
      go_enter Tryd.func40, Tryd.ntmps40
      go_wp2_with fail
      refine C.out.mono ?_
      rintro e w1 ⟨rfl, n, rfl⟩
      go_wp2_with fail
      refine (HP _).out.mono ?_
      rintro e w2 ⟨rfl, rfl⟩
      go_wp2_with fail
      exact ⟨rfl, rfl, below_drewN (Below.refl _ _) _⟩
    · rw [if_neg h5]
      have h5' : ((o.getD []).length : Int) ≤ 5 := by omega
      clear h5 hsz
      cases ha : numL a with
      | none =>
        rw [ha] at NA
        have NA := fun W => Lib.hid (NA W)
        clear NB hp ha
        go_enter Tryd.func40, Tryd.ntmps40
        go_wp2_with fail
        refine C.out.mono ?_
        rintro e w1 ⟨rfl, n, rfl⟩
        go_wp2_with fail
        refine (HP _).out.mono ?_
        rintro e w2 ⟨rfl, rfl⟩
        go_wp2_with fail
        refine (NA _).out.mono ?_
        rintro e w3 ⟨rfl, hb⟩
        exact ⟨rfl, rfl, (below_drewN (Below.refl _ _) _).trans hb⟩
      | some m =>
        have hm0 := numL_nonneg a m ha hp
        have hm1 := (numL_lt a m ha).2
        rw [ha] at NA
        have NA := fun W => Lib.hid (NA W)
        obtain ⟨m, rfl⟩ := Int.eq_ofNat_of_zero_le hm0
        clear hp ha hm0
        cases o with
        | none =>
          clear NB
          go_enter Tryd.func40, Tryd.ntmps40
          go_wp2_with fail
          refine C.out.mono ?_
          rintro e w1 ⟨rfl, n, rfl⟩
          go_wp2_with fail
          refine (HP _).out.mono ?_
          rintro e w2 ⟨rfl, rfl⟩
          go_wp2_with fail
          refine (NA _).out.mono ?_
          rintro e w3 ⟨rfl, hb⟩
          go_wp2_with fail
          go_ret2
          exact ⟨rfl, (below_drewN (Below.refl _ _) _).trans hb⟩
        | some b =>
          simp only [Option.getD_some, Option.isSome_some] at NB h5' C
          have h5d : decide ((5 : Int) < (b.length : Int)) = false := decide_eq_false (by omega)
          clear h5'
          dsimp only
          cases hb' : numL b with
          | none =>
            rw [hb'] at NB
            have NB := fun W => Lib.hid (NB W)
            clear hb'
            go_enter Tryd.func40, Tryd.ntmps40
            go_wp2_with fail
            refine C.out.mono ?_
            rintro e w1 ⟨rfl, n, rfl⟩
            go_wp2_with fail
            refine (HP _).out.mono ?_
            rintro e w2 ⟨rfl, rfl⟩
            go_wp2_with fail
            refine (NA _).out.mono ?_
            rintro e w3 ⟨rfl, hb⟩
            go_wp2_with fail
            refine (NB _).out.mono ?_
            rintro e w4 ⟨rfl, hb4⟩
            exact ⟨rfl, rfl, ((below_drewN (Below.refl _ _) _).trans hb).trans (hb4.mono hb.size)⟩
          | some p =>
            rw [hb'] at NB
            have NB := fun W => Lib.hid (NB W)
            clear hb'
            go_enter Tryd.func40, Tryd.ntmps40
            go_wp2_with fail
            refine C.out.mono ?_
            rintro e w1 ⟨rfl, n, rfl⟩
            go_wp2_with fail
            refine (HP _).out.mono ?_
            rintro e w2 ⟨rfl, rfl⟩
            go_wp2_with fail
            refine (NA _).out.mono ?_
            rintro e w3 ⟨rfl, hb⟩
            go_wp2_with fail
            refine (NB _).out.mono ?_
            rintro e w4 ⟨rfl, hb4⟩
            go_wp2_with fail
            go_ret2
            exact ⟨rfl, ((below_drewN (Below.refl _ _) _).trans hb).trans (hb4.mono hb.size)⟩
  · rw [hp] at HP
    simp only [if_true]
    clear NA NB hp hsz
    go_enter Tryd.func40, Tryd.ntmps40
    go_wp2_with fail
    refine C.out.mono ?_
    rintro e w1 ⟨rfl, n, rfl⟩
    go_wp2_with fail
    refine (HP _).out.mono ?_
    rintro e w2 ⟨rfl, rfl⟩
    go_wp2_with fail
    exact ⟨rfl, rfl, below_drewN (Below.refl _ _) _⟩
end Go.Proofs.YtcnjjolmjpeeoaaDoor
