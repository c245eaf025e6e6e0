/-
  Plain lemmas: bytes that are read as numbers and times are the bytes of these; what stands behind a key's head. No program is named.
-/
import Derived.Test.YthjphiniljopgaaDoorIkP5
import Derived.Test.YthjphiniljopgaaDoorIkV
import Derived.Test.YthjphiniljopgaaDoorNumPlain
namespace Go.Proofs.YthjphiniljopgaaDoor
open Go.RowKit

theorem be_getL : ∀ l : List UInt8, be (getL l) l.length = l
  | [] => by simp [be]
  | c :: r => by
    have h1 := getL_below r
    have h2 := UInt8.toNat_lt c
    have hp : 256 ^ r.length = 2 ^ (8 * r.length) := by rw [show (256 : Nat) = 2 ^ 8 from rfl, ← Nat.pow_mul]
    have hpos : 0 < 256 ^ r.length := Nat.pow_pos (by decide)
    rw [List.length_cons, be_succ, be_mod, getL_cons, ← hp]
    have e1 : (c.toNat * 256 ^ r.length + getL r) / 256 ^ r.length = c.toNat := by
      rw [Nat.mul_comm, Nat.mul_add_div hpos, Nat.div_eq_of_lt h1, Nat.add_zero]
    have e2 : (c.toNat * 256 ^ r.length + getL r) % 256 ^ r.length = getL r := by
      rw [Nat.mul_comm, Nat.mul_add_mod, Nat.mod_eq_of_lt h1]
    rw [e1, e2, be_getL r, Nat.mod_eq_of_lt (by omega)]
    congr 1
    exact UInt8.ofNat_toNat
theorem be_of {l : List UInt8} {n : Nat} (h : l.length = n) : be (getL l) n = l := by rw [← h]; exact be_getL l

theorem chunks : ∀ (m : Nat) (l : List UInt8), l.length = 6 * m → ((List.range m).map fun i => (l.drop (6 * i)).take 6).flatten = l
  | 0, l, h => by
    have : l = [] := List.eq_nil_of_length_eq_zero (by omega)
    subst this
    rfl
  | m + 1, l, h => by
    have ih := chunks m (l.drop 6) (by rw [List.length_drop]; omega)
    rw [List.range_succ_eq_map, List.map_cons, List.map_map, List.flatten_cons]
    have e : ((fun i => (l.drop (6 * i)).take 6) ∘ Nat.succ) = fun i => ((l.drop 6).drop (6 * i)).take 6 := by
      funext i
      show (l.drop (6 * (i + 1))).take 6 = _
      rw [List.drop_drop, Nat.mul_add, Nat.add_comm]
    rw [e, ih, Nat.mul_zero, List.drop_zero, List.take_append_drop]
/-- Bytes that are got as a vector, wholly, are the vector's. -/
theorem vecB_of (s : ByteArray) (xs : List Int) (h : getT s = (xs, (s.size : Int), 0)) : s.data.toList = vecB xs := by
  unfold getT at h
  split at h
  · exact absurd (Prod.mk.inj (Prod.mk.inj h).2).2 (by decide)
  · split at h
    · exact absurd (Prod.mk.inj (Prod.mk.inj h).2).2 (by decide)
    · split at h
      · exact absurd (Prod.mk.inj (Prod.mk.inj h).2).2 (by decide)
      · rename_i h0 h1 h2
        obtain ⟨e1, e2⟩ := Prod.mk.inj h
        obtain ⟨e2, _⟩ := Prod.mk.inj e2
        obtain ⟨m, hm⟩ : ∃ m, getL (s.data.toList.take 1) = m := ⟨_, rfl⟩
        rw [hm] at e1 e2 h1 h2
        have hsz : s.data.toList.length = 1 + 6 * m := by rw [← str_size]; omega
        cases hd : s.data.toList with
        | nil => rw [hd] at hsz; simp at hsz; omega
        | cons c r =>
          rw [hd] at hm e1 hsz
          have hr : r.length = 6 * m := by simp at hsz; omega
          have hc : c = UInt8.ofNat m := by
            have := be_of (l := (c :: r).take 1) (n := 1) (by simp)
            rw [hm, be_succ m 0, Nat.mul_zero, Nat.pow_zero, Nat.div_one, Nat.mod_eq_of_lt (by omega)] at this
            exact (List.cons.inj this).1.symm
          subst e1
          unfold vecB
          rw [timesL_length, ← hc]
          congr 1
          unfold timesL
          rw [List.map_map]
          have ch := chunks m r hr
          conv => lhs; rw [← ch]
          congr 1
          apply List.map_congr_left
          intro i hi
          have him : i < m := List.mem_range.1 hi
          have hl : ((r.drop (6 * i)).take 6).length = 6 := by rw [List.length_take, List.length_drop]; omega
          show _ = be (((getL (((c :: r).drop (1 + 6 * i)).take 6) : Nat) : Int).toNat) 6
          rw [Int.toNat_natCast, Nat.add_comm 1, List.drop_succ_cons, be_of hl]

/-- The parts behind a key's head make a version's bytes. -/
theorem put_of_parts {data r k : List UInt8} {xs : List Int} (hk : readK data = some (k, r)) (hl : 13 ≤ r.length) (hv : r.drop 13 = vecB xs)
    (h : OkV k xs (255 - (getL ((r.drop 6).take 1) : Int)) (281474976710655 - (getL ((r.drop 7).take 6) : Int))) (ht : timeN xs (255 - (getL ((r.drop 6).take 1) : Int)) = 281474976710655 - (getL (r.take 6) : Int)) :
    data = putVL k xs (255 - (getL ((r.drop 6).take 1) : Int)) (281474976710655 - (getL ((r.drop 7).take 6) : Int)) := by
  have e := readK_is hk
  have t := h.time
  have o1 := h.o0
  have o2 := h.o255
  have x1 := h.x0
  have x2 := h.x1
  have l1 : (r.take 6).length = 6 := by rw [List.length_take]; omega
  have l2 : ((r.drop 6).take 1).length = 1 := by rw [List.length_take, List.length_drop]; omega
  have l3 : ((r.drop 7).take 6).length = 6 := by rw [List.length_take, List.length_drop]; omega
  have er : r = r.take 6 ++ ((r.drop 6).take 1 ++ ((r.drop 7).take 6 ++ r.drop 13)) := by
    have a1 : (r.drop 7).take 6 ++ r.drop 13 = r.drop 7 := by
      have := List.take_append_drop 6 (r.drop 7)
      rwa [List.drop_drop] at this
    have a2 : (r.drop 6).take 1 ++ r.drop 7 = r.drop 6 := by
      have := List.take_append_drop 1 (r.drop 6)
      rwa [List.drop_drop] at this
    rw [a1, a2, List.take_append_drop]
  unfold putVL tailL
  rw [e]
  congr 1
  conv => lhs; rw [er]
  rw [hv]
  rw [ht] at t ⊢
  rw [show 281474976710655 - (281474976710655 - (getL (r.take 6) : Int)).toNat = getL (r.take 6) by omega, be_of l1,
    show 255 - (255 - (getL ((r.drop 6).take 1) : Int)).toNat = getL ((r.drop 6).take 1) by omega, be_of l2,
    show 281474976710655 - (281474976710655 - (getL ((r.drop 7).take 6) : Int)).toNat = getL ((r.drop 7).take 6) by omega, be_of l3]
/-- The parts of a version's bytes. -/
structure Parts (r : List UInt8) (xs : List Int) (o x : Int) : Prop where
  len : r.length = 14 + 6 * xs.length
  time : 281474976710655 - (getL (r.take 6) : Int) = timeN xs o
  org : 255 - (getL ((r.drop 6).take 1) : Int) = o
  num : 281474976710655 - (getL ((r.drop 7).take 6) : Int) = x
  vec : r.drop 13 = vecB xs
theorem parts_of_put {data key : List UInt8} {xs : List Int} {o x : Int} (h : OkV key xs o x) (e : data = putVL key xs o x) : ∃ r, readK data = some (key, r) ∧ Parts r xs o x := by
  refine ⟨tailL (timeN xs o).toNat o.toNat x.toNat (vecB xs), ?_, ?_⟩
  · rw [e]
    exact readK_head _ _
  · have t := h.time
    have a1 := h.o0
    have a2 := h.o255
    have b1 := h.x0
    have b2 := h.x1
    have l1 := be_length (281474976710655 - (timeN xs o).toNat) 6
    have l2 := be_length (255 - o.toNat) 1
    have l3 := be_length (281474976710655 - x.toNat) 6
    have g1 := getL_be 6 (281474976710655 - (timeN xs o).toNat) (by omega)
    have g2 := getL_be 1 (255 - o.toNat) (by omega)
    have g3 := getL_be 6 (281474976710655 - x.toNat) (by omega)
    have hv := vecB_length xs
    unfold tailL
    generalize be (281474976710655 - (timeN xs o).toNat) 6 = B1 at *
    generalize be (255 - o.toNat) 1 = B2 at *
    generalize be (281474976710655 - x.toNat) 6 = B3 at *
    have d6 : (B1 ++ (B2 ++ (B3 ++ vecB xs))).drop 6 = B2 ++ (B3 ++ vecB xs) := by rw [← l1, List.drop_left]
    have d7 : (B1 ++ (B2 ++ (B3 ++ vecB xs))).drop 7 = B3 ++ vecB xs := by
      rw [← List.append_assoc, show 7 = (B1 ++ B2).length by rw [List.length_append]; omega, List.drop_left]
    have d13 : (B1 ++ (B2 ++ (B3 ++ vecB xs))).drop 13 = vecB xs := by
      rw [← List.append_assoc, ← List.append_assoc, show 13 = (B1 ++ B2 ++ B3).length by rw [List.length_append, List.length_append]; omega, List.drop_left]
    refine ⟨?_, ?_, ?_, ?_, d13⟩
    · simp only [List.length_append]
      omega
    · rw [show 6 = B1.length from l1.symm, List.take_left, g1]
      omega
    · rw [d6, show 1 = B2.length from l2.symm, List.take_left, g2]
      omega
    · rw [d7, show 6 = B3.length from l3.symm, List.take_left, g3]
      omega
end Go.Proofs.YthjphiniljopgaaDoor
