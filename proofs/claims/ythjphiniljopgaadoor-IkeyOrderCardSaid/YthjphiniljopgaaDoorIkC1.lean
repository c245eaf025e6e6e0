/-
  The landed package ikey: keys, places, times, valid versions.
-/
import Derived.Test.YthjphiniljopgaaDoorIkL
import Derived.Test.YthjphiniljopgaaDoorIkT
import Derived.Test.YthjphiniljopgaaDoorVec1
import Derived.LoopTactic
namespace Go.Proofs.YthjphiniljopgaaDoor
open Go.RowKit

theorem byte_eq (c d : UInt8) : ((c.toNat : Int) == (d.toNat : Int)) = decide (c = d) := by
  rw [Bool.eq_iff_iff, beq_iff_eq, decide_eq_true_eq]
  constructor
  · intro h; exact UInt8.toNat_inj.1 (by omega)
  · rintro rfl; rfl
theorem isKeyL_at (s : ByteArray) (h1 : 1 ≤ s.size) (h2 : s.size ≤ 64) (c : UInt8) (hc : s[0]'(by omega) = c) : isKeyL s.data.toList = decide (c = 114 ∨ c = 116 ∨ c = 99 ∨ c = 120 ∨ c = 110) := by
  have hlen : s.data.toList.length = s.size := (str_size s).symm
  have hd : s.data.toList.headD 0 = c := by
    rw [← hc]
    cases hx : s.data.toList with
    | nil => rw [hx] at hlen; simp at hlen; omega
    | cons a l =>
      have : s[0]'(by omega) = s.data.toList[0]'(by rw [hlen]; omega) := rfl
      rw [this]
      simp [hx]
  unfold isKeyL
  rw [hlen, hd]
  congr 1
  apply propext
  constructor
  · exact fun h => h.2
  · exact fun h => ⟨⟨h1, h2⟩, h⟩

set_option maxRecDepth 100000 in
set_option maxHeartbeats 4000000 in
theorem kiskey_any (s : ByteArray) (w : World) (hs : s.size ≤ 9223372036854775807) :
    Calls Tryd.prog 18 #[.string s] w fun e w' => e = .returned (.bool (isKeyL s.data.toList)) ∧ w' = w := by
  have hlen : s.data.toList.length = s.size := (str_size s).symm
  by_cases h1 : 1 ≤ s.size
  · by_cases h2 : s.size ≤ 64
    · have hlt : 0 < s.size := by omega
      obtain ⟨c, hc⟩ : ∃ c : UInt8, s[0]'hlt = c := ⟨_, rfl⟩
      rw [isKeyL_at s h1 h2 c hc]
      have e0 : ¬ (s.size : Int) < 1 := by omega
      have e64 : ¬ (64 : Int) < (s.size : Int) := by omega
      have q1 : ((c.toNat : Int) == 114) = decide (c = 114) := byte_eq c 114
      have q2 : ((c.toNat : Int) == 116) = decide (c = 116) := byte_eq c 116
      have q3 : ((c.toNat : Int) == 99) = decide (c = 99) := byte_eq c 99
      have q4 : ((c.toNat : Int) == 120) = decide (c = 120) := byte_eq c 120
      have q5 : ((c.toNat : Int) == 110) = decide (c = 110) := byte_eq c 110
      clear hlen h1 h2
      by_cases g1 : c = 114
      · rw [decide_eq_true g1] at q1
        rw [decide_eq_true (Or.inl g1)]
        clear q2 q3 q4 q5 g1
        go_enter Tryd.func18, Tryd.ntmps18
        go_wp2_with fail
        go_ret
        exact ⟨rfl, rfl⟩
      · rw [decide_eq_false g1] at q1
        by_cases g2 : c = 116
        · rw [decide_eq_true g2] at q2
          rw [decide_eq_true (Or.inr (Or.inl g2))]
          clear q3 q4 q5 g1 g2
          go_enter Tryd.func18, Tryd.ntmps18
          go_wp2_with fail
          go_ret
          exact ⟨rfl, rfl⟩
        · rw [decide_eq_false g2] at q2
          by_cases g3 : c = 99
          · rw [decide_eq_true g3] at q3
            rw [decide_eq_true (Or.inr (Or.inr (Or.inl g3)))]
            clear q4 q5 g1 g2 g3
            go_enter Tryd.func18, Tryd.ntmps18
            go_wp2_with fail
            go_ret
            exact ⟨rfl, rfl⟩
          · rw [decide_eq_false g3] at q3
            by_cases g4 : c = 120
            · rw [decide_eq_true g4] at q4
              rw [decide_eq_true (Or.inr (Or.inr (Or.inr (Or.inl g4))))]
              clear q5 g1 g2 g3 g4
              go_enter Tryd.func18, Tryd.ntmps18
              go_wp2_with fail
              go_ret
              exact ⟨rfl, rfl⟩
            · rw [decide_eq_false g4] at q4
              by_cases g5 : c = 110
              · rw [decide_eq_true g5] at q5
                rw [decide_eq_true (Or.inr (Or.inr (Or.inr (Or.inr g5))))]
                clear g1 g2 g3 g4 g5
                go_enter Tryd.func18, Tryd.ntmps18
                go_wp2_with fail
                go_ret
                exact ⟨rfl, rfl⟩
              · rw [decide_eq_false g5] at q5
                rw [decide_eq_false (fun h => h.elim g1 fun h => h.elim g2 fun h => h.elim g3 fun h => h.elim g4 g5)]
                clear g1 g2 g3 g4 g5
                go_enter Tryd.func18, Tryd.ntmps18
                go_wp2_with fail
                go_ret
                exact ⟨rfl, rfl⟩
    · have hk : isKeyL s.data.toList = false := by unfold isKeyL; rw [hlen]; exact decide_eq_false (by omega)
      rw [hk]
      have e0 : ¬ (s.size : Int) < 1 := by omega
      have e64 : (64 : Int) < (s.size : Int) := by omega
      clear hk hlen
      go_enter Tryd.func18, Tryd.ntmps18
      go_wp2_with fail
      go_ret
      exact ⟨rfl, rfl⟩
  · have hk : isKeyL s.data.toList = false := by unfold isKeyL; rw [hlen]; exact decide_eq_false (by omega)
    rw [hk]
    have e0 : (s.size : Int) < 1 := by omega
    clear hk hlen
    go_enter Tryd.func18, Tryd.ntmps18
    go_wp2_with fail
    go_ret
    exact ⟨rfl, rfl⟩

set_option maxRecDepth 100000 in
set_option maxHeartbeats 4000000 in
theorem kisorigin_any (o : Int) (A : Option Addr) (n c : Nat) (w : World) :
    Calls Tryd.prog 20 #[.int .i64 o, .slice A n c] w fun e w' => e = .returned (.bool (decide (o = 254 ∨ (0 ≤ o ∧ o < (n : Int))))) ∧ w' = w := by
  by_cases h1 : o = 254
  · have h1' : (o == 254) = true := by rw [beq_iff_eq]; exact h1
    rw [decide_eq_true (Or.inl h1)]
    clear h1
    go_enter Tryd.func20, Tryd.ntmps20
    go_wp2_with fail
    go_ret
    exact ⟨rfl, rfl⟩
  · have h1' : (o == 254) = false := by rw [beq_eq_false_iff_ne]; exact h1
    by_cases h2 : 0 ≤ o
    · by_cases h3 : o < (n : Int)
      · rw [decide_eq_true (Or.inr ⟨h2, h3⟩)]
        clear h1
        go_enter Tryd.func20, Tryd.ntmps20
        go_wp2_with fail
        go_ret
        exact ⟨rfl, rfl⟩
      · rw [decide_eq_false (by rintro (h | h); exact h1 h; exact h3 h.2)]
        clear h1
        go_enter Tryd.func20, Tryd.ntmps20
        go_wp2_with fail
        go_ret
        exact ⟨rfl, rfl⟩
    · rw [decide_eq_false (by rintro (h | h); exact h1 h; exact h2 h.1)]
      clear h1
      go_enter Tryd.func20, Tryd.ntmps20
      go_wp2_with fail
      go_ret
      exact ⟨rfl, rfl⟩

theorem run_max5 (m n : Int) (W : World) : (Builtin.max_ #[3, 3] 3 #[.int .i64 m, .int .i64 n]).run Tryd.prog W = .ok (.int .i64 (if m < n then n else m)) W := by
  simp [Builtin.max_, Builtin.max2]

theorem most_one {xs : List Int} (h : validL xs = true) : xs.getD 0 0 = mostL (xs.take 1) := by
  have hl := (validL_of h).1
  have h0 := (validL_of h).2 0 (by omega)
  have := most_step xs 0 (by omega)
  rw [this]
  have e : mostL (xs.take 0) = 0 := rfl
  rw [e]
  split <;> omega

set_option maxRecDepth 100000 in
set_option maxHeartbeats 4000000 in
theorem kmax_any (A : Option Addr) (n c : Nat) (xs : List Int) (w : World) (V : IntsIn w A n xs) (hv : validL xs = true) :
    Calls Tryd.prog 27 #[.slice A n c] w fun e w' => e = .returned (.int .i64 (mostL xs)) ∧ w' = w := by
  have I := Lib.hid V
  have hl := V.len
  have hmx := V.max
  have hlen := (validL_of hv).1
  have h1 := Lib.hid (most_one hv)
  obtain ⟨b, off, rfl, _, hc⟩ := I.out.some (by omega)
  have d0 := hc 0 (by omega)
  rw [h1.out, Nat.add_zero] at d0
  clear V
  have e1 : ¬ (n : Int) < 1 := by omega
  go_enter Tryd.func27, Tryd.ntmps27
  go_wp2_with fail
  clear d0 hc
  go_loop [3, 4] (fun t i => ∃ k : Nat, 1 ≤ k ∧ k ≤ n ∧ i = .int .i64 (k : Int) ∧ t = .int .i64 (mostL (xs.take k))) (fun _ i => n - (intOf i).toNat)
  case atStart => exact ⟨1, by omega, by omega, rfl, rfl⟩
  case round =>
    obtain ⟨k, hk1, hk, rfl, rfl⟩ := hrel
    by_cases hlt : k < n
    · obtain ⟨b', off', hbb, _, hc⟩ := I.out.some (by omega)
      cases hbb
      have d := hc k hlt
      have st := Lib.hid (most_step xs k (by omega))
      obtain ⟨y, hy⟩ : ∃ y, xs.getD k 0 = y := ⟨_, rfl⟩
      rw [hy] at d st
      have hl1 : (k : Int) < (n : Int) := by omega
      clear hc hy
      generalize mostL (xs.take k) = m at *
      have hmax := run_max5 m y
      rw [← st.out] at hmax
      clear st
      go_wp2_with fail
      go_round
      case rel => exact ⟨k + 1, by omega, by omega, by go_num, rfl⟩
      case measure => simp [intOf]; omega
    · have hl1 : ¬ (k : Int) < (n : Int) := by omega
      have e : xs.take k = xs := List.take_of_length_le (by omega)
      rw [e]
      clear e
      go_wp2_with fail
      go_ret
      exact ⟨rfl, rfl⟩

set_option maxRecDepth 100000 in
set_option maxHeartbeats 4000000 in
theorem ktime_any (key : ByteArray) (A : Option Addr) (n c : Nat) (o x kd : Int) (nu : Nat) (it : Int) (tx : ByteArray) (xs : List Int) (w : World) (V : VerIn w key A n xs o x kd nu it tx) (hv : validL xs = true) (h0 : 0 ≤ o) (h1 : o < (xs.length : Int) ∨ o = 254) :
    Calls Tryd.prog 16 #[verV key A n c o x kd nu it tx] w fun e w' => e = .returned (.int .i64 (timeN xs o)) ∧ Below w.heap.size w w' := by
  unfold verV
  have I := Lib.hid V.ints
  have hl := V.ints.len
  have hmx := V.ints.max
  have hlen := (validL_of hv).1
  have B0 : Blk (w.alloc (.cells #[.string key, .slice A n c, .int .i64 o, .int .i64 x, .int .i64 kd, .float .f64 nu, .int .i64 it, .string tx] 28)) w.heap.size 28 (verC key A n c o x kd nu it tx) := Blk.new w _ _
  have hb0 : Below w.heap.size w (w.alloc (.cells #[.string key, .slice A n c, .int .i64 o, .int .i64 x, .int .i64 kd, .float .f64 nu, .int .i64 it, .string tx] 28)) := (Below.refl _ w).alloc (Nat.le_refl _) _
  obtain ⟨d0, d1, d2, d3, d4, d5, d6, d7⟩ := ver_cells B0
  clear V
  by_cases ho : o = 254
  · subst ho
    have ht : timeN xs 254 = mostL xs := by unfold timeN; rw [if_pos rfl]
    rw [ht]
    have M := Lib.hid (kmax_any A n c xs _ (I.out.below hb0) hv)
    have hb0 := Lib.hid hb0
    clear B0 d0 d3 d4 d5 d6 d7 ht h1
    go_enter Tryd.func16, Tryd.ntmps16
    go_wp2_with fail
    refine M.out.mono ?_
    rintro e w' ⟨rfl, rfl⟩
    go_wp2_with fail
    go_ret
    exact ⟨rfl, hb0.out⟩
  · have ho' : (o == 254) = false := by rw [beq_eq_false_iff_ne]; exact ho
    have hon : o < (n : Int) := by rcases h1 with h | h; omega; exact absurd h ho
    have ht : timeN xs o = xs.getD o.toNat 0 := by unfold timeN; rw [if_neg ho]
    rw [ht]
    obtain ⟨b, off, rfl, hbl, hc⟩ := I.out.some (by omega)
    have d := hc o.toNat (by omega)
    have d8 := (hb0.cell (p := ⟨b, off + o.toNat, none⟩) hbl).trans d
    obtain ⟨j, hj⟩ : ∃ j : Nat, o = (j : Int) := ⟨o.toNat, by omega⟩
    have hb0 := Lib.hid hb0
    clear B0 d0 d3 d4 d5 d6 d7 ht h1 d hc ho
    subst hj
    rw [Int.toNat_natCast] at d8 ⊢
    go_enter Tryd.func16, Tryd.ntmps16
    go_wp2_with fail
    go_ret
    exact ⟨rfl, hb0.out⟩

set_option maxRecDepth 100000 in
set_option maxHeartbeats 8000000 in
theorem kvalid_any (key : ByteArray) (A : Option Addr) (n c : Nat) (o x kd : Int) (nu : Nat) (it : Int) (tx : ByteArray) (xs : List Int) (w : World) (V : VerIn w key A n xs o x kd nu it tx) :
    Calls Tryd.prog 9 #[verV key A n c o x kd nu it tx] w fun e w' => e = .returned (.bool (okV key.data.toList xs o x)) ∧ Below w.heap.size w w' := by
  unfold verV
  have hb : Hid (Below w.heap.size w (w.alloc (.cells #[.string key, .slice A n c, .int .i64 o, .int .i64 x, .int .i64 kd, .float .f64 nu, .int .i64 it, .string tx] 28))) := (Below.refl _ w).alloc (Nat.le_refl _) _
  have IK := fun W => Lib.hid (kiskey_any key W V.ks)
  have VA := Lib.hid ((valid_any A n c xs (w.alloc (.cells #[.string key, .slice A n c, .int .i64 o, .int .i64 x, .int .i64 kd, .float .f64 nu, .int .i64 it, .string tx] 28)) (V.ints.below hb.out)))
  have IO := fun W => Lib.hid (kisorigin_any o A n c W)
  have hlen := V.ints.len
  have hmx := V.ints.max
  clear V
  have hk : okV key.data.toList xs o x = (isKeyL key.data.toList && (validL xs && (decide (o = 254 ∨ (0 ≤ o ∧ o < (n : Int))) && (decide (0 ≤ x) && decide (x ≤ 281474976710655))))) := by
    unfold okV
    rw [hlen, Bool.eq_iff_iff]
    simp only [decide_eq_true_eq, Bool.and_eq_true]
    constructor
    · rintro ⟨h1, h2, h3, h4, h5⟩
      exact ⟨h1, h2, by omega, by omega, by omega⟩
    · rintro ⟨h1, h2, h3, h4, h5⟩
      exact ⟨h1, h2, by omega, by omega, by omega⟩
  rw [hk]
  clear hk
  obtain ⟨q1, h1⟩ : ∃ q, isKeyL key.data.toList = q := ⟨_, rfl⟩
  obtain ⟨q2, h2⟩ : ∃ q, validL xs = q := ⟨_, rfl⟩
  obtain ⟨q3, h3⟩ : ∃ q, decide (o = 254 ∨ (0 ≤ o ∧ o < (n : Int))) = q := ⟨_, rfl⟩
  rw [h1] at IK ⊢
  rw [h2] at VA ⊢
  rw [h3]
  simp only [h3] at IO
  clear h1 h2 h3
  cases q1
  · skip
    go_enter Tryd.func9, Tryd.ntmps9
    go_wp2_with fail
    refine (IK _).out.mono ?_
    rintro e w1 ⟨rfl, rfl⟩
    go_wp2_with fail
    go_ret
    exact ⟨by simp, hb.out⟩
  · cases q2
    · skip
      go_enter Tryd.func9, Tryd.ntmps9
      go_wp2_with fail
      refine (IK _).out.mono ?_
      rintro e w1 ⟨rfl, rfl⟩
      go_wp2_with fail
      refine VA.out.mono ?_
      rintro e w1 ⟨rfl, rfl⟩
      go_wp2_with fail
      go_ret
      exact ⟨by simp, hb.out⟩
    · cases q3
      · skip
        go_enter Tryd.func9, Tryd.ntmps9
        go_wp2_with fail
        refine (IK _).out.mono ?_
        rintro e w1 ⟨rfl, rfl⟩
        go_wp2_with fail
        refine VA.out.mono ?_
        rintro e w1 ⟨rfl, rfl⟩
        go_wp2_with fail
        refine (IO _).out.mono ?_
        rintro e w1 ⟨rfl, rfl⟩
        go_wp2_with fail
        go_ret
        exact ⟨by simp, hb.out⟩
      · by_cases g4 : 0 ≤ x
        · rw [decide_eq_true g4]
          obtain ⟨q5, h5⟩ : ∃ q, decide (x ≤ 281474976710655) = q := ⟨_, rfl⟩
          rw [h5]
          go_enter Tryd.func9, Tryd.ntmps9
          go_wp2_with fail
          refine (IK _).out.mono ?_
          rintro e w1 ⟨rfl, rfl⟩
          go_wp2_with fail
          refine VA.out.mono ?_
          rintro e w1 ⟨rfl, rfl⟩
          go_wp2_with fail
          refine (IO _).out.mono ?_
          rintro e w1 ⟨rfl, rfl⟩
          go_wp2_with fail
          go_ret
          exact ⟨by simp, hb.out⟩
        · rw [decide_eq_false g4]
          go_enter Tryd.func9, Tryd.ntmps9
          go_wp2_with fail
          refine (IK _).out.mono ?_
          rintro e w1 ⟨rfl, rfl⟩
          go_wp2_with fail
          refine VA.out.mono ?_
          rintro e w1 ⟨rfl, rfl⟩
          go_wp2_with fail
          refine (IO _).out.mono ?_
          rintro e w1 ⟨rfl, rfl⟩
          go_wp2_with fail
          go_ret
          exact ⟨by simp, hb.out⟩
end Go.Proofs.YthjphiniljopgaaDoor
