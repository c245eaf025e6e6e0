/-
  RawShort: of a number in few bytes no beginning is taken for it.
-/
import Derived.Test.YtkjfhgaiakienaaDoorAlive
import Derived.Lib.Strings
import Derived.OpenShut
namespace Go.Proofs.YtkjfhgaiakienaaDoor
open Go.RowKit

theorem gv_begin (l : List UInt8) : ∀ i v, (∀ c ∈ l, 128 ≤ c.toNat) → i + l.length < 9 → gv l i v = .err 3 := by
  induction l with
  | nil => intro i v _ h; exact gv_short _ _ _ (by simpa using h) rfl
  | cons c r ih =>
    intro i v hc hl
    rw [List.length_cons] at hl
    have hc' := hc c (by simp)
    rw [gv, if_neg (by omega), if_pos hc']
    exact ih _ _ (fun d hd => hc d (by simp [hd])) (by omega)

theorem pv_high (v : Nat) : ∀ i < (pv v).length, ∀ c ∈ (pv v).take i, 128 ≤ c.toNat := by
  induction v using Nat.strongRecOn with
  | _ v ih =>
    intro i hi c hc
    by_cases h : v < 128
    · rw [pv_last v h] at hi hc
      obtain rfl : i = 0 := by simpa using hi
      simp at hc
    · rw [pv_more v (by omega)] at hi hc
      match i, hc with
      | 0, hc => simp at hc
      | i + 1, hc =>
        rw [List.take_succ_cons, List.mem_cons] at hc
        rcases hc with rfl | hc
        · rw [UInt8.toNat_ofNat']; omega
        · exact ih (v / 128) (by omega) i (by simpa using hi) c hc

theorem pv_len (k v : Nat) (h : v < 2 ^ (7 * k)) (hk : 1 ≤ k) : (pv v).length ≤ k := by
  induction k generalizing v with
  | zero => omega
  | succ k ih =>
    by_cases hv : v < 128
    · rw [pv_last v hv]; simp
    · rw [pv_more v (by omega), List.length_cons]
      rcases Nat.eq_zero_or_pos k with h0 | h0
      · subst h0; simp at h; omega
      · have h2 : 2 ^ (7 * (k + 1)) = 128 * 2 ^ (7 * k) := by rw [Nat.mul_add, Nat.pow_add]; omega
        have := ih (v / 128) (by rw [Nat.div_lt_iff_lt_mul (by decide)]; omega) h0
        omega
theorem pv_pos (v : Nat) : 1 ≤ (pv v).length := by
  by_cases hv : v < 128
  · rw [pv_last v hv]; simp
  · rw [pv_more v (by omega)]; simp
theorem pv_len9 (v : Nat) (h : v < 9223372036854775808) : (pv v).length ≤ 9 := pv_len 9 v (by omega) (by decide)

theorem gv_pv (r : List UInt8) (u : Nat) : ∀ i a, i + (pv u).length ≤ 9 → (0 < i → 0 < u) → gv (pv u ++ r) i a = .ok (a + u * 2 ^ (7 * i)) (i + (pv u).length) := by
  induction u using Nat.strongRecOn with
  | _ u ih =>
    intro i a hi h0
    by_cases h : u < 128
    · rw [pv_last u h] at hi ⊢
      rw [List.length_singleton] at hi ⊢
      have e : (UInt8.ofNat u).toNat = u := by rw [UInt8.toNat_ofNat']; omega
      show gv (UInt8.ofNat u :: r) i a = _
      rw [gv, e, if_neg (by omega), if_neg (by omega), if_neg (by omega), Nat.mod_eq_of_lt h]
    · have hp := pv_more u (by omega)
      rw [hp] at hi ⊢
      rw [List.length_cons] at hi ⊢
      have hq := pv_pos (u / 128)
      have e : (UInt8.ofNat (u % 128 + 128)).toNat = u % 128 + 128 := by rw [UInt8.toNat_ofNat']; omega
      rw [List.cons_append, gv, e, if_neg (by omega), if_pos (by omega), ih (u / 128) (by omega) (i + 1) _ (by omega) (fun _ => by omega)]
      have e2 : (u % 128 + 128) % 128 = u % 128 := by omega
      have e3 : 2 ^ (7 * (i + 1)) = 128 * 2 ^ (7 * i) := by rw [Nat.mul_add, Nat.pow_add]; omega
      have e4 : u % 128 * 2 ^ (7 * i) + u / 128 * (128 * 2 ^ (7 * i)) = u * 2 ^ (7 * i) := by
        rw [← Nat.mul_assoc, ← Nat.add_mul]
        congr 1
        omega
      rw [e2, e3]
      congr 1
      · omega
      · omega



set_option maxRecDepth 100000 in
set_option maxHeartbeats 1000000 in
theorem putvar_neg (v : Int) (w : World) (hv : v < 0) :
    Calls Tryd.prog 22 #[.int .i64 v] w fun e w' => e = .returned (.string ByteArray.empty) ∧ w = w' := by
  go_enter Tryd.func22, Tryd.ntmps22
  go_wp2
  go_ret
  exact ⟨rfl, rfl⟩

set_option maxRecDepth 100000 in
set_option maxHeartbeats 1000000 in
theorem rawShort_neg (v : Int) (w : World) (hL : Laid w) (hv : v < 0) :
    Calls Tryd.prog 10 #[.int .i64 v] w fun e w' => e = .returned (.bool true) ∧ Below w.heap.size w w' := by
  go_enter Tryd.func10, Tryd.ntmps10
  go_wp2_with fail
  refine (alive_any w hL).mono ?_
  rintro e w1 ⟨rfl, hb1⟩
  go_wp2_with fail
  refine (putvar_neg v w1 hv).mono ?_
  rintro e w2 ⟨rfl, rfl⟩
  go_wp2_with fail
  go_ret
  exact ⟨rfl, hb1⟩

set_option maxRecDepth 100000 in
set_option maxHeartbeats 1000000 in
theorem rawShort_pos (v : Nat) (w : World) (hL : Laid w) (hv : v < 9223372036854775808) :
    Calls Tryd.prog 10 #[.int .i64 (v : Int)] w fun e w' => e = .returned (.bool true) ∧ Below w.heap.size w w' := by
  obtain ⟨s, hs⟩ : ∃ s : ByteArray, s = ⟨(pv v).toArray⟩ := ⟨_, rfl⟩
  have hsz : s.size ≤ 9 := by rw [hs, size_mk]; exact pv_len9 v hv
  have Hs := Lib.hid hs
  have HL := Lib.hid hL
  clear hs hL
  go_enter Tryd.func10, Tryd.ntmps10
  go_wp2_with fail
  refine (putvar_any v w hv).mono ?_
  rw [← Hs.out]
  rintro e w1 ⟨rfl, hb1⟩
  go_wp2_with fail
  go_loopw [4] (fun i wr => ∃ k : Nat, k ≤ s.size ∧ i = .int .i64 (k : Int) ∧ Below w.heap.size w wr) (fun i _ => s.size - (intOf i).toNat)
  case atStart => exact ⟨0, by omega, rfl, hb1⟩
  case round =>
    obtain ⟨k, hk, rfl, hb⟩ := hrel
    by_cases hl : k < s.size
    · have hgv : gv (s.extract 0 k).data.toList 0 0 = .err 3 := by
        have hl' : k < (pv v).length := by
          have := hl
          rw [Hs.out, size_mk] at this
          exact this
        rw [Lib.extract_data, Hs.out]
        refine gv_begin _ 0 0 (fun c hc => pv_high v k hl' c (by simpa using hc)) ?_
        have := pv_len9 v hv
        simp
        omega
      have Hgv := Lib.hid hgv
      clear hgv
      have hsx : (s.extract 0 k).size ≤ 9223372036854775807 := by simp; omega
      go_wp2_with fail
      refine (getvar_err (s.extract 0 k) 3 wr hsx Hgv.out).mono ?_
      rintro e w2 ⟨rfl, hb2⟩
      go_wp2_with fail
      go_roundw
      case rel => exact ⟨k + 1, by omega, by go_num, hb.trans (hb2.mono hb.size)⟩
      case measure => simp [intOf]; omega
    · go_wp2_with fail
      go_loop [8, 9] (fun n u => ∃ c a : Nat, n = .int .i64 (c : Int) ∧ u = .int .i64 (a : Int) ∧ c ≤ s.size ∧ c + (pv a).length = s.size + 1) (fun _ u => (intOf u).toNat)
      case atStart => exact ⟨1, v, rfl, rfl, by rw [Hs.out, size_mk]; exact pv_pos v, by rw [Hs.out, size_mk]; omega⟩
      case round =>
        obtain ⟨c, a, rfl, rfl, hc, ha⟩ := hrel
        have Ha := Lib.hid ha
        clear ha
        by_cases h : 128 ≤ a
        · have hp := Ha.out
          rw [pv_more a h, List.length_cons] at hp
          have hp1 := pv_pos (a / 128)
          have Hp := Lib.hid hp
          have Hp1 := Lib.hid hp1
          have hcs : c + 1 ≤ s.size := by omega
          clear hp hp1
          go_wp2_with fail
          go_round
          case rel => exact ⟨c + 1, a / 128, by go_num, by go_num, hcs, by have := Hp.out; omega⟩
          case measure => simp [intOf]; omega
        · have hce : c = s.size := by
            have := Ha.out
            rw [pv_last a (by omega)] at this
            simpa using this
          have L1 := HL.out.on hb
          subst hce
          go_wp2_with fail
          refine (alive_any wr L1).mono ?_
          rintro e w3 ⟨rfl, hb3⟩
          go_wp2_with fail
          go_ret
          exact ⟨rfl, hb.trans (hb3.mono hb.size)⟩

theorem lawRawShort (v : Int) (hv : (Lit.int .i64 v).wf = true) (w : World) (hL : Laid w) :
    Calls Tryd.prog 10 #[.int .i64 v] w fun e w' => e = .returned (.bool true) ∧ Below w.heap.size w w' := by
  by_cases h : v < 0
  · exact rawShort_neg v w hL h
  · obtain ⟨v, rfl⟩ := Int.eq_ofNat_of_zero_le (show 0 ≤ v by omega)
    have hb := bounds_i64 hv
    exact rawShort_pos v w hL (by omega)
end Go.Proofs.YtkjfhgaiakienaaDoor
