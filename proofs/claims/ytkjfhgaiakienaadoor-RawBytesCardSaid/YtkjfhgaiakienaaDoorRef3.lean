/-
  Walks over the document's own answer to chapter 1: Number.
-/
import Derived.Test.YtkjfhgaiakienaaDoorRaw13
namespace Go.Proofs.YtkjfhgaiakienaaDoor
open Go.RowKit

def NumPost (w : World) (g : Option Int) (e : Ending) (w' : World) : Prop := e = .returned (.tuple #[.int .i64 (g.getD 0), .int .i64 (if g.isSome then 0 else 4)]) ∧ Below w.heap.size w w'

theorem headD_at (s : ByteArray) (h : 0 < s.size) : s.data.toList.headD 0 = s[0] := by
  have hd : s.data.toList = s[0] :: s.data.toList.drop 1 := by
    have := List.drop_eq_getElem_cons (l := s.data.toList) (i := 0) (by simpa using h)
    rw [List.drop_zero] at this
    exact this
  rw [hd]
  rfl


set_option maxRecDepth 100000 in
set_option maxHeartbeats 2000000 in
theorem rnumber_minus (s t : ByteArray) (w : World) (hp : 0 < s.size) (e45 : ((s[0].toNat : Int) == 45) = true) (ht : t = s.extract 1 s.size) (hs : s.size ≤ 140737488351232) (e0 : (s.toList == [48]) = false) :
    Calls Tryd.prog 18 #[.string s] w fun e w' => NumPost w ((natL t.data.toList).map fun (v : Nat) => -(v : Int)) e w' := by
  have hlen : t.data.toList.length = t.size := rfl
  by_cases h1 : t.size < 1
  · have hn : natL t.data.toList = none := by unfold natL; rw [if_pos (by omega)]
    rw [hn]
    clear hn hlen
    go_enter Tryd.func18, Tryd.ntmps18
    go_wp2
    go_region
    rw [← ht]
    clear ht
    go_wp2
    go_ret2
    exact ⟨rfl, (Below.refl _ _).drew⟩
  by_cases h2 : 16 < t.size
  · have hn : natL t.data.toList = none := by unfold natL; rw [if_pos (by omega)]
    rw [hn]
    clear hn hlen
    go_enter Tryd.func18, Tryd.ntmps18
    go_wp2
    go_region
    rw [← ht]
    clear ht
    go_wp2
    go_ret2
    exact ⟨rfl, (Below.refl _ _).drew⟩
  have h0 : 0 < t.size := by omega
  have hhd := headD_at t h0
  by_cases h3 : t[0].toNat = 48
  · have hn : natL t.data.toList = none := by unfold natL; rw [if_pos (by rw [hhd]; omega)]
    have e3 : ((t[0].toNat : Int) == 48) = true := by rw [beq_iff_eq]; omega
    rw [hn]
    clear hn hlen hhd h3
    go_enter Tryd.func18, Tryd.ntmps18
    go_wp2
    go_region
    rw [← ht]
    clear ht
    go_wp2
    go_ret2
    exact ⟨rfl, (Below.refl _ _).drew⟩
  obtain ⟨g, hg⟩ : ∃ g, g = natL t.data.toList := ⟨_, rfl⟩
  have hn : natL t.data.toList = digs t.data.toList 0 := by unfold natL; rw [if_neg (by rw [hhd]; omega)]
  have e3 : ((t[0].toNat : Int) == 48) = false := by rw [beq_eq_false_iff_ne]; omega
  rw [← hg]
  rw [hn] at hg
  have Hg := Lib.hid hg
  clear hg hn hlen hhd h3
  · skip
    go_enter Tryd.func18, Tryd.ntmps18
    go_wp2
    go_region
    rw [← ht]
    clear ht
    go_wp2
    go_loop [5, 6] (fun v i => ∃ k a : Nat, k ≤ t.size ∧ i = .int .i64 (k : Int) ∧ v = .int .i64 (a : Int) ∧ Hid (a < 10 ^ k) ∧ Hid (g = digs (t.data.toList.drop k) a)) (fun _ i => t.size - (intOf i).toNat)
    case atStart => exact ⟨0, 0, by omega, rfl, rfl, by show 0 < 10 ^ 0; decide, Hg⟩
    case round =>
      obtain ⟨k, a, hk, rfl, rfl, Ha, Hd⟩ := hrel
      have h16 : (10 : Nat) ^ k ≤ 10 ^ 16 := Nat.pow_le_pow_right (by decide) (by omega)
      have ha16 : a < 10000000000000000 := by have := Ha.out; omega
      clear h16
      by_cases hl : k < t.size
      · have hb8 := UInt8.toNat_lt t[k]
        have hdk : t.data.toList.drop k = t[k] :: t.data.toList.drop (k + 1) := List.drop_eq_getElem_cons (by simpa using hl)
        have h15 : (10 : Nat) ^ k ≤ 10 ^ 15 := Nat.pow_le_pow_right (by decide) (by omega)
        have ha15 : a < 1000000000000000 := by have := Ha.out; omega
        clear h15
        by_cases hc : 48 ≤ t[k].toNat ∧ t[k].toNat ≤ 57
        · have hgg : g = digs (t.data.toList.drop (k + 1)) (a * 10 + (t[k].toNat - 48)) := by rw [Hd.out, hdk, digs, if_pos hc]
          have Hgg := Lib.hid hgg
          have hc1 : (48 : Int) ≤ (t[k].toNat : Int) := by omega
          have hc2 : (t[k].toNat : Int) ≤ 57 := by omega
          clear hgg hdk
          go_wp2
          go_round
          case rel =>
            refine ⟨k + 1, a * 10 + (t[k].toNat - 48), by omega, by go_num, by go_num, ?_, Hgg⟩
            show _ < _
            have := Ha.out
            rw [Nat.pow_succ]
            omega
          case measure => simp [intOf]; omega
        · have hgg : g = none := by rw [Hd.out, hdk, digs, if_neg hc]
          have Hgg := Lib.hid hgg
          by_cases hc1 : t[k].toNat < 48
          · clear hgg hdk hc
            go_wp2
            go_ret2
            rw [Hgg.out]
            exact ⟨rfl, (Below.refl _ _).drew⟩
          · have hc2 : 57 < t[k].toNat := by omega
            clear hgg hdk hc
            go_wp2
            go_ret2
            rw [Hgg.out]
            exact ⟨rfl, (Below.refl _ _).drew⟩
      · obtain rfl : k = t.size := by omega
        have hgg : g = some a := by rw [Hd.out, List.drop_of_length_le (by simp)]; rfl
        have Hgg := Lib.hid hgg
        clear hgg
        go_wp2
        go_ret2
        rw [Hgg.out]
        exact ⟨rfl, (Below.refl _ _).drew⟩

set_option maxRecDepth 100000 in
set_option maxHeartbeats 2000000 in
theorem rnumber_plus (s : ByteArray) (w : World) (hp : 0 < s.size) (e45 : ((s[0].toNat : Int) == 45) = false) (hs : s.size ≤ 140737488351232) (e0 : (s.toList == [48]) = false) :
    Calls Tryd.prog 18 #[.string s] w fun e w' => NumPost w ((natL s.data.toList).map fun (v : Nat) => (v : Int)) e w' := by
  have hlen : s.data.toList.length = s.size := rfl
  by_cases h1 : s.size < 1
  · exact absurd hp (by omega)
  by_cases h2 : 16 < s.size
  · have hn : natL s.data.toList = none := by unfold natL; rw [if_pos (by omega)]
    rw [hn]
    clear hn hlen
    go_enter Tryd.func18, Tryd.ntmps18
    go_wp2
    go_ret2
    exact ⟨rfl, Below.refl _ _⟩
  have h0 : 0 < s.size := by omega
  have hhd := headD_at s h0
  by_cases h3 : s[0].toNat = 48
  · have hn : natL s.data.toList = none := by unfold natL; rw [if_pos (by rw [hhd]; omega)]
    have e3 : ((s[0].toNat : Int) == 48) = true := by rw [beq_iff_eq]; omega
    rw [hn]
    clear hn hlen hhd h3
    go_enter Tryd.func18, Tryd.ntmps18
    go_wp2
    go_ret2
    exact ⟨rfl, Below.refl _ _⟩
  obtain ⟨g, hg⟩ : ∃ g, g = natL s.data.toList := ⟨_, rfl⟩
  have hn : natL s.data.toList = digs s.data.toList 0 := by unfold natL; rw [if_neg (by rw [hhd]; omega)]
  have e3 : ((s[0].toNat : Int) == 48) = false := by rw [beq_eq_false_iff_ne]; omega
  rw [← hg]
  rw [hn] at hg
  have Hg := Lib.hid hg
  clear hg hn hlen hhd h3
  · skip
    go_enter Tryd.func18, Tryd.ntmps18
    go_wp2
    go_loop [5, 6] (fun v i => ∃ k a : Nat, k ≤ s.size ∧ i = .int .i64 (k : Int) ∧ v = .int .i64 (a : Int) ∧ Hid (a < 10 ^ k) ∧ Hid (g = digs (s.data.toList.drop k) a)) (fun _ i => s.size - (intOf i).toNat)
    case atStart => exact ⟨0, 0, by omega, rfl, rfl, by show 0 < 10 ^ 0; decide, Hg⟩
    case round =>
      obtain ⟨k, a, hk, rfl, rfl, Ha, Hd⟩ := hrel
      have h16 : (10 : Nat) ^ k ≤ 10 ^ 16 := Nat.pow_le_pow_right (by decide) (by omega)
      have ha16 : a < 10000000000000000 := by have := Ha.out; omega
      clear h16
      by_cases hl : k < s.size
      · have hb8 := UInt8.toNat_lt s[k]
        have hdk : s.data.toList.drop k = s[k] :: s.data.toList.drop (k + 1) := List.drop_eq_getElem_cons (by simpa using hl)
        have h15 : (10 : Nat) ^ k ≤ 10 ^ 15 := Nat.pow_le_pow_right (by decide) (by omega)
        have ha15 : a < 1000000000000000 := by have := Ha.out; omega
        clear h15
        by_cases hc : 48 ≤ s[k].toNat ∧ s[k].toNat ≤ 57
        · have hgg : g = digs (s.data.toList.drop (k + 1)) (a * 10 + (s[k].toNat - 48)) := by rw [Hd.out, hdk, digs, if_pos hc]
          have Hgg := Lib.hid hgg
          have hc1 : (48 : Int) ≤ (s[k].toNat : Int) := by omega
          have hc2 : (s[k].toNat : Int) ≤ 57 := by omega
          clear hgg hdk
          go_wp2
          go_round
          case rel =>
            refine ⟨k + 1, a * 10 + (s[k].toNat - 48), by omega, by go_num, by go_num, ?_, Hgg⟩
            show _ < _
            have := Ha.out
            rw [Nat.pow_succ]
            omega
          case measure => simp [intOf]; omega
        · have hgg : g = none := by rw [Hd.out, hdk, digs, if_neg hc]
          have Hgg := Lib.hid hgg
          by_cases hc1 : s[k].toNat < 48
          · clear hgg hdk hc
            go_wp2
            go_ret2
            rw [Hgg.out]
            exact ⟨rfl, Below.refl _ _⟩
          · have hc2 : 57 < s[k].toNat := by omega
            clear hgg hdk hc
            go_wp2
            go_ret2
            rw [Hgg.out]
            exact ⟨rfl, Below.refl _ _⟩
      · obtain rfl : k = s.size := by omega
        have hgg : g = some a := by rw [Hd.out, List.drop_of_length_le (by simp)]; rfl
        have Hgg := Lib.hid hgg
        clear hgg
        go_wp2
        go_ret2
        rw [Hgg.out]
        exact ⟨rfl, Below.refl _ _⟩

set_option maxRecDepth 100000 in
theorem rnumber_zero (s : ByteArray) (w : World) (e0 : (s.toList == [48]) = true) :
    Calls Tryd.prog 18 #[.string s] w fun e w' => NumPost w (some 0) e w' := by
  go_enter Tryd.func18, Tryd.ntmps18
  go_wp2
  go_ret2
  exact ⟨rfl, Below.refl _ _⟩

set_option maxRecDepth 100000 in
theorem rnumber_empty (s : ByteArray) (w : World) (h : s.size < 1) (e0 : (s.toList == [48]) = false) :
    Calls Tryd.prog 18 #[.string s] w fun e w' => NumPost w none e w' := by
  go_enter Tryd.func18, Tryd.ntmps18
  go_wp2
  go_ret2
  exact ⟨rfl, Below.refl _ _⟩

theorem rnumber_any (s : ByteArray) (w : World) (hs : s.size ≤ 140737488351232) :
    Calls Tryd.prog 18 #[.string s] w fun e w' => e = .returned (.tuple #[.int .i64 ((numL s.data.toList).getD 0), .int .i64 (if (numL s.data.toList).isSome then 0 else 4)]) ∧ Below w.heap.size w w' := by
  have hz : ∀ b, (s.toList == [48]) = b → (b = true ↔ s.data.toList = [48]) := by
    rintro b rfl
    rw [Lib.toList_data, beq_iff_eq]
  cases e0 : (s.toList == [48]) with
  | true =>
    have h1 : numL s.data.toList = some 0 := by unfold numL; rw [if_pos ((hz _ e0).1 rfl)]
    rw [h1]
    exact rnumber_zero s w e0
  | false =>
    have h2 : s.data.toList ≠ [48] := fun e => by have := (hz _ e0).2 e; cases this
    by_cases hp : 0 < s.size
    · have hd : s.data.toList = s[0] :: s.data.toList.drop 1 := by
        have := List.drop_eq_getElem_cons (l := s.data.toList) (i := 0) (by simpa using hp)
        rw [List.drop_zero] at this
        exact this
      cases e45 : ((s[0].toNat : Int) == 45) with
      | true =>
        have h45 : s[0] = 45 := by
          rw [beq_iff_eq] at e45
          apply UInt8.toNat_inj.1
          show s[0].toNat = 45
          omega
        have hpr : Lib.hasPrefix s.data.toList [45] = true := by rw [hd, h45]; simp [Lib.hasPrefix]
        have htr : Lib.trimPrefix s.data.toList [45] = (s.extract 1 s.size).data.toList := by
          unfold Lib.trimPrefix
          rw [if_pos hpr, Lib.extract_data, List.take_of_length_le (by simp)]
          rfl
        have hn : numL s.data.toList = (natL (s.extract 1 s.size).data.toList).map fun (v : Nat) => -(v : Int) := by
          unfold numL
          rw [if_neg h2, htr, hpr]
          rfl
        rw [hn]
        exact rnumber_minus s _ w hp e45 rfl hs e0
      | false =>
        have h45 : s[0] ≠ 45 := by
          intro e
          rw [e] at e45
          revert e45
          decide
        have hpr : Lib.hasPrefix s.data.toList [45] = false := by
          rw [hd]
          simp only [Lib.hasPrefix, List.isPrefixOf, Bool.and_true, beq_eq_false_iff_ne]
          exact fun e => h45 e.symm
        have htr : Lib.trimPrefix s.data.toList [45] = s.data.toList := by
          unfold Lib.trimPrefix
          rw [if_neg (by rw [hpr]; decide)]
        have hn : numL s.data.toList = (natL s.data.toList).map fun (v : Nat) => (v : Int) := by
          unfold numL
          rw [if_neg h2, htr, hpr]
          rfl
        rw [hn]
        exact rnumber_plus s w hp e45 hs e0
    · have hl : s.data.toList = [] := List.eq_nil_of_length_eq_zero (show s.size = 0 by omega)
      have hn : numL s.data.toList = none := by
        rw [hl]
        rfl
      rw [hn]
      exact rnumber_empty s w (by omega) e0
end Go.Proofs.YtkjfhgaiakienaaDoor
