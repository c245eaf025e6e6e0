/-
  Walks over the document's own answer to chapter 1: Digits.
-/
import Derived.Test.YtalacionlbmcpaaGreatDoorRaw3
import Derived.Test.YtalacionlbmcpaaGreatDoorRaw5
import Derived.Test.YtalacionlbmcpaaGreatDoorItoaPlain
namespace Go.Proofs.YtalacionlbmcpaaGreatDoor
open Go.RowKit

section
variable {P : Program} {B : Nat} {e : TypeId}
theorem run_append_none (w : World) (t ty : TypeId) (i : TypeInfo) (ht : P.underlying t = some (.slice e)) (hi : P.info? e = some i) (ad : Addr) (n c : Nat) (h : n ≤ c) :
    (Builtin.append_ #[t, t] ty #[.slice (some ad) n c, .slice none 0 0]).run P w = .ok (.slice (some ad) n c) w := by
  simp [Builtin.append_, run_underlying ht, sizeOf, typeInfo, hi, Builtin.lenOf, h, Builtin.firstCells, loadCells, loadCellsFrom, storeCells]

theorem wpList_append_none (w : World) {ops : Array Oper} {rest : List Oper} {o : Oper} {a : Act} {Q : Exit → Act → World → Prop} (hgd : o.guard = none) (s x : Operand) (t : TypeId)
    (ho : o.op = .call { callee := .builtin .append, args := #[s, x], argTypes := #[t, t] }) (ht : P.underlying t = some (.slice e)) (hi : (P.info? e).map (fun i => (i.zero, i.size, i.bytes)) = some (some (.int .u8 0), 1, 1))
    (ad : Addr) (n c : Nat) (hc : n ≤ c) (hs : a.eval s = .slice (some ad) n c) (hx : a.eval x = .slice none 0 0)
    (h : wpList P ops Q rest (a.put o.dst (.slice (some ad) n c)) w) : wpList P ops Q (o :: rest) a w := by
  obtain ⟨i0, hi0, _⟩ := info_parts hi
  refine wpList_plain hgd fun _ hK => ?_
  have hr := run_append_none w t o.type i0 ht hi0 ad n c hc
  unfold Oper.wp execOp
  simp only [ho, resolve, invoke, builtin, Sem.run_bind, Sem.run_pure, Result.andThen_ok, List.map_toArray, List.map_cons, List.map_nil, hs, hx, hr]
  exact hK _ _ h
end

theorem Byt.one (w : World) (B : Nat) (hB : B ≤ w.heap.size) (t : TypeId) (c : UInt8) : Byt (w.alloc (.cells #[b8 c] t)) B t (.slice (some ⟨w.heap.size, 0, none⟩) 1 1) [c] :=
  ⟨by simp, .inr ⟨w.heap.size, 1, #[b8 c], rfl, hB, heap_alloc_new w _, Nat.le_refl _, by decide, by simp, by simp⟩⟩

def Cut (u m : Nat) (l : List UInt8) : Prop := (m = 0 ∧ Lib.decDigits u = l) ∨ (m ≠ 0 ∧ Lib.decDigits u = Lib.decDigits m ++ l)
theorem cut_len {u m : Nat} {l : List UInt8} (h : Cut u m l) : l.length ≤ (Lib.decDigits u).length := by
  rcases h with ⟨_, h⟩ | ⟨_, h⟩
  · rw [h]; exact Nat.le_refl _
  · rw [h, List.length_append]; omega
theorem cut_step {u m : Nat} {l : List UInt8} (h : Cut u m l) (h0 : m ≠ 0) : Cut u (m / 10) (UInt8.ofNat (48 + m % 10) :: l) := by
  rcases h with ⟨h, _⟩ | ⟨_, h⟩
  · exact absurd h h0
  · by_cases h9 : m < 10
    · rw [Lib.decDigits_one h9] at h
      refine Or.inl ⟨by omega, ?_⟩
      rw [h, show m % 10 = m from by omega]
      rfl
    · have hd : Lib.decDigits m = Lib.decDigits (m / 10) ++ [UInt8.ofNat (48 + m % 10)] := by
        conv => lhs; rw [Lib.decDigits, dif_neg h9]
      exact Or.inr ⟨by omega, by rw [h, hd, List.append_assoc]; rfl⟩
theorem cut_end {u : Nat} {l : List UInt8} (h : Cut u 0 l) : Lib.decDigits u = l := by
  rcases h with ⟨_, h⟩ | ⟨h, _⟩
  · exact h
  · exact absurd rfl h

set_option maxRecDepth 100000 in
theorem rdigits_zero (w : World) :
    Calls Tryz.prog 48 #[.int .i64 0] w fun e w' => e = .returned (.string ⟨#[48]⟩) ∧ Below w.heap.size w w' := by
  go_enter Tryz.func48, Tryz.ntmps48
  go_wp2
  go_ret
  exact ⟨rfl, Below.refl _ _⟩

set_option maxRecDepth 100000 in
set_option maxHeartbeats 2000000 in
theorem rdigits_pos (u : Nat) (w : World) (h0 : 0 < u) (h1 : u ≤ 9223372036854775807) :
    Calls Tryz.prog 48 #[.int .i64 (u : Int)] w fun e w' => e = .returned (.string ⟨(Lib.decDigits u).toArray⟩) ∧ Below w.heap.size w w' := by
  have hu0 : ((u : Int) == 0) = false := by rw [beq_eq_false_iff_ne]; omega
  go_enter Tryz.func48, Tryz.ntmps48
  go_wp2
  go_loopw [3, 4] (fun b x wr => ∃ (m : Nat) (l : List UInt8), x = .int .i64 (m : Int) ∧ m ≤ u ∧ Hid (Cut u m l) ∧ Byt wr w.heap.size 5 b l ∧ Below w.heap.size w wr)
    (fun _ x _ => (intOf x).toNat)
  case atStart => exact ⟨u, [], rfl, by omega, Lib.hid (Or.inr ⟨by omega, by simp⟩), Byt.nil _ _ _, Below.refl _ _⟩
  case round =>
    obtain ⟨m, l, rfl, hm, Hc, hown, hbe⟩ := hrel
    have hll : l.length ≤ 39 := Nat.le_trans (cut_len Hc.out) (dec_len u (by omega))
    by_cases h0 : m = 0
    · subst h0
      have He := Lib.hid (cut_end Hc.out)
      have hcv := hown.string (src := 65) (dst := 9) Tryz.underlying65 Tryz.underlying5 Tryz.underlying9
      clear hown
      go_wp2
      go_ret
      exact ⟨by rw [He.out]; rfl, hbe⟩
    · have Hc2 := Lib.hid (cut_step Hc.out h0)
      obtain ⟨c, hc⟩ : ∃ c, c = UInt8.ofNat (48 + m % 10) := ⟨_, rfl⟩
      have HC : Hid (48 + (m : Int) % 10 = (c.toNat : Int)) := by
        rw [hc, ← u8_of _ (by omega)]
        show _ = _
        omega
      rw [← hc] at Hc2
      have hm0 : ((m : Int) != 0) = true := by rw [bne_iff_ne]; omega
      clear hc
      have hone := Byt.one wr w.heap.size hbe.size 5 c
      have hbb := below_alloc hbe (Nat.le_refl _) (.cells #[b8 c] 5)
      rcases hown.2 with ⟨rfl, hn⟩ | ⟨g, cap, cur, rfl, hown2⟩
      · have hl0 : l = [] := by simpa using hn
        subst hl0
        clear hown hn
        have hcc := HC.out
        go_wp2_with (at_builtin; refine wpList_append_none _ rfl (.tmp 22) (.tmp 23) 65 rfl Tryz.underlying65 u8info ⟨wr.heap.size, 0, none⟩ 1 1 (Nat.le_refl _) rfl rfl ?_)
        go_roundw
        case rel => exact ⟨m / 10, [c], by go_num, by omega, Hc2, hone, hbb⟩
        case measure => simp [intOf]; omega
      · have hcells := (hown.alloc (.cells #[b8 c] 5)).cells (g := g) rfl
        have hcc := HC.out
        clear hown hown2
        go_wp2_with (at_builtin; refine wpList_append_bytes _ rfl (.tmp 22) (.tmp 23) 65 rfl Tryz.underlying65 u8info rfl hone ⟨g, 0, none⟩ l.length cap rfl l rfl hcells (by simp; omega) (Nat.le_trans hbe.size (by simp)) ?_; intro v' w' hown' hgr; have hb' := hone.grown hbb (Nat.le_trans hbe.size (by simp)) hgr; clear hgr)
        go_roundw
        case rel => exact ⟨m / 10, c :: l, by go_num, by omega, Hc2, hown', hb'⟩
        case measure => simp [intOf]; omega
set_option maxRecDepth 100000 in
set_option maxHeartbeats 2000000 in
theorem rdigits_neg (u : Nat) (w : World) (h0 : 0 < u) (h1 : u ≤ 9223372036854775808) :
    Calls Tryz.prog 48 #[.int .i64 (-(u : Int))] w fun e w' => e = .returned (.string ⟨(45 :: Lib.decDigits u).toArray⟩) ∧ Below w.heap.size w w' := by
  have hu0 : ((-(u : Int)) == 0) = false := by rw [beq_eq_false_iff_ne]; omega
  go_enter Tryz.func48, Tryz.ntmps48
  go_wp2
  go_loopw [3, 4] (fun b x wr => ∃ (m : Nat) (l : List UInt8), x = .int .i64 (-(m : Int)) ∧ m ≤ u ∧ Hid (Cut u m l) ∧ Byt wr w.heap.size 5 b l ∧ Below w.heap.size w wr)
    (fun _ x _ => (-(intOf x)).toNat)
  case atStart => exact ⟨u, [], rfl, by omega, Lib.hid (Or.inr ⟨by omega, by simp⟩), Byt.nil _ _ _, Below.refl _ _⟩
  case round =>
    obtain ⟨m, l, rfl, hm, Hc, hown, hbe⟩ := hrel
    have hll : l.length ≤ 39 := Nat.le_trans (cut_len Hc.out) (dec_len u (by omega))
    by_cases h0 : m = 0
    · subst h0
      have he := cut_end Hc.out
      have hl1 : l ≠ [] := fun e => dec_ne u (he.trans e)
      have He := Lib.hid he
      clear he
      rcases hown.2 with ⟨rfl, hn⟩ | ⟨g, cap, cur, rfl, hown2⟩
      · exact absurd (by simpa using hn) hl1
      · have hone := Byt.one wr w.heap.size hbe.size 5 45
        have hbb := below_alloc hbe (Nat.le_refl _) (.cells #[b8 45] 5)
        have hcells := (hown.alloc (.cells #[b8 45] 5)).cells (g := g) rfl
        clear hown hown2
        go_wp2_with (at_builtin; refine wpList_append_bytes _ rfl (.tmp 27) (.tmp 28) 65 rfl Tryz.underlying65 u8info rfl hone ⟨g, 0, none⟩ l.length cap rfl l rfl hcells (by simp; omega) (Nat.le_trans hbe.size (by simp)) ?_; intro v' w' hown' hgr; have hb' := hone.grown hbb (Nat.le_trans hbe.size (by simp)) hgr; have hcv := hown'.string (src := 65) (dst := 9) Tryz.underlying65 Tryz.underlying5 Tryz.underlying9; clear hown' hgr)
        go_ret
        exact ⟨by rw [He.out]; rfl, hb'⟩
    · have hc2 := cut_step Hc.out h0
      have hm0 : ((-(m : Int)) != 0) = true := by rw [bne_iff_ne]; omega
      by_cases hd : m % 10 = 0
      · rw [hd] at hc2
        have Hc2 := Lib.hid hc2
        have hdz : (m : Int) % 10 = 0 := by omega
        clear hc2 hd
        have hone := Byt.one wr w.heap.size hbe.size 5 48
        have hbb := below_alloc hbe (Nat.le_refl _) (.cells #[b8 48] 5)
        rcases hown.2 with ⟨rfl, hn⟩ | ⟨g, cap, cur, rfl, hown2⟩
        · have hl0 : l = [] := by simpa using hn
          subst hl0
          clear hown hn
          go_wp2_with (at_builtin; refine wpList_append_none _ rfl (.tmp 22) (.tmp 23) 65 rfl Tryz.underlying65 u8info ⟨wr.heap.size, 0, none⟩ 1 1 (Nat.le_refl _) rfl rfl ?_)
          go_roundw
          case rel => exact ⟨m / 10, [48], by go_num, by omega, Hc2, hone, hbb⟩
          case measure => simp [intOf]; omega
        · have hcells := (hown.alloc (.cells #[b8 48] 5)).cells (g := g) rfl
          clear hown hown2
          go_wp2_with (at_builtin; refine wpList_append_bytes _ rfl (.tmp 22) (.tmp 23) 65 rfl Tryz.underlying65 u8info rfl hone ⟨g, 0, none⟩ l.length cap rfl l rfl hcells (by simp; omega) (Nat.le_trans hbe.size (by simp)) ?_; intro v' w' hown' hgr; have hb' := hone.grown hbb (Nat.le_trans hbe.size (by simp)) hgr; clear hgr)
          go_roundw
          case rel => exact ⟨m / 10, 48 :: l, by go_num, by omega, Hc2, hown', hb'⟩
          case measure => simp [intOf]; omega
      · obtain ⟨c, hc⟩ : ∃ c, c = UInt8.ofNat (48 + m % 10) := ⟨_, rfl⟩
        have hcc : 48 + (m : Int) % 10 = (c.toNat : Int) := by
          rw [hc, ← u8_of _ (by omega)]
          omega
        have hdn : (-((m : Int) % 10)) < 0 := by omega
        rw [← hc] at hc2
        have Hc2 := Lib.hid hc2
        clear hc2 hd hc
        have hone := Byt.one wr w.heap.size hbe.size 5 c
        have hbb := below_alloc hbe (Nat.le_refl _) (.cells #[b8 c] 5)
        rcases hown.2 with ⟨rfl, hn⟩ | ⟨g, cap, cur, rfl, hown2⟩
        · have hl0 : l = [] := by simpa using hn
          subst hl0
          clear hown hn
          go_wp2_with (at_builtin; refine wpList_append_none _ rfl (.tmp 22) (.tmp 23) 65 rfl Tryz.underlying65 u8info ⟨wr.heap.size, 0, none⟩ 1 1 (Nat.le_refl _) rfl rfl ?_)
          go_roundw
          case rel => exact ⟨m / 10, [c], by go_num, by omega, Hc2, hone, hbb⟩
          case measure => simp [intOf]; omega
        · have hcells := (hown.alloc (.cells #[b8 c] 5)).cells (g := g) rfl
          clear hown hown2
          go_wp2_with (at_builtin; refine wpList_append_bytes _ rfl (.tmp 22) (.tmp 23) 65 rfl Tryz.underlying65 u8info rfl hone ⟨g, 0, none⟩ l.length cap rfl l rfl hcells (by simp; omega) (Nat.le_trans hbe.size (by simp)) ?_; intro v' w' hown' hgr; have hb' := hone.grown hbb (Nat.le_trans hbe.size (by simp)) hgr; clear hgr)
          go_roundw
          case rel => exact ⟨m / 10, c :: l, by go_num, by omega, Hc2, hown', hb'⟩
          case measure => simp [intOf]; omega

theorem rdigits_any (v : Int) (w : World) (h0 : -9223372036854775808 ≤ v) (h1 : v ≤ 9223372036854775807) :
    Calls Tryz.prog 48 #[.int .i64 v] w fun e w' => e = .returned (.string ⟨(Lib.itoa v).toArray⟩) ∧ Below w.heap.size w w' := by
  rcases Int.lt_trichotomy v 0 with h | h | h
  · obtain ⟨u, rfl⟩ : ∃ u : Nat, v = -(u : Int) := ⟨v.natAbs, by omega⟩
    have hi : Lib.itoa (-(u : Int)) = 45 :: Lib.decDigits u := by
      unfold Lib.itoa
      rw [if_pos h, show (-(u : Int)).natAbs = u from by omega]
    rw [hi]
    exact rdigits_neg u w (by omega) (by omega)
  · subst h
    have hi : Lib.itoa 0 = [48] := by unfold Lib.itoa; rw [if_neg (by decide)]; exact Lib.decDigits_one (by decide)
    rw [hi]
    exact rdigits_zero w
  · obtain ⟨u, rfl⟩ := Int.eq_ofNat_of_zero_le (show 0 ≤ v by omega)
    have hi : Lib.itoa (u : Int) = Lib.decDigits u := by
      unfold Lib.itoa
      rw [if_neg (by omega), Int.toNat_natCast]
    rw [hi]
    exact rdigits_pos u w (by omega) (by omega)
end Go.Proofs.YtalacionlbmcpaaGreatDoor
