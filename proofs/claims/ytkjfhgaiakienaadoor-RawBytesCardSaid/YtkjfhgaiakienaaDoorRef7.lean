/-
  Walks over the document's own answer to chapter 1: Unquote.
-/
import Derived.Test.YtkjfhgaiakienaaDoorRaw9
import Derived.Test.YtkjfhgaiakienaaDoorRef3
import Derived.Deep.RegionHeld3
namespace Go.Proofs.YtkjfhgaiakienaaDoor
open Go.RowKit

def dig (c : Nat) : Int := match hexv c with
  | some v => (v : Int)
  | none => -1

set_option maxRecDepth 100000 in
set_option maxHeartbeats 1000000 in
theorem rdigit_any (c : Nat) (w : World) (hc : c < 256) :
    Calls Tryd.prog 41 #[.int .u8 (c : Int)] w fun e w' => e = .returned (.int .i64 (dig c)) ∧ w = w' := by
  by_cases h1 : 48 ≤ c ∧ c ≤ 57
  · have hd : dig c = (c : Int) - 48 := by unfold dig hexv; rw [if_neg (by omega), if_neg (by omega), if_pos h1]; show ((c - 48 : Nat) : Int) = _; omega
    have a1 : (48 : Int) ≤ (c : Int) := by omega
    have a2 : (c : Int) ≤ 57 := by omega
    rw [hd]
    clear hd h1
    go_enter Tryd.func41, Tryd.ntmps41
    go_wp2
    go_ret
    exact ⟨rfl, rfl⟩
  by_cases h2 : 97 ≤ c ∧ c ≤ 102
  · have hd : dig c = (c : Int) - 97 + 10 := by unfold dig hexv; rw [if_pos h2]; show ((c - 87 : Nat) : Int) = _; omega
    have a1 : (97 : Int) ≤ (c : Int) := by omega
    have a2 : (c : Int) ≤ 102 := by omega
    rw [hd]
    clear hd h1 h2
    go_enter Tryd.func41, Tryd.ntmps41
    go_wp2
    go_ret
    exact ⟨rfl, rfl⟩
  by_cases h3 : 65 ≤ c ∧ c ≤ 70
  · have hd : dig c = (c : Int) - 65 + 10 := by unfold dig hexv; rw [if_neg h2, if_pos h3]; show ((c - 55 : Nat) : Int) = _; omega
    have a1 : (65 : Int) ≤ (c : Int) := by omega
    have a2 : (c : Int) ≤ 70 := by omega
    rw [hd]
    clear hd h1 h2 h3
    go_enter Tryd.func41, Tryd.ntmps41
    go_wp2
    go_ret
    exact ⟨rfl, rfl⟩
  have hd : dig c = -1 := by unfold dig hexv; rw [if_neg h2, if_neg h3, if_neg h1]
  rw [hd]
  clear hd
  by_cases b1 : c < 48
  · clear h1 h2 h3
    go_enter Tryd.func41, Tryd.ntmps41
    go_wp2
    go_ret
    exact ⟨rfl, rfl⟩
  have b2 : 57 < c := by omega
  by_cases b3 : c < 65
  · clear h1 h2 h3 b1
    go_enter Tryd.func41, Tryd.ntmps41
    go_wp2
    go_ret
    exact ⟨rfl, rfl⟩
  have b4 : 70 < c := by omega
  by_cases b5 : c < 97
  · clear h1 h2 h3 b1 b2 b3
    go_enter Tryd.func41, Tryd.ntmps41
    go_wp2
    go_ret
    exact ⟨rfl, rfl⟩
  have b6 : 102 < c := by omega
  clear h1 h2 h3 b1 b2 b3 b4 b5
  go_enter Tryd.func41, Tryd.ntmps41
  go_wp2
  go_ret
  exact ⟨rfl, rfl⟩

def UnqPost (w : World) : Option (List UInt8 × Nat) → Ending → World → Prop
  | some (l, n), e, w' => e = .returned (.tuple #[.string ⟨l.toArray⟩, .int .i64 (n : Int), .int .i64 0]) ∧ Below w.heap.size w w'
  | none, e, w' => e = .returned (.tuple #[.string ⟨#[]⟩, .int .i64 0, .int .i64 4]) ∧ Below w.heap.size w w'

theorem rdigit_u8 (c : UInt8) (w : World) : Calls Tryd.prog 41 #[.int .u8 (c.toNat : Int)] w fun e w' => e = .returned (.int .i64 (dig c.toNat)) ∧ w = w' := rdigit_any c.toNat w (UInt8.toNat_lt c)
theorem escx_short (l : List UInt8) (h : l.length < 2) : escx l = none := by
  match l, h with
  | [], _ => rfl
  | [_], _ => rfl
  | _ :: _ :: _, h => simp at h; omega
theorem drop_at (s : ByteArray) (k : Nat) (h : k < s.size) : s.data.toList.drop k = s[k] :: s.data.toList.drop (k + 1) := List.drop_eq_getElem_cons (by simpa using h)

set_option maxRecDepth 100000 in
set_option maxHeartbeats 8000000 in
theorem runquote_any (s : ByteArray) (w : World) (hs : s.size ≤ 140737488351232) :
    Calls Tryd.prog 25 #[.string s] w fun e w' => UnqPost w (unq s.data.toList) e w' := by
  have hbe := Below.refl w.heap.size w
  by_cases h0 : s.size = 0
  · have hgg : unq s.data.toList = none := by
      have : s.data.toList = [] := List.eq_nil_of_length_eq_zero h0
      rw [this, unq]
    rw [hgg]
    clear hgg
    go_enter Tryd.func25, Tryd.ntmps25
    go_wp2_with fail
    go_ret3
    exact ⟨rfl, hbe⟩
  have h0' : 0 < s.size := by omega
  have hz : ((s.size : Int) == 0) = false := by rw [beq_eq_false_iff_ne]; omega
  have hd := drop_at s 0 h0'
  rw [List.drop_zero] at hd
  by_cases h34 : s[0].toNat = 34
  rotate_left
  · have hgg : unq s.data.toList = none := by rw [hd, unq, if_neg h34]
    have e0 : ((s[0].toNat : Int) != 34) = true := by rw [bne_iff_ne]; omega
    rw [hgg]
    clear hgg hd h34 h0
    go_enter Tryd.func25, Tryd.ntmps25
    go_wp2_with fail
    go_ret3
    exact ⟨rfl, hbe⟩
  obtain ⟨g, hg⟩ : ∃ g, g = unq s.data.toList := ⟨_, rfl⟩
  have hg2 : g = onto [] 1 (uq (s.data.toList.drop 1)) := by
    rw [hg]
    conv => lhs; rw [hd, unq, if_pos h34]
  rw [← hg]
  have Hg := Lib.hid hg2
  have e0 : ((s[0].toNat : Int) != 34) = false := by rw [h34]; rfl
  clear hg hg2 hd h34 h0 hbe
  go_enter Tryd.func25, Tryd.ntmps25
  go_wp2_with fail
  go_loopw [5, 6] (fun b i wr => ∃ (k : Nat) (acc : List UInt8), k ≤ s.size ∧ acc.length ≤ k ∧ i = .int .i64 (k : Int) ∧ Byt wr w.heap.size 5 b acc ∧ Hid (g = onto acc k (uq (s.data.toList.drop k))) ∧ Below w.heap.size w wr)
    (fun _ i _ => s.size - (intOf i).toNat)
  case atStart => exact ⟨1, [], by omega, by simp, rfl, Byt.nil _ _ _, Hg, Below.refl _ _⟩
  case round =>
    obtain ⟨k, acc, hk, hacc, rfl, hown, Hk, hbe⟩ := hrel
    by_cases hl : k < s.size
    rotate_left
    · obtain rfl : k = s.size := by omega
      have hgg : g = none := by
        rw [Hk.out, List.drop_of_length_le (by simp), uq]
        rfl
      have Hgg := Lib.hid hgg
      clear hgg
      go_wp2_with fail
      go_ret3
      rw [Hgg.out]
      exact ⟨rfl, hbe⟩
    have hb8 := UInt8.toNat_lt s[k]
    have hdk := drop_at s k hl
    by_cases q34 : s[k].toNat = 34
    · have hgg : g = some (acc, k + 1) := by rw [Hk.out, hdk, uq_end _ _ q34]; simp [onto]
      have e1 : ((s[k].toNat : Int) == 34) = true := by rw [beq_iff_eq]; omega
      have hcv := hown.string (src := 42) (dst := 9) Tryd.underlying42 Tryd.underlying5 Tryd.underlying9
      have Hgg := Lib.hid hgg
      clear hgg hdk q34 hown
      go_wp2_with fail
      go_ret3
      rw [Hgg.out]
      exact ⟨rfl, hbe⟩
    have e1 : ((s[k].toNat : Int) == 34) = false := by rw [beq_eq_false_iff_ne]; omega
    by_cases q92 : s[k].toNat = 92
    rotate_left
    · have e2 : ((s[k].toNat : Int) != 92) = true := by rw [bne_iff_ne]; omega
      by_cases qp : 32 ≤ s[k].toNat ∧ s[k].toNat ≤ 126
      · have hgg : g = onto (acc ++ [s[k]]) (k + 1) (uq (s.data.toList.drop (k + 1))) := by rw [Hk.out, hdk, uq_plain _ _ q34 q92 qp]
        have Hgg := Lib.hid hgg
        have hp1 : (32 : Int) ≤ (s[k].toNat : Int) := by omega
        have hp2 : (s[k].toNat : Int) ≤ 126 := by omega
        clear hgg hdk q92 q34 qp
        go_wp2_with (at_builtin; refine wpList_append_byte _ rfl (.tmp 40) (.tmp 42) 42 rfl Tryd.underlying42 u8info rfl (hown.alloc _) ⟨wr.heap.size, 0, none⟩ 1 rfl _ (cell_new _ _ _) s[k] rfl (by omega) (Nat.le_trans hbe.size (by simp)) ?_; intro v' w' hown' hgr; have hb' := (hown.alloc (.cells #[.int .u8 (s[k].toNat : Int)] 5)).grown (below_alloc hbe (Nat.le_refl _) _) (Nat.le_trans hbe.size (by simp)) hgr; clear hgr)
        go_roundw
        case rel => exact ⟨k + 1, acc ++ [s[k]], by omega, by simp; omega, by go_num, hown', Hgg, hb'⟩
        case measure => simp [intOf]; omega
      · have hgg : g = none := by rw [Hk.out, hdk, uq_not _ _ q34 q92 qp]; rfl
        by_cases hp1 : s[k].toNat < 32
        · clear hdk q92 q34 qp
          have Hgg := Lib.hid hgg
          clear hgg
          go_wp2_with fail
          go_ret3
          rw [Hgg.out]
          exact ⟨rfl, hbe⟩
        · have hp2 : 126 < s[k].toNat := by omega
          clear hdk q92 q34 qp
          have Hgg := Lib.hid hgg
          clear hgg
          go_wp2_with fail
          go_ret3
          rw [Hgg.out]
          exact ⟨rfl, hbe⟩
    have e2 : ((s[k].toNat : Int) != 92) = false := by rw [q92]; rfl
    have hp1 : (32 : Int) ≤ (s[k].toNat : Int) := by omega
    have hp2 : (s[k].toNat : Int) ≤ 126 := by omega
    obtain ⟨n1, hn1⟩ : ∃ n1, n1 = k + 1 := ⟨_, rfl⟩
    have hk1 : (k : Int) + 1 = (n1 : Int) := by omega
    have hbad : esc (s.data.toList.drop n1) = none → g = none := by
      intro he
      rw [hn1] at he
      rw [Hk.out, hdk, uq_bad _ _ q92 he]
      rfl
    have hgood : ∀ d n, esc (s.data.toList.drop n1) = some (d, n) → g = onto (acc ++ [d]) (k + 1 + n) (uq (s.data.toList.drop (k + 1 + n))) := by
      intro d n he
      rw [hn1] at he
      rw [Hk.out, hdk, uq_esc _ _ d n q92 he, List.drop_drop]
    have Hbad := Lib.hid hbad
    have Hgood := Lib.hid hgood
    clear hbad hgood hdk q34 q92
    have hw1 : IntKind.i64.wrap (n1 : Int) = (n1 : Int) := by rw [IntKind.wrap_i64]; omega
    by_cases l1 : n1 < s.size
    rotate_left
    · obtain ⟨n3, hn3⟩ : ∃ n3, n3 = k + 3 := ⟨_, rfl⟩
      have hk3 : (k : Int) + 3 = (n3 : Int) := by omega
      have l3 : ¬ n3 < s.size := by omega
      have hgg : g = none := Hbad.out (by rw [List.drop_of_length_le (by simpa using l1)]; rfl)
      have Hgg := Lib.hid hgg
      clear hgg hn1 hn3
      go_wp2_with fail
      go_ret3
      rw [Hgg.out]
      exact ⟨rfl, hbe⟩
    have hd1 := drop_at s n1 l1
    have hb1 := UInt8.toNat_lt s[n1]
    by_cases c34 : s[n1].toNat = 34 ∨ s[n1].toNat = 92
    · have hgg := Hgood.out s[n1] 1 (by rw [hd1]; show (if _ then _ else _) = _; rw [if_pos c34])
      have Hgg := Lib.hid hgg
      have Hc : ((s[n1].toNat : Int) == 34) = true ∨ (((s[n1].toNat : Int) == 34) = false ∧ ((s[n1].toNat : Int) == 92) = true) := by
        rcases c34 with h | h
        · exact Or.inl (by rw [beq_iff_eq]; omega)
        · exact Or.inr ⟨by rw [beq_eq_false_iff_ne]; omega, by rw [beq_iff_eq]; omega⟩
      have Hn1 := Lib.hid hn1
      clear hgg hd1 c34 hn1
      rcases Hc with f1 | ⟨f1, f2⟩
      all_goals
        go_wp2_with (at_builtin; refine wpList_append_byte _ rfl (.tmp 66) (.tmp 71) 42 rfl Tryd.underlying42 u8info rfl (hown.alloc _) ⟨wr.heap.size, 0, none⟩ 1 rfl _ (cell_new _ _ _) s[n1] rfl (by omega) (Nat.le_trans hbe.size (by simp)) ?_; intro v' w' hown' hgr; have hb' := (hown.alloc (.cells #[.int .u8 (s[n1].toNat : Int)] 5)).grown (below_alloc hbe (Nat.le_refl _) _) (Nat.le_trans hbe.size (by simp)) hgr; clear hgr)
        have hn1 := Hn1.out
        go_roundw
        case rel => exact ⟨k + 1 + 1, acc ++ [s[n1]], by omega, by simp; omega, by go_num, hown', Hgg, hb'⟩
        case measure => simp [intOf]; omega
    have f1 : ((s[n1].toNat : Int) == 34) = false := by rw [beq_eq_false_iff_ne]; omega
    have f2 : ((s[n1].toNat : Int) == 92) = false := by rw [beq_eq_false_iff_ne]; omega
    obtain ⟨n2, hn2⟩ : ∃ n2, n2 = k + 2 := ⟨_, rfl⟩
    obtain ⟨n3, hn3⟩ : ∃ n3, n3 = k + 3 := ⟨_, rfl⟩
    have hk2 : (k : Int) + 2 = (n2 : Int) := by omega
    have hk3 : (k : Int) + 3 = (n3 : Int) := by omega
    have hw2 : IntKind.i64.wrap (n2 : Int) = (n2 : Int) := by rw [IntKind.wrap_i64]; omega
    have hw3 : IntKind.i64.wrap (n3 : Int) = (n3 : Int) := by rw [IntKind.wrap_i64]; omega
    by_cases c120 : s[n1].toNat = 120
    rotate_left
    · have f3 : ((s[n1].toNat : Int) == 120) = false := by rw [beq_eq_false_iff_ne]; omega
      have hgg : g = none := Hbad.out (by rw [hd1]; show (if _ then _ else _) = _; rw [if_neg c34, if_neg c120])
      have Hgg := Lib.hid hgg
      by_cases l3 : n3 < s.size
      all_goals
        clear hgg hd1 c34 c120 hn1 hn2 hn3
        go_wp2_with fail
        go_ret3
        rw [Hgg.out]
        exact ⟨rfl, hbe⟩
    have f3 : ((s[n1].toNat : Int) == 120) = true := by rw [beq_iff_eq]; omega
    have hesc : esc (s.data.toList.drop n1) = escx (s.data.toList.drop n2) := by
      rw [hd1, show n1 + 1 = n2 from by omega]
      show (if _ then _ else _) = _
      rw [if_neg c34, if_pos c120]
    by_cases l3 : n3 < s.size
    rotate_left
    · have hgg : g = none := Hbad.out (by rw [hesc]; exact escx_short _ (by simp; omega))
      have Hgg := Lib.hid hgg
      clear hgg hd1 c34 c120 hn1 hn2 hn3 hesc
      go_wp2_with fail
      go_ret3
      rw [Hgg.out]
      exact ⟨rfl, hbe⟩
    have l2 : n2 < s.size := by omega
    have hd2 := drop_at s n2 l2
    have hd3 := drop_at s n3 l3
    rw [show n2 + 1 = n3 from by omega, hd3] at hd2
    rw [hd2, escx_cons] at hesc
    obtain ⟨c2, hc2⟩ : ∃ c2, s[n2] = c2 := ⟨_, rfl⟩
    obtain ⟨c3, hc3⟩ : ∃ c3, s[n3] = c3 := ⟨_, rfl⟩
    rw [hc2, hc3] at hesc
    have D2 := fun W => rdigit_any c2.toNat W (UInt8.toNat_lt _)
    have D3 := fun W => rdigit_any c3.toNat W (UInt8.toNat_lt _)
    cases x2 : hexv c2.toNat with
    | none =>
      have hdg : dig c2.toNat = -1 := by unfold dig; rw [x2]
      rw [hdg] at D2
      have D2 := fun W => Lib.hid (D2 W)
      rw [x2] at hesc
      have hgg : g = none := Hbad.out (by rw [hesc]; rfl)
      have Hgg := Lib.hid hgg
      clear hgg hd1 hd2 hd3 c34 c120 hn1 hn2 hn3 hesc hdg x2 D3
      go_wp2_with fail
      refine (D2 _).out.mono ?_
      rintro e w2 ⟨rfl, rfl⟩
      go_wp2_with fail
      go_ret3
      rw [Hgg.out]
      exact ⟨rfl, hbe⟩
    | some x =>
      have hx16 := hexv_lt x2
      have hdg : dig c2.toNat = (x : Int) := by unfold dig; rw [x2]
      rw [hdg] at D2
      have D2 := fun W => Lib.hid (D2 W)
      rw [x2] at hesc
      cases x3 : hexv c3.toNat with
      | none =>
        have hdg3 : dig c3.toNat = -1 := by unfold dig; rw [x3]
        rw [hdg3] at D3
        have D3 := fun W => Lib.hid (D3 W)
        rw [x3] at hesc
        have hgg : g = none := Hbad.out (by rw [hesc]; rfl)
        have Hgg := Lib.hid hgg
        clear hgg hd1 hd2 hd3 c34 c120 hn1 hn2 hn3 hesc hdg x2 hdg3 x3
        go_wp2_with fail
        refine (D2 _).out.mono ?_
        rintro e w2 ⟨rfl, rfl⟩
        go_wp2_with fail
        refine (D3 _).out.mono ?_
        rintro e w2 ⟨rfl, rfl⟩
        go_wp2_with fail
        go_ret3
        rw [Hgg.out]
        exact ⟨rfl, hbe⟩
      | some y =>
        have hy16 := hexv_lt x3
        have hdg3 : dig c3.toNat = (y : Int) := by unfold dig; rw [x3]
        rw [hdg3] at D3
        have D3 := fun W => Lib.hid (D3 W)
        rw [x3] at hesc
        obtain ⟨c, hc⟩ : ∃ c, c = UInt8.ofNat (16 * x + y) := ⟨_, rfl⟩
        have hgg := Hgood.out c 3 (by rw [hesc, hc]; rfl)
        have Hgg := Lib.hid hgg
        have hcc : 16 * (x : Int) + (y : Int) = (c.toNat : Int) := by
          rw [hc, ← u8_of _ (by omega)]
          omega
        have Hcc := Lib.hid hcc
        have Hdg2 := Lib.hid hdg
        have Hdg3 := Lib.hid hdg3
        have Hn := Lib.hid (show n1 = k + 1 ∧ n2 = k + 2 ∧ n3 = k + 3 from ⟨hn1, hn2, hn3⟩)
        have g1 : (0 : Int) ≤ (n2 : Int) := by omega
        have g2 : (n2 : Int) < (s.size : Int) := by omega
        have g3 : (0 : Int) ≤ (n3 : Int) := by omega
        have g4 : (n3 : Int) < (s.size : Int) := by omega
        clear hgg hd1 hd2 hd3 c34 c120 hn1 hn2 hn3 hesc hdg x2 hdg3 x3 hc hcc
        go_wp2_with fail
        refine (D2 _).out.mono ?_
        rintro e w2 ⟨rfl, rfl⟩
        go_wp2_with fail
        refine (D3 _).out.mono ?_
        rintro e w2 ⟨rfl, rfl⟩
        go_wp2_with fail
        have hcc := Hcc.out
        have hcb := UInt8.toNat_lt c
        have hwx : IntKind.i64.wrap (16 * (x : Int)) = 16 * (x : Int) := by rw [IntKind.wrap_i64]; omega
        have hwc : IntKind.i64.wrap (c.toNat : Int) = (c.toNat : Int) := by rw [IntKind.wrap_i64]; omega
        have hwu : IntKind.u8.wrap (c.toNat : Int) = (c.toNat : Int) := by rw [IntKind.wrap_u8]; omega
        have hg2 := Hdg2.out
        have hg3 := Hdg3.out
        clear D2 D3
        go_region_held3 (fun _ => True) (exact True.intro)
          (first
          | (go_at_call 41; refine (rdigit_u8 _ _).mono ?_; rintro e w2 ⟨rfl, rfl⟩)
          | (refine step_append_bytes rfl (.tmp 104) (.tmp 118) 42 rfl Tryd.underlying42 u8info rfl (hown.alloc _).drew ⟨wr.heap.size, 0, none⟩ 1 1 rfl [c] rfl (cells_new wr 5 ([c].map b8)) (by omega) (Nat.le_trans hbe.size (by simp)) ?_; intro v' w' hown' hgr))
        all_goals
          have hb' := (hown.alloc (.cells #[.int .u8 (c.toNat : Int)] 5)).drew.grown (below_alloc hbe (Nat.le_refl _) _).drew (Nat.le_trans hbe.size (by simp)) hgr
          clear hgr
          obtain ⟨hn1, hn2, hn3⟩ := Hn.out
          clear hcc
          go_wp2
          go_roundw
          case rel => exact ⟨k + 1 + 3, acc ++ [c], by omega, by simp; omega, by go_num, hown', Hgg, hb'⟩
          case measure => simp [intOf]; omega
end Go.Proofs.YtkjfhgaiakienaaDoor
