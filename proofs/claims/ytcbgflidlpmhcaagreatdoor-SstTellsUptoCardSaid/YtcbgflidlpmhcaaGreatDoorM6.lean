/-
  Several texts in one: The landed package sst, part 4: a key's place in a table; Get; From.
  The landed package sst, part 5: From.
  Two strings.Builders side by side: what is written into the one leaves the other as it was.
  The landed package sst, part 6: Write.
  The landed package sst, part 7: Write.
  The landed package sst, part 8: a block's pairs put behind those that a table has.
  The landed package sst, part 9: read.
  The landed package sst, part 10: Open, with its deferred closure.
  Are two lists of pairs alike? (of rows that can be read)
  Lists of pairs that are lent with a mark behind them: LentKeys, StaysKeys.
  Package sst's contracts, as the laws of chapter 13 ask for them; the laws' first call.
-/
import Derived.Test.YtcbgflidlpmhcaaGreatDoorM5
import Derived.Lib.BufferMore
import Derived.Test.YtcbgflidlpmhcaaGreatDoorM4
import Derived.Test.YtcbgflidlpmhcaaGreatDoorM3
import Derived.RegionDies
import Derived.Defers
import Derived.Recover
import Derived.Test.YtcbgflidlpmhcaaGreatDoorM1
import Derived.Test.YtcbgflidlpmhcaaGreatDoorM2
namespace Go.Proofs.YtcbgflidlpmhcaaGreatDoor
open Go.RowKit

set_option maxRecDepth 100000 in
set_option maxHeartbeats 1000000 in
theorem sat1_any (mk mv key : ByteArray) (w : World) :
    Calls Tryz.prog 132 #[.agg #[.string mk, .string mv], .string key] w fun e w' => e = .returned (.int .i64 (cmpT mk key)) ∧ Below w.heap.size w w' := by
  have C := fun W => Lib.hid (compare_T mk key W)
  go_enter Tryz.func132, Tryz.ntmps132
  go_wp2_with fail
  have hb := below_alloc (Below.refl w.heap.size w) (Nat.le_refl _) (.cells #[.string mk, .string mv] 37)
  refine (C _).out.mono ?_
  rintro e w1 ⟨rfl, rfl⟩
  go_wp2_with fail
  go_ret
  exact ⟨rfl, hb⟩

/-- Stands just this key at place i? -/
def foundB (L : List KV) (key : ByteArray) (i : Nat) : Bool := match L[i]? with
  | some m => cmpT m.1 key == 0
  | none => false
def SPosAt (L : List KV) (key : ByteArray) (e : Ending) : Prop := ∃ i : Nat, IsPos L key i ∧ e = .returned (.tuple #[.int .i64 (i : Int), .bool (foundB L key i)])
set_option maxRecDepth 100000 in
set_option maxHeartbeats 4000000 in
theorem ssearch_any (A : Option Addr) (n c : Nat) (L : List KV) (key : ByteArray) (w : World) (h : KeysAt w A n L) (hr : risesK L = true) (hn : n ≤ 1000000) :
    Calls Tryz.prog 131 #[.slice A n c, .string key, .func (.func 132) #[] #[]] w fun e w' => SPosAt L key e ∧ Below w.heap.size w w' := by
  have HK := Lib.hid h
  have Hlen := Lib.hid h.len
  have Hr := Lib.hid hr
  have C := fun mk mv W => Lib.hid (sat1_any mk mv key W)
  clear h hr
  go_enter Tryz.func131, Tryz.ntmps131
  go_wp2_with fail
  go_loopw [9, 10] (fun x y wr => ∃ i j : Nat, x = .int .i64 (i : Int) ∧ y = .int .i64 (j : Int) ∧ i ≤ j ∧ j ≤ n ∧ Hid (∀ (t : Nat) (m : KV), t < i → L[t]? = some m → cmpT m.1 key < 0) ∧ Hid (∀ (t : Nat) (m : KV), j ≤ t → L[t]? = some m → 0 ≤ cmpT m.1 key) ∧ Hid (Below w.heap.size w wr)) (fun x y _ => (intOf y - intOf x).toNat)
  case atStart => exact ⟨0, n, rfl, rfl, by omega, by omega, Lib.hid (fun t m ht => by omega), Lib.hid (fun t m ht hm => by
    have h1 := (List.getElem?_eq_some_iff.1 hm).1
    have := Hlen.out
    omega), Lib.hid (Below.refl _ _)⟩
  case round =>
    obtain ⟨i, j, rfl, rfl, hij, hjn, HI, HJ, HB⟩ := hrel
    by_cases hl : i < j
    · have g1 : (i : Int) < (j : Int) := by omega
      obtain ⟨d, hd⟩ : ∃ d, (i + j) / 2 = d := ⟨_, rfl⟩
      have hdn : d < n := by omega
      have hdL : d < L.length := by have := Hlen.out; omega
      have hm : L[d]? = some L[d] := List.getElem?_eq_getElem hdL
      generalize L[d] = mm at *
      obtain ⟨mk, mv⟩ := mm
      obtain ⟨g, off, hA, hg, x0, x1⟩ := (HK.out.below HB.out).at_ d _ hm
      subst hA
      dsimp only at x0 x1
      have g2 : ((i : Int) + (j : Int)) / 2 = (d : Int) := by omega
      have g3 : (d : Int) < (n : Int) := by omega
      have g4 : (0 : Int) ≤ (d : Int) := by omega
      have Hm := Lib.hid hm
      have Hd := Lib.hid hd
      clear hm hdL hd
      have Cd := Lib.hid (sat1_any mk mv key wr)
      by_cases he : cmpT mk key < 0
      · have e1 : decide (cmpT mk key < 0) = true := decide_eq_true he
        have HI2 : Hid (∀ (t : Nat) (m : KV), t < d + 1 → L[t]? = some m → cmpT m.1 key < 0) := Lib.hid (by
          intro t m ht hm
          rcases Nat.lt_or_ge t d with h | h
          · exact cmpT_trans (rises_get Hr.out h hm Hm.out) he
          · obtain rfl : t = d := by omega
            rw [Hm.out] at hm
            cases hm
            exact he)
        generalize cmpT mk key = cm at *
        go_wp2_with fail
        refine Cd.out.mono ?_
        rintro e w2 ⟨rfl, hb⟩
        have HB2 := Lib.hid (HB.out.trans (hb.mono HB.out.size))
        clear hb
        go_wp2_with fail
        go_roundw
        case rel => exact ⟨d + 1, j, by go_num, rfl, by omega, hjn, HI2, HJ, HB2⟩
        case measure => simp [intOf]; omega
      · have e1 : decide (cmpT mk key < 0) = false := decide_eq_false he
        have HJ2 : Hid (∀ (t : Nat) (m : KV), d ≤ t → L[t]? = some m → 0 ≤ cmpT m.1 key) := Lib.hid (by
          intro t m ht hm
          refine Int.not_lt.1 fun hc => ?_
          rcases Nat.lt_or_ge d t with h | h
          · exact he (cmpT_trans (rises_get Hr.out h Hm.out hm) hc)
          · obtain rfl : t = d := by omega
            rw [Hm.out] at hm
            cases hm
            exact he hc)
        generalize cmpT mk key = cm at *
        go_wp2_with fail
        refine Cd.out.mono ?_
        rintro e w2 ⟨rfl, hb⟩
        have HB2 := Lib.hid (HB.out.trans (hb.mono HB.out.size))
        clear hb
        go_wp2_with fail
        go_roundw
        case rel => exact ⟨i, d, rfl, by go_num, by omega, by omega, HI, HJ2, HB2⟩
        case measure => simp [intOf]; omega
    · obtain rfl : i = j := by omega
      have hpl : Hid (IsPos L key i) := Lib.hid ⟨by have := Hlen.out; omega, HI.out, HJ.out⟩
      have g1 : ¬ (i : Int) < (i : Int) := by omega
      clear HI HJ
      by_cases hin : i < n
      · have hdL : i < L.length := by have := Hlen.out; omega
        have hm : L[i]? = some L[i] := List.getElem?_eq_getElem hdL
        generalize L[i] = mm at *
        obtain ⟨mk, mv⟩ := mm
        obtain ⟨g, off, hA, hg, x0, x1⟩ := (HK.out.below HB.out).at_ i _ hm
        subst hA
        dsimp only at x0 x1
        have g3 : (i : Int) < (n : Int) := by omega
        have g4 : (0 : Int) ≤ (i : Int) := by omega
        have Cd := Lib.hid (sat1_any mk mv key wr)
        have Hf : Hid (foundB L key i = (cmpT mk key == 0)) := Lib.hid (by unfold foundB; rw [hm])
        clear hm hdL
        generalize cmpT mk key = cm at *
        obtain ⟨fb, hfb⟩ : ∃ fb, (cm == 0) = fb := ⟨_, rfl⟩
        rw [hfb] at Hf
        go_wp2_with fail
        refine Cd.out.mono ?_
        rintro e w2 ⟨rfl, hb⟩
        have HB2 := Lib.hid (HB.out.trans (hb.mono HB.out.size))
        clear hb
        go_wp2_with fail
        go_ret2
        exact ⟨⟨i, hpl.out, by rw [Hf.out]; rfl⟩, HB2.out⟩
      · have g3 : ¬ (i : Int) < (n : Int) := by omega
        have g5 : decide ((i : Int) < (n : Int)) = false := decide_eq_false g3
        have Hf : Hid (foundB L key i = false) := Lib.hid (by unfold foundB; rw [List.getElem?_eq_none (by have := Hlen.out; omega)])
        go_wp2_with fail
        go_ret2
        exact ⟨⟨i, hpl.out, by rw [Hf.out]; rfl⟩, HB.out⟩


section
variable {W : World} {t : Nat} {L : List KV} {nb : Nat} {F : ByteArray}
set_option maxRecDepth 100000 in
set_option maxHeartbeats 1000000 in
theorem satN_any (h : TabN W t L nb F) (key : ByteArray) : Calls Tryz.prog 45 #[.pointer (some ⟨t, 0, none⟩), .string key] W fun e w' => SPosAt L key e ∧ Below W.heap.size W w' := by
  obtain ⟨A, c, h1, h2, h3⟩ := h.ex
  have C := Lib.hid (ssearch_any A L.length c L key W (own_keysAt h2 rfl) h.rises h.len)
  have c0 : W.cell? ⟨t, 0, none⟩ = some (.slice A L.length c) := h1.cell 0
  generalize L.length = n at *
  clear h1 h2 h3 h
  go_enter Tryz.func45, Tryz.ntmps45
  go_wp2_with fail
  refine C.out.mono ?_
  rintro e w1 ⟨⟨i, hi, rfl⟩, hb⟩
  have Hi := Lib.hid hi
  clear hi
  go_wp2_with fail
  go_ret2
  exact ⟨⟨i, Hi.out, rfl⟩, hb⟩
set_option maxRecDepth 100000 in
set_option maxHeartbeats 1000000 in
theorem sgetN_any (h : TabN W t L nb F) (key : ByteArray) : Calls Tryz.prog 24 #[.pointer (some ⟨t, 0, none⟩), .string key] W fun e w' => e = .returned (.tuple #[.string (getK L key).1, .int .i64 (getK L key).2]) ∧ Below W.heap.size W w' := by
  have CN := Lib.hid (tab_none h)
  have CA := Lib.hid (satN_any h key)
  obtain ⟨rv, re, hr⟩ : ∃ rv re, getK L key = (rv, re) := ⟨_, _, rfl⟩
  rw [hr]
  have Hr := Lib.hid hr
  have HT := Lib.hid h
  clear h hr
  go_enter Tryz.func24, Tryz.ntmps24
  go_wp2_with fail
  refine CN.out.mono ?_
  rintro e w1 ⟨rfl, rfl⟩
  go_wp2_with fail
  refine CA.out.mono ?_
  rintro e w2 ⟨⟨i, hi, rfl⟩, hb⟩
  have hg := hi.get
  rw [Hr.out] at hg
  have HB := Lib.hid hb
  unfold foundB
  cases hm : L[i]? with
  | none =>
    rw [hm] at hg
    cases hg
    clear hi hb hm CN CA
    try dsimp only
    go_wp2_with fail
    go_ret2
    exact ⟨rfl, HB.out⟩
  | some m =>
    rw [hm] at hg
    dsimp only at hg ⊢
    by_cases hc : cmpT m.1 key = 0
    · rw [if_pos hc] at hg
      cases hg
      have hcb : (cmpT m.1 key == 0) = true := beq_iff_eq.2 hc
      rw [hcb]
      have hT2 := HT.out.up hb
      obtain ⟨A, c, h1, h2, h3⟩ := hT2.ex
      obtain ⟨g, off, rfl, hg0, x0, x1⟩ := (own_keysAt h2 rfl).at_ i m hm
      have c0 : w2.cell? ⟨t, 0, none⟩ = some (.slice (some ⟨g, off, none⟩) L.length c) := h1.cell 0
      have hil := (List.getElem?_eq_some_iff.1 hm).1
      obtain ⟨n, hn⟩ : ∃ n, L.length = n := ⟨_, rfl⟩
      rw [hn] at c0 hil
      have g1 : (i : Int) < (n : Int) := by omega
      have g2 : (0 : Int) ≤ (i : Int) := by omega
      obtain ⟨mk, mv⟩ := m
      dsimp only at x1
      clear hi hb hm hc hcb hT2 h1 h2 h3 x0 hn CN CA
      try dsimp only
      go_wp2_with fail
      go_ret2
      exact ⟨rfl, HB.out⟩
    · rw [if_neg hc] at hg
      cases hg
      have hcb : (cmpT m.1 key == 0) = false := beq_eq_false_iff_ne.2 hc
      rw [hcb]
      clear hi hb hm hc hcb CN CA
      go_wp2_with fail
      go_ret2
      exact ⟨rfl, HB.out⟩
end
set_option maxRecDepth 100000 in
set_option maxHeartbeats 1000000 in
theorem clone_keys (a : Addr) (n c : Nat) (M : List KV) (w : World) (hn : M.length = n) (hM : ∀ j u, (elKeys.row M)[j]? = some u → w.cell? (a.add j) = some u) (hl : n ≤ 1000000) :
    Calls Tryz.prog 46 #[.slice (some a) n c] w fun e w' => ∃ v, e = .returned v ∧ Own elKeys w' w.heap.size 37 v M ∧ w.grownBy w' none := by
  have G0 := World.grownBy_alloc w (.cells #[] 37) none
  have hown : Own elKeys (w.alloc (.cells #[] 37)) w.heap.size 37 (.slice (some ⟨w.heap.size, 0, none⟩) 0 0) [] := ⟨rfl, Or.inr ⟨w.heap.size, 0, #[], rfl, Nat.le_refl _, heap_alloc_new w _, Nat.le_refl _, Nat.zero_le _, rfl, rfl⟩⟩
  obtain ⟨v', w2, hr, ho, hg, _, _⟩ := app_own (P := Tryz.prog) elKeys 22 37 (.agg #[.string ⟨#[]⟩, .string ⟨#[]⟩]) 32 underKeys infoKeys rfl (w.alloc (.cells #[] 37)) w.heap.size (.slice (some ⟨w.heap.size, 0, none⟩) 0 0) [] M hown (some a) c (fun h => by cases h) (fun a' ha j u hu => by
    cases ha
    exact G0.cell (hM j u hu) (by simp)) (by unfold maxLen; simp; omega) (by simp; omega) G0.size n hn.symm
  have HR := fun ty => Lib.hid (hr ty)
  have HO := Lib.hid ho
  have HG := Lib.hid (grow_k G0 hown (Nat.le_refl _) hg)
  clear hr ho hg hown G0 hM hn
  have hnil : ∀ W, (binOp .eql 22 (.slice (some a) n c) (.slice none 0 0)).run Tryz.prog W = .ok (.bool false) W := fun W => Lib.run_eql_slice_some_nil W _ _ _ underKeys
  go_enter Tryz.func46, Tryz.ntmps46
  go_wp2_with (at_builtin; refine wpList_append_k _ w2 rfl (.tmp 5) (.tmp 6) 22 rfl _ _ v' rfl rfl (fun ty => (HR ty).out) ?_)
  go_ret
  exact ⟨v', rfl, by simpa using HO.out, HG.out⟩
end Go.Proofs.YtcbgflidlpmhcaaGreatDoor

namespace Go.Proofs.YtcbgflidlpmhcaaGreatDoor
open Go.RowKit

section
variable {W : World} {t : Nat} {L : List KV} {nb : Nat} {F : ByteArray}
theorem row_drop_cells {W : World} {g : Nat} {n c : Nat} {L : List KV} (h : Own elKeys W 0 37 (.slice (some ⟨g, 0, none⟩) n c) L) (i k : Nat) (o : Nat) (ho : ((L.drop i).take k) ≠ [] → o = i * 2) :
    ∀ j u, (elKeys.row ((L.drop i).take k))[j]? = some u → W.cell? ((⟨g, o, none⟩ : Addr).add j) = some u := by
  intro j u hu
  have hjl : j < (elKeys.row ((L.drop i).take k)).length := (List.getElem?_eq_some_iff.1 hu).1
  rw [elKeys.row_length] at hjl
  have hs : elKeys.sz = 2 := rfl
  rw [hs] at hjl
  have hne : (L.drop i).take k ≠ [] := fun e => by rw [e] at hjl; simp at hjl
  rw [ho hne]
  obtain ⟨q, r, hj, hr⟩ : ∃ q r, j = q * 2 + r ∧ r < 2 := ⟨j / 2, j % 2, by omega, Nat.mod_lt _ (by decide)⟩
  have hq : q < ((L.drop i).take k).length := by omega
  have hx : ((L.drop i).take k)[q]? = some ((L.drop i).take k)[q] := List.getElem?_eq_getElem hq
  generalize ((L.drop i).take k)[q] = x at hx
  have hrow := elKeys.row_at _ q r x hx (by rw [hs]; exact hr)
  rw [hs, ← hj, hu] at hrow
  have hxL : L[i + q]? = some x := by
    rw [List.getElem?_take, List.getElem?_drop] at hx
    split at hx
    · exact hx
    · cases hx
  have := Own.cells (E := elKeys) (i := i + q) (j := r) h hxL (by rw [hs]; exact hr) hrow.symm
  rw [hs] at this
  rw [Addr.add_lit]
  rw [hj]
  rwa [show i * 2 + (q * 2 + r) = (i + q) * 2 + r from by omega]

set_option maxRecDepth 100000 in
set_option maxHeartbeats 2000000 in
theorem sfromN_any (h : TabN W t L nb F) (key : ByteArray) (most : Int) : Calls Tryz.prog 20 #[.pointer (some ⟨t, 0, none⟩), .string key, .int .i64 most] W fun e w' => ∃ v, e = .returned v ∧ Own elKeys w' W.heap.size 37 v (fromK L key most) ∧ Below W.heap.size W w' := by
  have CN := Lib.hid (tab_none h)
  have CA := Lib.hid (satN_any h key)
  have HT := Lib.hid h
  clear h
  go_enter Tryz.func20, Tryz.ntmps20
  go_wp2_with fail
  refine CN.out.mono ?_
  rintro e w1 ⟨rfl, rfl⟩
  go_wp2_with fail
  refine CA.out.mono ?_
  rintro e w2 ⟨⟨i, hi, rfl⟩, hb⟩
  have hfr := hi.from_ most
  have HB := Lib.hid hb
  have hT2 := HT.out.up hb
  obtain ⟨A, c, h1, h2, h3⟩ := hT2.ex
  have hpos : 0 < L.length := List.length_pos_iff.2 hT2.ne
  obtain ⟨g, cc, cur, hv, hg0, hh⟩ := Own.some_ h2 hpos
  cases hv
  have c0 : w2.cell? ⟨t, 0, none⟩ = some (.slice (some ⟨g, 0, none⟩) L.length c) := h1.cell 0
  have hil := hi.le
  have hlen := hT2.len
  obtain ⟨n, hn⟩ : ∃ n, L.length = n := ⟨_, rfl⟩
  have HH2 := Lib.hid h2
  rw [hn] at c0 hil hlen hpos h3
  have Hn := Lib.hid hn
  obtain ⟨fb, hfb⟩ : ∃ fb, foundB L key i = fb := ⟨_, rfl⟩
  rw [hfb]
  have Hfr := Lib.hid hfr
  have g1 : (i : Int) ≤ (n : Int) := by omega
  have g2 : (0 : Int) ≤ (i : Int) := by omega
  have hw2 := hb.size
  have CK : Hid (∀ (o k q : Nat), k ≤ n - i → (0 < n - i → o = i * 2) → fromK L key most = (L.drop i).take k → Calls Tryz.prog 46 #[.slice (some ⟨g, o, none⟩) k q] w2 fun e w' => ∃ v, e = .returned v ∧ Own elKeys w' w1.heap.size 37 v (fromK L key most) ∧ Below w1.heap.size w1 w') := Lib.hid (by
    intro o k q hk ho hf
    have hdl : ((L.drop i).take k).length = k := by rw [List.length_take, List.length_drop]; omega
    refine (clone_keys ⟨g, o, none⟩ k q ((L.drop i).take k) w2 hdl (row_drop_cells h2 i k o (fun hne => ho (by
      rcases Nat.eq_zero_or_pos (n - i) with h0 | h0
      · exact absurd (List.eq_nil_of_length_eq_zero (by omega)) hne
      · exact h0))) (by omega)).mono ?_
    rintro e w' ⟨v, rfl, ho, hgr⟩
    rw [hf]
    exact ⟨v, rfl, ho.low hw2, HB.out.trans ((below_g hgr).mono hw2)⟩)
  have hdrop : (L.drop i).length = n - i := by rw [List.length_drop]; omega
  have K1 : most < 0 → fromK L key most = (L.drop i).take (n - i) := fun hm => by
    rw [hfr, if_pos hm, List.take_of_length_le (by omega)]
  have K2 : ¬ most < 0 → fromK L key most = (L.drop i).take (min most ((n - i : Nat) : Int)).toNat := fun hm => by
    rw [hfr, if_neg hm, List.take_eq_take_iff, hdrop]
    omega
  clear hi hb hT2 h1 h2 hn hfb hfr CN CA hh hg0 hw2 hdrop
  by_cases hm : most < 0
  · have K1 := Lib.hid (K1 hm)
    have m1 : ¬ (0 : Int) ≤ most := by omega
    have m2 : decide ((0 : Int) ≤ most) = false := decide_eq_false m1
    clear K2 hm
    by_cases hic : i = c
    · subst hic
      have e0 : n - i = 0 := by omega
      have CK1 := Lib.hid (CK.out 0 0 0 (Nat.zero_le _) (fun h => by omega) (by rw [K1.out, e0]))
      clear e0
      clear CK K1
      go_wp2_with fail
      refine CK1.out.mono ?_
      rintro e w3 ⟨v, rfl, h1⟩
      have H1 := Lib.hid h1
      clear h1
      go_wp2_with fail
      go_ret
      exact ⟨v, rfl, H1.out⟩
    · have CK1 := Lib.hid (CK.out (i * 2) (n - i) (c - i) (Nat.le_refl _) (fun _ => rfl) K1.out)
      clear CK K1
      go_wp2_with fail
      refine CK1.out.mono ?_
      rintro e w3 ⟨v, rfl, h1⟩
      have H1 := Lib.hid h1
      clear h1
      go_wp2_with fail
      go_ret
      exact ⟨v, rfl, H1.out⟩
  · have K2 := Lib.hid (K2 hm)
    have m1 : (0 : Int) ≤ most := by omega
    have m2 : decide ((0 : Int) ≤ most) = true := decide_eq_true m1
    have m3 : (min most ((n - i : Nat) : Int)).toNat ≤ n - i := by omega
    clear K1 hm
    by_cases hic : i = c
    · subst hic
      have e0 : n - i = 0 := by omega
      have CK1 := Lib.hid (CK.out 0 (min most 0).toNat 0 (by omega) (fun h => by omega) (by rw [K2.out, e0]; rfl))
      clear e0
      clear CK K2 m3
      go_wp2_with fail
      refine CK1.out.mono ?_
      rintro e w3 ⟨v, rfl, h1⟩
      have H1 := Lib.hid h1
      clear h1
      go_wp2_with fail
      go_ret
      exact ⟨v, rfl, H1.out⟩
    · have CK1 := Lib.hid (CK.out (i * 2) (min most ((n - i : Nat) : Int)).toNat (c - i) m3 (fun _ => rfl) K2.out)
      clear CK K2 m3
      go_wp2_with fail
      refine CK1.out.mono ?_
      rintro e w3 ⟨v, rfl, h1⟩
      have H1 := Lib.hid h1
      clear h1
      go_wp2_with fail
      go_ret
      exact ⟨v, rfl, H1.out⟩
end
end Go.Proofs.YtcbgflidlpmhcaaGreatDoor

namespace Go.Proofs.YtcbgflidlpmhcaaGreatDoor
open Go.RowKit Go.Shelf

/-- 'append(b, s...)': the bytes stay in their block, or lie in a new one. -/
theorem strF_block {P : Program} (w : World) (base : Nat) (t u ty e : TypeId) (i : TypeInfo) (ht : P.underlying t = some (.slice e)) (hu : P.underlying u = some .string) (hi : P.info? e = some i) (hz : i.zero = some (.int .u8 0)) (hsize : i.size = 1) (hby : i.bytes = 1)
    (v : Value) (n : Nat) (xs : List Value) (hown : w.ownsRowF base e 1 v n xs) (s : ByteArray) (h63 : n + s.size ≤ maxLen) (hbytes : n + s.size ≤ 140737488355328) (v' : Value) (w' : World) (hr : (Builtin.append_ #[t, u] ty #[v, .string s]).run P w = .ok v' w') :
    v'.ownBlock = v.ownBlock ∨ ∀ g, v'.ownBlock = some g → w.heap.size ≤ g := by
  have hsmall : n + s.size ≤ 9223372036854775807 := by simp only [maxLen] at h63; omega
  rcases hown.2 with ⟨rfl, rfl⟩ | ⟨g, cap, cur, fz, rfl, hbg, hg, hfz, hnc, hcm, hcs, htake⟩
  · have hx : xs = [] := List.eq_nil_of_length_eq_zero (by simpa using hown.1)
    subst hx
    obtain ⟨v2, w2, h1, h2, _, _⟩ := Lib.run_append_own_string (P := P) w w.heap.size t u ty e i ht hu hi hz hsize hby (.slice none 0 0) 0 [] (World.ownsRow_nil _ _ _ _) s h63 hbytes (Nat.le_refl _)
    rw [hr] at h1
    cases h1
    exact Or.inr fun g hg => (h2.lt g hg).1
  · have hxl : xs.length = n := by simpa using hown.1
    by_cases hroom : n + s.size ≤ cap
    · have hr2 := Lib.run_append_room_stringF (P := P) w t u ty e i ht hu hi hsize g n cap cur fz hg (by simpa using hfz) s hroom (by omega)
      rw [hr] at hr2
      cases hr2
      exact Or.inl rfl
    · have holds : ∀ j u, xs[j]? = some u → w.cell? ((⟨g, 0, none⟩ : Addr).add j) = some u := hown.cells (g := g) rfl
      have hr2 := Lib.run_append_grow_string (P := P) w t u ty e i (.int .u8 0) ht hu hi hz ⟨g, 0, none⟩ n cap xs (by rw [hsize]; simpa using hxl) holds s (by omega) (by omega) (by rw [hby]; exact growslice_fits (by omega) (by omega))
      rw [hr] at hr2
      cases hr2
      refine Or.inr fun k hk => ?_
      simp [Value.ownBlock] at hk
      omega

/-- An append whose run is known, of two types. -/
theorem wpList_append_k2 {P : Program} (w w' : World) {ops : Array Oper} {rest : List Oper} {o : Oper} {a : Act} {Q : Exit → Act → World → Prop} (hgd : o.guard = none) (s x : Operand) (t u : TypeId)
    (ho : o.op = .call { callee := .builtin .append, args := #[s, x], argTypes := #[t, u] }) (vs vx v : Value) (hs : a.eval s = vs) (hx : a.eval x = vx) (hrun : ∀ ty, (Builtin.append_ #[t, u] ty #[vs, vx]).run P w = .ok v w')
    (h : wpList P ops Q rest (a.put o.dst v) w') : wpList P ops Q (o :: rest) a w := by
  refine wpList_plain hgd fun _ hK => ?_
  unfold Oper.wp execOp
  simp only [ho, resolve, invoke, builtin, Sem.run_bind, Sem.run_pure, Result.andThen_ok, List.map_toArray, List.map_cons, List.map_nil, hs, hx, hrun]
  exact hK _ _ h

/-- The builder in block b holds the bytes l, at v. -/
structure Buf (w : World) (B b : Nat) (v : Value) (l : List UInt8) : Prop where
  low : B ≤ b
  at_ : ∃ p, (p = .pointer none ∨ p = .pointer (some ⟨b, 0, none⟩)) ∧ w.heap[b]? = some (.cells #[p, v] 70 (0, 0))
  own : w.ownsRowF B 5 1 v l.length (Lib.byteCells l)
theorem Buf.ne {w : World} {B b : Nat} {v : Value} {l : List UInt8} (h : Buf w B b v l) {b' : Nat} {p : Value} {v' : Value} (hb : w.heap[b']? = some (.cells #[p, v'] 70 (0, 0))) : v.ownBlock ≠ some b' := Lib.ownBlock_neF h.own hb (by decide)
theorem Buf.isF {w : World} {B b : Nat} {v : Value} {l : List UInt8} (h : Buf w B b v l) : IsF B b l w := by
  obtain ⟨p, hp, hb⟩ := h.at_
  have hx : Lib.BuilderAtF 70 5 B b p (Lib.byteCells l) w := ⟨h.low, v, hb, by rw [Lib.byteCells_length]; exact h.own, h.ne hb⟩
  rcases hp with rfl | rfl
  · exact Or.inl hx
  · exact Or.inr hx
theorem Buf.lt {w : World} {B b : Nat} {v : Value} {l : List UInt8} (h : Buf w B b v l) : b < w.heap.size ∧ ∀ k, v.ownBlock = some k → B ≤ k ∧ k < w.heap.size := by
  obtain ⟨p, _, hb⟩ := h.at_
  exact ⟨(Array.getElem?_eq_some_iff.1 hb).1, h.own.lt⟩
theorem Buf.same {w w' : World} {B b : Nat} {v : Value} {l : List UInt8} (h : Buf w B b v l) (hb : w'.heap[b]? = w.heap[b]?) (hv : ∀ k, v.ownBlock = some k → w'.heap[k]? = w.heap[k]?) : Buf w' B b v l := by
  obtain ⟨p, hp, hh⟩ := h.at_
  refine ⟨h.low, ⟨p, hp, hb.trans hh⟩, h.own.1, ?_⟩
  rcases h.own.2 with hn | ⟨g, cap, cur, fz, rfl, hbg, hgg, r⟩
  · exact Or.inl hn
  · exact Or.inr ⟨g, cap, cur, fz, rfl, hbg, (hv g rfl).trans hgg, r⟩
theorem Buf.new (w : World) : Buf (w.alloc (.cells #[.pointer none, .slice none 0 0] 70)) w.heap.size w.heap.size (.slice none 0 0) [] :=
  ⟨Nat.le_refl _, ⟨_, Or.inl rfl, heap_alloc_new w _⟩, World.ownsRowF_nil _ _ _ _⟩

/-- What a builder's text turns: the builder, and its bytes. -/
structure Trn (w w' : World) (b : Nat) (v : Value) : Prop where
  os : w'.os = w.os
  tape : w'.tape = w.tape
  output : w'.output = w.output
  size : w.heap.size ≤ w'.heap.size
  block : ∀ k, k < w.heap.size → k ≠ b → v.ownBlock ≠ some k → w'.heap[k]? = w.heap[k]?

set_option maxHeartbeats 2000000 in
set_option maxRecDepth 100000 in
theorem buf_str (B b : Nat) (v : Value) (l : List UInt8) (s : ByteArray) (w : World) (h : Buf w B b v l) (hlen : l.length + s.size ≤ 140737488355328) (hBw : B ≤ w.heap.size) :
    Calls Tryz.prog 28 #[.pointer (some ⟨b, 0, none⟩), .string s] w fun e w' => e = .returned (.tuple #[.int .i64 s.size, .nilIface]) ∧ ∃ v', Buf w' B b v' (l ++ s.data.toList) ∧ Trn w w' b v ∧ (v'.ownBlock = v.ownBlock ∨ ∀ g, v'.ownBlock = some g → w.heap.size ≤ g) := by
  obtain ⟨i0, hi, hz0, hz1, hz2⟩ := info_parts bu8
  obtain ⟨p, hp, hbk⟩ := h.at_
  have hne := h.ne hbk
  have hown := h.own
  have hlow := h.low
  have hlt := h.lt.1
  have C : Calls Tryz.prog 114 #[.pointer (some ⟨b, 0, none⟩)] w fun e w' => e = .returned (.tuple #[]) ∧ w'.heap[b]? = some (.cells #[.pointer (some ⟨b, 0, none⟩), v] 70 (0, 0)) ∧ w.grownBy w' (some b) := by
    have c0 : w.cell? ⟨b, 0, none⟩ = some p := by rw [Lib.cell_of_heap hbk]; rfl
    have sh : w.shape? b = some (70, 2) := by simp [World.shape?, hbk]
    have f0 : w.frozen? ⟨b, 0, none⟩ = false := Lib.frozen_of_heap hbk 0
    rcases hp with rfl | rfl
    · refine (bcheck_fresh b w c0 sh f0).mono fun _ w1 ⟨he, hw⟩ => ⟨he, ?_, ?_⟩
      · subst hw
        simp [World.setCell, Array.getElem?_modify, hbk]
      · subst hw
        exact only_setCell (grefl _ _) (Or.inl rfl) _
    · exact (bcheck_used b w c0).mono fun _ _ ⟨he, hw⟩ => ⟨he, by subst hw; exact hbk, by subst hw; exact grefl _ _⟩
  have C := Lib.hid C
  have Hown := Lib.hid hown
  clear h hp hown hbk
  go_enter Tryz.func28, Tryz.ntmps28
  go_wp2_with fail
  refine C.out.mono ?_
  rintro e w1 ⟨rfl, hbk, hg1⟩
  have hown1 : w1.ownsRowF B 5 1 v l.length (Lib.byteCells l) := Hown.out.kept hg1 (Or.inr hne)
  have c1 : w1.cell? ⟨b, 1, none⟩ = some v := by rw [Lib.cell_of_heap hbk]; rfl
  have hs1 := hg1.size
  obtain ⟨v', w2, hr, hown', hgrow, _⟩ := Lib.run_append_own_stringF (P := Tryz.prog) w1 B 68 9 0 5 i0 Tryz.underlying68 Tryz.underlying9 hi hz0 hz1 hz2 v l.length (Lib.byteCells l) hown1 s (by unfold maxLen; omega) hlen (by omega)
  have hr0 := hr
  have hblk := strF_block w1 B 68 9 0 5 i0 Tryz.underlying68 Tryz.underlying9 hi hz0 hz1 hz2 v l.length (Lib.byteCells l) hown1 s (by unfold maxLen; omega) hlen v' w2 hr
  have HR : ∀ ty, Hid ((Builtin.append_ #[68, 9] ty #[v, .string s]).run Tryz.prog w1 = .ok v' w2) := fun ty => hr
  clear hr
  have hb2 : w2.heap[b]? = some (.cells #[.pointer (some ⟨b, 0, none⟩), v] 70 (0, 0)) := by
    rw [hgrow.block b (by omega) (fun e => hne e.symm)]
    exact hbk
  have f1 : w2.frozen? ⟨b, 1, none⟩ = false := Lib.frozen_of_heap hb2 1
  have d1 : w2.cell? ⟨b, 1, none⟩ = some v := by rw [Lib.cell_of_heap hb2]; rfl
  have e9 : Lib.byteCells (l ++ s.data.toList) = Lib.byteCells l ++ Lib.strCells s := by unfold Lib.byteCells Lib.strCells; rw [List.map_append]
  have Hend : Hid (Buf (w2.setCell ⟨b, 1, none⟩ v') B b v' (l ++ s.data.toList) ∧ Trn w (w2.setCell ⟨b, 1, none⟩ v') b v ∧ (v'.ownBlock = v.ownBlock ∨ ∀ g, v'.ownBlock = some g → w.heap.size ≤ g)) := by
    have hne' : v'.ownBlock ≠ some b := by
      rcases hblk with h | h
      · rw [h]; exact hne
      · intro e; have := h b e; omega
    refine ⟨⟨hlow, ⟨_, Or.inr rfl, by simp [World.setCell, Array.getElem?_modify, hb2]⟩, ?_⟩, ?_, ?_⟩
    · rw [e9, List.length_append]
      exact hown'.kept (only_setCell (g := b) (grefl w2 _) (Or.inl rfl) v') (Or.inr hne')
    · refine ⟨hgrow.os.trans hg1.os, hgrow.tape.trans hg1.tape, hgrow.output.trans hg1.output, by have := hgrow.size; simp [World.setCell]; omega, fun k hk h1 h2 => ?_⟩
      rw [Below.heap_setCell w2 ⟨b, 1, none⟩ v' k h1, hgrow.block k (by omega) (fun e => h2 e.symm), hg1.block k hk (fun e => h1 (by injection e))]
    · rcases hblk with h | h
      · exact Or.inl h
      · exact Or.inr fun g hg => by have := h g hg; omega
  obtain ⟨ao, n', cap, rfl⟩ : ∃ ao n' cap, v' = .slice ao n' cap := by
    rcases hown'.2 with ⟨hv, _⟩ | ⟨g, cap, cur, fz, hv, _⟩
    · exact ⟨_, _, _, hv⟩
    · exact ⟨_, _, _, hv⟩
  clear hown' hgrow hblk hown1 Hown C hb2 hbk hg1 e9
  go_wp2_with (at_builtin; refine wpList_append_k2 _ w2 rfl _ _ 68 9 rfl _ _ _ rfl rfl (fun ty => (HR ty).out) ?_)
  go_ret2
  exact ⟨rfl, _, Hend.out⟩

/-- Two builders, apart. -/
structure Two (w : World) (B p q : Nat) (l m : List UInt8) : Prop where
  ne : p ≠ q
  bufs : ∃ u v, Buf w B p u l ∧ Buf w B q v m ∧ ∀ k, u.ownBlock = some k → v.ownBlock ≠ some k
theorem Two.swap {w : World} {B p q : Nat} {l m : List UInt8} (h : Two w B p q l m) : Two w B q p m l := by
  obtain ⟨u, v, h1, h2, h3⟩ := h.bufs
  exact ⟨h.ne.symm, v, u, h2, h1, fun k hk he => h3 k he hk⟩
theorem Two.up {w w' : World} {B p q : Nat} {l m : List UInt8} (h : Two w B p q l m) (hb : Below w.heap.size w w') : Two w' B p q l m := by
  obtain ⟨u, v, h1, h2, h3⟩ := h.bufs
  exact ⟨h.ne, u, v, h1.same (hb.block p h1.lt.1) (fun k hk => hb.block k (h1.lt.2 k hk).2), h2.same (hb.block q h2.lt.1) (fun k hk => hb.block k (h2.lt.2 k hk).2), h3⟩
theorem Two.isF {w : World} {B p q : Nat} {l m : List UInt8} (h : Two w B p q l m) : IsF B p l w ∧ IsF B q m w := by
  obtain ⟨u, v, h1, h2, h3⟩ := h.bufs
  exact ⟨h1.isF, h2.isF⟩
theorem Two.new (w : World) : Two ((w.alloc (.cells #[.pointer none, .slice none 0 0] 70)).alloc (.cells #[.pointer none, .slice none 0 0] 70)) w.heap.size w.heap.size (w.heap.size + 1) [] [] := by
  have h1 := Buf.new w
  have h2 := Buf.new (w.alloc (.cells #[.pointer none, .slice none 0 0] 70))
  have hs : (w.alloc (.cells #[.pointer none, .slice none 0 0] 70)).heap.size = w.heap.size + 1 := by simp
  rw [hs] at h2
  obtain ⟨p, hp, hb⟩ := h2.at_
  exact ⟨by omega, .slice none 0 0, .slice none 0 0, h1.same (Below.heap_alloc _ _ _ h1.lt.1) (fun k hk => by cases hk), ⟨by omega, ⟨p, hp, hb⟩, World.ownsRowF_nil _ _ _ _⟩, fun k hk => by cases hk⟩
/-- A text more in the first one. -/
theorem two_str (B p q : Nat) (l m : List UInt8) (s : ByteArray) (w : World) (h : Two w B p q l m) (hlen : l.length + s.size ≤ 140737488355328) (hBw : B ≤ w.heap.size) :
    Calls Tryz.prog 28 #[.pointer (some ⟨p, 0, none⟩), .string s] w fun e w' => e = .returned (.tuple #[.int .i64 s.size, .nilIface]) ∧ Two w' B p q (l ++ s.data.toList) m ∧ Below B w w' := by
  obtain ⟨u, v, h1, h2, h3⟩ := h.bufs
  have hpq := h.ne
  refine (buf_str B p u l s w h1 hlen hBw).mono ?_
  rintro e w' ⟨rfl, u', k1, k2, k3⟩
  obtain ⟨_, _, hb2⟩ := h2.at_
  obtain ⟨_, _, hb1⟩ := h1.at_
  refine ⟨rfl, ⟨hpq, u', v, k1, h2.same (k2.block q h2.lt.1 hpq.symm (h1.ne hb2)) (fun k hk => k2.block k (h2.lt.2 k hk).2 (fun e => h2.ne hb1 (by rw [hk, e])) (fun e => h3 k e hk)), fun k hk he => ?_⟩, ?_⟩
  · rcases k3 with e | e
    · exact h3 k (by rw [← e]; exact hk) he
    · have := e k hk
      have := (h2.lt.2 k he).2
      omega
  · exact ⟨k2.os, k2.tape, k2.output, k2.size, fun k hk => k2.block k (by omega) (by have := h1.low; omega) (fun e => by have := (h1.lt.2 k e).1; omega)⟩
theorem frz_of {w : World} {g n : Nat} {c : Array Value} {e : TypeId} {fz : Nat × Nat} (hg : w.heap[g]? = some (.cells c e fz)) (hf : fz.2 ≤ n) : ∃ fz', (w.freeze ⟨g, 0, none⟩ n).heap[g]? = some (.cells c e fz') ∧ fz'.2 ≤ n := by
  unfold World.freeze
  by_cases h0 : n = 0
  · rw [if_pos h0]
    exact ⟨fz, hg, hf⟩
  · rw [if_neg h0]
    obtain ⟨lo, hi⟩ := fz
    refine ⟨if lo == hi then (0, 0 + n) else (min lo 0, max hi (0 + n)), by simp [Array.getElem?_modify, hg], ?_⟩
    simp only at hf
    split <;> simp <;> omega
theorem frz_other (w : World) (g n k : Nat) (h : k ≠ g) : (w.freeze ⟨g, 0, none⟩ n).heap[k]? = w.heap[k]? := by
  unfold World.freeze
  by_cases h0 : n = 0
  · rw [if_pos h0]
  · rw [if_neg h0]
    simp only [Array.getElem?_modify]
    rw [if_neg (fun e => h e.symm)]
theorem frz_size (w : World) (g n : Nat) : (w.freeze ⟨g, 0, none⟩ n).heap.size = w.heap.size ∧ (w.freeze ⟨g, 0, none⟩ n).os = w.os ∧ (w.freeze ⟨g, 0, none⟩ n).tape = w.tape ∧ (w.freeze ⟨g, 0, none⟩ n).output = w.output := by
  unfold World.freeze
  split
  · exact ⟨rfl, rfl, rfl, rfl⟩
  · exact ⟨by simp, rfl, rfl, rfl⟩
set_option maxHeartbeats 2000000 in
set_option maxRecDepth 100000 in
/-- A builder is read: its bytes lie frozen, all else is as it was. -/
theorem buf_string (B b : Nat) (v : Value) (l : List UInt8) (w : World) (h : Buf w B b v l) (h0 : l ≠ []) :
    Calls Tryz.prog 32 #[.pointer (some ⟨b, 0, none⟩)] w fun e w' => e = .returned (.string ⟨l.toArray⟩) ∧ Buf w' B b v l ∧ Trn w w' b v := by
  obtain ⟨p, hp, hbk⟩ := h.at_
  have hne := h.ne hbk
  have hown := h.own
  have hlow := h.low
  have hl0 : l.length ≠ 0 := by simpa using h0
  obtain ⟨g, cap, cur, fz, rfl, hbg, hg, hfz, hnc, hcm, hcs, htake⟩ : ∃ g cap cur fz, v = .slice (some ⟨g, 0, none⟩) l.length cap ∧ B ≤ g ∧ w.heap[g]? = some (.cells cur 5 fz) ∧ fz.2 ≤ l.length * 1 ∧ l.length ≤ cap ∧ cap ≤ maxLen ∧ cur.size = cap * 1 ∧ cur.toList.take (l.length * 1) = Lib.byteCells l := by
    rcases hown.2 with ⟨_, hz⟩ | ⟨g, cap, cur, fz, hv, r⟩
    · exact absurd hz hl0
    · exact ⟨g, cap, cur, fz, hv, r⟩
  have hgb : b ≠ g := fun e => hne (by simp [Value.ownBlock, e])
  have c1 : w.drew.cell? ⟨b, 1, none⟩ = some (.slice (some ⟨g, 0, none⟩) l.length cap) := by
    have : w.drew.heap[b]? = some (.cells #[p, .slice (some ⟨g, 0, none⟩) l.length cap] 70 (0, 0)) := hbk
    rw [Lib.cell_of_heap this]; rfl
  have hSD : ∀ ts ty, (Builtin.unsafeSliceData_ ts ty #[.slice (some ⟨g, 0, none⟩) l.length cap]).run Tryz.prog w.drew = .ok (.pointer (some ⟨g, 0, none⟩)) w.drew :=
    fun ts ty => Lib.run_unsafeSliceData_row _ _ _ _ _ _ (by omega)
  have hUS : (Builtin.unsafeString_ #[124, 3] 9 #[.pointer (some ⟨g, 0, none⟩), .int .i64 l.length]).run Tryz.prog w.drew = .ok (.string ⟨l.toArray⟩) (w.drew.freeze ⟨g, 0, none⟩ l.length) := by
    refine Lib.run_unsafeString_row w.drew 124 3 9 5 Tryz.underlying124 (by kernel_rfl) g cur.size (by have hg' : w.drew.heap[g]? = some (.cells cur 5 fz) := hg; simp [World.shape?, hg']) l h0 (by omega) (by unfold maxLen at hcm; omega) ?_
    intro j x hx
    have := hown.cells (g := g) rfl j (.int .u8 x.toNat) (by simp [Lib.byteCells, hx])
    exact this
  have Hend : Hid (Buf (w.drew.freeze ⟨g, 0, none⟩ l.length) B b (.slice (some ⟨g, 0, none⟩) l.length cap) l ∧ Trn w (w.drew.freeze ⟨g, 0, none⟩ l.length) b (.slice (some ⟨g, 0, none⟩) l.length cap)) := by
    have hg' : w.drew.heap[g]? = some (.cells cur 5 fz) := hg
    obtain ⟨fz', k1, k2⟩ := frz_of (n := l.length) hg' (by omega)
    obtain ⟨z1, z2, z3, z4⟩ := frz_size w.drew g l.length
    refine ⟨⟨hlow, ⟨p, hp, (frz_other w.drew g l.length b hgb).trans hbk⟩, hown.1, Or.inr ⟨g, cap, cur, fz', rfl, hbg, k1, by omega, hnc, hcm, hcs, htake⟩⟩, z2, z3, z4, Nat.le_of_eq z1.symm, fun k _ _ h2 => frz_other w.drew g l.length k (fun e => h2 (by rw [e]; rfl))⟩
  clear h hp hbk hne hown hlow hl0 hbg hg hfz hnc hcm hcs htake hgb
  go_enter Tryz.func32, Tryz.ntmps32
  go_wp2_with fail
  go_region
  all_goals (go_wp2_with fail; go_ret; exact ⟨rfl, Hend.out⟩)
/-- The second one is read. -/
theorem two_string (B p q : Nat) (l m : List UInt8) (w : World) (h : Two w B p q l m) (h0 : l ≠ []) :
    Calls Tryz.prog 32 #[.pointer (some ⟨p, 0, none⟩)] w fun e w' => e = .returned (.string ⟨l.toArray⟩) ∧ Two w' B p q l m ∧ Below B w w' := by
  obtain ⟨u, v, h1, h2, h3⟩ := h.bufs
  have hpq := h.ne
  refine (buf_string B p u l w h1 h0).mono ?_
  rintro e w' ⟨rfl, k1, k2⟩
  obtain ⟨_, _, hb2⟩ := h2.at_
  obtain ⟨_, _, hb1⟩ := h1.at_
  exact ⟨rfl, ⟨hpq, u, v, k1, h2.same (k2.block q h2.lt.1 hpq.symm (h1.ne hb2)) (fun k hk => k2.block k (h2.lt.2 k hk).2 (fun e => h2.ne hb1 (by rw [hk, e])) (fun e => h3 k e hk)), h3⟩,
    ⟨k2.os, k2.tape, k2.output, k2.size, fun k hk => k2.block k (by have := h1.lt.1; have := h1.low; omega) (by have := h1.low; omega) (fun e => by have := (h1.lt.2 k e).1; omega)⟩⟩
end Go.Proofs.YtcbgflidlpmhcaaGreatDoor

namespace Go.Proofs.YtcbgflidlpmhcaaGreatDoor
open Go.RowKit

/-- The bytes that Write told. -/
def WrtP (L : List KV) (x : Nat) (b : ByteArray) : Prop := writeE L = 0 ∧ wtK L ≤ 60000 ∧ bl b = tabL (groupsK L) (bloomT (headsK L) x)
theorem wt_flat {L : List KV} {G : List (List KV)} (h : G.flatten = L) {g : List KV} (hg : g ∈ G) : wtK g ≤ wtK L := by
  obtain ⟨A, B, rfl⟩ := List.append_of_mem hg
  rw [← h, List.flatten_append, List.flatten_cons, wtK_append, wtK_append]
  omega
theorem flat_wt {G : List (List KV)} (h : ∀ g ∈ G, g ≠ []) : 20 * G.length ≤ wtK G.flatten := by
  have h1 := wtK_len G.flatten
  have h2 := flatten_len h
  omega
/-- How long the parts of a table are. -/
theorem cat_bounds {G : List (List KV)} (h : ∀ g ∈ G, g ≠ []) (hw : wtK G.flatten ≤ 60000) : (catB G).length ≤ 84000 ∧ (idxB G).length ≤ 12000 ∧ G.length ≤ 3000 := by
  have h1 := flat_wt h
  have h2 := catB_length (G := G) (light_short hw).1
  have h3 := sum_wt G.flatten
  have h4 := idxB_length G
  omega
theorem bloomT_sz (H : List ByteArray) (x : Nat) : (bloomT H x).size ≤ 65537 := by
  unfold bloomT
  rw [filterT_size]
  have := sizeN_le (H.length : Int) x
  omega
theorem cut_some {R : List KV} (hR : R ≠ []) : R.take (takenN 0 R) ≠ [] := by
  intro e
  have h1 := takenN_pos hR 0
  have h2 := takenN_le R 0
  have h3 : (R.take (takenN 0 R)).length = 0 := by rw [e]; rfl
  rw [List.length_take] at h3
  omega
/-- What a slice of the rest is. -/
theorem keysAt_drop {w : World} {g off n : Nat} {L : List KV} (h : KeysAt w (some ⟨g, off, none⟩) n L) (k : Nat) (off' : Nat) (ho : k < n → off' = off + k * 2) : KeysAt w (some ⟨g, off', none⟩) (n - k) (L.drop k) := by
  refine ⟨by rw [List.length_drop, h.len], fun i m hm => ?_⟩
  have hi := (List.getElem?_eq_some_iff.1 hm).1
  rw [List.length_drop] at hi
  have hl := h.len
  rw [List.getElem?_drop] at hm
  obtain ⟨g2, o2, e, hg, h1, h2⟩ := h.at_ (k + i) m hm
  cases e
  have ho := ho (by omega)
  refine ⟨g, off', rfl, hg, ?_, ?_⟩
  · rw [ho]; rwa [show off + (k + i) * 2 = off + k * 2 + i * 2 from by omega] at h1
  · rw [ho]; rwa [show off + (k + i) * 2 + 1 = off + k * 2 + i * 2 + 1 from by omega] at h2
theorem keysAt_take {w : World} {A : Option Addr} {n : Nat} {L : List KV} (h : KeysAt w A n L) (k : Nat) (hk : k ≤ n) : KeysAt w A k (L.take k) := by
  refine ⟨by rw [List.length_take, ← h.len]; omega, fun i m hm => ?_⟩
  have hi := (List.getElem?_eq_some_iff.1 hm).1
  rw [List.length_take] at hi
  rw [List.getElem?_take_of_lt (by omega)] at hm
  exact h.at_ i m hm
end Go.Proofs.YtcbgflidlpmhcaaGreatDoor

namespace Go.Proofs.YtcbgflidlpmhcaaGreatDoor
open Go.RowKit

/-- The length in a slice. -/
def lenS : Value → Nat
  | .slice _ n _ => n
  | _ => 0
/-- What stands between two blocks of Write. -/
structure WrSt (w : World) (B p q : Nat) (L : List KV) (G : List (List KV)) (R : List KV) (W : World) : Prop where
  cut : CutSt L G R
  some : ∀ g ∈ G, g ≠ []
  two : Two W B p q (catB G) (idxB G)
  low : B ≤ W.heap.size
  below : Below w.heap.size w W
theorem WrSt.sz {w : World} {B p q : Nat} {L : List KV} {G : List (List KV)} {R : List KV} {W : World} (h : WrSt w B p q L G R W) (hw : wtK L ≤ 60000) : (catB G).length ≤ 84000 ∧ (idxB G).length ≤ 12000 ∧ G.length ≤ 3000 := by
  refine cat_bounds h.some ?_
  rw [← h.cut.all, wtK_append] at hw
  omega
theorem WrSt.rest {w : World} {B p q : Nat} {L : List KV} {G : List (List KV)} {R : List KV} {W : World} (h : WrSt w B p q L G R W) (hw : wtK L ≤ 60000) (hR : risesK L = true) : wtK R ≤ 60000 ∧ risesK R = true := by
  rw [← h.cut.all] at hw hR
  rw [wtK_append] at hw
  exact ⟨by omega, (rises_both hR).2⟩
theorem take_rises {R : List KV} (hR : risesK R = true) (k : Nat) : risesK (R.take k) = true := rises_take R k hR
/-- Light pairs that rise are a block. -/
theorem build_light {R : List KV} (hw : wtK R ≤ 60000) (hR : risesK R = true) : buildP R = (⟨(blkL R).toArray⟩, 0) := by
  obtain ⟨k1, k2, _, _⟩ := light_short hw
  unfold buildP
  rw [if_neg (by rw [hR]; decide), if_neg (by rw [k1]; decide), if_neg (by omega)]
theorem blk_light {R : List KV} (hw : wtK R ≤ 60000) : (blkL R).length ≤ 60008 := by
  obtain ⟨k1, _, _, _⟩ := light_short hw
  have h1 := (blk_bounds k1).1
  have h2 := sum_wt R
  omega

set_option maxRecDepth 100000 in
set_option maxHeartbeats 8000000 in
/-- Write's loop, and what it lays behind: pairs that are few and rise. -/
theorem swrite_some (g off n c : Nat) (L : List KV) (x : Nat) (w : World) (h : KeysAt w (some ⟨g, off, none⟩) n L) (hc : n ≤ c) (hw : wtK L ≤ 60000) (hR : risesK L = true) (hne : L ≠ []) (hT : LaidS w) :
    Calls Tryz.prog 7 #[.slice (some ⟨g, off, none⟩) n c, .float .f64 x] w fun e w' => ∃ b, e = .returned (.tuple #[.string b, .int .i64 0]) ∧ bl b = tabL (groupsK L) (bloomT (headsK L) x) ∧ Below w.heap.size w w' := by
  obtain ⟨k1, k2, k3, k4⟩ := light_short hw
  obtain ⟨Tb, hTb⟩ : ∃ Tb, tabL (groupsK L) (bloomT (headsK L) x) = Tb := ⟨_, rfl⟩
  rw [hTb]
  have HTb := Lib.hid hTb
  clear hTb
  have HK := Lib.hid h
  have hlen := h.len
  have hn : n ≤ 3000 := by omega
  have hn0 : 0 < n := by have := List.length_pos_iff.2 hne; omega
  have CB := fun W (hb : Below w.heap.size w W) (o r cc : Nat) (R : List KV) (hk : KeysAt W (some ⟨g, o, none⟩) r R) (hwR : wtK R ≤ 60000) (hrR : risesK R = true) => Lib.hid (show Calls Tryz.prog 26 #[.slice (some ⟨g, o, none⟩) r cc] W fun e w' => e = .returned (.tuple #[.string ⟨(blkL R).toArray⟩, .int .i64 0]) ∧ Below W.heap.size W w' from by
    obtain ⟨q1, q2, q3, q4⟩ := light_short hwR
    have := build_any (some ⟨g, o, none⟩) r cc R W hk q3 (by have := hk.len; omega) q1 q2 (hT.on hb).b
    rw [build_light hwR hrR] at this
    exact this)
  have CK := fun W (o r cc : Nat) (R : List KV) (hk : KeysAt W (some ⟨g, o, none⟩) r R) (hwR : wtK R ≤ 60000) => Lib.hid (staken_any (some ⟨g, o, none⟩) r cc R W hk hwR)
  have C0 := CB w (Below.refl _ _) off n c L h hw hR
  have HT := Lib.hid hT
  have Hw := Lib.hid hw
  have HR := Lib.hid hR
  have Hne := Lib.hid hne
  have Hlen := Lib.hid hlen
  have e1 : ((n : Int) == 0) = false := by rw [beq_eq_false_iff_ne]; omega
  clear h k1 k2 k3 k4 hT hw hR hne hlen
  go_enter Tryz.func7, Tryz.ntmps7
  go_wp2_with fail
  refine C0.out.mono ?_
  rintro e w1 ⟨rfl, hb1⟩
  have HB1 := Lib.hid hb1
  clear hb1 C0
  go_wp2_with fail
  have T0 := Lib.hid (Two.new w1)
  have HB2 := Lib.hid (below_alloc (below_alloc HB1.out (Nat.le_refl _) (.cells #[.pointer none, .slice none 0 0] 70)) (Nat.le_refl _) (.cells #[.pointer none, .slice none 0 0] 70))
  have hs2 : w1.heap.size ≤ ((w1.alloc (.cells #[.pointer none, .slice none 0 0] 70)).alloc (.cells #[.pointer none, .slice none 0 0] 70)).heap.size := by simp; omega
  have hs1 : w.heap.size ≤ w1.heap.size := HB1.out.size
  generalize (w1.alloc (.cells #[.pointer none, .slice none 0 0] 70)).alloc (.cells #[.pointer none, .slice none 0 0] 70) = w2 at *
  generalize w1.heap.size = B at *
  go_loopw [10, 11] (fun nb rs wr => ∃ (G : List (List KV)) (R : List KV) (r o cc : Nat), nb = .int .i64 (G.length : Nat) ∧ rs = .slice (some ⟨g, o, none⟩) r cc ∧ r ≤ cc ∧ Hid (KeysAt w (some ⟨g, o, none⟩) r R) ∧ Hid (WrSt w B B (B + 1) L G R wr)) (fun _ rs _ => lenS rs)
  case atStart => exact ⟨[], L, n, off, c, rfl, rfl, hc, HK, Lib.hid ⟨cut_start L, fun g hg => (by cases hg), T0.out, hs2, HB2.out⟩⟩
  case round =>
    obtain ⟨G, R, r, o, cc, rfl, rfl, hrc, HKR, HS⟩ := hrel
    have hrl := HKR.out.len
    obtain ⟨z1, z2, z3⟩ := HS.out.sz Hw.out
    obtain ⟨wR, rR⟩ := HS.out.rest Hw.out HR.out
    by_cases hr0 : 0 < r
    · have g1 : (0 : Int) < (r : Int) := by omega
      have hRne : R ≠ [] := fun e => by rw [e] at hrl; simp at hrl; omega
      have tp := takenN_pos hRne 0
      have tl := takenN_le R 0
      rw [← hrl] at tl
      have CK1 := CK wr o r cc R (HKR.out.below HS.out.below) wR
      obtain ⟨k, hk⟩ : ∃ k, takenN 0 R = k := ⟨_, rfl⟩
      have hcs := cut_step HS.out.cut hRne
      have hsm := cut_some hRne
      rw [hk] at CK1 tp tl hcs hsm
      have wk : wtK (R.take k) ≤ 60000 := Nat.le_trans (wtK_take R k) wR
      have rk := rises_take R k rR
      have hlk := blk_light wk
      have hkk := keysAt_take HKR.out k tl
      have CB1 := fun W (hb : Below wr.heap.size wr W) => CB W (HS.out.below.trans (hb.mono HS.out.below.size)) o k cc (R.take k) (hkk.below (HS.out.below.trans (hb.mono HS.out.below.size))) wk rk
      have Hcs := Lib.hid hcs
      have Hsm := Lib.hid hsm
      have HbR := Lib.hid (show bl (⟨(blkL (R.take k)).toArray⟩ : ByteArray) = blkL (R.take k) from rfl)
      obtain ⟨one, hone⟩ : ∃ one : ByteArray, ⟨(blkL (R.take k)).toArray⟩ = one := ⟨_, rfl⟩
      rw [hone] at CB1 HbR
      have hosz : one.size = (blkL (R.take k)).length := by rw [← hone]; rfl
      have Hosz := Lib.hid hosz
      have hz : one.size ≤ 60008 := by omega
      have t1 : (k : Int) ≤ (r : Int) := by omega
      have t2 : (0 : Int) ≤ (k : Int) := by omega
      have t3 : (k : Int) ≤ (cc : Int) := by omega
      have t4 : k ≤ cc := by omega
      have CF := fun W => Lib.hid (sfixed_any one.size W (by omega))
      have CW := fun W (ht : Two W B B (B + 1) (catB G) (idxB G)) (hB : B ≤ W.heap.size) => Lib.hid (two_str B B (B + 1) (catB G) (idxB G) one W ht (by omega) hB)
      have CI := fun W (ht : Two W B B (B + 1) (catB G ++ bl one) (idxB G)) (hB : B ≤ W.heap.size) => Lib.hid (two_str B (B + 1) B (idxB G) (catB G ++ bl one) ⟨(be one.size 4).toArray⟩ W ht.swap (by rw [size_mk, be_length]; omega) hB)
      have Hrl := Lib.hid hrl
      clear hk hcs hsm hone hosz hrl hlk hkk rk wk rR wR hRne CK CB
      go_wp2_with fail
      refine CK1.out.mono ?_
      rintro e w3 ⟨rfl, hb3⟩
      have C3 := CB1 w3 hb3
      have HB3 := Lib.hid hb3
      clear hb3 CK1 CB1
      go_wp2_with fail
      refine C3.out.mono ?_
      rintro e w4 ⟨rfl, hb4⟩
      have HB4 := Lib.hid (HB3.out.trans (hb4.mono HB3.out.size))
      have C4 := CW w4 (HS.out.two.up HB4.out) (Nat.le_trans HS.out.low HB4.out.size)
      clear hb4 C3 CW HB3
      go_wp2_with fail
      refine C4.out.mono ?_
      rintro e w5 ⟨rfl, ht5, hb5⟩
      have HT5 := Lib.hid ht5
      have HB5 := Lib.hid (HS.out.below.trans (HB4.out.mono HS.out.below.size))
      have HB5 := Lib.hid (HB5.out.trans (hb5.mono hs1))
      have hl5 : B ≤ w5.heap.size := Nat.le_trans (Nat.le_trans HS.out.low HB4.out.size) hb5.size
      have C5 := CF w5
      clear ht5 hb5 C4 CF
      go_wp2_with fail
      refine C5.out.mono ?_
      rintro e w6 ⟨rfl, hb6⟩
      have C6 := CI w6 (HT5.out.up hb6) (Nat.le_trans hl5 hb6.size)
      have HB6 := Lib.hid (HB5.out.trans (hb6.mono HB5.out.size))
      have hl6 : B ≤ w6.heap.size := Nat.le_trans hl5 hb6.size
      clear hb6 C5 CI HB5 HT5
      go_wp2_with fail
      refine C6.out.mono ?_
      rintro e w7 ⟨rfl, ht7, hb7⟩
      have HB7 := Lib.hid (HB6.out.trans (hb7.mono hs1))
      have HS7 : Hid (WrSt w B B (B + 1) L (G ++ [R.take k]) (R.drop k) w7) := Lib.hid ⟨Hcs.out, fun g hg => by
        rcases List.mem_append.1 hg with h1 | h1
        · exact HS.out.some g h1
        · rw [List.mem_singleton] at h1; rw [h1]; exact Hsm.out, by
        have := ht7.swap
        rw [catB_snoc, idxB_snoc, ← HbR.out]
        exact this, Nat.le_trans hl6 hb7.size, HB7.out⟩
      have HKd : ∀ o', (k < r → o' = o + k * 2) → Hid (KeysAt w (some ⟨g, o', none⟩) (r - k) (R.drop k)) := fun o' ho => Lib.hid (keysAt_drop HKR.out k o' ho)
      have hGl : (G ++ [R.take k]).length = G.length + 1 := by rw [List.length_append]; rfl
      clear ht7 hb7 HB6 C6 HB7 HS HKR HB4 Hosz HbR Hcs Hsm
      by_cases hic : k = cc
      · subst hic
        obtain rfl : r = k := by omega
        have HK9 := HKd o (fun h => by omega)
        rw [Nat.sub_self] at HK9
        clear HKd
        go_wp2_with fail
        go_roundw
        case rel => exact ⟨_, _, _, _, _, by rw [hGl]; go_num, rfl, by omega, HK9, HS7⟩
        case measure => simp [lenS]; omega
      · have HK9 := HKd (o + k * 2) (fun h => rfl)
        clear HKd
        go_wp2_with fail
        go_roundw
        case rel => exact ⟨_, _, _, _, _, by rw [hGl]; go_num, rfl, by omega, HK9, HS7⟩
        case measure => simp [lenS]; omega
    · have r0 : r = 0 := by omega
      subst r0
      have hR0 : R = [] := List.eq_nil_of_length_eq_zero hrl.symm
      have hGK : groupsK L = G := HS.out.cut.fin hR0
      have hGL : G.flatten = L := by have := HS.out.cut.all; rw [hR0, List.append_nil] at this; exact this
      have hG0 : 0 < G.length := by
        cases G with
        | nil => exact absurd hGL.symm Hne.out
        | cons a r => simp
      have z4 := idxB_length G
      have g1 : ¬ (0 : Int) < ((0 : Nat) : Int) := by omega
      have CH := Lib.hid (sheads_any (some ⟨g, off, none⟩) n c L wr (HK.out.below HS.out.below) Hw.out Hne.out HR.out (HT.out.on HS.out.below))
      have hHl : (headsK L).length ≤ 3000 := by have := headsK_len L; have := Hlen.out; omega
      have hHs : ∀ s ∈ headsK L, s.size ≤ 9223372036854775807 := fun s hs => by
        obtain ⟨m, hm, rfl⟩ := (headsK_mem L s).1 hs
        have h1 := head_size m.1
        have h2 := wtK_all L m hm
        have := Hw.out
        omega
      have hFz := bloomT_sz (headsK L) x
      have CBl := fun W (hb : Below w.heap.size w W) A' c' (hA : TextsAt W A' (headsK L).length (headsK L)) => Lib.hid (bbuild_any A' (headsK L).length c' x (headsK L) W hA (by omega) hHs (HT.out.on hb).m)
      have hTe := HTb.out
      obtain ⟨F, hF⟩ : ∃ F, bloomT (headsK L) x = F := ⟨_, rfl⟩
      rw [hF] at CBl hFz hTe
      rw [hGK] at hTe
      obtain ⟨X1, hX1⟩ : ∃ X1, catB G = X1 := ⟨_, rfl⟩
      obtain ⟨X2, hX2⟩ : ∃ X2, idxB G = X2 := ⟨_, rfl⟩
      have HS2 := HS.out.two
      rw [hX1, hX2] at HS2
      rw [hX1] at z1
      rw [hX2] at z2 z4
      have hX0 : X2 ≠ [] := fun e => by rw [e] at z4; simp at z4; omega
      obtain ⟨nb, hnb⟩ : ∃ nb, G.length = nb := ⟨_, rfl⟩
      have htab : tabB G F = X1 ++ (bl F ++ (X2 ++ be nb 4)) := by unfold tabB; rw [hX1, hX2, hnb]
      have htabL : tabL G F = (X1 ++ (bl F ++ (X2 ++ be nb 4))) ++ be (crc (X1 ++ (bl F ++ (X2 ++ be nb 4)))) 4 := by unfold tabL; rw [htab]
      rw [htabL] at hTe
      rw [hnb] at z3 z4 hG0
      have Hlow := Lib.hid HS.out.low
      have HBw := Lib.hid HS.out.below
      have HS2 := Lib.hid HS2
      have bz4 := be_length nb 4
      have W1 := fun W (ht : Two W B B (B + 1) X1 X2) (hB : B ≤ W.heap.size) => Lib.hid (two_str B B (B + 1) X1 X2 F W ht (by omega) hB)
      have W2 := fun W (ht : Two W B B (B + 1) (X1 ++ bl F) X2) => Lib.hid (two_string B (B + 1) B X2 (X1 ++ bl F) W ht.swap hX0)
      have W3 := fun W (ht : Two W B B (B + 1) (X1 ++ bl F) X2) (hB : B ≤ W.heap.size) => Lib.hid (two_str B B (B + 1) (X1 ++ bl F) X2 ⟨X2.toArray⟩ W ht (by rw [List.length_append, size_mk, bl_len]; omega) hB)
      have W4 := fun W (ht : Two W B B (B + 1) ((X1 ++ bl F) ++ X2) X2) (hB : B ≤ W.heap.size) => Lib.hid (two_str B B (B + 1) ((X1 ++ bl F) ++ X2) X2 ⟨(be nb 4).toArray⟩ W ht (by rw [List.length_append, List.length_append, size_mk, bl_len]; omega) hB)
      have hYe : ((X1 ++ bl F) ++ X2) ++ be nb 4 = X1 ++ (bl F ++ (X2 ++ be nb 4)) := by simp only [List.append_assoc]
      obtain ⟨Y, hY⟩ : ∃ Y, X1 ++ (bl F ++ (X2 ++ be nb 4)) = Y := ⟨_, rfl⟩
      rw [hY] at hYe hTe
      have hYl : Y.length ≤ 200000 := by
        rw [← hY]
        simp only [List.length_append, bl_len, bz4]
        omega
      have hY0 : Y ≠ [] := fun e => by
        rw [← hY] at e
        have := congrArg List.length e
        simp only [List.length_append, bl_len, bz4, List.length_nil] at this
        omega
      have W5 := fun W (ht : Two W B B (B + 1) Y X2) => Lib.hid (two_string B B (B + 1) Y X2 W ht hY0)
      have WS := fun W (hb : Below w.heap.size w W) => Lib.hid (show Calls Tryz.prog 33 #[.string ⟨Y.toArray⟩] W fun e w' => e = .returned (.int .i64 (crc Y : Int)) ∧ W = w' from sum_any ⟨Y.toArray⟩ W (by rw [size_mk]; omega) (HT.out.on hb).halves)
      have hcl := crc_lt Y
      obtain ⟨cr, hcr⟩ : ∃ cr, crc Y = cr := ⟨_, rfl⟩
      rw [hcr] at WS hcl hTe
      have HTe := Lib.hid hTe
      have W6 := fun W (ht : Two W B B (B + 1) Y X2) (hB : B ≤ W.heap.size) => Lib.hid (two_str B B (B + 1) Y X2 ⟨(be cr 4).toArray⟩ W ht (by rw [size_mk, be_length]; omega) hB)
      have W7 := fun W (ht : Two W B B (B + 1) (Y ++ be cr 4) X2) => Lib.hid (two_string B B (B + 1) (Y ++ be cr 4) X2 W ht (fun e => hY0 (List.append_eq_nil_iff.1 e).1))
      have CF := fun W => Lib.hid (show Calls Tryz.prog 29 #[.int .i64 (G.length : Nat)] W fun e w' => e = .returned (.string ⟨(be nb 4).toArray⟩) ∧ Below W.heap.size W w' from by rw [hnb]; exact sfixed_any nb W (by omega))
      have CF2 := fun W => Lib.hid (sfixed_any cr W hcl)
      have HYe := Lib.hid hYe
      clear hTe HTb
      have hwB : w.heap.size ≤ B := hs1
      clear HS HKR hR0 hGK hGL hX1 hX2 hnb htab htabL hY hYe hYl hcr hcl hF hHs hHl hFz hX0 z1 z2 z3 z4 hG0 CB CK hrl
      go_wp2_with fail
      refine CH.out.mono ?_
      rintro e w3 ⟨A', c', rfl, hA, hb3⟩
      have HB3 := Lib.hid (HBw.out.trans (hb3.mono HBw.out.size))
      have ht3 := HS2.out.up hb3
      have hl3 := Nat.le_trans Hlow.out hb3.size
      have CBl3 := CBl w3 HB3.out A' c' hA
      have HT3 := Lib.hid ht3
      clear hA hb3 CBl CH ht3 HS2 HBw Hlow
      go_wp2_with fail
      refine CBl3.out.mono ?_
      rintro e w4 ⟨rfl, hb4⟩
      have HB4 := Lib.hid (HB3.out.trans (hb4.mono HB3.out.size))
      have V1 := W1 w4 (HT3.out.up hb4) (Nat.le_trans hl3 hb4.size)
      have hl4 := Nat.le_trans hl3 hb4.size
      clear hb4 CBl3 W1 HT3 HB3
      go_wp2_with fail
      refine V1.out.mono ?_
      rintro e w5 ⟨rfl, ht5, hb5⟩
      have HB5 := Lib.hid (HB4.out.trans (hb5.mono hwB))
      have hl5 := Nat.le_trans hl4 hb5.size
      have V2 := W2 w5 ht5
      clear hb5 W2 V1 HB4 ht5
      go_wp2_with fail
      refine V2.out.mono ?_
      rintro e w6 ⟨rfl, ht6, hb6⟩
      have HB6 := Lib.hid (HB5.out.trans (hb6.mono hwB))
      have hl6 := Nat.le_trans hl5 hb6.size
      have V3 := W3 w6 ht6.swap hl6
      clear hb6 W3 V2 HB5 ht6
      go_wp2_with fail
      refine V3.out.mono ?_
      rintro e w7 ⟨rfl, ht7, hb7⟩
      have HB7 := Lib.hid (HB6.out.trans (hb7.mono hwB))
      have hl7 := Nat.le_trans hl6 hb7.size
      have V4 := CF w7
      have HT7 := Lib.hid ht7
      clear hb7 CF V3 HB6 ht7
      go_wp2_with fail
      refine V4.out.mono ?_
      rintro e w8 ⟨rfl, hb8⟩
      have HB8 := Lib.hid (HB7.out.trans (hb8.mono HB7.out.size))
      have hl8 := Nat.le_trans hl7 hb8.size
      have V5 := W4 w8 (HT7.out.up hb8) hl8
      clear hb8 W4 V4 HB7 HT7
      go_wp2_with fail
      refine V5.out.mono ?_
      rintro e w9 ⟨rfl, ht9, hb9⟩
      have HB9 := Lib.hid (HB8.out.trans (hb9.mono hwB))
      have hl9 := Nat.le_trans hl8 hb9.size
      have ht9 : Two w9 B B (B + 1) (((X1 ++ bl F) ++ X2) ++ be nb 4) X2 := ht9
      rw [HYe.out] at ht9
      have V6 := W5 w9 ht9
      clear hb9 V5 HB8 ht9
      go_wp2_with fail
      refine V6.out.mono ?_
      rintro e wa ⟨rfl, hta, hba⟩
      have HBa := Lib.hid (HB9.out.trans (hba.mono hwB))
      have hla := Nat.le_trans hl9 hba.size
      have V7 := WS wa HBa.out
      have HTa := Lib.hid hta
      clear hba W5 V6 HB9 hta WS
      go_wp2_with fail
      refine V7.out.mono ?_
      rintro e wb ⟨rfl, rfl⟩
      have V8 := CF2 wa
      clear V7 CF2
      go_wp2_with fail
      refine V8.out.mono ?_
      rintro e wc ⟨rfl, hbc⟩
      have HBc := Lib.hid (HBa.out.trans (hbc.mono HBa.out.size))
      have hlc := Nat.le_trans hla hbc.size
      have V9 := W6 wc (HTa.out.up hbc) hlc
      clear hbc V8 HBa HTa W6
      go_wp2_with fail
      refine V9.out.mono ?_
      rintro e wd ⟨rfl, htd, hbd⟩
      have HBd := Lib.hid (HBc.out.trans (hbd.mono hwB))
      have Va := W7 wd htd
      clear hbd V9 HBc htd W7
      go_wp2_with fail
      refine Va.out.mono ?_
      rintro e we ⟨rfl, hte, hbe⟩
      have HBe := Lib.hid (HBd.out.trans (hbe.mono hwB))
      clear hte hbe Va HBd
      go_wp2_with fail
      go_ret2
      exact ⟨_, rfl, HTe.out, HBe.out⟩
end Go.Proofs.YtcbgflidlpmhcaaGreatDoor

namespace Go.Proofs.YtcbgflidlpmhcaaGreatDoor
open Go.RowKit

/-- A table while it is read. -/
structure TblSt (W : World) (B t : Nat) (v : Value) (l : List KV) (nb : Nat) (f : ByteArray) : Prop where
  blk : Blk W t 80 #[v, .int .i64 (nb : Int), .string f]
  own : Own elKeys W B 37 v l
  low : B ≤ t
theorem TblSt.up {W W' : World} {B t : Nat} {v : Value} {l : List KV} {nb : Nat} {f : ByteArray} (h : TblSt W B t v l nb f) (hb : Below W.heap.size W W') : TblSt W' B t v l nb f := ⟨h.blk.below hb h.blk.lt, h.own.below hb, h.low⟩
theorem TblSt.drewN {W : World} {B t : Nat} {v : Value} {l : List KV} {nb : Nat} {f : ByteArray} (h : TblSt W B t v l nb f) (j : Nat) : TblSt (W.drewN j) B t v l nb f := ⟨h.blk.drewN j, h.own, h.low⟩
theorem TblSt.off {W : World} {B t : Nat} {v : Value} {l : List KV} {nb : Nat} {f : ByteArray} (h : TblSt W B t v l nb f) : some t ≠ v.ownBlock := by
  rcases h.own.2 with ⟨e, _⟩ | ⟨g, cap, cur, e, hg, hh, _⟩
  · intro h9; rw [e] at h9; cases h9
  · intro h9
    rw [e] at h9
    have e9 : t = g := Option.some.inj h9
    subst e9
    have := h.blk
    unfold Blk at this
    rw [hh] at this
    injection this with this
    injection this with _ h2
    exact absurd h2 (by decide)
/-- What a block more turns. -/
def tT (o : Obj) : Bool := cellsT 80 o || cellsT 37 o
theorem tT_ne {t : TypeId} (h1 : t ≠ 80) (h2 : t ≠ 37) (cs : Array Value) (fr : Nat × Nat) : tT (.cells cs t fr) = false := by
  unfold tT
  rw [cellsT_ne h1, cellsT_ne h2]
  rfl
def AddPost (W : World) (B t nb : Nat) (f : ByteArray) : Option (List KV) → Ending → World → Prop
  | none, e, w' => e = gaveB ∧ Below B W w'
  | some l', e, w' => e = .returned (.tuple #[]) ∧ (∃ v', TblSt w' B t v' l' (nb + 1) f) ∧ Tn B tT W w'
/-- A pair list put behind another. -/
theorem tbl_app {w : World} {B t : Nat} {l : List KV} {nb : Nat} {f : ByteArray} {ao : Option Addr} {co : Nat} (h : TblSt w B t (.slice ao l.length co) l nb f) {A : Option Addr} {m c : Nat} {M : List KV} (hM : Own elKeys w B 37 (.slice A m c) M) (hl : l.length + M.length ≤ 2000000) (hB : B ≤ w.heap.size) :
    ∃ v' w', (∀ ty, (Builtin.append_ #[22, 22] ty #[.slice ao l.length co, .slice A m c]).run Tryz.prog w = .ok v' w') ∧ Blk w' t 80 #[.slice ao l.length co, .int .i64 (nb : Int), .string f] ∧
      TblSt (w'.setCell ⟨t, 0, none⟩ v') B t v' (l ++ M) nb f ∧ Tn B tT w (w'.setCell ⟨t, 0, none⟩ v') := by
  obtain ⟨hm, hA, hrd⟩ := own_reads hM
  obtain ⟨v', w', hr, ho, hg, _, _⟩ := app_own (P := Tryz.prog) elKeys 22 37 (.agg #[.string ⟨#[]⟩, .string ⟨#[]⟩]) 32 underKeys infoKeys rfl w B (.slice ao l.length co) l M h.own A c hA hrd (by unfold maxLen; omega) (by omega) hB m hm
  have hb : Blk w' t 80 #[.slice ao l.length co, .int .i64 (nb : Int), .string f] := h.blk.grown hg h.off
  have ht1 : Tn B tT w w' := (Tn.refl B tT w).row hg (fun k hk => by
    rcases h.own.2 with ⟨e, _⟩ | ⟨g, cap, cur, e, hbg, hh, _⟩
    · rw [e] at hk; cases hk
    · rw [e] at hk
      cases hk
      exact Or.inr ⟨hbg, _, hh, by unfold tT cellsT; simp⟩)
  refine ⟨v', w', hr, hb, ⟨hb.set_ 0 v', ?_, h.low⟩, ht1.setCell (p := ⟨t, 0, none⟩) (Or.inr ⟨h.low, _, hb, by unfold tT cellsT; simp⟩) v'⟩
  refine own_set ho ?_ v'
  rcases ho.2 with ⟨e, _⟩ | ⟨g, cap, cur, e, hbg, hh, _⟩
  · exact Or.inl (by rw [e]; rfl)
  · refine Or.inr fun e9 => ?_
    rw [e] at e9
    have e9 : g = t := Option.some.inj e9
    subst e9
    unfold Blk at hb
    rw [hh] at hb
    injection hb with hb
    injection hb with _ h2
    exact absurd h2 (by decide)
theorem tbl_blocks {w : World} {B t : Nat} {v : Value} {l : List KV} {nb : Nat} {f : ByteArray} (h : TblSt w B t v l nb f) : TblSt (w.setCell ⟨t, 1, none⟩ (.int .i64 ((nb + 1 : Nat) : Int))) B t v l (nb + 1) f ∧ Tn B tT w (w.setCell ⟨t, 1, none⟩ (.int .i64 ((nb + 1 : Nat) : Int))) := by
  refine ⟨⟨h.blk.set_ 1 _, own_set h.own ?_ _, h.low⟩, (Tn.refl B tT w).setCell (p := ⟨t, 1, none⟩) (Or.inr ⟨h.low, _, h.blk, by unfold tT cellsT; simp⟩) _⟩
  have := h.off
  cases hv : v.ownBlock with
  | none => exact Or.inl rfl
  | some g => exact Or.inr (fun e => this (by rw [hv, e]))

set_option maxRecDepth 100000 in
set_option maxHeartbeats 4000000 in
theorem sadd_any (B t nb : Nat) (v : Value) (l : List KV) (f b : ByteArray) (W : World) (h : TblSt W B t v l nb f) (hB : B ≤ W.heap.size) (hs : b.size ≤ 1000000) (hl : l.length ≤ 1000000) (hnb : nb ≤ 4294967296) (hT : LaidS W) :
    Calls Tryz.prog 127 #[.pointer (some ⟨t, 0, none⟩), .string b] W fun e w' => AddPost W B t nb f (addB l b) e w' := by
  have CP := parse_any b W hs hT.b
  have hpp := sParse_is b
  have N := fun W => Lib.hid (smust_no W)
  have Y := fun W => Lib.hid (smust_yes W)
  obtain ⟨R, hR⟩ : ∃ R, addB l b = R := ⟨_, rfl⟩
  rw [hR]
  unfold addB at hR
  cases hsp : sParse b with
  | none =>
    rw [hsp] at hpp hR
    rw [hpp] at CP
    obtain rfl : R = none := hR.symm
    have CP := Lib.hid CP
    clear hpp hR h hT
    go_enter Tryz.func127, Tryz.ntmps127
    go_wp2_with fail
    refine CP.out.mono ?_
    rintro e w1 ⟨v1, rfl, ho, hb⟩
    have hb := Lib.hid (hb.mono hB)
    dsimp only
    go_wp2_with fail
    refine (N _).out.mono ?_
    rintro e w2 ⟨rfl, rfl⟩
    go_wp2_with fail
    exact ⟨rfl, rfl, hb.out⟩
  | some q =>
    rw [hsp] at hpp hR
    rw [hpp] at CP
    dsimp only at CP hR
    cases q with
    | nil =>
      obtain rfl : R = none := hR.symm
      have CP := Lib.hid CP
      clear hpp hR h hT
      go_enter Tryz.func127, Tryz.ntmps127
      go_wp2_with fail
      refine CP.out.mono ?_
      rintro e w1 ⟨v1, rfl, ho, hb⟩
      obtain ⟨a1, c1, rfl⟩ := ho.slice
      have hb := Lib.hid (hb.mono hB)
      clear ho
      dsimp only [List.length_nil]
      go_wp2_with fail
      refine (N _).out.mono ?_
      rintro e w2 ⟨rfl, rfl⟩
      go_wp2_with fail
      exact ⟨rfl, rfl, hb.out⟩
    | cons m r =>
      have hql := (sParse_len hsp).1
      dsimp only at hR
      obtain ⟨ao, co, rfl⟩ := h.own.slice
      obtain ⟨n, hn⟩ : ∃ n, (m :: r).length = n + 1 := ⟨r.length, rfl⟩
      cases hll : l[l.length - 1]? with
      | none =>
        rw [hll] at hR
        obtain rfl : R = some (l ++ m :: r) := hR.symm
        have hl0 : l.length = 0 := by
          rw [List.getElem?_eq_none_iff] at hll
          omega
        have CN := fun W (hc : W.cell? ⟨t, 0, none⟩ = some (.slice ao l.length co)) => Lib.hid (snone_len t ao l.length co true (by rw [hl0]; rfl) W hc)
        have HS := Lib.hid h
        have CP := Lib.hid CP
        clear hpp hR h hT hll hl0
        go_enter Tryz.func127, Tryz.ntmps127
        go_wp2_with fail
        refine CP.out.mono ?_
        rintro e w1 ⟨v1, rfl, ho, hb⟩
        obtain ⟨a1, c1, rfl⟩ := ho.slice
        have HS1 := Lib.hid (HS.out.up hb)
        have HO := Lib.hid (ho.low hB)
        have HB := Lib.hid hb
        have hB1 : B ≤ w1.heap.size := Nat.le_trans hB hb.size
        rw [hn] at ho ⊢
        have p1 : (0 : Int) < ((n + 1 : Nat) : Int) := by omega
        have cc0 : w1.cell? ⟨t, 0, none⟩ = some (.slice ao l.length co) := HS1.out.blk.cell 0
        have CN1 := fun j => CN (w1.drewN j) cc0
        clear ho hb CP HS CN
        dsimp only
        go_upto_region 2 with (first | (go_at_call 125; refine (Y _).out.mono ?_; rintro e w2 ⟨rfl, rfl⟩))
        go_quiet (first | (go_at_call 39; refine Calls.quiet_of_same (CN1 _).out) | (go_at_call 125; refine Calls.quiet_of_same (Y _).out))
        have HSq := Lib.hid (HS1.out.drewN nq)
        have HOq := Lib.hid (show Own elKeys (w2.drewN nq) B 37 (.slice a1 (m :: r).length c1) (m :: r) from HO.out)
        have HBq := Lib.hid (show Tn B tT W (w2.drewN nq) from (Tn.of_below HB.out).drewN nq)
        obtain ⟨w3, hw3⟩ : ∃ w3, w2.drewN nq = w3 := ⟨_, rfl⟩
        rw [hw3] at HSq HOq HBq ⊢
        have hB3 : B ≤ w3.heap.size := by rw [← hw3]; exact hB1
        obtain ⟨v', w4, hr4, hb4, hs4, ht4⟩ := tbl_app HSq.out HOq.out (by omega) hB3
        have HR4 := fun ty => Lib.hid (hr4 ty)
        have d0 : w3.cell? ⟨t, 0, none⟩ = some (.slice ao l.length co) := HSq.out.blk.cell 0
        have d1 : w4.cell? ⟨t, 0, none⟩ = some (.slice ao l.length co) := hb4.cell 0
        have d2 := hb4.frozen 0
        have d3 : (w4.setCell ⟨t, 0, none⟩ v').cell? ⟨t, 1, none⟩ = some (.int .i64 (nb : Int)) := hs4.blk.cell 1
        have d4 := hs4.blk.frozen 1
        obtain ⟨hs5, ht5⟩ := tbl_blocks hs4
        obtain ⟨av, cv, ev⟩ := hs4.own.slice
        have Hend : Hid ((∃ u, TblSt ((w4.setCell ⟨t, 0, none⟩ v').setCell ⟨t, 1, none⟩ (.int .i64 ((nb + 1 : Nat) : Int))) B t u (l ++ m :: r) (nb + 1) f) ∧ Tn B tT W ((w4.setCell ⟨t, 0, none⟩ v').setCell ⟨t, 1, none⟩ (.int .i64 ((nb + 1 : Nat) : Int)))) := Lib.hid ⟨⟨v', hs5⟩, (HBq.out.trans ht4).trans ht5⟩
        generalize (l ++ m :: r).length = ln at ev
        subst ev
        push_cast at Hend
        rw [hn] at HR4
        clear hr4 hb4 hs4 ht4 hs5 ht5 HSq HOq HBq hw3 HS1 HO HB CN1 cc0
        go_wp2_with (at_builtin; refine wpList_append_k _ w4 rfl (.tmp 36) (.tmp 37) 22 rfl _ _ _ rfl rfl (fun ty => (HR4 ty).out) ?_)
        go_end0
        exact ⟨rfl, Hend.out⟩
      | some a =>
        rw [hll] at hR
        dsimp only at hR
        have hlk := (List.getElem?_eq_some_iff.1 hll).1
        obtain ⟨k, hk⟩ : ∃ k, l.length = k + 1 := ⟨l.length - 1, by omega⟩
        have hll2 : l[k]? = some a := by rw [← hll, hk]; rfl
        have CN := fun W (hc : W.cell? ⟨t, 0, none⟩ = some (.slice ao l.length co)) => Lib.hid (snone_len t ao l.length co false (by rw [decide_eq_false]; omega) W hc)
        have CL := fun W g off (hg : ao = some ⟨g, off, none⟩) (hc : W.cell? ⟨t, 0, none⟩ = some (.slice ao l.length co)) (hx : W.cell? ⟨g, off + k * 2, none⟩ = some (.string a.1)) => Lib.hid (show Calls Tryz.prog 13 #[.pointer (some ⟨t, 0, none⟩)] W fun e w' => e = .returned (.string a.1) ∧ ∃ q, w' = W.drewN q from slast_row t g off l.length co k a.1 W hk hl (by rw [← hg]; exact hc) hx)
        have CC := fun W => Lib.hid (compare_T a.1 m.1 W)
        have HS := Lib.hid h
        have CP := Lib.hid CP
        have Hll := Lib.hid hll2
        by_cases hcm : cmpT a.1 m.1 < 0
        · obtain rfl : R = some (l ++ m :: r) := by rw [← hR, if_pos hcm]
          have e1 : decide (cmpT a.1 m.1 < 0) = true := decide_eq_true hcm
          generalize cmpT a.1 m.1 = cm at *
          clear hpp hR h hT hll hll2 hk hlk
          go_enter Tryz.func127, Tryz.ntmps127
          go_wp2_with fail
          refine CP.out.mono ?_
          rintro e w1 ⟨v1, rfl, ho, hb⟩
          obtain ⟨a1, c1, rfl⟩ := ho.slice
          have HS1 := Lib.hid (HS.out.up hb)
          have HO := Lib.hid (ho.low hB)
          have HB := Lib.hid hb
          have hB1 : B ≤ w1.heap.size := Nat.le_trans hB hb.size
          obtain ⟨g2, off2, rfl, hg2, x0, x1⟩ := (own_keysAt ho rfl).at_ 0 m rfl
          obtain ⟨g3, off3, hg3, hg4, y0, y1⟩ := (own_keysAt HS1.out.own rfl).at_ k a Hll.out
          rw [Nat.zero_mul, Nat.add_zero] at x0
          rw [hn] at ho ⊢
          have p1 : (0 : Int) < ((n + 1 : Nat) : Int) := by omega
          have cc0 : w1.cell? ⟨t, 0, none⟩ = some (.slice ao l.length co) := HS1.out.blk.cell 0
          have CN1 := fun j => CN (w1.drewN j) cc0
          have CL1 := fun j => CL (w1.drewN j) g3 off3 hg3 cc0 y0
          clear ho hb CP HS CN CL x1 y1 hg3 y0 hg2 hg4
          dsimp only
          go_upto_region 2 with (first | (go_at_call 125; refine (Y _).out.mono ?_; rintro e w2 ⟨rfl, rfl⟩))
          go_quiet (first | (go_at_call 39; refine Calls.quiet_of_same (CN1 _).out) | (go_at_call 13; refine Calls.quiet_of (CL1 _).out) | (go_at_call 109; refine Calls.quiet_of_same (CC _).out) | (go_at_call 125; refine Calls.quiet_of_same (Y _).out))
          have HSq := Lib.hid (HS1.out.drewN nq)
          have HOq := Lib.hid (show Own elKeys (w2.drewN nq) B 37 (.slice (some ⟨g2, off2, none⟩) (m :: r).length c1) (m :: r) from HO.out)
          have HBq := Lib.hid (show Tn B tT W (w2.drewN nq) from (Tn.of_below HB.out).drewN nq)
          obtain ⟨w3, hw3⟩ : ∃ w3, w2.drewN nq = w3 := ⟨_, rfl⟩
          rw [hw3] at HSq HOq HBq ⊢
          have hB3 : B ≤ w3.heap.size := by rw [← hw3]; exact hB1
          obtain ⟨v', w4, hr4, hb4, hs4, ht4⟩ := tbl_app HSq.out HOq.out (by omega) hB3
          have HR4 := fun ty => Lib.hid (hr4 ty)
          have d0 : w3.cell? ⟨t, 0, none⟩ = some (.slice ao l.length co) := HSq.out.blk.cell 0
          have d1 : w4.cell? ⟨t, 0, none⟩ = some (.slice ao l.length co) := hb4.cell 0
          have d2 := hb4.frozen 0
          have d3 : (w4.setCell ⟨t, 0, none⟩ v').cell? ⟨t, 1, none⟩ = some (.int .i64 (nb : Int)) := hs4.blk.cell 1
          have d4 := hs4.blk.frozen 1
          obtain ⟨hs5, ht5⟩ := tbl_blocks hs4
          obtain ⟨av, cv, ev⟩ := hs4.own.slice
          have Hend : Hid ((∃ u, TblSt ((w4.setCell ⟨t, 0, none⟩ v').setCell ⟨t, 1, none⟩ (.int .i64 ((nb + 1 : Nat) : Int))) B t u (l ++ m :: r) (nb + 1) f) ∧ Tn B tT W ((w4.setCell ⟨t, 0, none⟩ v').setCell ⟨t, 1, none⟩ (.int .i64 ((nb + 1 : Nat) : Int)))) := Lib.hid ⟨⟨v', hs5⟩, (HBq.out.trans ht4).trans ht5⟩
          generalize (l ++ m :: r).length = ln at ev
          subst ev
          push_cast at Hend
          rw [hn] at HR4
          clear hr4 hb4 hs4 ht4 hs5 ht5 HSq HOq HBq hw3 HS1 HO HB CN1 CL1 CC cc0 x0
          go_wp2_with (at_builtin; refine wpList_append_k _ w4 rfl (.tmp 36) (.tmp 37) 22 rfl _ _ _ rfl rfl (fun ty => (HR4 ty).out) ?_)
          go_end0
          exact ⟨rfl, Hend.out⟩
        · obtain rfl : R = none := by rw [← hR, if_neg hcm]
          have e1 : decide (cmpT a.1 m.1 < 0) = false := decide_eq_false hcm
          generalize cmpT a.1 m.1 = cm at *
          clear hpp hR h hT hll hll2 hk hlk
          go_enter Tryz.func127, Tryz.ntmps127
          go_wp2_with fail
          refine CP.out.mono ?_
          rintro e w1 ⟨v1, rfl, ho, hb⟩
          obtain ⟨a1, c1, rfl⟩ := ho.slice
          have HS1 := Lib.hid (HS.out.up hb)
          have HB := Lib.hid hb
          obtain ⟨g2, off2, rfl, hg2, x0, x1⟩ := (own_keysAt ho rfl).at_ 0 m rfl
          obtain ⟨g3, off3, hg3, hg4, y0, y1⟩ := (own_keysAt HS1.out.own rfl).at_ k a Hll.out
          rw [Nat.zero_mul, Nat.add_zero] at x0
          rw [hn]
          have p1 : (0 : Int) < ((n + 1 : Nat) : Int) := by omega
          have cc0 : w1.cell? ⟨t, 0, none⟩ = some (.slice ao l.length co) := HS1.out.blk.cell 0
          have CN1 := fun W (hW : W.cell? ⟨t, 0, none⟩ = w1.cell? ⟨t, 0, none⟩) => CN W (hW.trans cc0)
          have CL1 := fun W (hW : W.cell? ⟨t, 0, none⟩ = w1.cell? ⟨t, 0, none⟩) (hW2 : W.cell? ⟨g3, off3 + k * 2, none⟩ = w1.cell? ⟨g3, off3 + k * 2, none⟩) => CL W g3 off3 hg3 (hW.trans cc0) (hW2.trans y0)
          clear ho hb CP HS CN CL x1 y1 hg3 y0 hg2 hg4 HS1
          dsimp only
          go_upto_region 2 with (first | (go_at_call 125; refine (Y _).out.mono ?_; rintro e w2 ⟨rfl, rfl⟩))
          go_region_dies
          rename_i K hK
          refine (CN1 (World.drew _) rfl).out.mono ?_
          rintro e w5 ⟨rfl, rfl⟩
          refine hK _ _ ?_
          refine wpAny_take (i := 2) (v := ?v2) rfl (by kernel_rfl) (by kernel_rfl) (by kernel_rfl) (fun _ _ _ h => h) (Or.inl ⟨by rfl, ?hy2⟩) ?rest2
          case hy2 => (intro w; go_simp; try with_reducible rfl)
          refine wpAny_take (i := 3) (v := ?v3) rfl (by kernel_rfl) (by kernel_rfl) (by kernel_rfl) (fun _ _ _ h => h) (Or.inl ⟨by rfl, ?hy3⟩) ?rest3
          case hy3 => (intro w; go_simp; try with_reducible rfl)
          refine wpAny_take (i := 5) (v := ?v5) rfl (by kernel_rfl) (by kernel_rfl) (by kernel_rfl) (fun _ _ _ h => h) (Or.inl ⟨by rfl, ?hy5⟩) ?rest5
          case hy5 => (intro w; go_simp; try with_reducible rfl)
          refine wpAny_take (i := 6) (v := ?v6) rfl (by kernel_rfl) (by kernel_rfl) (by kernel_rfl) (fun _ _ _ h => h) (Or.inl ⟨by rfl, ?hy6⟩) ?rest6
          case hy6 => (intro w; go_simp; try with_reducible rfl)
          refine wpAny_take (i := 7) (v := ?v7) rfl (by kernel_rfl) (by kernel_rfl) (by kernel_rfl) (fun _ _ _ h => h) (Or.inl ⟨by rfl, ?hy7⟩) ?rest7
          case hy7 => (intro w; go_simp; try with_reducible rfl)
          refine wpAny_ready (rs := [4, 8]) (by kernel_rfl) (by simp) ?_
          refine AllReady.cons rfl (fun K1 hK1 => ?_) ?_
          · go_simp
            refine (CL1 (World.drew _) rfl rfl).out.mono ?_
            rintro e w6 ⟨rfl, q6, rfl⟩
            refine hK1 _ _ ?_
            refine wpAny_ready (rs := [8]) (by kernel_rfl) (by simp) ?_
            refine AllReady.cons rfl (fun K2 hK2 => ?_) AllReady.nil
            go_simp
            refine hK2 _ _ ?_
            refine wpAny_ready (rs := [9]) (by kernel_rfl) (by simp) ?_
            refine AllReady.cons rfl (fun K3 hK3 => ?_) AllReady.nil
            go_simp
            refine (CC _).out.mono ?_
            rintro e w7 ⟨rfl, rfl⟩
            refine hK3 _ _ ?_
            refine wpAny_ready (rs := [10]) (by kernel_rfl) (by simp) ?_
            refine AllReady.cons rfl (fun K4 hK4 => ?_) AllReady.nil
            go_simp
            refine hK4 _ _ ?_
            refine wpAny_ready (rs := [11]) (by kernel_rfl) (by simp) ?_
            refine AllReady.cons rfl (fun K5 hK5 => ?_) AllReady.nil
            go_simp
            refine hK5 _ _ ?_
            refine wpAny_ready (rs := [12]) (by kernel_rfl) (by simp) ?_
            refine AllReady.cons rfl (fun K6 hK6 => ?_) AllReady.nil
            go_simp
            refine (N _).out.mono ?_
            rintro e w8 ⟨rfl, rfl⟩
            go_wp2_with fail
            exact ⟨rfl, rfl, below_drewN (HB.out.mono hB) _⟩
          refine AllReady.cons rfl (fun K1 hK1 => ?_) AllReady.nil
          · go_simp
            refine hK1 _ _ ?_
            refine wpAny_ready (rs := [4]) (by kernel_rfl) (by simp) ?_
            refine AllReady.cons rfl (fun K2 hK2 => ?_) AllReady.nil
            go_simp
            refine (CL1 (World.drew _) rfl rfl).out.mono ?_
            rintro e w6 ⟨rfl, q6, rfl⟩
            refine hK2 _ _ ?_
            refine wpAny_ready (rs := [9]) (by kernel_rfl) (by simp) ?_
            refine AllReady.cons rfl (fun K3 hK3 => ?_) AllReady.nil
            go_simp
            refine (CC _).out.mono ?_
            rintro e w7 ⟨rfl, rfl⟩
            refine hK3 _ _ ?_
            refine wpAny_ready (rs := [10]) (by kernel_rfl) (by simp) ?_
            refine AllReady.cons rfl (fun K4 hK4 => ?_) AllReady.nil
            go_simp
            refine hK4 _ _ ?_
            refine wpAny_ready (rs := [11]) (by kernel_rfl) (by simp) ?_
            refine AllReady.cons rfl (fun K5 hK5 => ?_) AllReady.nil
            go_simp
            refine hK5 _ _ ?_
            refine wpAny_ready (rs := [12]) (by kernel_rfl) (by simp) ?_
            refine AllReady.cons rfl (fun K6 hK6 => ?_) AllReady.nil
            go_simp
            refine (N _).out.mono ?_
            rintro e w8 ⟨rfl, rfl⟩
            go_wp2_with fail
            exact ⟨rfl, rfl, below_drewN (HB.out.mono hB) _⟩
end Go.Proofs.YtcbgflidlpmhcaaGreatDoor

namespace Go.Proofs.YtcbgflidlpmhcaaGreatDoor
open Go.RowKit

/-- What read answers. -/
def ReadT (w : World) : Option (List KV × Nat × ByteArray) → Ending → World → Prop
  | none, e, w' => e = gaveB ∧ Below w.heap.size w w'
  | some (l, n, F), e, w' => ∃ t, e = .returned (.pointer (some ⟨t, 0, none⟩)) ∧ TabN w' t l n F ∧ w.heap.size ≤ t ∧ Below w.heap.size w w'
/-- What stands while blocks are taken. -/
structure TakeSt (w : World) (p t : Nat) (n j : Nat) (s : ByteArray) (v : Value) (l : List KV) (W : World) : Prop where
  rd : RdT W p s
  tb : TblSt W w.heap.size t v l (n - j) ⟨#[]⟩
  rises : risesK l = true
  short : longK l = false
  len : l.length + s.size ≤ 1000000
  below : Below w.heap.size w W
  plow : w.heap.size ≤ p
theorem rd_tn {W W' : World} {B p : Nat} {s : ByteArray} (h : RdT W p s) (g : Tn B tT W W') : RdT W' p s := g.blk h (tT_ne (by decide) (by decide) _ _)
theorem take_add {w : World} {p t n j : Nat} {s s' : ByteArray} {v v' : Value} {l l' : List KV} {W W1 W2 : World} {b : ByteArray} (h : TakeSt w p t n (j + 1) s v l W) (hj : j + 1 ≤ n) (hr : RdT W1 p s') (hg : W.grownBy W1 (some p)) (hs : l'.length + s'.size ≤ 1000000)
    (ha : addB l b = some l') (ht : TblSt W2 w.heap.size t v' l' (n - (j + 1) + 1) ⟨#[]⟩) (hT : Tn w.heap.size tT W1 W2) : TakeSt w p t n j s' v' l' W2 := by
  obtain ⟨d1, d2, _, _⟩ := addB_ok ha h.rises h.short
  have e : n - (j + 1) + 1 = n - j := by omega
  rw [e] at ht
  have hb1 : Below w.heap.size w W1 := h.below.grown hg h.below.size (fun k hk => by cases hk; exact h.plow)
  exact ⟨rd_tn hr hT, ht, d1, d2, hs, hb1.trans (hT.below hb1.size), h.plow⟩
theorem tbl_first {W W1 : World} {B p t : Nat} {s : ByteArray} {v : Value} {l : List KV} {nb : Nat} {f : ByteArray} (h : TblSt W B t v l nb f) (hp : RdT W p s) (hg : W.grownBy W1 (some p)) : TblSt W1 B t v l nb f := by
  have hpt : t ≠ p := fun e => by
    have h1 := h.blk
    subst e
    unfold RdT Blk at hp
    unfold Blk at h1
    rw [h1] at hp
    injection hp with hp
    injection hp with _ h2
    exact absurd h2 (by decide)
  refine ⟨h.blk.grown hg (fun e => hpt (by injection e)), World.ownsRow.kept h.own hg ?_, h.low⟩
  rcases h.own.2 with ⟨e, _⟩ | ⟨g, cap, cur, e, hbg, hh, _⟩
  · exact Or.inl (by rw [e]; rfl)
  · refine Or.inr fun e9 => ?_
    rw [e] at e9
    have e9 : g = p := Option.some.inj e9
    subst e9
    unfold RdT Blk at hp
    rw [hh] at hp
    injection hp with hp
    injection hp with _ h2
    exact absurd h2 (by decide)
theorem getL_lt4 (l : List UInt8) (h : l.length = 4) : getL l < 4294967296 := by
  match l, h with
  | [a, b, c, d], _ =>
    have ha := UInt8.toNat_lt a
    have hb := UInt8.toNat_lt b
    have hc := UInt8.toNat_lt c
    have hd := UInt8.toNat_lt d
    have e : getL [a, b, c, d] = ((a.toNat * 256 + b.toNat) * 256 + c.toNat) * 256 + d.toNat := by
      unfold getL
      simp
    rw [e]
    omega
theorem own_capN {W : World} {B : Nat} {A : Option Addr} {n c : Nat} {L : List KV} (h : Own elKeys W B 37 (.slice A n c) L) (h0 : 0 < L.length) : L.length ≤ c := by
  rcases h.2 with ⟨_, h1⟩ | ⟨g, cap, cur, e, _, _, hc, _⟩
  · omega
  · cases e
    exact hc
/-- How long a text in a slot is. -/
def lenT : Value → Nat
  | .string s => s.size
  | _ => 0

set_option maxRecDepth 100000 in
set_option maxHeartbeats 8000000 in
theorem sread_any (b : ByteArray) (w : World) (hs : b.size ≤ 1000000) (hT : LaidS w) :
    Calls Tryz.prog 38 #[.string b] w fun e w' => ReadT w (readT b) e w' := by
  obtain ⟨R, hR⟩ : ∃ R, readT b = R := ⟨_, rfl⟩
  rw [hR]
  have N := fun W => Lib.hid (smust_no W)
  have Y := fun W => Lib.hid (smust_yes W)
  have hb0 := below_alloc (Below.refl w.heap.size w) (Nat.le_refl _) (.cells #[.string b] 130)
  have B0 : RdT (w.alloc (.cells #[.string b] 130)) w.heap.size b := Blk.new _ _ _
  unfold readT at hR
  by_cases h4 : b.size < 4
  · rw [if_pos h4] at hR
    subst hR
    have C := Lib.hid (snum_no w.heap.size b _ B0 h4)
    have HB := Lib.hid hb0
    clear hb0 B0 h4
    go_enter Tryz.func38, Tryz.ntmps38
    go_wp2_with fail
    refine C.out.mono ?_
    rintro e w1 ⟨rfl, rfl⟩
    go_wp2_with fail
    exact ⟨rfl, rfl, HB.out⟩
  · rw [if_neg h4] at hR
    have C := Lib.hid (snum_ok w.heap.size b _ B0 (by omega) (by omega))
    have z1 : (b.extract 0 (b.size - 4)).size = b.size - 4 := by simp
    obtain ⟨s1, hs1⟩ : ∃ s1, b.extract 0 (b.size - 4) = s1 := ⟨_, rfl⟩
    obtain ⟨sm, hsm⟩ : ∃ sm, getL (bl (b.extract (b.size - 4) b.size)) = sm := ⟨_, rfl⟩
    rw [hs1, hsm] at hR C
    rw [hs1] at z1
    have CS := fun W (hb : Below w.heap.size w W) => Lib.hid (show Calls Tryz.prog 33 #[.string s1] W fun e w' => e = .returned (.int .i64 (crc (bl s1) : Int)) ∧ W = w' from sum_any s1 W (by omega) (hT.on hb).halves)
    obtain ⟨cr, hcr⟩ : ∃ cr, crc (bl s1) = cr := ⟨_, rfl⟩
    rw [hcr] at hR CS
    have HB := Lib.hid hb0
    have HT := Lib.hid hT
    have hs1z : s1.size ≤ 1000000 := by omega
    clear hb0 B0 hs1 hsm hcr hT
    by_cases hc : sm = cr
    · rw [if_neg (fun h => h hc)] at hR
      subst hc
      rw [← z1] at hR
      by_cases h8 : s1.size < 4
      · rw [if_pos h8] at hR
        subst hR
        have N2 := fun W (hr : RdT W w.heap.size s1) => Lib.hid (snum_no w.heap.size s1 W hr h8)
        clear h4 h8 z1 hs
        go_enter Tryz.func38, Tryz.ntmps38
        go_wp2_with fail
        refine C.out.mono ?_
        rintro e w1 ⟨rfl, hr1, hg1⟩
        have hb1 := HB.out.grown hg1 (by simp) (fun k hk => by cases hk; exact Nat.le_refl _)
        have CS1 := CS w1 hb1
        have c0 : w1.cell? ⟨w.heap.size, 0, none⟩ = some (.string s1) := hr1.cell 0
        have N3 := N2 w1 hr1
        have HB1 := Lib.hid hb1
        clear hr1 hg1 hb1 CS C N2
        go_wp2_with fail
        refine CS1.out.mono ?_
        rintro e w2 ⟨rfl, rfl⟩
        go_wp2_with fail
        refine (Y _).out.mono ?_
        rintro e w2 ⟨rfl, rfl⟩
        go_wp2_with fail
        refine N3.out.mono ?_
        rintro e w2 ⟨rfl, rfl⟩
        go_wp2_with fail
        exact ⟨rfl, rfl, HB1.out⟩
      · rw [if_neg h8] at hR
        have N2 := fun W (hr : RdT W w.heap.size s1) => Lib.hid (snum_ok w.heap.size s1 W hr (by omega) (by omega))
        have z2 : (s1.extract 0 (s1.size - 4)).size = s1.size - 4 := by simp
        obtain ⟨s2, hs2⟩ : ∃ s2, s1.extract 0 (s1.size - 4) = s2 := ⟨_, rfl⟩
        have hn1 : getL (bl (s1.extract (s1.size - 4) s1.size)) < 4294967296 := getL_lt4 _ (by rw [bl_drop, List.length_drop, bl_len]; omega)
        obtain ⟨n, hn⟩ : ∃ n, getL (bl (s1.extract (s1.size - 4) s1.size)) = n := ⟨_, rfl⟩
        rw [hs2] at z2
        rw [hn] at hn1
        rw [hs2, hn] at hR
        simp only [hs2, hn] at N2
        have hs2z : s2.size ≤ 1000000 := by omega
        have m1 : wrap64 (4 * (n : Int)) = ((4 * n : Nat) : Int) := by unfold wrap64; push_cast; omega
        have m2 : IntKind.i64.wrap (4 * (n : Int)) = ((4 * n : Nat) : Int) := by rw [IntKind.wrap_i64]; push_cast; omega
        unfold readT2 at hR
        clear h4 h8 z1 hs hs2 hn z2
        by_cases h12 : s2.size < 4 * n
        · rw [if_pos h12] at hR
          subst hR
          have L2 := fun W (hr : RdT W w.heap.size s2) => Lib.hid (slast_no w.heap.size s2 (4 * n) (4 * (n : Int)) (by push_cast; rfl) W hr h12)
          clear h12
          go_enter Tryz.func38, Tryz.ntmps38
          go_wp2_with fail
          refine C.out.mono ?_
          rintro e w1 ⟨rfl, hr1, hg1⟩
          have hb1 := HB.out.grown hg1 (by simp) (fun k hk => by cases hk; exact Nat.le_refl _)
          have CS1 := CS w1 hb1
          have c0 : w1.cell? ⟨w.heap.size, 0, none⟩ = some (.string s1) := hr1.cell 0
          have N3 := N2 w1 hr1
          have HB1 := Lib.hid hb1
          clear hr1 hg1 hb1 CS C N2
          go_wp2_with fail
          refine CS1.out.mono ?_
          rintro e w2 ⟨rfl, rfl⟩
          go_wp2_with fail
          refine (Y _).out.mono ?_
          rintro e w2 ⟨rfl, rfl⟩
          go_wp2_with fail
          refine N3.out.mono ?_
          rintro e w3 ⟨rfl, hr3, hg3⟩
          have HB3 := Lib.hid (HB1.out.grown hg3 HB1.out.size (fun k hk => by cases hk; exact Nat.le_refl _))
          have L3 := L2 w3 hr3
          clear hr3 hg3 L2 N3 c0
          go_wp2_with fail
          refine L3.out.mono ?_
          rintro e w4 ⟨rfl, rfl⟩
          go_wp2_with fail
          exact ⟨rfl, rfl, HB3.out⟩
        · rw [if_neg h12] at hR
          have L2 := fun W (hr : RdT W w.heap.size s2) => Lib.hid (slast_ok w.heap.size s2 (4 * n) (4 * (n : Int)) (by push_cast; rfl) W hr (by omega) (by omega))
          obtain ⟨x0, hx0⟩ : ∃ x0, s2.extract (s2.size - 4 * n) s2.size = x0 := ⟨_, rfl⟩
          obtain ⟨s3, hs3⟩ : ∃ s3, s2.extract 0 (s2.size - 4 * n) = s3 := ⟨_, rfl⟩
          have hx0z : x0.size = 4 * n := by rw [← hx0]; simp; omega
          have hs3z : s3.size ≤ 1000000 := by rw [← hs3]; simp; omega
          rw [hx0, hs3] at hR
          simp only [hx0, hs3] at L2
          obtain ⟨RA, hRA⟩ : ∃ RA, addsB n x0 s3 [] = RA := ⟨_, rfl⟩
          rw [hRA] at hR
          have HRA := Lib.hid hRA
          have HR := Lib.hid hR
          clear h12 hx0 hs3 hR hRA
          go_enter Tryz.func38, Tryz.ntmps38
          go_wp2_with fail
          refine C.out.mono ?_
          rintro e w1 ⟨rfl, hr1, hg1⟩
          have hb1 := HB.out.grown hg1 (by simp) (fun k hk => by cases hk; exact Nat.le_refl _)
          have CS1 := CS w1 hb1
          have c0 : w1.cell? ⟨w.heap.size, 0, none⟩ = some (.string s1) := hr1.cell 0
          have N3 := N2 w1 hr1
          have HB1 := Lib.hid hb1
          clear hr1 hg1 hb1 CS C N2
          go_wp2_with fail
          refine CS1.out.mono ?_
          rintro e w2 ⟨rfl, rfl⟩
          go_wp2_with fail
          refine (Y _).out.mono ?_
          rintro e w2 ⟨rfl, rfl⟩
          go_wp2_with fail
          refine N3.out.mono ?_
          rintro e w3 ⟨rfl, hr3, hg3⟩
          have HB3 := Lib.hid (HB1.out.grown hg3 HB1.out.size (fun k hk => by cases hk; exact Nat.le_refl _))
          have L3 := L2 w3 hr3
          clear hr3 hg3 L2 N3 c0
          go_wp2_with fail
          refine L3.out.mono ?_
          rintro e w4 ⟨rfl, hr4, hg4⟩
          have HB4 := Lib.hid (HB3.out.grown hg4 HB3.out.size (fun k hk => by cases hk; exact Nat.le_refl _))
          have HR4 := Lib.hid hr4
          clear hr4 hg4 L3 HB3 HB1
          go_wp2_with fail
          have S0 : Hid (TakeSt w w.heap.size w4.heap.size n n s3 (.slice none 0 0) [] (w4.alloc (.cells #[.slice none 0 0, .int .i64 0, .string ⟨#[]⟩] 80))) := Lib.hid ⟨HR4.out.alloc _, ⟨by rw [Nat.sub_self]; exact Blk.new _ _ _, World.ownsRow_nil _ _ _ _, HB4.out.size⟩, rfl, rfl, by rw [List.length_nil]; omega, below_alloc HB4.out (Nat.le_refl _) _, Nat.le_refl _⟩
          have hbt : w.heap.size ≤ w4.heap.size := HB4.out.size
          generalize w4.alloc (.cells #[.slice none 0 0, .int .i64 0, .string ⟨#[]⟩] 80) = w5 at *
          generalize w4.heap.size = t at *
          clear HR4 HB4
          go_loopw [5] (fun sx wr => ∃ (j : Nat) (x s : ByteArray) (v : Value) (l : List KV), sx = .string x ∧ Hid (x.size = 4 * j) ∧ j ≤ n ∧ Hid (addsB j x s l = RA) ∧ Hid (TakeSt w w.heap.size t n j s v l wr)) (fun sx _ => lenT sx)
          case atStart => exact ⟨n, x0, s3, .slice none 0 0, [], rfl, Lib.hid hx0z, Nat.le_refl _, HRA, S0⟩
          case round =>
            obtain ⟨j, x, s, v, l, rfl, Hxz, hjn, HA, HS⟩ := hrel
            have hxz := Hxz.out
            cases j with
            | succ j =>
              have hx0 : (x.toList == []) = false := by
                rw [Lib.toList_data, beq_eq_false_iff_ne]
                intro e
                have : x.size = 0 := by rw [← bl_len]; show x.data.toList.length = 0; rw [e]; rfl
                omega
              have hx4 : (4 : Int) ≤ (x.size : Int) := by omega
              have hA := HA.out
              rw [addsB] at hA
              have U := fun W => Lib.hid (sunfixed_any (x.extract 0 4) W (by simp; omega))
              obtain ⟨k, hk⟩ : ∃ k, getL (bl (x.extract 0 4)) = k := ⟨_, rfl⟩
              rw [hk] at hA
              simp only [hk] at U
              have hsz := HS.out.len
              have hx'z : (x.extract 4 x.size).size = 4 * j := by simp; omega
              have Hx'z := Lib.hid hx'z
              clear hk HA hxz hx'z
              by_cases hks : s.size < k
              · rw [if_pos hks] at hA
                subst hA
                have F := fun W hr => Lib.hid (sfirst_no w.heap.size s k W hr hks)
                clear hks
                have hRn : R = none := HR.out.symm
                subst hRn
                have F1 := F wr HS.out.rd
                have HB9 := Lib.hid HS.out.below
                clear F HS HR
                go_wp2_with fail
                refine (U _).out.mono ?_
                rintro e w6 ⟨rfl, rfl⟩
                go_wp2_with fail
                refine F1.out.mono ?_
                rintro e w6 ⟨rfl, rfl⟩
                go_wp2_with fail
                exact ⟨rfl, rfl, HB9.out⟩
              · rw [if_neg hks] at hA
                have F := fun W hr => Lib.hid (sfirst_ok w.heap.size s k W hr (by omega))
                have hps : (s.extract 0 k).size = k := by simp; omega
                have hrs : (s.extract k s.size).size = s.size - k := by simp
                obtain ⟨pc, hpc⟩ : ∃ pc, s.extract 0 k = pc := ⟨_, rfl⟩
                obtain ⟨s', hs'⟩ : ∃ s', s.extract k s.size = s' := ⟨_, rfl⟩
                rw [hpc] at hA hps
                rw [hs'] at hA hrs
                simp only [hpc, hs'] at F
                have A1 := fun W (h : TblSt W w.heap.size t v l (n - (j + 1)) ⟨#[]⟩) (hb : Below w.heap.size w W) => Lib.hid (sadd_any w.heap.size t (n - (j + 1)) v l ⟨#[]⟩ pc W h hb.size (by omega) (by omega) (by omega) (HT.out.on hb))
                have F1 := F wr HS.out.rd
                clear F hpc hs'
                cases hadd : addB l pc with
                | none =>
                  rw [hadd] at hA A1
                  subst hA
                  have hRn : R = none := HR.out.symm
                  subst hRn
                  clear hadd
                  go_wp2_with fail
                  refine (U _).out.mono ?_
                  rintro e w6 ⟨rfl, rfl⟩
                  go_wp2_with fail
                  refine F1.out.mono ?_
                  rintro e w7 ⟨rfl, hr7, hg7⟩
                  have hb7 := HS.out.below.grown hg7 HS.out.below.size (fun k hk => by cases hk; exact Nat.le_refl _)
                  have A2 := A1 w7 (tbl_first HS.out.tb HS.out.rd hg7) hb7
                  have HB7 := Lib.hid hb7
                  clear hr7 hg7 hb7 A1 F1 HS HR
                  go_wp2_with fail
                  refine A2.out.mono ?_
                  rintro e w8 ⟨rfl, hb8⟩
                  have HB8 := Lib.hid (HB7.out.trans hb8)
                  clear hb8 A2
                  go_wp2_with fail
                  exact ⟨rfl, rfl, HB8.out⟩
                | some l' =>
                  rw [hadd] at hA A1
                  dsimp only at hA
                  have HA := Lib.hid hA
                  have Hadd := Lib.hid hadd
                  have d3 := (addB_ok hadd HS.out.rises HS.out.short).2.2.1
                  have hl' : l'.length + s'.size ≤ 1000000 := by omega
                  clear hA hadd d3
                  go_wp2_with fail
                  refine (U _).out.mono ?_
                  rintro e w6 ⟨rfl, rfl⟩
                  go_wp2_with fail
                  refine F1.out.mono ?_
                  rintro e w7 ⟨rfl, hr7, hg7⟩
                  have hb7 := HS.out.below.grown hg7 HS.out.below.size (fun k hk => by cases hk; exact Nat.le_refl _)
                  have A2 := A1 w7 (tbl_first HS.out.tb HS.out.rd hg7) hb7
                  have Hr7 := Lib.hid hr7
                  have Hg7 := Lib.hid hg7
                  clear hr7 hg7 hb7 A1 F1
                  go_wp2_with fail
                  refine A2.out.mono ?_
                  rintro e w8 ⟨rfl, ⟨v', ht8⟩, hT8⟩
                  have HS8 := Lib.hid (take_add HS.out hjn Hr7.out Hg7.out hl' Hadd.out ht8 hT8)
                  clear ht8 hT8 A2 HS Hr7 Hg7
                  go_wp2_with fail
                  go_roundw
                  case rel => exact ⟨j, _, s', v', l', rfl, Hx'z, by omega, HA, HS8⟩
                  case measure => have := Hxz.out; simp [lenT]; omega
            | zero =>
              have hx0 : (x.toList == []) = true := by
                rw [Lib.toList_data, beq_iff_eq]
                exact List.eq_nil_of_length_eq_zero (by show x.size = 0; omega)
              clear hxz
              have hA : some (l, s) = RA := HA.out
              subst hA
              have hR := HR.out
              dsimp only at hR
              obtain ⟨ao, co, rfl⟩ := HS.out.tb.own.slice
              have CN := Lib.hid (snone_len t ao l.length co (decide (l.length = 0)) rfl wr (HS.out.tb.blk.cell 0))
              by_cases hl0 : l = []
              · rw [if_pos hl0] at hR
                subst hR
                subst hl0
                have HB9 := Lib.hid HS.out.below
                clear HS HA HR
                go_wp2_with fail
                refine CN.out.mono ?_
                rintro e w6 ⟨rfl, rfl⟩
                go_wp2_with fail
                refine (N _).out.mono ?_
                rintro e w6 ⟨rfl, rfl⟩
                go_wp2_with fail
                exact ⟨rfl, rfl, HB9.out⟩
              · rw [if_neg hl0] at hR
                have hlp := List.length_pos_iff.2 hl0
                have hd0 : decide (l.length = 0) = false := decide_eq_false (by omega)
                rw [hd0] at CN
                have r0 : wr.cell? ⟨w.heap.size, 0, none⟩ = some (.string s) := HS.out.rd.cell 0
                have t2 := HS.out.tb.blk.frozen 2
                have q2 := HS.out.tb.blk.cell 2
                have t0 : (wr.setCell ⟨t, 2, none⟩ (.string s)).cell? ⟨t, 0, none⟩ = some (.slice ao l.length co) := (HS.out.tb.blk.set_ 2 (.string s)).cell 0
                have HTab : Hid (TabN (wr.setCell ⟨t, 2, none⟩ (.string s)) t l n s) := Lib.hid (by
                  have hO : Own elKeys (wr.setCell ⟨t, 2, none⟩ (.string s)) w.heap.size 37 (.slice ao l.length co) l := own_set HS.out.tb.own (by
                    have := HS.out.tb.off
                    cases hv : (Value.slice ao l.length co).ownBlock with
                    | none => exact Or.inl rfl
                    | some g => exact Or.inr (fun e => this (by rw [hv, e]))) _
                  have hln := HS.out.len
                  exact ⟨⟨ao, co, HS.out.tb.blk.set_ 2 (.string s), hO.low (Nat.zero_le _), own_capN hO hlp⟩, hl0, HS.out.rises, HS.out.short, by omega, by omega⟩)
                have HBn : Hid (Below w.heap.size w (wr.setCell ⟨t, 2, none⟩ (.string s))) := Lib.hid (below_setCell HS.out.below (p := ⟨t, 2, none⟩) hbt _)
                have hfz : s.size ≤ 1000000 := by have := HS.out.len; omega
                have hll : l.length ≤ 1000000 := by have := HS.out.len; omega
                have HRR := Lib.hid hR
                have HKA : Hid (KeysAt (wr.setCell ⟨t, 2, none⟩ (.string s)) ao l.length l) := Lib.hid (own_keysAt (own_set HS.out.tb.own (by
                    have := HS.out.tb.off
                    cases hv : (Value.slice ao l.length co).ownBlock with
                    | none => exact Or.inl rfl
                    | some g => exact Or.inr (fun e => this (by rw [hv, e]))) _) rfl)
                clear HS HA HR hR hd0
                go_wp2_with fail
                refine CN.out.mono ?_
                rintro e w6 ⟨rfl, rfl⟩
                go_wp2_with fail
                refine (Y _).out.mono ?_
                rintro e w6 ⟨rfl, rfl⟩
                go_wp2_with fail
                have HKe : Hid (KeysAt (World.setCell _ ⟨t, 2, none⟩ (.string s)) ao l.length l) := Lib.hid (HKA.out)
                generalize World.setCell _ ⟨t, 2, none⟩ (.string s) = w9 at *
                go_loopw [47] (fun si wr => ∃ i : Nat, si = .int .i64 (i : Int) ∧ i ≤ l.length ∧ Hid (∀ q m, q < i → l[q]? = some m → mayT s (crc (bl (headT m.1))) = true) ∧ Hid (Below w9.heap.size w9 wr)) (fun si _ => l.length - (intOf si).toNat)
                case atStart => exact ⟨0, rfl, Nat.zero_le _, Lib.hid (fun q m hq => by omega), Lib.hid (Below.refl _ _)⟩
                case round =>
                  obtain ⟨i, rfl, hi, HM, HB9⟩ := hrel
                  by_cases hil : i < l.length
                  · have g1 : (i : Int) < (l.length : Int) := by omega
                    have g0 : (0 : Int) ≤ (i : Int) := by omega
                    have hm : l[i]? = some l[i] := List.getElem?_eq_getElem hil
                    generalize l[i] = m at *
                    obtain ⟨g, off, hao, hg, x0, x1⟩ := (HKe.out.below HB9.out).at_ i m hm
                    subst hao
                    have hms := longK_ok HTab.out.short m (List.mem_of_getElem? hm)
                    have Hm := Lib.hid hm
                    clear hm
                    obtain ⟨mk, mv⟩ := m
                    dsimp only at x0 x1 hms
                    have HBx := Lib.hid (below_alloc HB9.out (Nat.le_refl _) (.cells #[.string mk, .string mv] 37))
                    have BX : Blk (wr.alloc (.cells #[.string mk, .string mv] 37)) wr.heap.size 37 #[.string mk, .string mv] := Blk.new wr _ _
                    have GK : Hid (∀ W, Below (wr.alloc (.cells #[.string mk, .string mv] 37)).heap.size (wr.alloc (.cells #[.string mk, .string mv] 37)) W → W.cell? ⟨t, 2, none⟩ = some (.string s) ∧ W.cell? ⟨wr.heap.size, 0, none⟩ = some (.string mk) ∧ LaidS W) := Lib.hid (fun W hW => by
                      obtain ⟨A9, c9, q1, q2, q3⟩ := (HTab.out.up (HBx.out.trans (hW.mono HBx.out.size))).ex
                      exact ⟨q1.cell 2, (BX.below hW BX.lt).cell 0, HT.out.on (HBn.out.trans ((HBx.out.trans (hW.mono HBx.out.size)).mono HBn.out.size))⟩)
                    have CH := fun W hW => Lib.hid (shead_any mk W (by omega) (GK.out W hW).2.2)
                    have CM := fun W hW => Lib.hid (bmay_any s (headT mk) W (GK.out W hW).2.2.m (by have := head_size mk; omega) (by omega))
                    have CM : ∀ W, _ → Hid (Calls Tryz.prog 41 #[.string s, .string (headT mk)] W fun e w' => e = .returned (.bool (mayT s (crc (bl (headT mk))))) ∧ Below W.heap.size W w') := CM
                    obtain ⟨hd, hhd⟩ : ∃ hd, headT mk = hd := ⟨_, rfl⟩
                    by_cases hmy : mayT s (crc (bl (headT mk))) = true
                    · have HM2 : Hid (∀ q m, q < i + 1 → l[q]? = some m → mayT s (crc (bl (headT m.1))) = true) := Lib.hid (fun q m hq hm => by
                        by_cases e : q = i
                        · subst e
                          rw [Hm.out] at hm
                          cases hm
                          exact hmy
                        · exact HM.out q m (by omega) hm)
                      rw [hmy] at CM
                      rw [hhd] at CH CM
                      clear hhd hmy HM BX
                      go_upto_region 14 with fail
                      generalize wr.alloc (.cells #[.string mk, .string mv] 37) = w10 at *
                      generalize wr.heap.size = px at *
                      have CH2 := fun W (hW : Below w10.heap.size w10 W) => Lib.hid ((CH W hW).out.mono (fun e w' (h : e = .returned (.string hd) ∧ w' = W) => (⟨h.1, by rw [h.2]; exact hW⟩ : e = .returned (.string hd) ∧ Below w10.heap.size w10 w')))
                      have CM2 := fun W (hW : Below w10.heap.size w10 W) => Lib.hid (cls_call hW (CM W hW).out)
                      have CY2 := fun W (hW : Below w10.heap.size w10 W) => Lib.hid ((Y W).out.mono (fun e w' (h : e = .returned (.tuple #[]) ∧ w' = W) => (⟨h.1, by rw [h.2]; exact hW⟩ : e = .returned (.tuple #[]) ∧ Below w10.heap.size w10 w')))
                      refine wp_region_class (fun W => Below w10.heap.size w10 W) (by kernel_rfl) (by kernel_rfl) ((Below.refl _ w10).drew) ?_
                      repeat' (first
                        | (refine wpQuiet_skip (by rfl) ?_; try simp only [Act.put, List.setIfInBounds_toArray, List.set_cons_zero, List.set_cons_succ])
                        | (refine wpQuiet_take (by rfl) ?_ (fun W hW => ?_) ?_
                           rotate_left
                           focus
                             obtain ⟨k1, k2, _⟩ := GK.out _ hW
                             go_simp
                             first
                               | done
                               | with_reducible rfl
                               | (go_at_call 119; exact (CH2 _ hW).out)
                               | (go_at_call 41; exact (CM2 _ hW).out)
                               | (go_at_call 125; exact (CY2 _ hW).out)
                           try simp only [Act.put, List.setIfInBounds_toArray, List.set_cons_zero, List.set_cons_succ]))
                      refine wpQuiet_nil (fun w11 S11 => ?_)
                      have HB11 := Lib.hid (HBx.out.trans (S11.mono HBx.out.size))
                      clear S11 GK CH CM HBx
                      go_wp2_with fail
                      go_roundw
                      case rel => exact ⟨i + 1, by go_num, by omega, HM2, HB11⟩
                      case measure => simp [intOf]; omega
                    · have hmf : mayT s (crc (bl (headT mk))) = false := by simpa using hmy
                      have hRn : R = none := by
                        rw [← HRR.out, if_neg]
                        intro hall
                        rw [List.all_eq_true] at hall
                        have := hall (mk, mv) (List.mem_of_getElem? Hm.out)
                        exact hmy this
                      subst hRn
                      rw [hmf] at CM
                      rw [hhd] at CH CM
                      clear hhd hmy HM BX hmf HRR
                      go_upto_region 14 with fail
                      generalize wr.alloc (.cells #[.string mk, .string mv] 37) = w10 at *
                      generalize wr.heap.size = px at *
                      obtain ⟨k1, k2, _⟩ := GK.out w10 (Below.refl _ _)
                      go_region_dies
                      · rename_i K hK
                        refine (CH (World.drew _) ((Below.refl _ _).drew)).out.mono ?_
                        rintro e w11 ⟨rfl, rfl⟩
                        refine hK _ _ ?_
                        refine wpAny_ready (rs := [7]) (by kernel_rfl) (by simp) ?_
                        refine AllReady.cons rfl (fun K2 hK2 => ?_) AllReady.nil
                        go_simp
                        refine (CM (World.drew _) ((Below.refl _ _).drew)).out.mono ?_
                        rintro e w12 ⟨rfl, hb12⟩
                        have HB12 := Lib.hid (HBn.out.trans ((HBx.out.trans (((Below.refl _ w10).drew.trans hb12).mono HBx.out.size)).mono HBn.out.size))
                        refine hK2 _ _ ?_
                        refine wpAny_ready (rs := [8]) (by kernel_rfl) (by simp) ?_
                        refine AllReady.cons rfl (fun K3 hK3 => ?_) AllReady.nil
                        go_simp
                        refine (N _).out.mono ?_
                        rintro e w13 ⟨rfl, rfl⟩
                        go_wp2_with fail
                        exact ⟨rfl, rfl, HB12.out⟩
                      · rename_i K hK
                        refine (CH (World.drew _) ((Below.refl _ _).drew)).out.mono ?_
                        rintro e w11 ⟨rfl, rfl⟩
                        refine hK _ _ ?_
                        refine wpAny_ready (rs := [7]) (by kernel_rfl) (by simp) ?_
                        refine AllReady.cons rfl (fun K2 hK2 => ?_) AllReady.nil
                        go_simp
                        refine (CM (World.drew _) ((Below.refl _ _).drew)).out.mono ?_
                        rintro e w12 ⟨rfl, hb12⟩
                        have HB12 := Lib.hid (HBn.out.trans ((HBx.out.trans (((Below.refl _ w10).drew.trans hb12).mono HBx.out.size)).mono HBn.out.size))
                        refine hK2 _ _ ?_
                        refine wpAny_ready (rs := [8]) (by kernel_rfl) (by simp) ?_
                        refine AllReady.cons rfl (fun K3 hK3 => ?_) AllReady.nil
                        go_simp
                        refine (N _).out.mono ?_
                        rintro e w13 ⟨rfl, rfl⟩
                        go_wp2_with fail
                        exact ⟨rfl, rfl, HB12.out⟩
                      · rename_i K hK
                        refine (CH (World.drew _) ((Below.refl _ _).drew)).out.mono ?_
                        rintro e w11 ⟨rfl, rfl⟩
                        refine hK _ _ ?_
                        refine wpAny_ready (rs := [3]) (by kernel_rfl) (by simp) ?_
                        refine AllReady.cons rfl (fun K9 hK9 => ?_) AllReady.nil
                        go_simp
                        refine hK9 _ _ ?_
                        refine wpAny_ready (rs := [7]) (by kernel_rfl) (by simp) ?_
                        refine AllReady.cons rfl (fun K2 hK2 => ?_) AllReady.nil
                        go_simp
                        refine (CM (World.drew _) ((Below.refl _ _).drew)).out.mono ?_
                        rintro e w12 ⟨rfl, hb12⟩
                        have HB12 := Lib.hid (HBn.out.trans ((HBx.out.trans (((Below.refl _ w10).drew.trans hb12).mono HBx.out.size)).mono HBn.out.size))
                        refine hK2 _ _ ?_
                        refine wpAny_ready (rs := [8]) (by kernel_rfl) (by simp) ?_
                        refine AllReady.cons rfl (fun K3 hK3 => ?_) AllReady.nil
                        go_simp
                        refine (N _).out.mono ?_
                        rintro e w13 ⟨rfl, rfl⟩
                        go_wp2_with fail
                        exact ⟨rfl, rfl, HB12.out⟩
                  · obtain rfl : i = l.length := by omega
                    have hall : (l.all fun m => mayT s (crc (bl (headT m.1)))) = true := by
                      rw [List.all_eq_true]
                      intro m hm
                      obtain ⟨q, hq⟩ := List.mem_iff_getElem?.1 hm
                      exact HM.out q m (List.getElem?_eq_some_iff.1 hq).1 hq
                    have hRs := HRR.out
                    rw [if_pos hall] at hRs
                    subst hRs
                    have Hend := Lib.hid (HTab.out.up HB9.out)
                    have Hend2 := Lib.hid (HBn.out.trans (HB9.out.mono HBn.out.size))
                    have g1 : ¬ (l.length : Int) < (l.length : Int) := by omega
                    clear HM HRR hall HB9 HTab HBn HKe
                    go_wp2_with fail
                    go_ret
                    exact ⟨t, rfl, Hend.out, hbt, Hend2.out⟩
    · rw [if_pos hc] at hR
      subst hR
      have e1 : ((sm : Int) == (cr : Int)) = false := by rw [beq_eq_false_iff_ne]; omega
      clear hc h4 z1 hs
      go_enter Tryz.func38, Tryz.ntmps38
      go_wp2_with fail
      refine C.out.mono ?_
      rintro e w1 ⟨rfl, hr1, hg1⟩
      have hb1 := HB.out.grown hg1 (by simp) (fun k hk => by cases hk; exact Nat.le_refl _)
      have CS1 := CS w1 hb1
      have c0 : w1.cell? ⟨w.heap.size, 0, none⟩ = some (.string s1) := hr1.cell 0
      have HB1 := Lib.hid hb1
      clear hr1 hg1 hb1 CS C
      go_wp2_with fail
      refine CS1.out.mono ?_
      rintro e w2 ⟨rfl, rfl⟩
      go_wp2_with fail
      refine (N _).out.mono ?_
      rintro e w2 ⟨rfl, rfl⟩
      go_wp2_with fail
      exact ⟨rfl, rfl, HB1.out⟩
end Go.Proofs.YtcbgflidlpmhcaaGreatDoor

namespace Go.Proofs.YtcbgflidlpmhcaaGreatDoor
open Go.RowKit

set_option maxHeartbeats 400000 in
theorem open_catch (a b : Nat) (x y : Value) (er : Int) (older : List PanicEntry) (w : World) (ha : w.cell? ⟨a, 0, none⟩ = some x) (hb : w.cell? ⟨b, 0, none⟩ = some y)
    (fa : w.frozen? ⟨a, 0, none⟩ = false) (fb : w.frozen? ⟨b, 0, none⟩ = false) (hab : a ≠ b) :
    CallsD Tryz.prog 36 #[.pointer (some ⟨a, 0, none⟩), .pointer (some ⟨b, 0, none⟩)] (.panicking ({ v := .iface 27 (.int .i64 er), recovered := false } :: older)) w fun e u' w' =>
      e = .returned (.tuple #[]) ∧ u' = .panicking ({ v := .iface 27 (.int .i64 er), recovered := true } :: older) ∧
        w' = (w.setCell ⟨a, 0, none⟩ (.pointer none)).setCell ⟨b, 0, none⟩ (.int .i64 er) := by
  refine callsD_of_wpS Tryz.func36 rfl fun c₀ cs hu => ?_
  apply wpS_seq
  apply wpS_region
  simp [wpOpsS, go_sem, recoverD, hu, Tryz.ntmps36, Exit.thenS]
  refine wpS_of_wp ?_
  simp [Array.replicate]
  go_wp2_with fail
  refine (told_errno _ _).mono ?_
  rintro e w' ⟨rfl, rfl⟩
  go_wp2
  simp [bodyPostS, results, Tryz.results36]

set_option maxHeartbeats 400000 in
theorem open_idle (a b : Value) (w : World) :
    CallsD Tryz.prog 36 #[a, b] .returning w fun e u' w' => e = .returned (.tuple #[]) ∧ u' = .returning ∧ w' = w := by
  refine callsD_of_wpS Tryz.func36 rfl fun c₀ cs hu => ?_
  apply wpS_seq
  apply wpS_region
  simp [wpOpsS, go_sem, recoverD, hu, Tryz.ntmps36, Exit.thenS]
  refine wpS_of_wp ?_
  simp [Array.replicate]
  go_wp2
  cases c₀
  simp_all [bodyPostS, results, Tryz.results36]

/-- What gave up is recovered: the results are set anew. -/
theorem oend_err (w2 : World) (p : Nat) (t : Array Value) (er : Int) (x y : Value) {R : Ending → World → Prop} (Ba : Blk w2 p 32 #[x]) (Bb : Blk w2 (p + 1) 27 #[y])
    (t2 : t[2]?.getD undef = .pointer (some ⟨p, 0, none⟩)) (t3 : t[3]?.getD undef = .pointer (some ⟨p + 1, 0, none⟩)) (h : R (.returned (.tuple #[.pointer none, .int .i64 er])) ((w2.setCell ⟨p, 0, none⟩ (.pointer none)).setCell ⟨p + 1, 0, none⟩ (.int .i64 er))) :
    bodyPostD Tryz.prog Tryz.f10 R (Exit.panic [{ v := .iface 27 (.int .i64 er), recovered := false }])
      { tmps := t, defers := [{ target := Target.fn (Fn.func 36) #[.pointer (some ⟨p, 0, none⟩), .pointer (some ⟨p + 1, 0, none⟩)], args := #[] }] } w2 := by
  have E0 := (Ba.set_ 0 (.pointer none)).far (p := ⟨p + 1, 0, none⟩) (by dsimp only; omega) (.int .i64 er)
  have E1 := (Bb.far (p := ⟨p, 0, none⟩) (by dsimp only; omega) (.pointer none)).set_ 0 (.int .i64 er)
  refine leaves_cons (f := 36) (args := #[.pointer (some ⟨p, 0, none⟩), .pointer (some ⟨p + 1, 0, none⟩)]) (by simp) (by simp [go_sem]) ?_
  refine (open_catch p (p + 1) x y er [] _ (Ba.cell 0) (Bb.cell 0) (Ba.frozen 0) (Bb.frozen 0) (by omega)).mono ?_
  rintro e u' w'' ⟨rfl, rfl, rfl⟩
  generalize (w2.setCell ⟨p, 0, none⟩ (.pointer none)).setCell ⟨p + 1, 0, none⟩ (.int .i64 er) = w3 at *
  have c0 : w3.cell? ⟨p, 0, none⟩ = some (.pointer none) := E0.cell 0
  have e1 : w3.cell? ⟨p + 1, 0, none⟩ = some (.int .i64 er) := E1.cell 0
  simp [Leaves, settle, results, Tryz.results10, go_sem, c0, e1, t2, t3]
  exact h
/-- What is read stands in the results. -/
theorem oend_ok (w2 : World) (p : Nat) (t : Array Value) (A : Option Addr) {R : Ending → World → Prop} (Ba : Blk w2 p 32 #[.pointer A]) (Bb : Blk w2 (p + 1) 27 #[.int .i64 0])
    (t2 : t[2]?.getD undef = .pointer (some ⟨p, 0, none⟩)) (t3 : t[3]?.getD undef = .pointer (some ⟨p + 1, 0, none⟩)) (h : R (.returned (.tuple #[.pointer A, .int .i64 0])) w2) :
    bodyPostD Tryz.prog Tryz.f10 R Exit.ret
      { tmps := t, defers := [{ target := Target.fn (Fn.func 36) #[.pointer (some ⟨p, 0, none⟩), .pointer (some ⟨p + 1, 0, none⟩)], args := #[] }] } w2 := by
  have c0 : w2.cell? ⟨p, 0, none⟩ = some (.pointer A) := Ba.cell 0
  have e1 : w2.cell? ⟨p + 1, 0, none⟩ = some (.int .i64 0) := Bb.cell 0
  refine leaves_cons (f := 36) (args := #[.pointer (some ⟨p, 0, none⟩), .pointer (some ⟨p + 1, 0, none⟩)]) (by simp) (by simp [go_sem]) ?_
  refine (open_idle _ _ _).mono ?_
  rintro e u' w'' ⟨rfl, rfl, rfl⟩
  simp [Leaves, settle, results, Tryz.results10, go_sem, c0, e1, t2, t3]
  exact h

/-- What the results' cells turn. -/
def oT (o : Obj) : Bool := cellsT 32 o || cellsT 27 o
theorem oT_ne {t : TypeId} (h1 : t ≠ 32) (h2 : t ≠ 27) (cs : Array Value) (fr : Nat × Nat) : oT (.cells cs t fr) = false := by
  unfold oT
  rw [cellsT_ne h1, cellsT_ne h2]
  rfl
/-- What Open answers. -/
def OpenP (w : World) : Option (List KV × Nat × ByteArray) → Ending → World → Prop
  | none, e, w' => e = .returned (.tuple #[.pointer none, .int .i64 31]) ∧ Below w.heap.size w w'
  | some (l, n, F), e, w' => ∃ t, e = .returned (.tuple #[.pointer (some ⟨t, 0, none⟩), .int .i64 0]) ∧ TabN w' t l n F ∧ Below w.heap.size w w'

set_option maxRecDepth 100000 in
set_option maxHeartbeats 4000000 in
theorem sopenN_any (b : ByteArray) (w : World) (hs : b.size ≤ 1000000) (hT : LaidS w) :
    Calls Tryz.prog 10 #[.string b] w fun e w' => OpenP w (readT b) e w' := by
  have hmf : ∀ (fn : Fn) (first cap : Array Value) (w : World), (Instr.makeFunc fn first cap).run Tryz.prog w = .ok (.func fn first cap) w := fun _ _ _ _ => rfl
  obtain ⟨R, hR⟩ : ∃ R, readT b = R := ⟨_, rfl⟩
  rw [hR]
  have CR := fun W (h : LaidS W) => Lib.hid (sread_any b W hs h)
  rw [hR] at CR
  have HT := Lib.hid hT
  clear hR hT
  go_enter_defers Tryz.func10, Tryz.ntmps10
  go_wp2_with fail
  have b0 : Blk ((w.alloc (.cells #[.pointer none] 32)).alloc (.cells #[.int .i64 0] 27)) w.heap.size 32 #[.pointer none] := (Blk.new _ _ _).alloc _
  have b1 : Blk ((w.alloc (.cells #[.pointer none] 32)).alloc (.cells #[.int .i64 0] 27)) (w.heap.size + 1) 27 #[.int .i64 0] := Blk.new' (by simp) _ _
  have hb : Below w.heap.size w ((w.alloc (.cells #[.pointer none] 32)).alloc (.cells #[.int .i64 0] 27)) := below_alloc (below_alloc (Below.refl _ _) (Nat.le_refl _) _) (Nat.le_refl _) _
  generalize (w.alloc (.cells #[.pointer none] 32)).alloc (.cells #[.int .i64 0] 27) = w1 at *
  have L1 := HT.out.on hb
  have CR1 := CR w1 L1
  clear CR
  have hsz : w.heap.size + 1 < w1.heap.size := b1.lt
  have P0 := Lib.hid b0
  have P1 := Lib.hid b1
  have HB := Lib.hid hb
  clear b0 b1 hb L1
  refine CR1.out.mono ?_
  cases R with
  | none =>
    rintro e w2 ⟨rfl, hb2⟩
    have Q0 := P0.out.below hb2 (by omega)
    have Q1 := P1.out.below hb2 (by omega)
    have HB2 := HB.out.trans (hb2.mono HB.out.size)
    unfold gaveB
    go_wp2_with fail
    exact oend_err w2 w.heap.size _ 31 _ _ Q0 Q1 rfl rfl ⟨rfl, below_setCell (below_setCell HB2 (Nat.le_refl _) _) (by dsimp only; omega) _⟩
  | some x =>
    obtain ⟨l, n, F⟩ := x
    rintro e w2 ⟨t, rfl, ht, hlow, hb2⟩
    have Q0 := P0.out.below hb2 (by omega)
    have Q1 := P1.out.below hb2 (by omega)
    have HB2 := HB.out.trans (hb2.mono HB.out.size)
    have c0 : w2.cell? ⟨w.heap.size, 0, none⟩ = some (.pointer none) := Q0.cell 0
    have c1 : w2.cell? ⟨w.heap.size + 1, 0, none⟩ = some (.int .i64 0) := Q1.cell 0
    have f0 := Q0.frozen 0
    have f1 := Q1.frozen 0
    have X0 := Lib.hid ((Q0.set_ 0 (.pointer (some ⟨t, 0, none⟩))).far (p := ⟨w.heap.size + 1, 0, none⟩) (by dsimp only; omega) (.int .i64 0))
    have X1 := Lib.hid ((Q1.far (p := ⟨w.heap.size, 0, none⟩) (by dsimp only; omega) (.pointer (some ⟨t, 0, none⟩))).set_ 0 (.int .i64 0))
    have XB := Lib.hid (below_setCell (below_setCell HB2 (p := ⟨w.heap.size, 0, none⟩) (Nat.le_refl _) (.pointer (some ⟨t, 0, none⟩))) (p := ⟨w.heap.size + 1, 0, none⟩) (by dsimp only; omega) (.int .i64 0))
    have g1 : Tn 0 oT w2 (w2.setCell ⟨w.heap.size, 0, none⟩ (.pointer (some ⟨t, 0, none⟩))) := (Tn.refl 0 oT w2).setCell (p := ⟨w.heap.size, 0, none⟩) (Or.inr ⟨Nat.zero_le _, _, Q0, by unfold oT cellsT; simp⟩) _
    have g2 := g1.setCell (p := ⟨w.heap.size + 1, 0, none⟩) (Or.inr ⟨Nat.zero_le _, _, Q1.far (p := ⟨w.heap.size, 0, none⟩) (by dsimp only; omega) (.pointer (some ⟨t, 0, none⟩)), by unfold oT cellsT; simp⟩) (.int .i64 0)
    have XT := Lib.hid (ht.tn g2 (fun cs fr => oT_ne (by decide) (by decide) cs fr) (fun cs fr => oT_ne (by decide) (by decide) cs fr))
    clear Q0 Q1 HB2 hb2 ht g1 g2 hlow
    go_wp2_with fail
    exact oend_ok _ w.heap.size _ _ X0.out X1.out rfl rfl ⟨t, rfl, XT.out, XB.out⟩
end Go.Proofs.YtcbgflidlpmhcaaGreatDoor

namespace Go.Proofs.YtcbgflidlpmhcaaGreatDoor
open Go.RowKit

set_option maxRecDepth 100000 in
set_option maxHeartbeats 1000000 in
theorem same_at (A1 A2 : Option Addr) (n c1 c2 : Nat) (L : List KV) (w : World) (h1 : KeysAt w A1 n L) (h2 : KeysAt w A2 n L) (hn : n ≤ 1000000) (hok : ∀ x ∈ L, okKeys x) :
    Calls Tryz.prog 22 #[.slice A1 n c1, .slice A2 n c2] w fun e w' => e = .returned (.bool true) ∧ Below w.heap.size w w' := by
  have H1 := Lib.hid h1
  have H2 := Lib.hid h2
  have HL := Lib.hid h1.len
  have hL' : (n : Int) ≤ 1000000 := by omega
  clear h1 h2
  go_enter Tryz.func22, Tryz.ntmps22
  go_wp2_with fail
  go_loopw [5] (fun i wr => ∃ k : Nat, k ≤ n ∧ i = .int .i64 (k : Int) ∧ Hid (Below w.heap.size w wr)) (fun i _ => n - (intOf i).toNat)
  case atStart => exact ⟨0, by omega, rfl, Lib.hid (Below.refl _ _)⟩
  case round =>
    obtain ⟨k, hk, rfl, HB⟩ := hrel
    by_cases hl : k < n
    · have hkL : k < L.length := by rw [← HL.out]; exact hl
      obtain ⟨x, hx⟩ : ∃ x, L[k]? = some x := ⟨_, List.getElem?_eq_getElem hkL⟩
      obtain ⟨g1, o1, hA1, _, y0, y1⟩ := (H1.out.below HB.out).at_ k x hx
      obtain ⟨g2, o2, hA2, _, z0, z1⟩ := (H2.out.below HB.out).at_ k x hx
      subst hA1 hA2
      have ox := hok x (List.mem_of_getElem? hx)
      obtain ⟨xa, xb⟩ := x
      dsimp only at y0 y1 z0 z1
      have EQ := eqS2 xa xb ox.1 ox.2
      have hl1 : (k : Int) < (n : Int) := by omega
      have hl0 : (0 : Int) ≤ (k : Int) := by omega
      clear hx hkL
      go_wp2_with fail
      go_quiet (fail)
      go_wp2_with fail
      go_roundw
      case rel => exact ⟨k + 1, by omega, by go_num, Lib.hid (below_drewN HB.out _)⟩
      case measure => simp [intOf]; omega
    · obtain rfl : k = n := by omega
      go_wp2_with fail
      go_ret
      exact ⟨rfl, HB.out⟩
end Go.Proofs.YtcbgflidlpmhcaaGreatDoor

namespace Go.Proofs.YtcbgflidlpmhcaaGreatDoor
open Go.RowKit

/-- The mark. -/
def markP : KV := (⟨#[109, 97, 114, 107]⟩, ⟨#[]⟩)
theorem KeysAt.row {w : World} {A : Option Addr} {n : Nat} {L : List KV} (h : KeysAt w A n L) : (A = none → L = []) ∧ ∀ a, A = some a → ∀ j u, (elKeys.row L)[j]? = some u → w.cell? (a.add j) = some u := by
  refine ⟨fun hA => ?_, fun a ha j u hu => ?_⟩
  · cases L with
    | nil => rfl
    | cons m r =>
      obtain ⟨g, off, e, _⟩ := h.at_ 0 m rfl
      rw [hA] at e; cases e
  · have hj := (List.getElem?_eq_some_iff.1 hu).1
    rw [elKeys.row_length] at hj
    have hj : j < L.length * 2 := hj
    have hi : j / 2 < L.length := by omega
    obtain ⟨m, hm⟩ : ∃ m, L[j / 2]? = some m := ⟨_, List.getElem?_eq_getElem hi⟩
    obtain ⟨g, off, e, _, x0, x1⟩ := h.at_ _ _ hm
    rw [ha] at e
    cases e
    rw [Addr.add_lit]
    have hd : j = j / 2 * elKeys.sz + j % 2 := by show j = j / 2 * 2 + j % 2; omega
    rw [hd, elKeys.row_at L (j / 2) (j % 2) m hm (by show j % 2 < 2; omega)] at hu
    rcases Nat.mod_two_eq_zero_or_one j with h2 | h2
    · rw [h2] at hu
      have hu : some (Value.string m.1) = some u := hu
      cases hu
      rw [show off + j = off + j / 2 * 2 from by omega]
      exact x0
    · rw [h2] at hu
      have hu : some (Value.string m.2) = some u := hu
      cases hu
      rw [show off + j = off + j / 2 * 2 + 1 from by omega]
      exact x1

/-- A list lent: its row, the mark behind it. -/
structure LentK (w : World) (B g n cap : Nat) (L : List KV) : Prop where
  len : n = L.length
  row : Own elKeys w B 37 (.slice (some ⟨g, 0, none⟩) (n + 1) cap) (L ++ [markP])
theorem LentK.below {w w' : World} {B g n cap : Nat} {L : List KV} (h : LentK w B g n cap L) (hb : Below w.heap.size w w') : LentK w' B g n cap L := ⟨h.len, h.row.below hb⟩
theorem LentK.tn {w w' : World} {B g n cap : Nat} {L : List KV} (h : LentK w B g n cap L) {B' : Nat} {T : Obj → Bool} (hb : Tn B' T w w') (hT : ∀ cs fr, T (.cells cs 37 fr) = false) : LentK w' B g n cap L := ⟨h.len, h.row.tn hb hT⟩
theorem own_cap {w : World} {B g n cap sz : Nat} {e : TypeId} {xs : List Value} (h : w.ownsRow B e sz (.slice (some ⟨g, 0, none⟩) n cap) n xs) : n ≤ cap := by
  rcases h.2 with ⟨h1, _⟩ | ⟨g', cap', cur, hv, _, _, hle, _⟩
  · cases h1
  · injection hv with e1 e2 e3
    omega
theorem LentK.cap {w : World} {B g n cap : Nat} {L : List KV} (h : LentK w B g n cap L) : n + 1 ≤ cap := by
  have h1 := h.row
  unfold Own at h1
  rw [List.length_append, ← h.len] at h1
  exact own_cap h1
theorem LentK.at_ {w : World} {B g n cap : Nat} {L : List KV} (h : LentK w B g n cap L) : KeysAt w (some ⟨g, 0, none⟩) n L := by
  have h1 := h.row
  rw [show (n + 1 : Nat) = (L ++ [markP]).length by rw [List.length_append, h.len]; rfl] at h1
  refine ⟨h.len, fun i m hm => ?_⟩
  have hi := (List.getElem?_eq_some_iff.1 hm).1
  have hm' : (L ++ [markP])[i]? = some m := by rw [List.getElem?_append_left hi]; exact hm
  have hc0 := Own.cells (i := i) (j := 0) h1 hm' (by decide) rfl
  have hc1 := Own.cells (i := i) (j := 1) h1 hm' (by decide) rfl
  obtain ⟨g', c', cur, hv, hg, hh⟩ := Own.some_ h1 (by rw [List.length_append]; simp)
  cases hv
  refine ⟨g, 0, rfl, (Array.getElem?_eq_some_iff.1 hh).1, ?_, ?_⟩
  · rw [Nat.zero_add]; exact hc0
  · rw [Nat.zero_add]; exact hc1
theorem LentK.mark {w : World} {B g n cap : Nat} {L : List KV} (h : LentK w B g n cap L) : w.cell? ⟨g, n * 2, none⟩ = some (.string ⟨#[109, 97, 114, 107]⟩) := by
  have h1 := h.row
  rw [show (n + 1 : Nat) = (L ++ [markP]).length by rw [List.length_append, h.len]; rfl] at h1
  have hm' : (L ++ [markP])[n]? = some markP := by rw [h.len]; simp
  have := Own.cells (i := n) (j := 0) h1 hm' (by decide) rfl
  exact this

set_option maxRecDepth 100000 in
set_option maxHeartbeats 2000000 in
theorem lentkeys_any (A : Option Addr) (n c : Nat) (L : List KV) (w : World) (h : KeysAt w A n L) (hn : n ≤ 100000) :
    Calls Tryz.prog 6 #[.slice A n c] w fun e w' => ∃ g cap, e = .returned (.slice (some ⟨g, 0, none⟩) n cap) ∧ LentK w' w.heap.size g n cap L ∧ Below w.heap.size w w' := by
  have hlen := h.len
  obtain ⟨hA, hM⟩ := h.row
  obtain ⟨v1, w1, hr1, ho1, hg1, _, _⟩ := app_own (P := Tryz.prog) elKeys 22 37 (.agg #[.string ⟨#[]⟩, .string ⟨#[]⟩]) 32 underKeys infoKeys rfl w w.heap.size (.slice none 0 0) [] L (World.ownsRow_nil _ _ _ _) A c hA hM (by unfold maxLen; simp; omega) (by simp; omega) (Nat.le_refl _) n hlen
  rw [List.nil_append] at ho1
  obtain ⟨a1, c1, rfl⟩ := ho1.slice
  have hb1 : Below w.heap.size w w1 := below_g (by simpa [Value.ownBlock] using hg1)
  obtain ⟨v2, w2, hr2, ho2, hg2, _, _⟩ := app_own (P := Tryz.prog) elKeys 22 37 (.agg #[.string ⟨#[]⟩, .string ⟨#[]⟩]) 32 underKeys infoKeys rfl (w1.alloc (.cells #[.string ⟨#[109, 97, 114, 107]⟩, .string ⟨#[]⟩] 37)) w.heap.size (.slice a1 L.length c1) L [markP] (World.ownsRow.alloc ho1 _) (some ⟨w1.heap.size, 0, none⟩) 1 (fun h => by cases h) (fun a ha j' u hu => by
    cases ha
    rw [El.row_one] at hu
    exact cells_new w1 37 [.string ⟨#[109, 97, 114, 107]⟩, .string ⟨#[]⟩] j' u hu) (by unfold maxLen; simp; omega) (by simp; omega) (by have := hb1.size; simp; omega) 1 rfl
  have hb2 : Below w.heap.size w w2 := (hb1.alloc hb1.size _).grown hg2 (by have := hb1.size; simp; omega) (fun k hk => ((World.ownsRow.alloc ho1 _ : (w1.alloc (.cells #[.string ⟨#[109, 97, 114, 107]⟩, .string ⟨#[]⟩] 37)).ownsRow _ 37 _ _ _ _).lt k hk).1)
  obtain ⟨g, cap, cur, rfl, _, _⟩ := Own.some_ ho2 (by rw [List.length_append]; simp)
  have hL : LentK w2 w.heap.size g n cap L := ⟨hlen, by rw [hlen]; rw [List.length_append] at ho2; exact ho2⟩
  rw [← hlen] at hr2 hr1
  rw [show (L ++ [markP]).length = n + 1 by rw [List.length_append, hlen]; rfl] at hr2
  have hcap := hL.cap
  have HR1 := fun ty => Lib.hid (hr1 ty)
  have HR2 := fun ty => Lib.hid (hr2 ty)
  have HL := Lib.hid hL
  have HB := Lib.hid hb2
  have s1 : (n : Int) ≤ (cap : Int) := by omega
  have s2 : (0 : Int) ≤ (n : Int) := by omega
  clear h hA hM hr1 hr2 ho1 ho2 hg1 hg2 hb1 hb2 hL hlen
  go_enter Tryz.func6, Tryz.ntmps6
  go_wp2_with (at_builtin; first
    | refine wpList_append_k _ w1 rfl (.const (.slice none 0 0)) (.tmp 3) 22 rfl _ _ (.slice a1 n c1) rfl rfl (fun ty => (HR1 ty).out) ?_
    | refine wpList_append_k _ w2 rfl (.tmp 4) (.tmp 6) 22 rfl _ _ (.slice (some ⟨g, 0, none⟩) (n + 1) cap) rfl rfl (fun ty => (HR2 ty).out) ?_)
  go_ret
  exact ⟨g, cap, rfl, HL.out, HB.out⟩

set_option maxRecDepth 100000 in
set_option maxHeartbeats 2000000 in
theorem stayskeys_any (A : Option Addr) (n c B g cap : Nat) (L : List KV) (w : World) (h : KeysAt w A n L) (hx : LentK w B g n cap L) (hn : n ≤ 100000) (hok : ∀ x ∈ L, okKeys x) :
    Calls Tryz.prog 9 #[.slice (some ⟨g, 0, none⟩) n cap, .slice A n c] w fun e w' => e = .returned (.bool true) ∧ Below w.heap.size w w' := by
  have CS := Lib.hid (same_at (some ⟨g, 0, none⟩) A n cap c L w hx.at_ h (by omega) hok)
  have HX := Lib.hid hx
  have hcap := hx.cap
  have s1 : (n : Int) + 1 ≤ (cap : Int) := by omega
  have s2 : (0 : Int) ≤ (n : Int) + 1 := by omega
  have s3 : (n : Int) < (n : Int) + 1 := by omega
  have s4 : (0 : Int) ≤ (n : Int) := by omega
  clear h hx
  go_enter Tryz.func9, Tryz.ntmps9
  go_wp2_with fail
  refine CS.out.mono ?_
  rintro e w1 ⟨rfl, hb1⟩
  have c0 := (HX.out.below hb1).mark
  have HB := Lib.hid hb1
  clear hb1 CS
  go_wp2_with fail
  go_ret
  exact ⟨rfl, HB.out⟩
end Go.Proofs.YtcbgflidlpmhcaaGreatDoor

namespace Go.Proofs.YtcbgflidlpmhcaaGreatDoor
open Go.RowKit

/-- A table that Write's bytes made, as it lies. -/
def TabAt (W : World) (t : Nat) (L : List KV) (F : ByteArray) : Prop := TabN W t L (blocksK L) F
theorem TabAt.up {W W' : World} {t : Nat} {L : List KV} {F : ByteArray} (h : TabAt W t L F) (hb : Below W.heap.size W W') : TabAt W' t L F := TabN.up h hb
theorem TabAt.tn {B : Nat} {W W' : World} {t : Nat} {L : List KV} {F : ByteArray} (h : TabAt W t L F) (g : Tn B (twoT 22 60) W W') : TabAt W' t L F :=
  TabN.tn h g (fun cs fr => by unfold twoT; rw [cellsT_ne (by decide), cellsT_ne (by decide)]; rfl) (fun cs fr => by unfold twoT; rw [cellsT_ne (by decide), cellsT_ne (by decide)]; rfl)
theorem wrt_groups {L : List KV} {x : Nat} {b : ByteArray} (h : WrtP L x b) : ∀ g ∈ groupsK L, g ≠ [] ∧ longK g = false ∧ (blkL g).length ≤ 524288 := by
  intro g hg
  have h1 := wt_flat (groups_all L) hg
  obtain ⟨k1, k2, _, _⟩ := light_short (L := g) (by have := h.2.1; omega)
  exact ⟨groups_some L g hg, k1, k2⟩
theorem wrt_read {L : List KV} {x : Nat} {b : ByteArray} (h : WrtP L x b) : readT b = some (L, blocksK L, bloomT (headsK L) x) := by
  have h1 := readT_tab h.2.2 (groups_all L) (write_ne h.1) (wrt_groups h) (write_rises h.1) (by
    have h2 := groups_len L
    have h3 := blocks_len L
    have h4 := (light_short h.2.1).2.2.2
    omega) (fun m hm => may_built (headsK L) x (headT m.1) ((headsK_mem L _).2 ⟨m, hm, rfl⟩))
  rw [groups_len] at h1
  exact h1
/-- What Write tells ends in its sum. -/
theorem wrt_fits {L : List KV} {x : Nat} {b : ByteArray} (h : WrtP L x b) : fitsB b := ⟨tabB (groupsK L) (bloomT (headsK L) x), h.2.2⟩
theorem wrt_size {L : List KV} {x : Nat} {b : ByteArray} (h : WrtP L x b) : 5 ≤ b.size ∧ b.size ≤ 1000000 := by
  have h1 := congrArg List.length h.2.2
  have h2 := cat_bounds (G := groupsK L) (groups_some L) (by rw [groups_all]; exact h.2.1)
  have h3 := bloomT_sz (headsK L) x
  unfold tabL tabB at h1
  simp only [List.length_append, be_length, bl_len] at h1
  omega

set_option maxRecDepth 100000 in
set_option maxHeartbeats 2000000 in
theorem swrite_any (A : Option Addr) (n c : Nat) (L : List KV) (x : Nat) (W : World) (h : KeysAt W A n L) (hc : n ≤ c) (hl : wtK L ≤ 60000) (hT : LaidS W) :
    Calls Tryz.prog 7 #[.slice A n c, .float .f64 x] W fun e w' => ∃ b, e = .returned (.tuple #[.string b, .int .i64 (writeE L)]) ∧ (writeE L = 0 → WrtP L x b) ∧ (¬ writeE L = 0 → b = ⟨#[]⟩) ∧ Below W.heap.size W w' := by
  obtain ⟨k1, k2, k3, k4⟩ := light_short hl
  have hlen := h.len
  by_cases hR : risesK L = true
  · by_cases hne : L = []
    · subst hne
      have CB := build_any A n c [] W h k3 (by omega) k1 k2 hT.b
      rw [build_light hl hR] at CB
      have CB := Lib.hid CB
      have hw9 : writeE [] = 1 := by decide +kernel
      rw [hw9]
      have n0 : n = 0 := hlen
      subst n0
      clear h hlen k1 k2 k3 k4 hw9 hT hR
      go_enter Tryz.func7, Tryz.ntmps7
      go_wp2_with fail
      refine CB.out.mono ?_
      rintro e w1 ⟨rfl, hb⟩
      go_wp2_with fail
      go_ret2
      exact ⟨_, rfl, fun h => absurd h (by decide), fun _ => rfl, hb⟩
    · have he : writeE L = 0 := by
        unfold writeE
        rw [if_neg (by rw [hR]; decide), build_light hl hR, if_pos rfl, if_neg hne]
      obtain ⟨m0, hm0⟩ : ∃ m, L[0]? = some m := ⟨_, List.getElem?_eq_getElem (List.length_pos_iff.2 hne)⟩
      obtain ⟨g, off, rfl, _⟩ := h.at_ 0 m0 hm0
      refine (swrite_some g off n c L x W h hc hl hR hne hT).mono ?_
      rintro e w' ⟨b, rfl, h1, h2⟩
      rw [he]
      exact ⟨b, rfl, fun _ => ⟨he, hl, h1⟩, fun h => absurd rfl h, h2⟩
  · have hRf : risesK L = false := by simpa using hR
    have CB := build_any A n c L W h k3 (by omega) k1 k2 hT.b
    have hbp : buildP L = (ByteArray.empty, 32) := by
      unfold buildP
      rw [if_pos hRf]
    rw [hbp] at CB
    have CB := Lib.hid CB
    have hw9 : writeE L = 32 := by
      unfold writeE
      rw [if_pos hRf]
    rw [hw9]
    clear h hlen k1 k2 k3 k4 hw9 hT hR hRf hbp
    go_enter Tryz.func7, Tryz.ntmps7
    go_wp2_with fail
    refine CB.out.mono ?_
    rintro e w1 ⟨rfl, hb⟩
    go_wp2_with fail
    go_ret2
    exact ⟨_, rfl, fun h => absurd h (by decide), fun _ => rfl, hb⟩
theorem sopen_any (L : List KV) (x : Nat) (b : ByteArray) (W : World) (h : WrtP L x b) (hT : LaidS W) :
    Calls Tryz.prog 10 #[.string b] W fun e w' => ∃ t, e = .returned (.tuple #[.pointer (some ⟨t, 0, none⟩), .int .i64 0]) ∧ TabAt w' t L (bloomT (headsK L) x) ∧ Below W.heap.size W w' := by
  have C := sopenN_any b W (wrt_size h).2 hT
  rw [wrt_read h] at C
  exact C
section
variable {W : World} {t : Nat} {L : List KV} {F : ByteArray}
theorem scount_any (h : TabAt W t L F) : Calls Tryz.prog 11 #[.pointer (some ⟨t, 0, none⟩)] W fun e w' => e = .returned (.int .i64 (L.length : Nat)) ∧ Below W.heap.size W w' := (scountN_any h).mono fun _ _ ⟨h1, h2⟩ => ⟨h1, below_of_eq h2⟩
theorem sfirst_any (h : TabAt W t L F) {m : KV} (hm : L[0]? = some m) : Calls Tryz.prog 12 #[.pointer (some ⟨t, 0, none⟩)] W fun e w' => e = .returned (.string m.1) ∧ Below W.heap.size W w' := (sfirstN_any h hm).mono fun _ _ ⟨h1, h2⟩ => ⟨h1, below_of_eq h2⟩
theorem slastk_any (h : TabAt W t L F) {m : KV} (hm : L[L.length - 1]? = some m) : Calls Tryz.prog 13 #[.pointer (some ⟨t, 0, none⟩)] W fun e w' => e = .returned (.string m.1) ∧ Below W.heap.size W w' := (slastN_any h hm).mono fun _ _ ⟨h1, q, h2⟩ => ⟨h1, by rw [h2]; exact below_drewN (Below.refl _ _) q⟩
theorem sblocks_any (h : TabAt W t L F) : Calls Tryz.prog 14 #[.pointer (some ⟨t, 0, none⟩)] W fun e w' => e = .returned (.int .i64 (blocksK L : Nat)) ∧ Below W.heap.size W w' := (sblocksN_any h).mono fun _ _ ⟨h1, h2⟩ => ⟨h1, below_of_eq h2⟩
theorem smay_any (h : TabAt W t L F) (hT : LaidS W) (key : ByteArray) (hk : key.size ≤ 9223372036854775807) : Calls Tryz.prog 17 #[.pointer (some ⟨t, 0, none⟩), .string key] W fun e w' => e = .returned (.bool (mayT F (crc key.data.toList))) ∧ Below W.heap.size W w' := smayN_any h hT key hk
theorem sfrom_any (h : TabAt W t L F) (_hT : LaidS W) (key : ByteArray) (most : Int) (_hk : key.size ≤ 140737488351232) : Calls Tryz.prog 20 #[.pointer (some ⟨t, 0, none⟩), .string key, .int .i64 most] W fun e w' => ∃ v, e = .returned v ∧ Own elKeys w' W.heap.size 37 v (fromK L key most) ∧ Below W.heap.size W w' := sfromN_any h key most
theorem sget_any (h : TabAt W t L F) (_hT : LaidS W) (key : ByteArray) (_hk : key.size ≤ 140737488351232) : Calls Tryz.prog 24 #[.pointer (some ⟨t, 0, none⟩), .string key] W fun e w' => e = .returned (.tuple #[.string (getK L key).1, .int .i64 (getK L key).2]) ∧ Below W.heap.size W w' := sgetN_any h key
end
theorem light13_any (A : Option Addr) (n c : Nat) (L : List KV) (w : World) (h : PairsIn w A n L) : Calls Tryz.prog 4 #[.slice A n c] w fun e w' => e = .returned (.bool (decide (wtK L ≤ 60000))) ∧ Below w.heap.size w w' := light_any A n c L w h

/-- The pairs of the first call. -/
def aliveS : List KV := [(⟨#[97]⟩, ⟨#[49]⟩), (⟨#[98]⟩, ⟨#[50]⟩)]
theorem aliveS_facts : writeE aliveS = 0 ∧ wtK aliveS ≤ 60000 ∧ getK aliveS ⟨#[98]⟩ = (⟨#[50]⟩, 0) ∧ (fromK aliveS ⟨#[97, 97]⟩ (-1)).length = 1 ∧ blocksK aliveS = 1 ∧ aliveS.length = 2 := by
  refine ⟨?_, by decide +kernel, by decide +kernel, by decide +kernel, by decide +kernel, rfl⟩
  have hr : risesK aliveS = true := by decide +kernel
  unfold writeE
  rw [if_neg (by rw [hr]; decide), build_light (by decide +kernel) hr, if_pos rfl, if_neg (by decide)]
theorem readT_empty : readT ⟨#[]⟩ = none := by
  unfold readT
  rw [if_pos (by decide)]

set_option maxRecDepth 100000 in
set_option maxHeartbeats 4000000 in
theorem alive13_any (w : World) (hT : LaidS w) : Calls Tryz.prog 5 #[] w fun e w' => e = .returned (.bool true) ∧ Below w.heap.size w w' := by
  obtain ⟨f1, f2, f3, f4, f5, f6⟩ := aliveS_facts
  have hz : Hid (Below w.heap.size w (w.alloc (.cells #[.string ⟨#[97]⟩, .string ⟨#[49]⟩, .string ⟨#[98]⟩, .string ⟨#[50]⟩] 37))) := Lib.hid (below_alloc (Below.refl _ _) (Nat.le_refl _) _)
  have hK : KeysAt (w.alloc (.cells #[.string ⟨#[97]⟩, .string ⟨#[49]⟩, .string ⟨#[98]⟩, .string ⟨#[50]⟩] 37)) (some ⟨w.heap.size, 0, none⟩) 2 aliveS := by
    have B := Blk.new w 37 #[.string ⟨#[97]⟩, .string ⟨#[49]⟩, .string ⟨#[98]⟩, .string ⟨#[50]⟩]
    refine ⟨rfl, fun i m hm => ?_⟩
    match i, hm with
    | 0, hm => cases hm; exact ⟨_, 0, rfl, B.lt, B.cell 0, B.cell 1⟩
    | 1, hm => cases hm; exact ⟨_, 0, rfl, B.lt, B.cell 2, B.cell 3⟩
    | i + 2, hm => simp [aliveS] at hm
  have CW := swrite_any (some ⟨w.heap.size, 0, none⟩) 2 2 aliveS 4621819117588971520 _ hK (Nat.le_refl _) f2 (hT.on hz.out)
  have CO := fun b W (h : WrtP aliveS 4621819117588971520 b) (hb : Below w.heap.size w W) => Lib.hid (sopen_any aliveS 4621819117588971520 b W h (hT.on hb))
  have CE := fun W (hb : Below w.heap.size w W) => Lib.hid (show Calls Tryz.prog 10 #[.string ⟨#[]⟩] W fun e w' => e = .returned (.tuple #[.pointer none, .int .i64 31]) ∧ Below W.heap.size W w' from by
    have := sopenN_any ⟨#[]⟩ W (by decide) (hT.on hb)
    rw [readT_empty] at this
    exact this)
  generalize bloomT (headsK aliveS) 4621819117588971520 = F at CO
  have CG := fun W t (h : TabAt W t aliveS F) (hb : Below w.heap.size w W) => Lib.hid (sget_any h (hT.on hb) ⟨#[98]⟩ (by decide))
  have CF := fun W t (h : TabAt W t aliveS F) (hb : Below w.heap.size w W) => Lib.hid (sfrom_any h (hT.on hb) ⟨#[97, 97]⟩ (-1) (by decide))
  have CC := fun W t (h : TabAt W t aliveS F) => Lib.hid (scount_any h)
  have CB := fun W t (h : TabAt W t aliveS F) => Lib.hid (sblocks_any h)
  rw [f1] at CW
  rw [f3] at CG
  rw [f6] at CC
  rw [f5] at CB
  have CW := Lib.hid CW
  have F4 := Lib.hid f4
  clear f1 f2 f3 f4 f5 f6 hK hT
  go_enter Tryz.func5, Tryz.ntmps5
  go_wp2_with fail
  refine CW.out.mono ?_
  rintro e w1 ⟨b, rfl, h1, -, hb1⟩
  have HB1 := Lib.hid (hz.out.trans (hb1.mono hz.out.size))
  have CO1 := CO b w1 (h1 (by first | rfl | trivial)) HB1.out
  clear h1 hb1 CO CW hz
  go_wp2_with fail
  refine CO1.out.mono ?_
  rintro e w2 ⟨t, rfl, ht, hb2⟩
  have HB2 := Lib.hid (HB1.out.trans (hb2.mono HB1.out.size))
  have HT2 := Lib.hid ht
  have CG2 := CG w2 t ht HB2.out
  clear hb2 ht CO1 CG HB1
  go_wp2_with fail
  refine CG2.out.mono ?_
  rintro e w3 ⟨rfl, hb3⟩
  have HB3 := Lib.hid (HB2.out.trans (hb3.mono HB2.out.size))
  have HT3 := Lib.hid (HT2.out.up hb3)
  have CF3 := CF w3 t HT3.out HB3.out
  clear hb3 CG2 CF HB2 HT2
  go_wp2_with fail
  refine CF3.out.mono ?_
  rintro e w4 ⟨v, rfl, ho, hb4⟩
  obtain ⟨va, vc, rfl⟩ := ho.slice
  rw [F4.out]
  have HB4 := Lib.hid (HB3.out.trans (hb4.mono HB3.out.size))
  have HT4 := Lib.hid (HT3.out.up hb4)
  have CE4 := CE w4 HB4.out
  clear ho hb4 CF3 CE HB3 HT3
  go_wp2_with fail
  refine CE4.out.mono ?_
  rintro e w5 ⟨rfl, hb5⟩
  have HB5 := Lib.hid (HB4.out.trans (hb5.mono HB4.out.size))
  have HT5 := Lib.hid (HT4.out.up hb5)
  have CC5 := CC w5 t HT5.out
  clear hb5 CE4 CC HB4 HT4
  go_wp2_with fail
  refine CC5.out.mono ?_
  rintro e w6 ⟨rfl, hb6⟩
  have HB6 := Lib.hid (HB5.out.trans (hb6.mono HB5.out.size))
  have CB6 := CB w6 t (HT5.out.up hb6)
  clear hb6 CC5 CB HB5 HT5
  go_wp2_with fail
  refine CB6.out.mono ?_
  rintro e w7 ⟨rfl, hb7⟩
  have HB7 := Lib.hid (HB6.out.trans (hb7.mono HB6.out.size))
  clear hb7 CB6 HB6
  go_wp2_with fail
  go_ret
  exact ⟨rfl, HB7.out⟩
end Go.Proofs.YtcbgflidlpmhcaaGreatDoor
