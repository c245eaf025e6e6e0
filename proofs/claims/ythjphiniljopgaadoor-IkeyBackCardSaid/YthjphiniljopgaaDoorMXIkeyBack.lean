/-
  IkeyBack: what is put is got as it was; of bytes that are changed another version comes, or none.
-/
import Derived.Test.YthjphiniljopgaaDoorM4
namespace Go.Proofs.YthjphiniljopgaaDoor
open Go.RowKit

theorem empty_mk : ByteArray.empty = (⟨#[]⟩ : ByteArray) := rfl

set_option maxRecDepth 100000 in
set_option maxHeartbeats 8000000 in
theorem lawIkeyBack (key : ByteArray) (A : Option Addr) (n c : Nat) (o x kd : Int) (nu : Nat) (it : Int) (tx : ByteArray) (xs : List Int) (at_ : Int) (_ha : (Lit.int .i64 at_).wf = true) (by_ : Int) (_hb : (Lit.int .i64 by_).wf = true) (w : World) (V : VerIn w key A n xs o x kd nu it tx) :
    Calls Tryd.prog 3 #[verV key A n c o x kd nu it tx, .int .i64 at_, .int .i64 by_] w fun e w' => e = .returned (.bool true) ∧ Below w.heap.size w w' := by
  unfold verV
  have PC := fun W h => Lib.hid (kput_any key A n c o x kd nu it tx xs W h)
  have PV := fun W h => Lib.hid (kvalid_any key A n c o x kd nu it tx xs W h)
  simp only [verV] at PC PV
  have hst := run_sto_f64
  have B0 : Blk (w.alloc (.cells #[.string key, .slice A n c, .int .i64 o, .int .i64 x, .int .i64 kd, .float .f64 nu, .int .i64 it, .string tx] 28)) w.heap.size 28 (verC key A n c o x kd nu it tx) := Blk.new w _ _
  have hb0 : Below w.heap.size w (w.alloc (.cells #[.string key, .slice A n c, .int .i64 o, .int .i64 x, .int .i64 kd, .float .f64 nu, .int .i64 it, .string tx] 28)) := (Below.refl _ w).alloc (Nat.le_refl _) _
  have V := Lib.hid V
  go_enter Tryd.func3, Tryd.ntmps3
  go_wp2_with fail
  generalize w.alloc (.cells #[.string key, .slice A n c, .int .i64 o, .int .i64 x, .int .i64 kd, .float .f64 nu, .int .i64 it, .string tx] 28) = w0 at B0 hb0 ⊢
  refine (PC _ (V.out.below hb0)).out.mono ?_
  rintro e w1 ⟨hR, h1⟩
  have hb1 := Lib.hid (hb0.trans (h1.mono hb0.size))
  have B1 := Lib.hid (B0.below h1 B0.lt)
  clear hb0 B0 h1 PC
  rcases hR with ⟨hok, rfl⟩ | ⟨hok, rfl⟩
  · have hok := Lib.hid (okV_of hok)
    have KG := fun W => Lib.hid (kget_of hok.out (⟨(putVL key.data.toList xs o x).toArray⟩ : ByteArray) (mk_data _) W)
    have KK := fun W => Lib.hid (kkey_of hok.out (⟨(putVL key.data.toList xs o x).toArray⟩ : ByteArray) (mk_data _) W)
    have hlen : 2 ≤ (⟨(putVL key.data.toList xs o x).toArray⟩ : ByteArray).size ∧ (⟨(putVL key.data.toList xs o x).toArray⟩ : ByteArray).size ≤ 300 := by
      rw [size_mk]
      have := putVL_length hok.out
      omega
    obtain ⟨S, hS⟩ : ∃ S : ByteArray, (⟨(putVL key.data.toList xs o x).toArray⟩ : ByteArray) = S := ⟨_, rfl⟩
    have hSd : Hid (S.data.toList = putVL key.data.toList xs o x) := by rw [← hS]; exact mk_data _
    simp only [hS] at KG KK hlen
    rw [hS]
    simp only [verV, empty_mk] at KG
    clear hS
    go_wp2_with fail
    refine (KG _).out.mono ?_
    rintro e w2 ⟨⟨A', c', rfl, hN⟩, h2⟩
    have hb2 := Lib.hid (hb1.out.trans (h2.mono hb1.out.size))
    have B2 := Lib.hid (B1.out.below h2 B1.out.lt)
    have hN := Lib.hid (nums_in hN hok.out.at_)
    clear hb1 B1 h2
    go_wp2_with fail
    have BX : Blk (w2.alloc (.cells #[.string key, .slice A' xs.length c', .int .i64 o, .int .i64 x, .int .i64 0, .float .f64 0, .int .i64 0, .string ⟨#[]⟩] 28)) w2.heap.size 28 (verC key A' xs.length c' o x 0 0 0 ⟨#[]⟩) := Blk.new w2 _ _
    have B3 := B2.out.alloc (.cells #[.string key, .slice A' xs.length c', .int .i64 o, .int .i64 x, .int .i64 0, .float .f64 0, .int .i64 0, .string ⟨#[]⟩] 28)
    have hb3 := below_alloc hb2.out (Nat.le_refl _) (.cells #[.string key, .slice A' xs.length c', .int .i64 o, .int .i64 x, .int .i64 0, .float .f64 0, .int .i64 0, .string ⟨#[]⟩] 28)
    have hN3 := hN.out.below ((Below.refl w2.heap.size w2).alloc (Nat.le_refl _) (.cells #[.string key, .slice A' xs.length c', .int .i64 o, .int .i64 x, .int .i64 0, .float .f64 0, .int .i64 0, .string ⟨#[]⟩] 28))
    have np : w.heap.size ≠ w2.heap.size := by
      have := B2.out.lt
      omega
    clear hN hb2 B2
    generalize w2.alloc (.cells #[.string key, .slice A' xs.length c', .int .i64 o, .int .i64 x, .int .i64 0, .float .f64 0, .int .i64 0, .string ⟨#[]⟩] 28) = w3 at BX B3 hb3 hN3 ⊢
    generalize w2.heap.size = p2 at BX np ⊢
    refine (KK _).out.mono ?_
    rintro e w4 ⟨rfl, h4⟩
    have hb4 := Lib.hid (hb3.trans (h4.mono hb3.size))
    have B4 := Lib.hid (B3.below h4 B3.lt)
    have BX4 := Lib.hid (BX.below h4 BX.lt)
    have hN4 := Lib.hid (hN3.below h4)
    have np := Lib.hid np
    clear hb3 B3 BX hN3 h4
    obtain ⟨c0, c1, c2, c3, c4, c5, c6, c7⟩ := ver_cells B4.out
    obtain ⟨d0, d1, d2, d3, d4, d5, d6, d7⟩ := ver_cells (BX4.out.alloc (.cells #[.string key, .slice A n c, .int .i64 o, .int .i64 x, .int .i64 0, .float .f64 0, .int .i64 0, .string ⟨#[]⟩] 28))
    have f0 := (B4.out.alloc (.cells #[.string key, .slice A n c, .int .i64 o, .int .i64 x, .int .i64 0, .float .f64 0, .int .i64 0, .string ⟨#[]⟩] 28)).cell 0
    simp [verC] at f0
    go_wp2_with fail
    have hb5 : Hid (Below w.heap.size w (w4.alloc (.cells #[.string key, .slice A n c, .int .i64 o, .int .i64 x, .int .i64 0, .float .f64 0, .int .i64 0, .string ⟨#[]⟩] 28))) := below_alloc hb4.out (Nat.le_refl _) _
    have SV := rsamever_any key A' xs.length c' o x 0 0 0 ⟨#[]⟩ xs key A n c o x 0 0 0 ⟨#[]⟩ xs (w4.alloc (.cells #[.string key, .slice A n c, .int .i64 o, .int .i64 x, .int .i64 0, .float .f64 0, .int .i64 0, .string ⟨#[]⟩] 28)) (hN4.out.below ((Below.refl _ w4).alloc (Nat.le_refl _) _)) (V.out.ints.below hb5.out) (by decide) (by decide)
    rw [sameVerN_self] at SV
    simp only [verV] at SV
    have B5 := Blk.new w4 28 (verC key A n c o x 0 0 0 ⟨#[]⟩)
    refine SV.mono ?_
    rintro e w6 ⟨rfl, h6⟩
    have hb6 := Lib.hid (hb5.out.trans (h6.mono hb5.out.size))
    have B6 : Hid (Blk w6 w4.heap.size 28 (verC key A n c o x 0 0 0 ⟨#[]⟩)) := B5.below h6 B5.lt
    have q3 : Hid (w.heap.size ≤ w4.heap.size) := hb4.out.size
    clear SV B5 h6 hb5 hb4 B4 BX4 hN4 np c0 c1 c2 c3 c4 c5 c6 c7 d0 d1 d2 d3 d4 d5 d6 d7 f0 KG KK PV
    generalize w4.heap.size = p3 at B6 q3 ⊢
    have z0 : ((S.size : Int) == 0) = false := by rw [beq_eq_false_iff_ne]; omega
    by_cases hby : by_ % 256 = 0
    · go_wp2_with fail
      refine (kalive_any _).mono ?_
      rintro e w7 ⟨rfl, h7⟩
      have hb7 := hb6.out.trans (h7.mono hb6.out.size)
      go_wp2_with fail
      go_ret
      exact ⟨rfl, hb7⟩
    · have hpos : (0 : Int) < (S.size : Int) := by omega
      have t1 := Int.tmod_lt_of_pos at_ hpos
      have t2 := Int.lt_tmod_of_pos at_ hpos
      obtain ⟨m, hm, hk⟩ : ∃ m : Nat, m < S.size ∧ (at_.tmod (S.size : Int) = (m : Int) ∨ at_.tmod (S.size : Int) = (m : Int) - (S.size : Int)) := by
        by_cases hk : 0 ≤ at_.tmod (S.size : Int)
        · exact ⟨(at_.tmod (S.size : Int)).toNat, by omega, Or.inl (by omega)⟩
        · exact ⟨(at_.tmod (S.size : Int) + S.size).toNat, by omega, Or.inr (by omega)⟩
      obtain ⟨k0, htm⟩ : ∃ k0, at_.tmod (S.size : Int) = k0 := ⟨_, rfl⟩
      rw [htm] at hk
      obtain ⟨d, hd⟩ : ∃ d : UInt8, d = UInt8.ofNat (S[m].toNat ^^^ (by_ % 256).toNat) := ⟨_, rfl⟩
      have hx : bits .xor .u8 ((S[m]'hm).toNat : Int) (by_ % 256) = (d.toNat : Int) := by
        have h1 := u8_xor (S[m].toNat) (UInt8.toNat_lt _) (by_ % 256).toNat (by omega)
        rw [Int.toNat_of_nonneg (by omega)] at h1
        rw [h1, hd, ← u8_of]
        exact Nat.xor_lt_two_pow (n := 8) (UInt8.toNat_lt _) (by omega)
      have hne : S[m] ≠ d := by
        intro e
        have h1 := congrArg UInt8.toNat e
        rw [hd, UInt8.toNat_ofNat', Nat.mod_eq_of_lt (Nat.xor_lt_two_pow (n := 8) (UInt8.toNat_lt _) (by omega))] at h1
        have h2 := xor_cancel 0 (by_ % 256).toNat S[m].toNat (by rw [Nat.zero_xor, Nat.xor_comm]; exact h1)
        omega
      obtain ⟨l, hl⟩ : ∃ l, l = S.data.toList.set m d := ⟨_, rfl⟩
      have hll : l.length = S.size := by rw [hl, List.length_set]; rfl
      have hlne : l ≠ putVL key.data.toList xs o x := by
        rw [← hSd.out]
        intro e
        have h1 : l[m]? = some d := by rw [hl, List.getElem?_set_self (by simpa using hm)]
        rw [e, List.getElem?_eq_getElem (by simpa using hm)] at h1
        exact hne (Option.some.inj h1)
      have KO := fun W => Lib.hid (kget_other hok.out (⟨l.toArray⟩ : ByteArray) (by rw [size_mk]; omega) (by rw [mk_data]; exact hlne) W)
      simp only [verV, empty_mk] at KO
      have hbs := run_bytes_of_string (P := Tryd.prog) w6 9 38 5 S Tryd.underlying9 Tryd.underlying38 Tryd.underlying5
      generalize grownCap w6 S.size 0 5 = cap at hbs
      have hrow : ∀ j (hj : j < S.size), (bytesRow S cap)[j]? = some (.int .u8 ((S[j]'hj).toNat : Int)) := fun j hj => bytesRow_at S cap j hj
      have hrsz : S.size ≤ (bytesRow S cap).size := by unfold bytesRow; rw [Array.size_append, Array.size_map]; exact Nat.le_add_right _ _
      generalize bytesRow S cap = row at *
      have hcell : (w6.alloc (.cells row 5 (row.size, row.size + 1))).cell? ⟨w6.heap.size, m, none⟩ = some (.int .u8 ((S[m]'hm).toNat : Int)) := (World.cell?_alloc_mark w6 row 5 (row.size, row.size + 1) m).trans (hrow m hm)
      have hfr : (w6.alloc (.cells row 5 (row.size, row.size + 1))).frozen? ⟨w6.heap.size, m, none⟩ = false := by
        rw [World.frozen?_alloc_mark, decide_eq_false (by omega)]; rfl
      have hobj := obj_set (heap_alloc_new w6 (.cells row 5 (row.size, row.size + 1))) m (.int .u8 (d.toNat : Int))
      have hb7 : Hid (Below w.heap.size w (((w6.alloc (.cells row 5 (row.size, row.size + 1))).setCell ⟨w6.heap.size, m, none⟩ (.int .u8 (d.toNat : Int))).drew)) := (below_setCell (below_alloc hb6.out (Nat.le_refl _) _) hb6.out.size _).drew
      have B7 : Hid (Blk (((w6.alloc (.cells row 5 (row.size, row.size + 1))).setCell ⟨w6.heap.size, m, none⟩ (.int .u8 (d.toNat : Int))).drew) p3 28 (verC key A n c o x 0 0 0 ⟨#[]⟩)) :=
        ((B6.out.alloc _).far (by have := B6.out.lt; show p3 ≠ w6.heap.size; omega) _).drew
      have hcb : ∀ j (hj : j < l.length), (row.setIfInBounds m (.int .u8 (d.toNat : Int)))[j]? = some (b8 l[j]) := by
        intro j hj
        have hjs : j < S.size := by rw [← hll]; exact hj
        rw [Array.getElem?_setIfInBounds]
        have hlj : l[j]? = some l[j] := List.getElem?_eq_getElem hj
        have hl2 : l[j]? = if m = j then some d else S.data.toList[j]? := by
          rw [hl, List.getElem?_set]
          split
          · rw [if_pos (by simpa using hm)]
          · rfl
        by_cases e : m = j
        · subst e
          rw [if_pos rfl] at hl2
          rw [if_pos rfl, if_pos (by omega)]
          rw [hlj] at hl2
          rw [Option.some.inj hl2]
          rfl
        · rw [if_neg e] at hl2
          rw [if_neg e, hrow j hjs]
          rw [hlj, List.getElem?_eq_getElem (by simpa using hjs)] at hl2
          rw [Option.some.inj hl2]
          rfl
      have hcv : (convert 38 9 (.slice (some ⟨w6.heap.size, 0, none⟩) S.size cap)).run Tryd.prog (((w6.alloc (.cells row 5 (row.size, row.size + 1))).setCell ⟨w6.heap.size, m, none⟩ (.int .u8 (d.toNat : Int))).drew) = .ok (.string ⟨l.toArray⟩) (((w6.alloc (.cells row 5 (row.size, row.size + 1))).setCell ⟨w6.heap.size, m, none⟩ (.int .u8 (d.toNat : Int))).drew) := bytes_of_obj hobj hll.symm hcb
      have hb' : (by_ % 256 == 0) = false := by simp [hby]
      have V := V
      clear hobj hcb hrow hl hll hlne hne hd hby hb6 B6 hpos t1 t2
      rcases hk with rfl | rfl
      all_goals
        go_wp2_with fail
        refine (KO _).out.mono ?_
        rintro e w8 ⟨hG, h8⟩
        have hb8 := Lib.hid (hb7.out.trans (h8.mono hb7.out.size))
        have B8 := Lib.hid (B7.out.below h8 B7.out.lt)
        clear hcv hcell hfr hbs hx KO
        rcases hG with ⟨key', A2, c2, o2, x2, xs2, rfl, hN2, hv2, hne2⟩ | rfl
        · have hN2 := Lib.hid (nums_in hN2 hv2)
          clear hv2 h8 B7 hb7
          go_wp2_with fail
          have BX : Blk (w8.alloc (.cells #[.string key', .slice A2 xs2.length c2, .int .i64 o2, .int .i64 x2, .int .i64 0, .float .f64 0, .int .i64 0, .string ⟨#[]⟩] 28)) w8.heap.size 28 (verC key' A2 xs2.length c2 o2 x2 0 0 0 ⟨#[]⟩) := Blk.new w8 _ _
          have B9 := B8.out.alloc (.cells #[.string key', .slice A2 xs2.length c2, .int .i64 o2, .int .i64 x2, .int .i64 0, .float .f64 0, .int .i64 0, .string ⟨#[]⟩] 28)
          have hb9 := below_alloc hb8.out (Nat.le_refl _) (.cells #[.string key', .slice A2 xs2.length c2, .int .i64 o2, .int .i64 x2, .int .i64 0, .float .f64 0, .int .i64 0, .string ⟨#[]⟩] 28)
          have hN9 := hN2.out.below ((Below.refl w8.heap.size w8).alloc (Nat.le_refl _) (.cells #[.string key', .slice A2 xs2.length c2, .int .i64 o2, .int .i64 x2, .int .i64 0, .float .f64 0, .int .i64 0, .string ⟨#[]⟩] 28))
          clear hb8 B8 hN2
          generalize w8.alloc (.cells #[.string key', .slice A2 xs2.length c2, .int .i64 o2, .int .i64 x2, .int .i64 0, .float .f64 0, .int .i64 0, .string ⟨#[]⟩] 28) = w9 at BX B9 hb9 hN9 ⊢
          generalize w8.heap.size = p4 at BX ⊢
          refine (kalive_any _).mono ?_
          rintro e w10 ⟨rfl, h10⟩
          have hb10 := hb9.trans (h10.mono hb9.size)
          have SV := rsamever_any key' A2 xs2.length c2 o2 x2 0 0 0 ⟨#[]⟩ xs2 key A n c o x 0 0 0 ⟨#[]⟩ xs w10 (hN9.below h10) (V.out.ints.below hb10) (by decide) (by decide)
          rw [hne2] at SV
          simp only [verV] at SV
          obtain ⟨g0, g1, g2, g3, g4, g5, g6, g7⟩ := ver_cells (BX.below h10 BX.lt)
          obtain ⟨f0, f1, f2, f3, f4, f5, f6, f7⟩ := ver_cells (B9.below h10 B9.lt)
          have SV := Lib.hid SV
          have hb10 := Lib.hid hb10
          clear BX B9 hb9 hN9 h10 hne2
          go_wp2_with fail
          refine SV.out.mono ?_
          rintro e w11 ⟨rfl, h11⟩
          have hb11 := hb10.out.trans (h11.mono hb10.out.size)
          go_wp2_with fail
          go_ret
          exact ⟨rfl, hb11⟩
        · clear h8 B7 hb7
          go_wp2_with fail
          refine (kalive_any _).mono ?_
          rintro e w10 ⟨rfl, h10⟩
          have hb10 := (below_alloc hb8.out (Nat.le_refl _) _).trans (h10.mono (by have := hb8.out.size; simp; omega))
          go_wp2_with fail
          go_ret
          exact ⟨rfl, hb10⟩
  · obtain ⟨c0, c1, c2, c3, c4, c5, c6, c7⟩ := ver_cells B1.out
    rw [hok] at PV
    clear c0 c1 c2 c3 c4 c5 c6 c7
    go_wp2_with fail
    refine (kalive_any _).mono ?_
    rintro e w2 ⟨rfl, h2⟩
    have hb2 := Lib.hid (hb1.out.trans (h2.mono hb1.out.size))
    have B2 := Lib.hid (B1.out.below h2 B1.out.lt)
    obtain ⟨c0, c1, c2, c3, c4, c5, c6, c7⟩ := ver_cells B2.out
    clear hb1 B1 h2
    go_wp2_with fail
    refine (PV _ (V.out.below hb2.out)).out.mono ?_
    rintro e w3 ⟨rfl, h3⟩
    have hb3 := hb2.out.trans (h3.mono hb2.out.size)
    go_wp2_with fail
    go_ret
    exact ⟨rfl, hb3⟩
end Go.Proofs.YthjphiniljopgaaDoor
