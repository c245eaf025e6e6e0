/-
  RawBack: what is put is got as it was, whatever stands behind it.
-/
import Derived.Test.YtkjfhgaiakienaaDoorAlive
import Derived.Test.YtkjfhgaiakienaaDoorRaw7
import Derived.Test.YtkjfhgaiakienaaDoorRaw11
import Derived.Test.YtkjfhgaiakienaaDoorRawShort
import Derived.Test.YtkjfhgaiakienaaDoorQuotePlain
import Derived.Test.YtkjfhgaiakienaaDoorNumPlain
import Derived.Test.YtkjfhgaiakienaaDoorItoaPlain
namespace Go.Proofs.YtkjfhgaiakienaaDoor
open Go.RowKit

theorem get_put {v n : Int} {s : ByteArray} (h : PutIs v n s 0) : 1 ≤ s.size ∧ s.size ≤ 7 ∧ (s.size : Int) = n ∧ ((getL s.data.toList : Nat) : Int) = v := by
  rcases h with ⟨_, h1, h2, h3, h4, rfl⟩ | ⟨h, _⟩
  · obtain ⟨n, rfl⟩ := Int.eq_ofNat_of_zero_le (show 0 ≤ n by omega)
    obtain ⟨v, rfl⟩ := Int.eq_ofNat_of_zero_le h3
    have h5 : v < 2 ^ (8 * n) := by
      have : ((v : Nat) : Int) < ((2 ^ (8 * n) : Nat) : Int) := by
        have h6 := h4
        rw [Int.toNat_natCast] at h6
        push_cast
        exact h6
      omega
    have hsz : (⟨(be v n).toArray⟩ : ByteArray).size = n := by rw [size_mk, be_length]
    rw [Int.toNat_natCast, Int.toNat_natCast, hsz]
    refine ⟨by omega, by omega, rfl, ?_⟩
    show ((getL (be v n) : Nat) : Int) = _
    rw [getL_be n v h5]
  · exact absurd h (by decide)

set_option maxRecDepth 100000 in
set_option maxHeartbeats 1000000 in
theorem rawBack_big (v n : Int) (b more : ByteArray) (w : World) (hL : Laid w) (hb : b.size ≤ 140737488351232) (hm : more.size ≤ 140737488351232) (h : 9000 < b.size + more.size) :
    Calls Tryd.prog 7 #[.int .i64 v, .int .i64 n, .string b, .string more] w fun e w' => e = .returned (.bool true) ∧ Below w.heap.size w w' := by
  go_enter Tryd.func7, Tryd.ntmps7
  go_wp2_with fail
  refine (alive_any w hL).mono ?_
  rintro e w1 ⟨rfl, hb1⟩
  go_wp2_with fail
  go_ret
  exact ⟨rfl, hb1⟩

/-- What Number answers of Digits. -/
def BackIs (v x en : Int) : Prop :=
  (en = 0 ∧ x = v ∧ decide (v ≤ -10000000000000000) = false ∧ decide (10000000000000000 ≤ v) = false) ∨ (en = 4 ∧ x = 0 ∧ decide (v ≤ -10000000000000000) = true) ∨
    (en = 4 ∧ x = 0 ∧ decide (v ≤ -10000000000000000) = false ∧ decide (10000000000000000 ≤ v) = true)

theorem number_back (v : Int) (w : World) (h0 : -9223372036854775808 ≤ v) (h1 : v ≤ 9223372036854775807) :
    Calls Tryd.prog 17 #[.string ⟨(Lib.itoa v).toArray⟩] w fun e w' => ∃ x en : Int, e = .returned (.tuple #[.int .i64 x, .int .i64 en]) ∧ Hid (BackIs v x en) ∧ Below w.heap.size w w' := by
  have hl := itoa_len v h0 h1
  have N := number_any ⟨(Lib.itoa v).toArray⟩ w (by rw [size_mk]; omega)
  rw [show (⟨(Lib.itoa v).toArray⟩ : ByteArray).data.toList = Lib.itoa v from rfl, numL_itoa] at N
  refine N.mono ?_
  rintro e w1 ⟨rfl, hb1⟩
  refine ⟨_, _, rfl, ?_, hb1⟩
  show BackIs _ _ _
  by_cases h : -10000000000000000 < v ∧ v < 10000000000000000
  · rw [if_pos h]
    exact Or.inl ⟨rfl, rfl, decide_eq_false (by omega), decide_eq_false (by omega)⟩
  · rw [if_neg h]
    by_cases h2 : v ≤ -10000000000000000
    · exact Or.inr (Or.inl ⟨rfl, rfl, decide_eq_true h2⟩)
    · exact Or.inr (Or.inr ⟨rfl, rfl, decide_eq_false h2, decide_eq_true (by omega)⟩)

set_option maxRecDepth 100000 in
set_option maxHeartbeats 4000000 in
theorem rawBack_small (v n : Int) (b more : ByteArray) (w : World) (hL : Laid w) (hv0 : -9223372036854775808 ≤ v) (hv1 : v ≤ 9223372036854775807) (h : b.size + more.size ≤ 9000) :
    Calls Tryd.prog 7 #[.int .i64 v, .int .i64 n, .string b, .string more] w fun e w' => e = .returned (.bool true) ∧ Below w.heap.size w w' := by
  have HL := Lib.hid hL
  have hq := quote_len b.data.toList
  rw [show b.data.toList.length = b.size from rfl] at hq
  obtain ⟨q, hqe⟩ : ∃ q : ByteArray, q = ⟨(quoteL b.data.toList).toArray⟩ := ⟨_, rfl⟩
  have hqs : q.size ≤ 36002 := by rw [hqe, size_mk]; omega
  have hqd : unq (q ++ more).data.toList = some (b.data.toList, q.size) := by
    rw [hqe, size_mk, ByteArray.data_append, Array.toList_append]
    exact unq_quote _ _
  have hzz : (⟨b.data.toList.toArray⟩ : ByteArray) = b := by cases b; simp
  have U := fun W => unquote_ok (q ++ more) b.data.toList q.size W (by rw [ByteArray.size_append]; omega) hqd
  rw [hzz] at U
  have Q := fun W => quote_any b W (by omega)
  rw [← hqe] at Q
  have Q := fun W => Lib.hid (Q W)
  have U := fun W => Lib.hid (U W)
  have D := fun W (hW : Laid W) => Lib.hid (digits_any v W hv0 hv1 hW.pow10)
  have N := fun W => Lib.hid (number_back v W hv0 hv1)
  have P := fun W => Lib.hid (put_any v n W hv0 (by omega))
  obtain ⟨p, pd, hpd⟩ : ∃ p : ByteArray, p = p ∧ p = ⟨(pv v.toNat).toArray⟩ := ⟨_, rfl, rfl⟩
  have V : 0 ≤ v → ∀ W, Hid (Calls Tryd.prog 22 #[.int .i64 v] W fun e w' => e = .returned (.string p) ∧ Below W.heap.size W w') := by
    intro h0 W
    have := putvar_any v.toNat W (by omega)
    rw [Int.toNat_of_nonneg h0, ← hpd] at this
    exact this
  have G : 0 ≤ v → ∀ W, Hid (Calls Tryd.prog 15 #[.string (p ++ more)] W fun e w' => e = .returned (.tuple #[.int .i64 v, .int .i64 (p.size : Int), .int .i64 0]) ∧ Below W.heap.size W w') := by
    intro h0 W
    have hp9 := pv_len9 v.toNat (by omega)
    have hps : p.size = (pv v.toNat).length := by rw [hpd, size_mk]
    have hgv : gv (p ++ more).data.toList 0 0 = .ok v.toNat p.size := by
      rw [hps, hpd, ByteArray.data_append, Array.toList_append]
      have := gv_pv more.data.toList v.toNat 0 0 (by omega) (by omega)
      rw [Nat.zero_add, Nat.zero_add] at this
      simpa using this
    have := getvar_ok (p ++ more) v.toNat p.size W (by rw [ByteArray.size_append]; omega) hgv
    rw [Int.toNat_of_nonneg h0] at this
    exact this
  have hps : p.size ≤ 9 := by
    rw [hpd, size_mk]
    have := pv_len9 v.toNat (by omega)
    omega
  clear hL hq hqe hqd hzz pd hpd
  go_enter Tryd.func7, Tryd.ntmps7
  go_wp2_with fail
  refine (P w).out.mono ?_
  rintro e w1 ⟨s, es, rfl, Hs, hb1⟩
  clear P
  have Gs : (es = 0 ∧ 1 ≤ s.size ∧ s.size ≤ 7 ∧ (s.size : Int) = n ∧ ((getL s.data.toList : Nat) : Int) = v) ∨ es = 1 := by
    have := Hs.out
    rcases this with ⟨h, h2⟩ | ⟨h, _⟩
    · exact Or.inl ⟨h, get_put (h ▸ Hs.out)⟩
    · exact Or.inr h
  clear Hs
  rcases Gs with ⟨rfl, g1, g2, g3, g4⟩ | rfl
  · have h0 : 0 ≤ v := by omega
    have G2 := get_ok s w1 g1 g2
    rw [g4] at G2
    have GG := Lib.hid G2
    clear G2 g4
    go_wp2_with fail
    refine GG.out.mono ?_
    rintro e w2 ⟨rfl, rfl⟩
    clear GG
    go_wp2_with fail
    refine (V h0 w1).out.mono ?_
    rintro e w2 ⟨rfl, hb2⟩
    go_wp2_with fail
    refine (G h0 w2).out.mono ?_
    rintro e w3 ⟨rfl, hb3⟩
    go_wp2_with fail
    refine (V h0 w3).out.mono ?_
    rintro e w4 ⟨rfl, hb4⟩
    have b4 : Below w.heap.size w w4 := by
      have x2 := hb1.trans (hb2.mono hb1.size)
      have x3 := x2.trans (hb3.mono x2.size)
      exact x3.trans (hb4.mono x3.size)
    clear hb1 hb2 hb3 hb4
    go_wp2_with fail
    refine (Q w4).out.mono ?_
    rintro e w5 ⟨rfl, hb5⟩
    go_wp2_with fail
    refine (U w5).out.mono ?_
    rintro e w6 ⟨rfl, hb6⟩
    go_wp2_with fail
    refine (Q w6).out.mono ?_
    rintro e w7 ⟨rfl, hb7⟩
    have b7 : Below w.heap.size w w7 := by
      have x2 := b4.trans (hb5.mono b4.size)
      have x3 := x2.trans (hb6.mono x2.size)
      exact x3.trans (hb7.mono x3.size)
    have L7 := HL.out.on b7
    go_wp2_with fail
    refine (D w7 L7).out.mono ?_
    rintro e w8 ⟨rfl, hb8⟩
    go_wp2_with fail
    refine (N w8).out.mono ?_
    rintro e w9 ⟨x, en, rfl, Hn, hb9⟩
    have b9 : Below w.heap.size w w9 := by
      have x2 := b7.trans (hb8.mono b7.size)
      exact x2.trans (hb9.mono x2.size)
    have L9 := HL.out.on b9
    go_wp2_with fail
    refine (alive_any w9 L9).mono ?_
    rintro e w10 ⟨rfl, hb10⟩
    have b10 := b9.trans (hb10.mono b9.size)
    rcases Hn.out with ⟨rfl, rfl, c1, c2⟩ | ⟨rfl, rfl, c1⟩ | ⟨rfl, rfl, c1, c2⟩
    all_goals
      go_wp2_with fail
      go_ret
      exact ⟨rfl, b10⟩
  · by_cases h0 : 0 ≤ v
    · go_wp2_with fail
      refine (V h0 w1).out.mono ?_
      rintro e w2 ⟨rfl, hb2⟩
      go_wp2_with fail
      refine (G h0 w2).out.mono ?_
      rintro e w3 ⟨rfl, hb3⟩
      go_wp2_with fail
      refine (V h0 w3).out.mono ?_
      rintro e w4 ⟨rfl, hb4⟩
      have b4 : Below w.heap.size w w4 := by
        have x2 := hb1.trans (hb2.mono hb1.size)
        have x3 := x2.trans (hb3.mono x2.size)
        exact x3.trans (hb4.mono x3.size)
      clear hb1 hb2 hb3 hb4
      go_wp2_with fail
      refine (Q w4).out.mono ?_
      rintro e w5 ⟨rfl, hb5⟩
      go_wp2_with fail
      refine (U w5).out.mono ?_
      rintro e w6 ⟨rfl, hb6⟩
      go_wp2_with fail
      refine (Q w6).out.mono ?_
      rintro e w7 ⟨rfl, hb7⟩
      have b7 : Below w.heap.size w w7 := by
        have x2 := b4.trans (hb5.mono b4.size)
        have x3 := x2.trans (hb6.mono x2.size)
        exact x3.trans (hb7.mono x3.size)
      have L7 := HL.out.on b7
      go_wp2_with fail
      refine (D w7 L7).out.mono ?_
      rintro e w8 ⟨rfl, hb8⟩
      go_wp2_with fail
      refine (N w8).out.mono ?_
      rintro e w9 ⟨x, en, rfl, Hn, hb9⟩
      have b9 : Below w.heap.size w w9 := by
        have x2 := b7.trans (hb8.mono b7.size)
        exact x2.trans (hb9.mono x2.size)
      have L9 := HL.out.on b9
      go_wp2_with fail
      refine (alive_any w9 L9).mono ?_
      rintro e w10 ⟨rfl, hb10⟩
      have b10 := b9.trans (hb10.mono b9.size)
      rcases Hn.out with ⟨rfl, rfl, c1, c2⟩ | ⟨rfl, rfl, c1⟩ | ⟨rfl, rfl, c1, c2⟩
      all_goals
        go_wp2_with fail
        go_ret
        exact ⟨rfl, b10⟩
    · generalize w1 = w4 at *
      have b4 : Below w.heap.size w w4 := hb1
      clear hb1 V G
      go_wp2_with fail
      refine (Q w4).out.mono ?_
      rintro e w5 ⟨rfl, hb5⟩
      go_wp2_with fail
      refine (U w5).out.mono ?_
      rintro e w6 ⟨rfl, hb6⟩
      go_wp2_with fail
      refine (Q w6).out.mono ?_
      rintro e w7 ⟨rfl, hb7⟩
      have b7 : Below w.heap.size w w7 := by
        have x2 := b4.trans (hb5.mono b4.size)
        have x3 := x2.trans (hb6.mono x2.size)
        exact x3.trans (hb7.mono x3.size)
      have L7 := HL.out.on b7
      go_wp2_with fail
      refine (D w7 L7).out.mono ?_
      rintro e w8 ⟨rfl, hb8⟩
      go_wp2_with fail
      refine (N w8).out.mono ?_
      rintro e w9 ⟨x, en, rfl, Hn, hb9⟩
      have b9 : Below w.heap.size w w9 := by
        have x2 := b7.trans (hb8.mono b7.size)
        exact x2.trans (hb9.mono x2.size)
      have L9 := HL.out.on b9
      go_wp2_with fail
      refine (alive_any w9 L9).mono ?_
      rintro e w10 ⟨rfl, hb10⟩
      have b10 := b9.trans (hb10.mono b9.size)
      rcases Hn.out with ⟨rfl, rfl, c1, c2⟩ | ⟨rfl, rfl, c1⟩ | ⟨rfl, rfl, c1, c2⟩
      all_goals
        go_wp2_with fail
        go_ret
        exact ⟨rfl, b10⟩

theorem lawRawBack (v : Int) (hv : (Lit.int .i64 v).wf = true) (n : Int) (_hn : (Lit.int .i64 n).wf = true) (b : ByteArray) (hb : b.size ≤ 140737488351232) (more : ByteArray) (hm : more.size ≤ 140737488351232) (w : World) (hL : Laid w) :
    Calls Tryd.prog 7 #[.int .i64 v, .int .i64 n, .string b, .string more] w fun e w' => e = .returned (.bool true) ∧ Below w.heap.size w w' := by
  have h1 := bounds_i64 hv
  by_cases h : 9000 < b.size + more.size
  · exact rawBack_big v n b more w hL hb hm h
  · exact rawBack_small v n b more w hL (by omega) (by omega) (by omega)
end Go.Proofs.YtkjfhgaiakienaaDoor
