/-
  IkeyFolded: what was folded together stands by the greatest of its times, ahead of what was done at that time.
-/
import Derived.Test.YthjphiniljopgaaDoorIkC
import Derived.Test.YthjphiniljopgaaDoorIkT
import Derived.Test.YthjphiniljopgaaDoorVec3
namespace Go.Proofs.YthjphiniljopgaaDoor
open Go.RowKit

set_option maxRecDepth 100000 in
set_option maxHeartbeats 4000000 in
theorem lawIkeyFolded (key : ByteArray) (A : Option Addr) (n c : Nat) (o x kd : Int) (nu : Nat) (it : Int) (tx : ByteArray) (xs : List Int) (i : Int) (hi : (Lit.int .i64 i).wf = true) (w : World) (V : VerIn w key A n xs o x kd nu it tx) :
    Calls Tryd.prog 6 #[verV key A n c o x kd nu it tx, .int .i64 i] w fun e w' => e = .returned (.bool true) ∧ Below w.heap.size w w' := by
  unfold verV
  have PC := fun W h => Lib.hid (kput_any key A n c 254 x kd nu it tx xs W h)
  have PD := fun W h => Lib.hid (kput_any key A n c i x kd nu it tx xs W h)
  simp only [verV] at PC PD
  have B0 : Blk (w.alloc (.cells #[.string key, .slice A n c, .int .i64 254, .int .i64 x, .int .i64 kd, .float .f64 nu, .int .i64 it, .string tx] 28)) w.heap.size 28 (verC key A n c 254 x kd nu it tx) := Blk.new w _ _
  have hb0 : Below w.heap.size w (w.alloc (.cells #[.string key, .slice A n c, .int .i64 254, .int .i64 x, .int .i64 kd, .float .f64 nu, .int .i64 it, .string tx] 28)) := (Below.refl _ w).alloc (Nat.le_refl _) _
  have V2 : Hid (VerIn w key A n xs 254 x kd nu it tx) := ⟨V.ints, V.ks, by decide, V.xw, V.kw, V.nw, V.iw, V.ts⟩
  have V3 : Hid (VerIn w key A n xs i x kd nu it tx) := ⟨V.ints, V.ks, hi, V.xw, V.kw, V.nw, V.iw, V.ts⟩
  have hlen := V.ints.len
  have hst := run_sto_f64
  clear V hi
  go_enter Tryd.func6, Tryd.ntmps6
  go_wp2_with fail
  generalize w.alloc (.cells #[.string key, .slice A n c, .int .i64 254, .int .i64 x, .int .i64 kd, .float .f64 nu, .int .i64 it, .string tx] 28) = w0 at B0 hb0 ⊢
  have B1 := Lib.hid B0
  have hb1 := Lib.hid hb0
  clear B0 hb0
  refine (PC _ (V2.out.below hb1.out)).out.mono ?_
  rintro e w2 ⟨hR, h2⟩
  have hb2 := Lib.hid (hb1.out.trans (h2.mono hb1.out.size))
  have B2 := Lib.hid (B1.out.below h2 B1.out.lt)
  clear hb1 B1 h2
  rcases hR with ⟨hok, rfl⟩ | ⟨_, rfl⟩
  · obtain ⟨c0, c1, c2, c3, c4, c5, c6, c7⟩ := ver_cells B2.out
    have e1 : (w2.alloc (.cells #[.string key, .slice A n c, .int .i64 i, .int .i64 x, .int .i64 kd, .float .f64 nu, .int .i64 it, .string tx] 28)).cell? ⟨w.heap.size, 1, none⟩ = some (.slice A n c) := (B2.out.alloc _).cell 1
    have B3 : Hid (Blk (w2.alloc (.cells #[.string key, .slice A n c, .int .i64 i, .int .i64 x, .int .i64 kd, .float .f64 nu, .int .i64 it, .string tx] 28)) w.heap.size 28 (verC key A n c 254 x kd nu it tx)) := B2.out.alloc _
    have hb3 : Hid (Below w.heap.size w (w2.alloc (.cells #[.string key, .slice A n c, .int .i64 i, .int .i64 x, .int .i64 kd, .float .f64 nu, .int .i64 it, .string tx] 28))) := below_alloc hb2.out (Nat.le_refl _) _
    by_cases hr : 0 ≤ i ∧ i < (n : Int)
    · obtain ⟨hr0, hr1⟩ := hr
      obtain ⟨hok2, hlt, hge⟩ := putVL_folded (okV_of hok) hr0 (by omega)
      have hv := (okV_of hok).at_
      have hok2 := hok2.ok
      have hwv := Lib.hid (valid_mem hv)
      have hvl := Lib.hid hlen
      have hnl := (validL_of hv).1
      have J := Lib.hid V2.out.ints
      have hst2 : Op.bytesLess (⟨(putVL key.data.toList xs 254 x).toArray⟩ : ByteArray).toList (⟨(putVL key.data.toList xs i x).toArray⟩ : ByteArray).toList = true := by
        rw [str_less, mk_data, mk_data]
        exact hlt
      generalize (⟨(putVL key.data.toList xs 254 x).toArray⟩ : ByteArray) = S at *
      generalize (⟨(putVL key.data.toList xs i x).toArray⟩ : ByteArray) = U at *
      rw [hok2] at PD
      have hge := Lib.hid hge
      have hnl := Lib.hid hnl
      clear hok hok2 hlt hv hlen
      go_wp2_with fail
      refine (PD _ (V3.out.below hb3.out)).out.mono ?_
      rintro e w4 ⟨hR2, h4⟩
      have hb4 := Lib.hid (hb3.out.trans (h4.mono hb3.out.size))
      have B4 := Lib.hid (B3.out.below h4 B3.out.lt)
      rcases hR2 with ⟨_, rfl⟩ | ⟨hf, _⟩
      · clear c0 c1 c2 c3 c4 c5 c6 c7 e1 B2 B3 hb2 hb3 h4 PC PD V3
        have d1 : w4.cell? ⟨w.heap.size, 1, none⟩ = some (.slice A n c) := B4.out.cell 1
        have J4 := Lib.hid (J.out.below hb4.out)
        have hmx := J.out.max
        go_wp2_with fail
        go_loop [10, 11] (fun t j => ∃ k : Nat, k ≤ n ∧ j = .int .i64 (k : Int) ∧ t = .int .i64 (mostL (xs.take k))) (fun _ j => n - (intOf j).toNat)
        case atStart => exact ⟨0, by omega, rfl, rfl⟩
        case round =>
          obtain ⟨k, hk, rfl, rfl⟩ := hrel
          by_cases hl : k < n
          · obtain ⟨b, off, rfl, _, hc⟩ := J4.out.some (by omega)
            have d := hc k hl
            have st := Lib.hid (most_step xs k (by rw [hvl.out]; exact hl))
            have hmax := run_max2 (mostL (xs.take k)) (xs.getD k 0)
            obtain ⟨y, hy⟩ : ∃ y, xs.getD k 0 = y := ⟨_, rfl⟩
            rw [hy] at d st hmax
            have hl1 : (k : Int) < (n : Int) := by omega
            clear hc hy
            rw [← st.out] at hmax
            go_wp2_with fail
            go_round
            case rel => exact ⟨k + 1, by omega, by go_num, by rw [st.out]⟩
            case measure => simp [intOf]; omega
          · have hl1 : ¬ (k : Int) < (n : Int) := by omega
            have e : xs.take k = xs := List.take_of_length_le (by rw [hvl.out]; omega)
            rw [e]
            clear e
            obtain ⟨b, off, rfl, hbl, hc⟩ := J.out.some (by omega)
            obtain ⟨t, ht⟩ : ∃ t : Nat, i = (t : Int) := ⟨i.toNat, by omega⟩
            subst ht
            have d := hc t (by omega)
            have hge := hge.out
            rw [Int.toNat_natCast] at hge
            clear hc
            go_wp2_with fail
            refine (kalive_any _).mono ?_
            rintro e w5 ⟨rfl, h5⟩
            have hb5 := Lib.hid (hb4.out.trans (h5.mono hb4.out.size))
            have g1 : w5.cell? ⟨w.heap.size, 1, none⟩ = some (.slice (some ⟨b, off, none⟩) n c) := (B4.out.below h5 B4.out.lt).cell 1
            have g2 := (hb5.out.cell (p := ⟨b, off + t, none⟩) hbl).trans d
            generalize mostL xs = m at *
            generalize xs.getD t 0 = y at *
            clear d h5
            go_wp2_with fail
            go_ret
            exact ⟨rfl, hb5.out⟩
      · cases hf
    · by_cases hi0 : i < 0
      · clear hr
        go_wp2_with fail
        refine (kalive_any _).mono ?_
        rintro e w5 ⟨rfl, h5⟩
        have hb5 := hb3.out.trans (h5.mono hb3.out.size)
        go_wp2_with fail
        go_ret
        exact ⟨rfl, hb5⟩
      · have hi1 : (n : Int) ≤ i := by omega
        clear hr
        go_wp2_with fail
        refine (kalive_any _).mono ?_
        rintro e w5 ⟨rfl, h5⟩
        have hb5 := hb3.out.trans (h5.mono hb3.out.size)
        go_wp2_with fail
        go_ret
        exact ⟨rfl, hb5⟩
  · go_wp2_with fail
    refine (kalive_any _).mono ?_
    rintro e w5 ⟨rfl, h5⟩
    have hb5 := hb2.out.trans (h5.mono hb2.out.size)
    go_wp2_with fail
    go_ret
    exact ⟨rfl, hb5⟩
end Go.Proofs.YthjphiniljopgaaDoor
