/-
  OpGrows: a greatest number never falls, a least one never rises, when something more is done; a sum goes on by what is added.
-/
import Derived.Test.YthacdegaeokgnaaDoorM7
import Derived.Test.YthacdegaeokgnaaDoorM8
import Derived.Deep.Cut
namespace Go.Proofs.YthacdegaeokgnaaDoor
open Go.RowKit

/-- A version that has an act alone. -/
def verA (kd : Int) (nu : Nat) (it : Int) : VerR := ⟨⟨#[]⟩, none, 0, 0, 0, 0, kd, nu, it, ⟨#[]⟩, []⟩
theorem verA_in {kd : Int} {nu : Nat} {it : Int} (hk : (Lit.int .i64 kd).wf = true) (hn : (Lit.float .f64 nu).wf = true) (hi : (Lit.int .i64 it).wf = true) (w : World) : (verA kd nu it).in_ w :=
  ⟨ints_nil w, Nat.zero_le _, (by decide : (Lit.int .i64 0).wf = true), (by decide : (Lit.int .i64 0).wf = true), hk, hn, hi, Nat.zero_le _⟩
theorem grow_in {w w2 : World} {A : Option Addr} {n B : Nat} {e : TypeId} {v2 : Value} {vs : List VerR} {r : VerR} (I : VersIn w A n vs) (R2 : VRow w2 B e v2 (vs ++ [r])) (hb : Below w.heap.size w w2) (hr : r.in_ w2) :
    ∃ A2 c2, v2 = .slice A2 (n + 1) c2 ∧ VersIn w2 A2 (n + 1) (vs ++ [r]) := by
  have hl := I.len
  subst hl
  exact vrow_in R2 (fun j hj => (I.each j hj).below hb) hr
theorem fold_snoc (key : List UInt8) (vs : List VerR) (r : VerR) : foldA key ((vs ++ [r]).map s6) = afterA key (foldA key (vs.map s6)) (s6 r).a := by
  unfold foldA
  rw [List.map_append, List.foldl_append]
  rfl
theorem no_lss {x y : Nat} (hx : x < 18446744073709551616) (hy : y < 18446744073709551616) (h : rankN y ≤ rankN x) : (FloatKind.f64.format.order x y == some .lt) = false := by
  rw [lss_eq]
  cases nx : isN x
  · cases ny : isN y
    · have := (rank_cases x y hx hy nx ny).1
      simp
      have h2 : ¬ nkey x < nkey y := fun h3 => by have := this h3; omega
      omega
    · rfl
  · rfl
theorem no_gtr {x y : Nat} (hx : x < 18446744073709551616) (hy : y < 18446744073709551616) (h : rankN x ≤ rankN y) : (FloatKind.f64.format.order x y == some .gt) = false := by
  rw [gtr_eq]
  cases nx : isN x
  · cases ny : isN y
    · have := (rank_cases x y hx hy nx ny).2.1
      simp
      have h2 : ¬ nkey y < nkey x := fun h3 => by have := this h3; omega
      omega
    · rfl
  · rfl
theorem grows_x {th ta : Bool} {nu na f : Nat} {it ia : Int} {tx xa : ByteArray} (h : v6 th nu it tx = afterA [120] (v6 ta na ia xa) (a6 2 f 0 ⟨#[]⟩)) :
    th = true ∧ rankN nu = (if ta then max (rankN na) (rankN f) else rankN f) ∧ it = 0 ∧ tx.data.toList = [] := by
  have hf : fitsA [120] (a6 2 f 0 ⟨#[]⟩) = true := by
    unfold fitsA rightA takesA isKeyL a6
    simp
  unfold afterA at h
  rw [hf, if_pos rfl] at h
  have h : v6 th nu it tx = ⟨true, if ta then max (rankN na) (rankN f) else rankN f, 0, []⟩ := h
  exact ⟨congrArg V6.th h, congrArg V6.r h, congrArg V6.it h, congrArg V6.tx h⟩
theorem grows_n {th ta : Bool} {nu na f : Nat} {it ia : Int} {tx xa : ByteArray} (h : v6 th nu it tx = afterA [110] (v6 ta na ia xa) (a6 3 f 0 ⟨#[]⟩)) :
    th = true ∧ rankN nu = (if ta then min (rankN na) (rankN f) else rankN f) := by
  have hf : fitsA [110] (a6 3 f 0 ⟨#[]⟩) = true := by
    unfold fitsA rightA takesA isKeyL a6
    simp
  unfold afterA at h
  rw [hf, if_pos rfl] at h
  have h : v6 th nu it tx = ⟨true, if ta then min (rankN na) (rankN f) else rankN f, 0, []⟩ := h
  exact ⟨congrArg V6.th h, congrArg V6.r h⟩
theorem grows_c {th ta : Bool} {nu na : Nat} {it ia z : Int} {tx xa : ByteArray} (h : v6 th nu it tx = afterA [99] (v6 ta na ia xa) (a6 1 0 z ⟨#[]⟩)) :
    th = true ∧ it = (if ta then wrap64 (ia + z) else z) := by
  have hf : fitsA [99] (a6 1 0 z ⟨#[]⟩) = true := by
    unfold fitsA rightA takesA isKeyL a6
    rw [rank_zero]
    simp
  unfold afterA at h
  rw [hf, if_pos rfl] at h
  have h : v6 th nu it tx = ⟨true, zr, if ta then wrap64 (ia + z) else z, []⟩ := h
  exact ⟨congrArg V6.th h, congrArg V6.it h⟩

set_option maxRecDepth 100000 in
set_option maxHeartbeats 1000000 in
theorem opgrows_big (A : Option Addr) (n c : Nat) (f : Nat) (z : Int) (w : World) (hL : LaidO w) (hn : 60 < n) (hmx : n ≤ 9223372036854775807) :
    Calls Tryd.prog 10 #[.slice A n c, .float .f64 f, .int .i64 z] w fun e w' => e = .returned (.bool true) ∧ Below w.heap.size w w' := by
  have e1 : (60 : Int) < (n : Int) := by omega
  go_enter Tryd.func10, Tryd.ntmps10
  go_wp2_with fail
  refine (oalive_any w hL).mono ?_
  rintro e w2 ⟨rfl, g2⟩
  go_wp2_with fail
  go_ret
  exact ⟨rfl, g2⟩

set_option maxRecDepth 100000 in
set_option maxHeartbeats 8000000 in
theorem lawOpGrows (A : Option Addr) (n c : Nat) (vs : List VerR) (f : Nat) (hf : (Lit.float .f64 f).wf = true) (z : Int) (hz : (Lit.int .i64 z).wf = true) (w : World) (I : VersIn w A n vs) (hL : LaidO w) :
    Calls Tryd.prog 10 #[.slice A n c, .float .f64 f, .int .i64 z] w fun e w' => e = .returned (.bool true) ∧ Below w.heap.size w w' := by
  have hmx := I.max
  by_cases hn : 60 < n
  · exact opgrows_big A n c f z w hL hn hmx
  have hlen := I.len
  have I := Lib.hid I
  have e1 : ¬ (60 : Int) < (n : Int) := by omega
  have HF := Lib.hid hf
  have HF2 := Lib.hid (wf_f64 hf)
  have HZ := Lib.hid hz
  have HN1 : Hid (n ≤ 100000) := by unfold Hid; omega
  have HN2 : Hid (vs.length ≤ 100000) := by unfold Hid; omega
  clear hf hz hlen
  have hst := run_sto_f64
  go_enter Tryd.func10, Tryd.ntmps10
  go_wp2_with fail
  go_loop [7] (fun i => ∃ k : Nat, k ≤ n ∧ i = .int .i64 (k : Int)) (fun i => n - (intOf i).toNat)
  case atStart => exact ⟨0, by omega, rfl⟩
  case round =>
    obtain ⟨k, hk, rfl⟩ := hrel
    by_cases hkl : k < n
    · obtain ⟨b, off, rfl, hbl, hcells⟩ := I.out.some (by omega)
      obtain ⟨r, hr⟩ : ∃ r, vs.getD k VerR.zero = r := ⟨_, rfl⟩
      obtain ⟨d0, d1, d2, d3, d4, d5, d6, d7⟩ := VersIn.at_ hcells hkl hr
      have hkl' : (k : Int) < (n : Int) := by omega
      have AL := Lib.hid (oalive_any w hL)
      clear hcells hr HF HF2 HZ
      by_cases g1 : (8 : Int) < (r.n : Int)
      · go_wp2_with fail
        refine AL.out.mono ?_
        rintro e w2 ⟨rfl, g2⟩
        go_wp2_with fail
        go_ret
        exact ⟨rfl, g2⟩
      · by_cases g2 : (2000 : Int) < (r.tx.size : Int)
        · go_wp2_with fail
          refine AL.out.mono ?_
          rintro e w2 ⟨rfl, g2⟩
          go_wp2_with fail
          go_ret
          exact ⟨rfl, g2⟩
        · go_wp2_with fail
          go_round
          case rel => exact ⟨k + 1, by omega, by go_num⟩
          case measure => simp [intOf]; omega
    · obtain rfl : k = n := by omega
      have hb0 := Lib.hid (Below.refl w.heap.size w)
      have I0 := Lib.hid (I.out.below hb0.out)
      go_wp2_with (first
        | (at_builtin; refine wpList_append_vers0 _ rfl _ _ rfl rfl rfl I0.out HN1.out ?_; intro va0 wa0 R1 hc1)
        | (at_builtin; refine wpList_append_ver1 _ rfl _ _ rfl (verA 2 f 0) rfl (VRow.below R1 ((Below.refl _ wa0).alloc (Nat.le_refl _) (.cells #[.string ⟨#[]⟩, .slice none 0 0, .int .i64 0, .int .i64 0, .int .i64 2, .float .f64 f, .int .i64 0, .string ⟨#[]⟩] 44)) (Nat.le_refl _)) wa0.heap.size 1 rfl (Blk.new wa0 _ _) HN2.out (Nat.le_trans hc1.size (by simp)) ?_; intro v2 wb0 R2 g2; have hc2 := VRow.grown (VRow.below R1 ((Below.refl _ wa0).alloc (Nat.le_refl _) (.cells #[.string ⟨#[]⟩, .slice none 0 0, .int .i64 0, .int .i64 0, .int .i64 2, .float .f64 f, .int .i64 0, .string ⟨#[]⟩] 44)) (Nat.le_refl _)) (hc1.alloc hc1.size (.cells #[.string ⟨#[]⟩, .slice none 0 0, .int .i64 0, .int .i64 0, .int .i64 2, .float .f64 f, .int .i64 0, .string ⟨#[]⟩] 44)) (Nat.le_trans hc1.size (by simp)) g2; obtain ⟨A0, c0, rfl, V2⟩ := grow_in I0.out R2 hc2 (verA_in (by decide) HF.out (by decide) _); clear R1 R2 g2))
      have hd := Lib.hid (hb0.out.trans (hc2.mono hb0.out.size))
      have HC2 := Lib.hid hc2
      clear hc1 hc2
      refine (ovalue_any ⟨#[120]⟩ (by decide) A0 (k + 1) c0 _ _ V2).mono ?_
      rintro e wc0 ⟨⟨th0, nu0, it0, tx0, rfl, IV0, hx0⟩, g3⟩
      have HX0 := Lib.hid hx0
      have hd3 := Lib.hid (hd.out.trans (g3.mono hd.out.size))
      have hc3 := Lib.hid (HC2.out.trans (g3.mono HC2.out.size))
      have hb1 := Lib.hid (hd3.out.alloc hd3.out.size (.cells #[.bool th0, .float .f64 nu0, .int .i64 it0, .string tx0] 26))
      have hc4 := Lib.hid (hc3.out.alloc hc3.out.size (.cells #[.bool th0, .float .f64 nu0, .int .i64 it0, .string tx0] 26))
      have BB0 := Lib.hid (Blk.new wc0 26 #[.bool th0, .float .f64 nu0, .int .i64 it0, .string tx0])
      have IV0 := Lib.hid IV0
      clear hx0 g3 hd hd3 hc3 hc4 HC2 V2 I0
      simp only [valV]
      have I1 := Lib.hid (I.out.below hb1.out)
      go_wp2_with (first
        | (at_builtin; refine wpList_append_vers0 _ rfl _ _ rfl rfl rfl I1.out HN1.out ?_; intro va1 wa1 R1 hc1)
        | (at_builtin; refine wpList_append_ver1 _ rfl _ _ rfl (verA 3 f 0) rfl (VRow.below R1 ((Below.refl _ wa1).alloc (Nat.le_refl _) (.cells #[.string ⟨#[]⟩, .slice none 0 0, .int .i64 0, .int .i64 0, .int .i64 3, .float .f64 f, .int .i64 0, .string ⟨#[]⟩] 44)) (Nat.le_refl _)) wa1.heap.size 1 rfl (Blk.new wa1 _ _) HN2.out (Nat.le_trans hc1.size (by simp)) ?_; intro v2 wb1 R2 g2; have hc2 := VRow.grown (VRow.below R1 ((Below.refl _ wa1).alloc (Nat.le_refl _) (.cells #[.string ⟨#[]⟩, .slice none 0 0, .int .i64 0, .int .i64 0, .int .i64 3, .float .f64 f, .int .i64 0, .string ⟨#[]⟩] 44)) (Nat.le_refl _)) (hc1.alloc hc1.size (.cells #[.string ⟨#[]⟩, .slice none 0 0, .int .i64 0, .int .i64 0, .int .i64 3, .float .f64 f, .int .i64 0, .string ⟨#[]⟩] 44)) (Nat.le_trans hc1.size (by simp)) g2; obtain ⟨A1, c1, rfl, V2⟩ := grow_in I1.out R2 hc2 (verA_in (by decide) HF.out (by decide) _); clear R1 R2 g2))
      have hd := Lib.hid (hb1.out.trans (hc2.mono hb1.out.size))
      have HC2 := Lib.hid hc2
      clear hc1 hc2
      refine (ovalue_any ⟨#[110]⟩ (by decide) A1 (k + 1) c1 _ _ V2).mono ?_
      rintro e wc1 ⟨⟨th1, nu1, it1, tx1, rfl, IV1, hx1⟩, g3⟩
      have HX1 := Lib.hid hx1
      have hd3 := Lib.hid (hd.out.trans (g3.mono hd.out.size))
      have hc3 := Lib.hid (HC2.out.trans (g3.mono HC2.out.size))
      have hb2 := Lib.hid (hd3.out.alloc hd3.out.size (.cells #[.bool th1, .float .f64 nu1, .int .i64 it1, .string tx1] 26))
      have hc4 := Lib.hid (hc3.out.alloc hc3.out.size (.cells #[.bool th1, .float .f64 nu1, .int .i64 it1, .string tx1] 26))
      have BB1 := Lib.hid (Blk.new wc1 26 #[.bool th1, .float .f64 nu1, .int .i64 it1, .string tx1])
      have IV1 := Lib.hid IV1
      replace BB0 := Lib.hid (BB0.out.below hc4.out BB0.out.lt)
      clear hx1 g3 hd hd3 hc3 hc4 HC2 V2 I1
      simp only [valV]
      have I2 := Lib.hid (I.out.below hb2.out)
      go_wp2_with (first
        | (at_builtin; refine wpList_append_vers0 _ rfl _ _ rfl rfl rfl I2.out HN1.out ?_; intro va2 wa2 R1 hc1)
        | (at_builtin; refine wpList_append_ver1 _ rfl _ _ rfl (verA 1 0 z) rfl (VRow.below R1 ((Below.refl _ wa2).alloc (Nat.le_refl _) (.cells #[.string ⟨#[]⟩, .slice none 0 0, .int .i64 0, .int .i64 0, .int .i64 1, .float .f64 0, .int .i64 z, .string ⟨#[]⟩] 44)) (Nat.le_refl _)) wa2.heap.size 1 rfl (Blk.new wa2 _ _) HN2.out (Nat.le_trans hc1.size (by simp)) ?_; intro v2 wb2 R2 g2; have hc2 := VRow.grown (VRow.below R1 ((Below.refl _ wa2).alloc (Nat.le_refl _) (.cells #[.string ⟨#[]⟩, .slice none 0 0, .int .i64 0, .int .i64 0, .int .i64 1, .float .f64 0, .int .i64 z, .string ⟨#[]⟩] 44)) (Nat.le_refl _)) (hc1.alloc hc1.size (.cells #[.string ⟨#[]⟩, .slice none 0 0, .int .i64 0, .int .i64 0, .int .i64 1, .float .f64 0, .int .i64 z, .string ⟨#[]⟩] 44)) (Nat.le_trans hc1.size (by simp)) g2; obtain ⟨A2, c2, rfl, V2⟩ := grow_in I2.out R2 hc2 (verA_in (by decide) (by decide) HZ.out _); clear R1 R2 g2))
      have hd := Lib.hid (hb2.out.trans (hc2.mono hb2.out.size))
      have HC2 := Lib.hid hc2
      clear hc1 hc2
      refine (ovalue_any ⟨#[99]⟩ (by decide) A2 (k + 1) c2 _ _ V2).mono ?_
      rintro e wc2 ⟨⟨th2, nu2, it2, tx2, rfl, IV2, hx2⟩, g3⟩
      have HX2 := Lib.hid hx2
      have hd3 := Lib.hid (hd.out.trans (g3.mono hd.out.size))
      have hc3 := Lib.hid (HC2.out.trans (g3.mono HC2.out.size))
      have hb3 := Lib.hid (hd3.out.alloc hd3.out.size (.cells #[.bool th2, .float .f64 nu2, .int .i64 it2, .string tx2] 26))
      have hc4 := Lib.hid (hc3.out.alloc hc3.out.size (.cells #[.bool th2, .float .f64 nu2, .int .i64 it2, .string tx2] 26))
      have BB2 := Lib.hid (Blk.new wc2 26 #[.bool th2, .float .f64 nu2, .int .i64 it2, .string tx2])
      have IV2 := Lib.hid IV2
      replace BB0 := Lib.hid (BB0.out.below hc4.out BB0.out.lt)
      replace BB1 := Lib.hid (BB1.out.below hc4.out BB1.out.lt)
      clear hx2 g3 hd hd3 hc3 hc4 HC2 V2 I2
      simp only [valV]
      go_wp2_with fail
      have II := Lib.hid (I.out.below hb3.out)
      refine (ovalue_any ⟨#[120]⟩ (by decide) A k c vs _ II.out).mono ?_
      rintro e wva ⟨⟨tha, nua, ita, txa, rfl, IVa, hxa⟩, g3⟩
      have HXa := Lib.hid hxa
      have IVa := Lib.hid IVa
      have hva := Lib.hid (hb3.out.trans (g3.mono hb3.out.size))
      replace BB0 := Lib.hid (BB0.out.below g3 BB0.out.lt)
      replace BB1 := Lib.hid (BB1.out.below g3 BB1.out.lt)
      replace BB2 := Lib.hid (BB2.out.below g3 BB2.out.lt)
      clear hxa g3 II
      simp only [valV]
      go_wp2_with fail
      have II := Lib.hid (I.out.below hva.out)
      refine (ovalue_any ⟨#[110]⟩ (by decide) A k c vs _ II.out).mono ?_
      rintro e wvb ⟨⟨thb, nub, itb, txb, rfl, IVb, hxb⟩, g3⟩
      have HXb := Lib.hid hxb
      have IVb := Lib.hid IVb
      have hvb := Lib.hid (hva.out.trans (g3.mono hva.out.size))
      replace BB0 := Lib.hid (BB0.out.below g3 BB0.out.lt)
      replace BB1 := Lib.hid (BB1.out.below g3 BB1.out.lt)
      replace BB2 := Lib.hid (BB2.out.below g3 BB2.out.lt)
      clear hxb g3 II
      simp only [valV]
      go_wp2_with fail
      have II := Lib.hid (I.out.below hvb.out)
      refine (ovalue_any ⟨#[99]⟩ (by decide) A k c vs _ II.out).mono ?_
      rintro e wvd ⟨⟨thd, nud, itd, txd, rfl, IVd, hxd⟩, g3⟩
      have HXd := Lib.hid hxd
      have IVd := Lib.hid IVd
      have hvd := Lib.hid (hvb.out.trans (g3.mono hvb.out.size))
      replace BB0 := Lib.hid (BB0.out.below g3 BB0.out.lt)
      replace BB1 := Lib.hid (BB1.out.below g3 BB1.out.lt)
      replace BB2 := Lib.hid (BB2.out.below g3 BB2.out.lt)
      clear hxd g3 II
      simp only [valV]
      -- what is known of the six
      have K0 : Hid (∀ r : VerR, valueA [120] ((vs ++ [r]).map s6) = afterA [120] (valueA [120] (vs.map s6)) (s6 r).a) := fun r => by rw [valueA_fold (by decide) (by decide), valueA_fold (by decide) (by decide), fold_snoc]
      have K1 : Hid (∀ r : VerR, valueA [110] ((vs ++ [r]).map s6) = afterA [110] (valueA [110] (vs.map s6)) (s6 r).a) := fun r => by rw [valueA_fold (by decide) (by decide), valueA_fold (by decide) (by decide), fold_snoc]
      have K2 : Hid (∀ r : VerR, valueA [99] ((vs ++ [r]).map s6) = afterA [99] (valueA [99] (vs.map s6)) (s6 r).a) := fun r => by rw [valueA_fold (by decide) (by decide), valueA_fold (by decide) (by decide), fold_snoc]
      have k0 := HX0.out
      rw [K0.out, ← HXa.out] at k0
      have k1 := HX1.out
      rw [K1.out, ← HXb.out] at k1
      have k2 := HX2.out
      rw [K2.out, ← HXd.out] at k2
      have k0 : v6 th0 nu0 it0 tx0 = afterA [120] (v6 tha nua ita txa) (a6 2 f 0 ⟨#[]⟩) := k0
      have k1 : v6 th1 nu1 it1 tx1 = afterA [110] (v6 thb nub itb txb) (a6 3 f 0 ⟨#[]⟩) := k1
      have k2 : v6 th2 nu2 it2 tx2 = afterA [99] (v6 thd nud itd txd) (a6 1 0 z ⟨#[]⟩) := k2
      obtain ⟨t0, r0, i0, x0⟩ := grows_x k0
      obtain ⟨t1, r1⟩ := grows_n k1
      obtain ⟨t2, i2⟩ := grows_c k2
      clear k0 k1 k2 K0 K1 K2 HX0 HX1 HX2 HXa HXb HXd
      subst t0 t1 t2
      have L1 : Hid (tha = true → (FloatKind.f64.format.order nu0 nua == some .lt) = false) := fun h => no_lss IV0.out.nu IVa.out.nu (by rw [r0, if_pos h]; omega)
      have L2 : Hid (thb = true → (FloatKind.f64.format.order nu1 nub == some .gt) = false) := fun h => no_gtr IV1.out.nu IVb.out.nu (by rw [r1, if_pos h]; omega)
      have l3 : (FloatKind.f64.format.order nu0 f == some .lt) = false := no_lss IV0.out.nu HF2.out (by rw [r0]; split <;> omega)
      have L4 : Hid (thd = true → it2 = wrap64 (itd + z)) := fun h => by rw [i2, if_pos h]
      have L5 : Hid (tha = false → (v6 true nu0 it0 tx0).same (v6 true f 0 ⟨#[]⟩) = true) := fun h => by
        rw [V6.same_iff]
        unfold v6
        rw [r0, i0, x0, if_neg (by rw [h]; decide)]
      have SV := fun W => Lib.hid (osameval_any true nu0 it0 tx0 IV0.out true f 0 ⟨#[]⟩ ⟨HF2.out, by decide, by decide⟩ W)
      obtain ⟨sv, hsv⟩ : ∃ b, (v6 true nu0 it0 tx0).same (v6 true f 0 ⟨#[]⟩) = b := ⟨_, rfl⟩
      rw [hsv] at SV L5
      simp only [valV] at SV
      obtain ⟨qf, hqf⟩ : ∃ b, (FloatKind.f64.format.order f f == some .eq) = b := ⟨_, rfl⟩
      clear r0 i0 x0 r1 i2 hsv
      have he0 := Lib.hid (hvd.out.alloc hvd.out.size (.cells #[.bool tha, .float .f64 nua, .int .i64 ita, .string txa] 26))
      have he1 := Lib.hid (he0.out.alloc he0.out.size (.cells #[.bool thb, .float .f64 nub, .int .i64 itb, .string txb] 26))
      have hbE := Lib.hid (he1.out.alloc he1.out.size (.cells #[.bool thd, .float .f64 nud, .int .i64 itd, .string txd] 26))
      have Ba := Lib.hid (((Blk.new wvd 26 #[.bool tha, .float .f64 nua, .int .i64 ita, .string txa]).alloc (.cells #[.bool thb, .float .f64 nub, .int .i64 itb, .string txb] 26)).alloc (.cells #[.bool thd, .float .f64 nud, .int .i64 itd, .string txd] 26))
      have Bb := Lib.hid ((Blk.new' (w := wvd.alloc (.cells #[.bool tha, .float .f64 nua, .int .i64 ita, .string txa] 26)) (g := wvd.heap.size + 1) (by simp) 26 #[.bool thb, .float .f64 nub, .int .i64 itb, .string txb]).alloc (.cells #[.bool thd, .float .f64 nud, .int .i64 itd, .string txd] 26))
      have Bd := Lib.hid (Blk.new' (w := (wvd.alloc (.cells #[.bool tha, .float .f64 nua, .int .i64 ita, .string txa] 26)).alloc (.cells #[.bool thb, .float .f64 nub, .int .i64 itb, .string txb] 26)) (g := wvd.heap.size + 1 + 1) (by simp) 26 #[.bool thd, .float .f64 nud, .int .i64 itd, .string txd])
      replace BB0 := Lib.hid (((BB0.out.alloc (.cells #[.bool tha, .float .f64 nua, .int .i64 ita, .string txa] 26)).alloc (.cells #[.bool thb, .float .f64 nub, .int .i64 itb, .string txb] 26)).alloc (.cells #[.bool thd, .float .f64 nud, .int .i64 itd, .string txd] 26))
      replace BB1 := Lib.hid (((BB1.out.alloc (.cells #[.bool tha, .float .f64 nua, .int .i64 ita, .string txa] 26)).alloc (.cells #[.bool thb, .float .f64 nub, .int .i64 itb, .string txb] 26)).alloc (.cells #[.bool thd, .float .f64 nud, .int .i64 itd, .string txd] 26))
      replace BB2 := Lib.hid (((BB2.out.alloc (.cells #[.bool tha, .float .f64 nua, .int .i64 ita, .string txa] 26)).alloc (.cells #[.bool thb, .float .f64 nub, .int .i64 itb, .string txb] 26)).alloc (.cells #[.bool thd, .float .f64 nud, .int .i64 itd, .string txd] 26))
      clear he0 he1 hb0 hb1 hb2 hb3 hva hvb hvd I HN1 HN2 HZ HF
      have hst := run_sto_f64
      go_upto_region 12 with fail
      generalize (((wvd.alloc (.cells #[.bool tha, .float .f64 nua, .int .i64 ita, .string txa] 26)).alloc (.cells #[.bool thb, .float .f64 nub, .int .i64 itb, .string txb] 26)).alloc (.cells #[.bool thd, .float .f64 nud, .int .i64 itd, .string txd] 26)) = w9 at BB0 BB1 BB2 Ba Bb Bd hbE ⊢
      cases tha <;> cases thb <;> cases thd <;> cases qf
      all_goals
        first | (have l1 := L1.out rfl) | skip
        first | (have l2 := L2.out rfl) | skip
        first | (have l4 := L4.out rfl; subst l4) | skip
        first | (have l5 := L5.out rfl; subst l5) | skip
        clear L1 L2 L4 L5
        obtain ⟨c00, c01, c02, c03⟩ := val_cells BB0.out
        obtain ⟨c10, c11, c12, c13⟩ := val_cells BB1.out
        obtain ⟨c20, c21, c22, c23⟩ := val_cells BB2.out
        obtain ⟨ca0, ca1, ca2, ca3⟩ := val_cells Ba.out
        obtain ⟨cb0, cb1, cb2, cb3⟩ := val_cells Bb.out
        obtain ⟨cd0, cd1, cd2, cd3⟩ := val_cells Bd.out
        go_wp2_with fail
        refine (oalive_any _ (hL.on hbE.out)).mono ?_
        rintro e w10 ⟨rfl, g10⟩
        have hbF := Lib.hid (hbE.out.trans (g10.mono hbE.out.size))
        replace BB0 := Lib.hid (BB0.out.below g10 BB0.out.lt)
        have Ba := Lib.hid (Ba.out.below g10 Ba.out.lt)
        clear c00 c01 c02 c03 c10 c11 c12 c13 c20 c21 c22 c23 ca0 ca1 ca2 ca3 cb0 cb1 cb2 cb3 cd0 cd1 cd2 cd3 g10
        obtain ⟨c00, c01, c02, c03⟩ := val_cells BB0.out
        obtain ⟨ca0, ca1, ca2, ca3⟩ := val_cells Ba.out
        go_wp2_with fail
        first
          | (refine (SV _).out.mono ?_; rintro e w11 ⟨rfl, g11⟩; have hbF := Lib.hid (hbF.out.trans (g11.mono hbF.out.size)); go_wp2_with fail; go_ret; exact ⟨rfl, hbF.out⟩)
          | (go_ret; exact ⟨rfl, hbF.out⟩)
end Go.Proofs.YthacdegaeokgnaaDoor
