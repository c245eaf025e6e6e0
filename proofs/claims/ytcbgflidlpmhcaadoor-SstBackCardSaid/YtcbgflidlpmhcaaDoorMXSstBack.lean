/-
  The law SstBack, walked.
-/
import Derived.Test.YtcbgflidlpmhcaaDoorM6
import Derived.Test.YtcbgflidlpmhcaaDoorM3
import Derived.Test.YtcbgflidlpmhcaaDoorM4
import Derived.Test.YtcbgflidlpmhcaaDoorM5
import Derived.Test.YtcbgflidlpmhcaaDoorM2
import Derived.Test.YtcbgflidlpmhcaaDoorMXSstBytes
namespace Go.Proofs.YtcbgflidlpmhcaaDoor
open Go.RowKit

theorem rem_cases (a : Int) {z : Nat} (hz : 0 < z) : ∃ (m : Nat) (k : Int), m < z ∧ a.tmod (z : Int) = k ∧ (k = (m : Int) ∨ k = (m : Int) - (z : Int)) := by
  have hpos : (0 : Int) < (z : Int) := by omega
  have t1 := Int.tmod_lt_of_pos a hpos
  have t2 := Int.lt_tmod_of_pos a hpos
  by_cases hk : 0 ≤ a.tmod (z : Int)
  · exact ⟨(a.tmod (z : Int)).toNat, _, by omega, rfl, Or.inl (by omega)⟩
  · exact ⟨(a.tmod (z : Int) + z).toNat, _, by omega, rfl, Or.inr (by omega)⟩

theorem sopen_not (b : ByteArray) (W : World) (hb : b.size ≤ 1000000) (hT : LaidS W) (hnf : ¬ fitsB b) :
    Calls Tryd.prog 10 #[.string b] W fun e w' => e = .returned (.tuple #[.pointer none, .int .i64 31]) ∧ Below W.heap.size W w' := by
  refine (sopen_bytes b W hb hT).mono ?_
  rintro e w' ⟨o, er, rfl, ho, hb1⟩
  rcases ho.out with ⟨-, hf, -⟩ | ⟨rfl, rfl⟩
  · exact absurd hf hnf
  · exact ⟨rfl, hb1⟩

set_option maxRecDepth 100000 in
set_option maxHeartbeats 16000000 in
theorem lawSstBack (A : Option Addr) (n c : Nat) (L : List KV) (x : Nat) (_hx : (Lit.float .f64 x).wf = true) (at_ : Int) (_ha : (Lit.int .i64 at_).wf = true) (by_ : Int) (_hb : (Lit.int .i64 by_).wf = true) (cut : Int) (_hc : (Lit.int .i64 cut).wf = true) (w : World) (I : PairsIn w A n L) (hcap : n ≤ c) (hT : LaidS w) :
    Calls Tryd.prog 3 #[.slice A n c, .float .f64 x, .int .i64 at_, .int .i64 by_, .int .i64 cut] w fun e w' => e = .returned (.bool true) ∧ Below w.heap.size w w' := by
  have CL := Lib.hid (light13_any A n c L w I)
  have CA := fun W (hb : Below w.heap.size w W) => Lib.hid (alive13_any W (hT.on hb))
  by_cases hlt : wtK L ≤ 60000
  case neg =>
    rw [decide_eq_false hlt] at CL
    clear hlt hT I
    go_enter Tryd.func3, Tryd.ntmps3
    go_wp2_with fail
    refine CL.out.mono ?_
    rintro e w1 ⟨rfl, hb1⟩
    have HB := Lib.hid hb1
    clear hb1 CL
    go_wp2_with fail
    refine (CA _ HB.out).out.mono ?_
    rintro e w1 ⟨rfl, hb1⟩
    have HB := Lib.hid (HB.out.trans (hb1.mono HB.out.size))
    clear hb1
    go_wp2_with fail
    go_ret
    exact ⟨rfl, HB.out⟩
  rw [decide_eq_true hlt] at CL
  have HI := Lib.hid I
  have HT := Lib.hid hT
  have hlen := I.at_.len
  have W1 := fun W (hb : Below w.heap.size w W) => Lib.hid (swrite_any A n c L x W (I.at_.below hb) hcap hlt (hT.on hb))
  by_cases he : writeE L = 0
  case neg =>
    obtain ⟨er, her⟩ : ∃ er, writeE L = er := ⟨_, rfl⟩
    rw [her] at he W1
    have e1 : (er != 0) = true := bne_iff_ne.2 he
    clear hlt I hT her hlen
    go_enter Tryd.func3, Tryd.ntmps3
    go_wp2_with fail
    refine CL.out.mono ?_
    rintro e w1 ⟨rfl, hb1⟩
    have HB := Lib.hid hb1
    clear hb1 CL
    go_wp2_with fail
    refine (W1 _ HB.out).out.mono ?_
    rintro e w2 ⟨s1, rfl, -, -, hb1⟩
    have HB := Lib.hid (HB.out.trans (hb1.mono HB.out.size))
    clear hb1
    dsimp only
    go_wp2_with fail
    refine (CA _ HB.out).out.mono ?_
    rintro e w1 ⟨rfl, hb1⟩
    have HB := Lib.hid (HB.out.trans (hb1.mono HB.out.size))
    clear hb1
    go_wp2_with fail
    go_ret
    exact ⟨rfl, HB.out⟩
  rw [he] at W1
  have hR := write_rises he
  have hne : 0 < L.length := List.length_pos_iff.2 (write_ne he)
  have hokL : ∀ x ∈ L, okKeys x := fun x hx => by have := wtK_all L x hx; exact ⟨by omega, by omega⟩
  have Hok := Lib.hid hokL
  have Hsm : Hid (∀ m ∈ L, m.1.size ≤ 60000 ∧ m.2.size ≤ 60000) := Lib.hid (fun m hm => by have := wtK_all L m hm; omega)
  have hn3 : n ≤ 3000 := by rw [hlen]; exact (light_short hlt).2.2.2
  have Hlen := Lib.hid hlen
  have HR := Lib.hid hR
  have F1 : ∀ W t F, TabAt W t L F → Below w.heap.size w W → Hid (Calls Tryd.prog 12 #[.pointer (some ⟨t, 0, none⟩), .string ⟨#[]⟩, .int .i64 (-1)] W fun e w' => ∃ v, e = .returned v ∧ Own elKeys w' W.heap.size 35 v L ∧ Below W.heap.size W w') := fun W t F h hb => Lib.hid (by
    have h9 := sfrom_any h (hT.on hb) ⟨#[]⟩ (-1) (by decide)
    rw [fromK_empty L] at h9
    exact h9)
  clear hlt he I hT hlen hR hokL hne
  go_enter Tryd.func3, Tryd.ntmps3
  go_wp2_with fail
  refine CL.out.mono ?_
  rintro e w1 ⟨rfl, hb1⟩
  have HB := Lib.hid hb1
  clear hb1 CL
  go_wp2_with fail
  refine (W1 _ HB.out).out.mono ?_
  rintro e w2 ⟨b, rfl, hw1, -, hb1⟩
  have HW := Lib.hid (hw1 (by first | rfl | trivial))
  have hz := wrt_size HW.out
  have HB := Lib.hid (HB.out.trans (hb1.mono HB.out.size))
  clear hb1 hw1 W1
  dsimp only
  go_wp2_with fail
  refine (sopen_any L x b _ HW.out (HT.out.on HB.out)).mono ?_
  rintro e w3 ⟨t, rfl, ht, hb1⟩
  have HB := Lib.hid (HB.out.trans (hb1.mono HB.out.size))
  have TA := Lib.hid ht
  clear hb1 ht
  dsimp only
  go_wp2_with fail
  refine (F1 _ t _ TA.out HB.out).out.mono ?_
  rintro e w4 ⟨v, rfl, hv, hb1⟩
  obtain ⟨Ax, cx, rfl⟩ := Own.slice hv
  have TA := Lib.hid (TA.out.up hb1)
  have HB := Lib.hid (HB.out.trans (hb1.mono HB.out.size))
  have Mx := Lib.hid (Own.keysAt hv)
  clear hb1 hv F1
  go_wp2_with fail
  have CS := same_at Ax A L.length cx c L w4 Mx.out (by have := HI.out.at_.below HB.out; rw [Hlen.out] at this; exact this) (by have := Hlen.out; omega) Hok.out
  rw [← Hlen.out] at CS
  have hlv : L.length = n := Hlen.out.symm
  rw [hlv]
  refine CS.mono ?_
  rintro e w5 ⟨rfl, hb1⟩
  have TA := Lib.hid (TA.out.up hb1)
  have HB := Lib.hid (HB.out.trans (hb1.mono HB.out.size))
  have z5 : ¬ (b.size : Int) < 5 := by omega
  clear hb1 CS Mx hlv
  go_wp2_with fail
  go_loopw [15] (fun i wr => ∃ j : Nat, j ≤ n ∧ i = .int .i64 (j : Int) ∧ Hid (TabAt wr t L (bloomT (headsK L) x)) ∧ Hid (Below w.heap.size w wr)) (fun i _ => n - (intOf i).toNat)
  case atStart => exact ⟨0, by omega, rfl, TA, HB⟩
  case round =>
    clear TA HB
    obtain ⟨j, hj, rfl, TA, HB⟩ := hrel
    by_cases hjn : j < n
    · by_cases hj6 : j < 60
      · as_aux_lemma =>
        have g1 : (j : Int) < (n : Int) := by omega
        have g2 : (j : Int) < 60 := by omega
        have g0 : (0 : Int) ≤ (j : Int) := by omega
        have hjL : j < L.length := by have := Hlen.out; omega
        have hm : L[j]? = some L[j] := List.getElem?_eq_getElem hjL
        have hin : L[j] ∈ L := List.getElem_mem hjL
        generalize L[j] = m at *
        obtain ⟨g, off, hA, hg, x0, x1⟩ := (HI.out.at_.below HB.out).at_ j _ hm
        subst hA
        have hmz := Hsm.out m hin
        have CG := sget_any TA.out (HT.out.on HB.out) m.1 (by have := hmz.1; omega)
        rw [getK_mem HR.out hin] at CG
        have CG := Lib.hid CG
        have hmay := may_built (headsK L) x (headT m.1) ((headsK_mem L _).2 ⟨m, hin, rfl⟩)
        have CM := fun W h hb => Lib.hid (smay_any (W := W) (t := t) (L := L) (F := bloomT (headsK L) x) h (HT.out.on hb) (headT m.1) (by have := head_size m.1; have := hmz.1; omega))
        rw [hmay] at CM
        have CH := fun W => Lib.hid (rhead13_any m.1 W (by have := hmz.1; omega))
        obtain ⟨q1, hq1⟩ : ∃ q1, m.1 = q1 := ⟨_, rfl⟩
        obtain ⟨q2, hq2⟩ : ∃ q2, m.2 = q2 := ⟨_, rfl⟩
        rw [hq1] at CG CH x0 CM
        rw [hq2] at CG x1
        have X0 := Lib.hid (fun W (hb : Below wr.heap.size wr W) => (hb.cell (p := ⟨g, off + j * 2, none⟩) hg).trans x0)
        have X1 := Lib.hid (fun W (hb : Below wr.heap.size wr W) => (hb.cell (p := ⟨g, off + j * 2 + 1, none⟩) hg).trans x1)
        have e2 : (q2.toList == q2.toList) = true := beq_self_eq_true _
        clear hmz hmay hq1 hq2 hin hm hjL
        go_wp2_with fail
        refine CG.out.mono ?_
        rintro e w6 ⟨rfl, hb1⟩
        have y0 := X0.out _ hb1
        have y1 := X1.out _ hb1
        have TA := Lib.hid (TA.out.up hb1)
        have HB := Lib.hid (HB.out.trans (hb1.mono HB.out.size))
        clear hb1 CG x0 x1
        dsimp only
        go_wp2_with fail
        refine (CH _).out.mono ?_
        rintro e w7 ⟨rfl, rfl⟩
        go_wp2_with fail
        refine (CM _ TA.out HB.out).out.mono ?_
        rintro e w8 ⟨rfl, hb1⟩
        have TA := Lib.hid (TA.out.up hb1)
        have HB := Lib.hid (HB.out.trans (hb1.mono HB.out.size))
        clear hb1
        go_wp2_with fail
        go_roundw
        case rel => exact ⟨j + 1, by omega, by go_num, TA, HB⟩
        case measure => simp [intOf]; omega
      · as_aux_lemma =>
        have g1 : (j : Int) < (n : Int) := by omega
        have g2 : ¬ (j : Int) < 60 := by omega
        clear Hlen HR Hok Hsm hn3 hj hjn hj6
        clear TA
        have hz0 : ((b.size : Int) == 0) = false := by rw [beq_eq_false_iff_ne]; omega
        obtain ⟨m, k0, hm, htm, hk⟩ := rem_cases at_ (show 0 < b.size by omega)
        obtain ⟨q, k1, hq, htq, hkq⟩ := rem_cases cut (show 0 < b.size by omega)
        have CO2 := fun W (hb : Below w.heap.size w W) => Lib.hid (sopen_bytes (b.extract 0 q) W (by simp; omega) (HT.out.on hb))
        have hsq : (b.extract 0 q).size = q := by simp; omega
        have Hsq := Lib.hid hsq
        by_cases hq4 : 4 ≤ q
        · have CG1 := fun W => rget_ok ((b.extract 0 q).extract (q - 4) q) W (by simp; omega) (by simp; omega)
          have CS1 := fun W => Lib.hid (rsum_any ((b.extract 0 q).extract 0 (q - 4)) W (by simp; omega))
          obtain ⟨bb, hbb⟩ : ∃ bb, ((getL ((b.extract 0 q).extract (q - 4) q).data.toList : Int) == (crc ((b.extract 0 q).extract 0 (q - 4)).data.toList : Int)) = bb := ⟨_, rfl⟩
          have Hbb : Hid (fitsB (b.extract 0 q) → bb = true) := Lib.hid (fun hf => by
            have h9 := fits_read hf
            rw [hsq] at h9
            rw [← hbb, h9]
            exact beq_self_eq_true _)
          have CG1 := fun W => Lib.hid (CG1 W)
          generalize getL ((b.extract 0 q).extract (q - 4) q).data.toList = gn at *
          generalize crc ((b.extract 0 q).extract 0 (q - 4)).data.toList = sn at *
          have q4 : (4 : Int) ≤ (q : Int) := by omega
          have q5 : ¬ (q : Int) < 4 := by omega
          have q6 : (q : Int) ≤ (b.size : Int) := by omega
          by_cases hby : by_ % 256 = 0
          · have hb' : (by_ % 256 == 0) = true := by simp [hby]
            clear hby
            rcases hk with rfl | rfl <;> rcases hkq with rfl | rfl
            all_goals
              go_wp2_with fail
              refine (CG1 _).out.mono ?_
              rintro e w6 ⟨rfl, rfl⟩
              dsimp only
              go_wp2_with fail
              refine (CS1 _).out.mono ?_
              rintro e w7 ⟨rfl, rfl⟩
              dsimp only
              go_wp2_with fail
              refine (CO2 _ HB.out).out.mono ?_
              rintro e w8 ⟨o, er, rfl, ho, hb1⟩
              have HB := Lib.hid (HB.out.trans (hb1.mono HB.out.size))
              clear hb1
              dsimp only
              rcases ho.out with ⟨rfl, hf, t9, rfl, -⟩ | ⟨rfl, rfl⟩
              · have := Hbb.out hf
                subst this
                clear hf ho
                go_wp2_with fail
                refine (CA _ HB.out).out.mono ?_
                rintro e w9 ⟨rfl, hb1⟩
                have HB := Lib.hid (HB.out.trans (hb1.mono HB.out.size))
                clear hb1
                go_wp2_with fail
                go_ret
                exact ⟨rfl, HB.out⟩
              · clear ho
                cases bb
                all_goals
                  go_wp2_with fail
                  refine (CA _ HB.out).out.mono ?_
                  rintro e w9 ⟨rfl, hb1⟩
                  have HB := Lib.hid (HB.out.trans (hb1.mono HB.out.size))
                  clear hb1
                  go_wp2_with fail
                  go_ret
                  exact ⟨rfl, HB.out⟩
          · obtain ⟨d, hd⟩ : ∃ d : UInt8, d = UInt8.ofNat (b[m].toNat ^^^ (by_ % 256).toNat) := ⟨_, rfl⟩
            have hx : bits .xor .u8 ((b[m]'hm).toNat : Int) (by_ % 256) = (d.toNat : Int) := by
              have h1 := u8_xor (b[m].toNat) (UInt8.toNat_lt _) (by_ % 256).toNat (by omega)
              rw [Int.toNat_of_nonneg (by omega)] at h1
              rw [h1, hd, ← u8_of]
              exact Nat.xor_lt_two_pow (n := 8) (UInt8.toNat_lt _) (by omega)
            have hne : b[m] ≠ d := by
              intro e
              have h1 := congrArg UInt8.toNat e
              rw [hd, UInt8.toNat_ofNat', Nat.mod_eq_of_lt (Nat.xor_lt_two_pow (n := 8) (UInt8.toNat_lt _) (by omega))] at h1
              have h2 := xor_cancel 0 (by_ % 256).toNat b[m].toNat (by rw [Nat.zero_xor, Nat.xor_comm]; exact h1)
              omega
            obtain ⟨l, hl⟩ : ∃ l, l = b.data.toList.set m d := ⟨_, rfl⟩
            have hll : l.length = b.size := by rw [hl, List.length_set]; rfl
            have hnf : ¬ fitsB ⟨l.toArray⟩ := fits_changed (c := d) (wrt_fits HW.out) (k := m) hm hne hl
            have hbs := run_bytes_of_string (P := Tryd.prog) wr 9 38 5 b Tryd.underlying9 Tryd.underlying38 Tryd.underlying5
            generalize grownCap wr b.size 0 5 = cap at hbs
            have hrow : ∀ j (hj : j < b.size), (bytesRow b cap)[j]? = some (.int .u8 ((b[j]'hj).toNat : Int)) := fun j hj => bytesRow_at b cap j hj
            have hrsz : b.size ≤ (bytesRow b cap).size := by unfold bytesRow; rw [Array.size_append, Array.size_map]; exact Nat.le_add_right _ _
            generalize bytesRow b cap = row at *
            have hcell : (wr.alloc (.cells row 5 (row.size, row.size + 1))).cell? ⟨wr.heap.size, m, none⟩ = some (.int .u8 ((b[m]'hm).toNat : Int)) := (World.cell?_alloc_mark wr row 5 (row.size, row.size + 1) m).trans (hrow m hm)
            have hfr : (wr.alloc (.cells row 5 (row.size, row.size + 1))).frozen? ⟨wr.heap.size, m, none⟩ = false := by
              rw [World.frozen?_alloc_mark, decide_eq_false (by omega)]; rfl
            have hobj := obj_set (heap_alloc_new wr (.cells row 5 (row.size, row.size + 1))) m (.int .u8 (d.toNat : Int))
            have hb7 : Hid (Below w.heap.size w (((wr.alloc (.cells row 5 (row.size, row.size + 1))).setCell ⟨wr.heap.size, m, none⟩ (.int .u8 (d.toNat : Int))).drew)) := Lib.hid (below_setCell (below_alloc HB.out (Nat.le_refl _) _) HB.out.size _).drew
            have hcb : ∀ j (hj : j < l.length), (row.setIfInBounds m (.int .u8 (d.toNat : Int)))[j]? = some (b8 l[j]) := by
              intro j hj
              have hjs : j < b.size := by rw [← hll]; exact hj
              rw [Array.getElem?_setIfInBounds]
              have hlj : l[j]? = some l[j] := List.getElem?_eq_getElem hj
              have hl2 : l[j]? = if m = j then some d else b.data.toList[j]? := by
                rw [hl, List.getElem?_set]
                split
                · rw [if_pos (by simpa using hm)]
                · rfl
              by_cases e : m = j
              · subst e
                rw [if_pos rfl] at hl2
                rw [if_pos rfl, if_pos (by omega)]
                rw [hlj] at hl2
                rw [Option.some.inj hl2]
                rfl
              · rw [if_neg e] at hl2
                rw [if_neg e, hrow j hjs]
                rw [hlj, List.getElem?_eq_getElem (by simpa using hjs)] at hl2
                rw [Option.some.inj hl2]
                rfl
            have hcv : (convert 38 9 (.slice (some ⟨wr.heap.size, 0, none⟩) b.size cap)).run Tryd.prog (((wr.alloc (.cells row 5 (row.size, row.size + 1))).setCell ⟨wr.heap.size, m, none⟩ (.int .u8 (d.toNat : Int))).drew) = .ok (.string ⟨l.toArray⟩) (((wr.alloc (.cells row 5 (row.size, row.size + 1))).setCell ⟨wr.heap.size, m, none⟩ (.int .u8 (d.toNat : Int))).drew) := bytes_of_obj (w := ((wr.alloc (.cells row 5 (row.size, row.size + 1))).setCell ⟨wr.heap.size, m, none⟩ (.int .u8 (d.toNat : Int))).drew) hobj hll.symm hcb
            have hb' : (by_ % 256 == 0) = false := by simp [hby]
            have CO3 := Lib.hid (sopen_not ⟨l.toArray⟩ _ (by rw [size_mk]; omega) (HT.out.on hb7.out) hnf)
            clear hobj hcb hrow hl hll hne hd hby HB hnf
            rcases hk with rfl | rfl <;> rcases hkq with rfl | rfl
            all_goals
              go_wp2_with fail
              refine CO3.out.mono ?_
              rintro e w5 ⟨rfl, hb1⟩
              have HB := Lib.hid (hb7.out.trans (hb1.mono hb7.out.size))
              clear hb1 CO3 hcv hcell hfr hbs hx hb7
              dsimp only
              go_wp2_with fail
              refine (CG1 _).out.mono ?_
              rintro e w6 ⟨rfl, rfl⟩
              dsimp only
              go_wp2_with fail
              refine (CS1 _).out.mono ?_
              rintro e w7 ⟨rfl, rfl⟩
              dsimp only
              go_wp2_with fail
              refine (CO2 _ HB.out).out.mono ?_
              rintro e w8 ⟨o, er, rfl, ho, hb1⟩
              have HB := Lib.hid (HB.out.trans (hb1.mono HB.out.size))
              clear hb1
              dsimp only
              rcases ho.out with ⟨rfl, hf, t9, rfl, -⟩ | ⟨rfl, rfl⟩
              · have := Hbb.out hf
                subst this
                clear hf ho
                go_wp2_with fail
                refine (CA _ HB.out).out.mono ?_
                rintro e w9 ⟨rfl, hb1⟩
                have HB := Lib.hid (HB.out.trans (hb1.mono HB.out.size))
                clear hb1
                go_wp2_with fail
                go_ret
                exact ⟨rfl, HB.out⟩
              · clear ho
                cases bb
                all_goals
                  go_wp2_with fail
                  refine (CA _ HB.out).out.mono ?_
                  rintro e w9 ⟨rfl, hb1⟩
                  have HB := Lib.hid (HB.out.trans (hb1.mono HB.out.size))
                  clear hb1
                  go_wp2_with fail
                  go_ret
                  exact ⟨rfl, HB.out⟩
        · have q4 : ¬ (4 : Int) ≤ (q : Int) := by omega
          have q5 : (q : Int) < 4 := by omega
          have q6 : (q : Int) ≤ (b.size : Int) := by omega
          by_cases hby : by_ % 256 = 0
          · have hb' : (by_ % 256 == 0) = true := by simp [hby]
            clear hby
            rcases hk with rfl | rfl <;> rcases hkq with rfl | rfl
            all_goals
              go_wp2_with fail
              refine (CO2 _ HB.out).out.mono ?_
              rintro e w8 ⟨o, er, rfl, ho, hb1⟩
              have HB := Lib.hid (HB.out.trans (hb1.mono HB.out.size))
              clear hb1
              dsimp only
              rcases ho.out with ⟨rfl, hf, t9, rfl, -⟩ | ⟨rfl, rfl⟩
              · have := fits_size hf
                have h8 := Hsq.out
                omega
              · clear ho
                go_wp2_with fail
                refine (CA _ HB.out).out.mono ?_
                rintro e w9 ⟨rfl, hb1⟩
                have HB := Lib.hid (HB.out.trans (hb1.mono HB.out.size))
                clear hb1
                go_wp2_with fail
                go_ret
                exact ⟨rfl, HB.out⟩
          · obtain ⟨d, hd⟩ : ∃ d : UInt8, d = UInt8.ofNat (b[m].toNat ^^^ (by_ % 256).toNat) := ⟨_, rfl⟩
            have hx : bits .xor .u8 ((b[m]'hm).toNat : Int) (by_ % 256) = (d.toNat : Int) := by
              have h1 := u8_xor (b[m].toNat) (UInt8.toNat_lt _) (by_ % 256).toNat (by omega)
              rw [Int.toNat_of_nonneg (by omega)] at h1
              rw [h1, hd, ← u8_of]
              exact Nat.xor_lt_two_pow (n := 8) (UInt8.toNat_lt _) (by omega)
            have hne : b[m] ≠ d := by
              intro e
              have h1 := congrArg UInt8.toNat e
              rw [hd, UInt8.toNat_ofNat', Nat.mod_eq_of_lt (Nat.xor_lt_two_pow (n := 8) (UInt8.toNat_lt _) (by omega))] at h1
              have h2 := xor_cancel 0 (by_ % 256).toNat b[m].toNat (by rw [Nat.zero_xor, Nat.xor_comm]; exact h1)
              omega
            obtain ⟨l, hl⟩ : ∃ l, l = b.data.toList.set m d := ⟨_, rfl⟩
            have hll : l.length = b.size := by rw [hl, List.length_set]; rfl
            have hnf : ¬ fitsB ⟨l.toArray⟩ := fits_changed (c := d) (wrt_fits HW.out) (k := m) hm hne hl
            have hbs := run_bytes_of_string (P := Tryd.prog) wr 9 38 5 b Tryd.underlying9 Tryd.underlying38 Tryd.underlying5
            generalize grownCap wr b.size 0 5 = cap at hbs
            have hrow : ∀ j (hj : j < b.size), (bytesRow b cap)[j]? = some (.int .u8 ((b[j]'hj).toNat : Int)) := fun j hj => bytesRow_at b cap j hj
            have hrsz : b.size ≤ (bytesRow b cap).size := by unfold bytesRow; rw [Array.size_append, Array.size_map]; exact Nat.le_add_right _ _
            generalize bytesRow b cap = row at *
            have hcell : (wr.alloc (.cells row 5 (row.size, row.size + 1))).cell? ⟨wr.heap.size, m, none⟩ = some (.int .u8 ((b[m]'hm).toNat : Int)) := (World.cell?_alloc_mark wr row 5 (row.size, row.size + 1) m).trans (hrow m hm)
            have hfr : (wr.alloc (.cells row 5 (row.size, row.size + 1))).frozen? ⟨wr.heap.size, m, none⟩ = false := by
              rw [World.frozen?_alloc_mark, decide_eq_false (by omega)]; rfl
            have hobj := obj_set (heap_alloc_new wr (.cells row 5 (row.size, row.size + 1))) m (.int .u8 (d.toNat : Int))
            have hb7 : Hid (Below w.heap.size w (((wr.alloc (.cells row 5 (row.size, row.size + 1))).setCell ⟨wr.heap.size, m, none⟩ (.int .u8 (d.toNat : Int))).drew)) := Lib.hid (below_setCell (below_alloc HB.out (Nat.le_refl _) _) HB.out.size _).drew
            have hcb : ∀ j (hj : j < l.length), (row.setIfInBounds m (.int .u8 (d.toNat : Int)))[j]? = some (b8 l[j]) := by
              intro j hj
              have hjs : j < b.size := by rw [← hll]; exact hj
              rw [Array.getElem?_setIfInBounds]
              have hlj : l[j]? = some l[j] := List.getElem?_eq_getElem hj
              have hl2 : l[j]? = if m = j then some d else b.data.toList[j]? := by
                rw [hl, List.getElem?_set]
                split
                · rw [if_pos (by simpa using hm)]
                · rfl
              by_cases e : m = j
              · subst e
                rw [if_pos rfl] at hl2
                rw [if_pos rfl, if_pos (by omega)]
                rw [hlj] at hl2
                rw [Option.some.inj hl2]
                rfl
              · rw [if_neg e] at hl2
                rw [if_neg e, hrow j hjs]
                rw [hlj, List.getElem?_eq_getElem (by simpa using hjs)] at hl2
                rw [Option.some.inj hl2]
                rfl
            have hcv : (convert 38 9 (.slice (some ⟨wr.heap.size, 0, none⟩) b.size cap)).run Tryd.prog (((wr.alloc (.cells row 5 (row.size, row.size + 1))).setCell ⟨wr.heap.size, m, none⟩ (.int .u8 (d.toNat : Int))).drew) = .ok (.string ⟨l.toArray⟩) (((wr.alloc (.cells row 5 (row.size, row.size + 1))).setCell ⟨wr.heap.size, m, none⟩ (.int .u8 (d.toNat : Int))).drew) := bytes_of_obj (w := ((wr.alloc (.cells row 5 (row.size, row.size + 1))).setCell ⟨wr.heap.size, m, none⟩ (.int .u8 (d.toNat : Int))).drew) hobj hll.symm hcb
            have hb' : (by_ % 256 == 0) = false := by simp [hby]
            have CO3 := Lib.hid (sopen_not ⟨l.toArray⟩ _ (by rw [size_mk]; omega) (HT.out.on hb7.out) hnf)
            clear hobj hcb hrow hl hll hne hd hby HB hnf
            rcases hk with rfl | rfl <;> rcases hkq with rfl | rfl
            all_goals
              go_wp2_with fail
              refine CO3.out.mono ?_
              rintro e w5 ⟨rfl, hb1⟩
              have HB := Lib.hid (hb7.out.trans (hb1.mono hb7.out.size))
              clear hb1 CO3 hcv hcell hfr hbs hx hb7
              dsimp only
              go_wp2_with fail
              refine (CO2 _ HB.out).out.mono ?_
              rintro e w8 ⟨o, er, rfl, ho, hb1⟩
              have HB := Lib.hid (HB.out.trans (hb1.mono HB.out.size))
              clear hb1
              dsimp only
              rcases ho.out with ⟨rfl, hf, t9, rfl, -⟩ | ⟨rfl, rfl⟩
              · have := fits_size hf
                have h8 := Hsq.out
                omega
              · clear ho
                go_wp2_with fail
                refine (CA _ HB.out).out.mono ?_
                rintro e w9 ⟨rfl, hb1⟩
                have HB := Lib.hid (HB.out.trans (hb1.mono HB.out.size))
                clear hb1
                go_wp2_with fail
                go_ret
                exact ⟨rfl, HB.out⟩
    · as_aux_lemma =>
      have g1 : ¬ (j : Int) < (n : Int) := by omega
      clear Hlen HR Hok Hsm hn3 hj hjn
      clear TA
      have hz0 : ((b.size : Int) == 0) = false := by rw [beq_eq_false_iff_ne]; omega
      obtain ⟨m, k0, hm, htm, hk⟩ := rem_cases at_ (show 0 < b.size by omega)
      obtain ⟨q, k1, hq, htq, hkq⟩ := rem_cases cut (show 0 < b.size by omega)
      have CO2 := fun W (hb : Below w.heap.size w W) => Lib.hid (sopen_bytes (b.extract 0 q) W (by simp; omega) (HT.out.on hb))
      have hsq : (b.extract 0 q).size = q := by simp; omega
      have Hsq := Lib.hid hsq
      by_cases hq4 : 4 ≤ q
      · have CG1 := fun W => rget_ok ((b.extract 0 q).extract (q - 4) q) W (by simp; omega) (by simp; omega)
        have CS1 := fun W => Lib.hid (rsum_any ((b.extract 0 q).extract 0 (q - 4)) W (by simp; omega))
        obtain ⟨bb, hbb⟩ : ∃ bb, ((getL ((b.extract 0 q).extract (q - 4) q).data.toList : Int) == (crc ((b.extract 0 q).extract 0 (q - 4)).data.toList : Int)) = bb := ⟨_, rfl⟩
        have Hbb : Hid (fitsB (b.extract 0 q) → bb = true) := Lib.hid (fun hf => by
          have h9 := fits_read hf
          rw [hsq] at h9
          rw [← hbb, h9]
          exact beq_self_eq_true _)
        have CG1 := fun W => Lib.hid (CG1 W)
        generalize getL ((b.extract 0 q).extract (q - 4) q).data.toList = gn at *
        generalize crc ((b.extract 0 q).extract 0 (q - 4)).data.toList = sn at *
        have q4 : (4 : Int) ≤ (q : Int) := by omega
        have q5 : ¬ (q : Int) < 4 := by omega
        have q6 : (q : Int) ≤ (b.size : Int) := by omega
        by_cases hby : by_ % 256 = 0
        · have hb' : (by_ % 256 == 0) = true := by simp [hby]
          clear hby
          rcases hk with rfl | rfl <;> rcases hkq with rfl | rfl
          all_goals
            go_wp2_with fail
            refine (CG1 _).out.mono ?_
            rintro e w6 ⟨rfl, rfl⟩
            dsimp only
            go_wp2_with fail
            refine (CS1 _).out.mono ?_
            rintro e w7 ⟨rfl, rfl⟩
            dsimp only
            go_wp2_with fail
            refine (CO2 _ HB.out).out.mono ?_
            rintro e w8 ⟨o, er, rfl, ho, hb1⟩
            have HB := Lib.hid (HB.out.trans (hb1.mono HB.out.size))
            clear hb1
            dsimp only
            rcases ho.out with ⟨rfl, hf, t9, rfl, -⟩ | ⟨rfl, rfl⟩
            · have := Hbb.out hf
              subst this
              clear hf ho
              go_wp2_with fail
              refine (CA _ HB.out).out.mono ?_
              rintro e w9 ⟨rfl, hb1⟩
              have HB := Lib.hid (HB.out.trans (hb1.mono HB.out.size))
              clear hb1
              go_wp2_with fail
              go_ret
              exact ⟨rfl, HB.out⟩
            · clear ho
              cases bb
              all_goals
                go_wp2_with fail
                refine (CA _ HB.out).out.mono ?_
                rintro e w9 ⟨rfl, hb1⟩
                have HB := Lib.hid (HB.out.trans (hb1.mono HB.out.size))
                clear hb1
                go_wp2_with fail
                go_ret
                exact ⟨rfl, HB.out⟩
        · obtain ⟨d, hd⟩ : ∃ d : UInt8, d = UInt8.ofNat (b[m].toNat ^^^ (by_ % 256).toNat) := ⟨_, rfl⟩
          have hx : bits .xor .u8 ((b[m]'hm).toNat : Int) (by_ % 256) = (d.toNat : Int) := by
            have h1 := u8_xor (b[m].toNat) (UInt8.toNat_lt _) (by_ % 256).toNat (by omega)
            rw [Int.toNat_of_nonneg (by omega)] at h1
            rw [h1, hd, ← u8_of]
            exact Nat.xor_lt_two_pow (n := 8) (UInt8.toNat_lt _) (by omega)
          have hne : b[m] ≠ d := by
            intro e
            have h1 := congrArg UInt8.toNat e
            rw [hd, UInt8.toNat_ofNat', Nat.mod_eq_of_lt (Nat.xor_lt_two_pow (n := 8) (UInt8.toNat_lt _) (by omega))] at h1
            have h2 := xor_cancel 0 (by_ % 256).toNat b[m].toNat (by rw [Nat.zero_xor, Nat.xor_comm]; exact h1)
            omega
          obtain ⟨l, hl⟩ : ∃ l, l = b.data.toList.set m d := ⟨_, rfl⟩
          have hll : l.length = b.size := by rw [hl, List.length_set]; rfl
          have hnf : ¬ fitsB ⟨l.toArray⟩ := fits_changed (c := d) (wrt_fits HW.out) (k := m) hm hne hl
          have hbs := run_bytes_of_string (P := Tryd.prog) wr 9 38 5 b Tryd.underlying9 Tryd.underlying38 Tryd.underlying5
          generalize grownCap wr b.size 0 5 = cap at hbs
          have hrow : ∀ j (hj : j < b.size), (bytesRow b cap)[j]? = some (.int .u8 ((b[j]'hj).toNat : Int)) := fun j hj => bytesRow_at b cap j hj
          have hrsz : b.size ≤ (bytesRow b cap).size := by unfold bytesRow; rw [Array.size_append, Array.size_map]; exact Nat.le_add_right _ _
          generalize bytesRow b cap = row at *
          have hcell : (wr.alloc (.cells row 5 (row.size, row.size + 1))).cell? ⟨wr.heap.size, m, none⟩ = some (.int .u8 ((b[m]'hm).toNat : Int)) := (World.cell?_alloc_mark wr row 5 (row.size, row.size + 1) m).trans (hrow m hm)
          have hfr : (wr.alloc (.cells row 5 (row.size, row.size + 1))).frozen? ⟨wr.heap.size, m, none⟩ = false := by
            rw [World.frozen?_alloc_mark, decide_eq_false (by omega)]; rfl
          have hobj := obj_set (heap_alloc_new wr (.cells row 5 (row.size, row.size + 1))) m (.int .u8 (d.toNat : Int))
          have hb7 : Hid (Below w.heap.size w (((wr.alloc (.cells row 5 (row.size, row.size + 1))).setCell ⟨wr.heap.size, m, none⟩ (.int .u8 (d.toNat : Int))).drew)) := Lib.hid (below_setCell (below_alloc HB.out (Nat.le_refl _) _) HB.out.size _).drew
          have hcb : ∀ j (hj : j < l.length), (row.setIfInBounds m (.int .u8 (d.toNat : Int)))[j]? = some (b8 l[j]) := by
            intro j hj
            have hjs : j < b.size := by rw [← hll]; exact hj
            rw [Array.getElem?_setIfInBounds]
            have hlj : l[j]? = some l[j] := List.getElem?_eq_getElem hj
            have hl2 : l[j]? = if m = j then some d else b.data.toList[j]? := by
              rw [hl, List.getElem?_set]
              split
              · rw [if_pos (by simpa using hm)]
              · rfl
            by_cases e : m = j
            · subst e
              rw [if_pos rfl] at hl2
              rw [if_pos rfl, if_pos (by omega)]
              rw [hlj] at hl2
              rw [Option.some.inj hl2]
              rfl
            · rw [if_neg e] at hl2
              rw [if_neg e, hrow j hjs]
              rw [hlj, List.getElem?_eq_getElem (by simpa using hjs)] at hl2
              rw [Option.some.inj hl2]
              rfl
          have hcv : (convert 38 9 (.slice (some ⟨wr.heap.size, 0, none⟩) b.size cap)).run Tryd.prog (((wr.alloc (.cells row 5 (row.size, row.size + 1))).setCell ⟨wr.heap.size, m, none⟩ (.int .u8 (d.toNat : Int))).drew) = .ok (.string ⟨l.toArray⟩) (((wr.alloc (.cells row 5 (row.size, row.size + 1))).setCell ⟨wr.heap.size, m, none⟩ (.int .u8 (d.toNat : Int))).drew) := bytes_of_obj (w := ((wr.alloc (.cells row 5 (row.size, row.size + 1))).setCell ⟨wr.heap.size, m, none⟩ (.int .u8 (d.toNat : Int))).drew) hobj hll.symm hcb
          have hb' : (by_ % 256 == 0) = false := by simp [hby]
          have CO3 := Lib.hid (sopen_not ⟨l.toArray⟩ _ (by rw [size_mk]; omega) (HT.out.on hb7.out) hnf)
          clear hobj hcb hrow hl hll hne hd hby HB hnf
          rcases hk with rfl | rfl <;> rcases hkq with rfl | rfl
          all_goals
            go_wp2_with fail
            refine CO3.out.mono ?_
            rintro e w5 ⟨rfl, hb1⟩
            have HB := Lib.hid (hb7.out.trans (hb1.mono hb7.out.size))
            clear hb1 CO3 hcv hcell hfr hbs hx hb7
            dsimp only
            go_wp2_with fail
            refine (CG1 _).out.mono ?_
            rintro e w6 ⟨rfl, rfl⟩
            dsimp only
            go_wp2_with fail
            refine (CS1 _).out.mono ?_
            rintro e w7 ⟨rfl, rfl⟩
            dsimp only
            go_wp2_with fail
            refine (CO2 _ HB.out).out.mono ?_
            rintro e w8 ⟨o, er, rfl, ho, hb1⟩
            have HB := Lib.hid (HB.out.trans (hb1.mono HB.out.size))
            clear hb1
            dsimp only
            rcases ho.out with ⟨rfl, hf, t9, rfl, -⟩ | ⟨rfl, rfl⟩
            · have := Hbb.out hf
              subst this
              clear hf ho
              go_wp2_with fail
              refine (CA _ HB.out).out.mono ?_
              rintro e w9 ⟨rfl, hb1⟩
              have HB := Lib.hid (HB.out.trans (hb1.mono HB.out.size))
              clear hb1
              go_wp2_with fail
              go_ret
              exact ⟨rfl, HB.out⟩
            · clear ho
              cases bb
              all_goals
                go_wp2_with fail
                refine (CA _ HB.out).out.mono ?_
                rintro e w9 ⟨rfl, hb1⟩
                have HB := Lib.hid (HB.out.trans (hb1.mono HB.out.size))
                clear hb1
                go_wp2_with fail
                go_ret
                exact ⟨rfl, HB.out⟩
      · have q4 : ¬ (4 : Int) ≤ (q : Int) := by omega
        have q5 : (q : Int) < 4 := by omega
        have q6 : (q : Int) ≤ (b.size : Int) := by omega
        by_cases hby : by_ % 256 = 0
        · have hb' : (by_ % 256 == 0) = true := by simp [hby]
          clear hby
          rcases hk with rfl | rfl <;> rcases hkq with rfl | rfl
          all_goals
            go_wp2_with fail
            refine (CO2 _ HB.out).out.mono ?_
            rintro e w8 ⟨o, er, rfl, ho, hb1⟩
            have HB := Lib.hid (HB.out.trans (hb1.mono HB.out.size))
            clear hb1
            dsimp only
            rcases ho.out with ⟨rfl, hf, t9, rfl, -⟩ | ⟨rfl, rfl⟩
            · have := fits_size hf
              have h8 := Hsq.out
              omega
            · clear ho
              go_wp2_with fail
              refine (CA _ HB.out).out.mono ?_
              rintro e w9 ⟨rfl, hb1⟩
              have HB := Lib.hid (HB.out.trans (hb1.mono HB.out.size))
              clear hb1
              go_wp2_with fail
              go_ret
              exact ⟨rfl, HB.out⟩
        · obtain ⟨d, hd⟩ : ∃ d : UInt8, d = UInt8.ofNat (b[m].toNat ^^^ (by_ % 256).toNat) := ⟨_, rfl⟩
          have hx : bits .xor .u8 ((b[m]'hm).toNat : Int) (by_ % 256) = (d.toNat : Int) := by
            have h1 := u8_xor (b[m].toNat) (UInt8.toNat_lt _) (by_ % 256).toNat (by omega)
            rw [Int.toNat_of_nonneg (by omega)] at h1
            rw [h1, hd, ← u8_of]
            exact Nat.xor_lt_two_pow (n := 8) (UInt8.toNat_lt _) (by omega)
          have hne : b[m] ≠ d := by
            intro e
            have h1 := congrArg UInt8.toNat e
            rw [hd, UInt8.toNat_ofNat', Nat.mod_eq_of_lt (Nat.xor_lt_two_pow (n := 8) (UInt8.toNat_lt _) (by omega))] at h1
            have h2 := xor_cancel 0 (by_ % 256).toNat b[m].toNat (by rw [Nat.zero_xor, Nat.xor_comm]; exact h1)
            omega
          obtain ⟨l, hl⟩ : ∃ l, l = b.data.toList.set m d := ⟨_, rfl⟩
          have hll : l.length = b.size := by rw [hl, List.length_set]; rfl
          have hnf : ¬ fitsB ⟨l.toArray⟩ := fits_changed (c := d) (wrt_fits HW.out) (k := m) hm hne hl
          have hbs := run_bytes_of_string (P := Tryd.prog) wr 9 38 5 b Tryd.underlying9 Tryd.underlying38 Tryd.underlying5
          generalize grownCap wr b.size 0 5 = cap at hbs
          have hrow : ∀ j (hj : j < b.size), (bytesRow b cap)[j]? = some (.int .u8 ((b[j]'hj).toNat : Int)) := fun j hj => bytesRow_at b cap j hj
          have hrsz : b.size ≤ (bytesRow b cap).size := by unfold bytesRow; rw [Array.size_append, Array.size_map]; exact Nat.le_add_right _ _
          generalize bytesRow b cap = row at *
          have hcell : (wr.alloc (.cells row 5 (row.size, row.size + 1))).cell? ⟨wr.heap.size, m, none⟩ = some (.int .u8 ((b[m]'hm).toNat : Int)) := (World.cell?_alloc_mark wr row 5 (row.size, row.size + 1) m).trans (hrow m hm)
          have hfr : (wr.alloc (.cells row 5 (row.size, row.size + 1))).frozen? ⟨wr.heap.size, m, none⟩ = false := by
            rw [World.frozen?_alloc_mark, decide_eq_false (by omega)]; rfl
          have hobj := obj_set (heap_alloc_new wr (.cells row 5 (row.size, row.size + 1))) m (.int .u8 (d.toNat : Int))
          have hb7 : Hid (Below w.heap.size w (((wr.alloc (.cells row 5 (row.size, row.size + 1))).setCell ⟨wr.heap.size, m, none⟩ (.int .u8 (d.toNat : Int))).drew)) := Lib.hid (below_setCell (below_alloc HB.out (Nat.le_refl _) _) HB.out.size _).drew
          have hcb : ∀ j (hj : j < l.length), (row.setIfInBounds m (.int .u8 (d.toNat : Int)))[j]? = some (b8 l[j]) := by
            intro j hj
            have hjs : j < b.size := by rw [← hll]; exact hj
            rw [Array.getElem?_setIfInBounds]
            have hlj : l[j]? = some l[j] := List.getElem?_eq_getElem hj
            have hl2 : l[j]? = if m = j then some d else b.data.toList[j]? := by
              rw [hl, List.getElem?_set]
              split
              · rw [if_pos (by simpa using hm)]
              · rfl
            by_cases e : m = j
            · subst e
              rw [if_pos rfl] at hl2
              rw [if_pos rfl, if_pos (by omega)]
              rw [hlj] at hl2
              rw [Option.some.inj hl2]
              rfl
            · rw [if_neg e] at hl2
              rw [if_neg e, hrow j hjs]
              rw [hlj, List.getElem?_eq_getElem (by simpa using hjs)] at hl2
              rw [Option.some.inj hl2]
              rfl
          have hcv : (convert 38 9 (.slice (some ⟨wr.heap.size, 0, none⟩) b.size cap)).run Tryd.prog (((wr.alloc (.cells row 5 (row.size, row.size + 1))).setCell ⟨wr.heap.size, m, none⟩ (.int .u8 (d.toNat : Int))).drew) = .ok (.string ⟨l.toArray⟩) (((wr.alloc (.cells row 5 (row.size, row.size + 1))).setCell ⟨wr.heap.size, m, none⟩ (.int .u8 (d.toNat : Int))).drew) := bytes_of_obj (w := ((wr.alloc (.cells row 5 (row.size, row.size + 1))).setCell ⟨wr.heap.size, m, none⟩ (.int .u8 (d.toNat : Int))).drew) hobj hll.symm hcb
          have hb' : (by_ % 256 == 0) = false := by simp [hby]
          have CO3 := Lib.hid (sopen_not ⟨l.toArray⟩ _ (by rw [size_mk]; omega) (HT.out.on hb7.out) hnf)
          clear hobj hcb hrow hl hll hne hd hby HB hnf
          rcases hk with rfl | rfl <;> rcases hkq with rfl | rfl
          all_goals
            go_wp2_with fail
            refine CO3.out.mono ?_
            rintro e w5 ⟨rfl, hb1⟩
            have HB := Lib.hid (hb7.out.trans (hb1.mono hb7.out.size))
            clear hb1 CO3 hcv hcell hfr hbs hx hb7
            dsimp only
            go_wp2_with fail
            refine (CO2 _ HB.out).out.mono ?_
            rintro e w8 ⟨o, er, rfl, ho, hb1⟩
            have HB := Lib.hid (HB.out.trans (hb1.mono HB.out.size))
            clear hb1
            dsimp only
            rcases ho.out with ⟨rfl, hf, t9, rfl, -⟩ | ⟨rfl, rfl⟩
            · have := fits_size hf
              have h8 := Hsq.out
              omega
            · clear ho
              go_wp2_with fail
              refine (CA _ HB.out).out.mono ?_
              rintro e w9 ⟨rfl, hb1⟩
              have HB := Lib.hid (HB.out.trans (hb1.mono HB.out.size))
              clear hb1
              go_wp2_with fail
              go_ret
              exact ⟨rfl, HB.out⟩
end Go.Proofs.YtcbgflidlpmhcaaDoor
