/-
  Several texts in one: The document's own answer to chapter 11, part 2: Build.
  Numbers in groups of seven bits: the last group not zero, or only one (plain lists).
  Walks over the document's own answer to chapter 1: GetVar.
  The document's own answer to chapter 11, part 3: Parse.
  The book of lists, Keys: are they as they were? Marks are put into them. (Written by wip/gen/gen_bk.py.)
  The book of lists, Keys: all are grown; do all bear their marks? (Written by wip/gen/gen_bk.py.)
  The book of lists, Keys: one more is kept. (Written by wip/gen/gen_bk.py.)
  The book of lists: of a kind of which nothing was kept. (Written by wip/gen/gen_booknil.py.)
-/
import Derived.Test.YtmoffcgbjmeiaaaGreatDoorM3
import Derived.Test.YtmoffcgbjmeiaaaGreatDoorM2
import Derived.Deep.CutRange
import Derived.Deep.CutBlock
import Derived.Test.YtmoffcgbjmeiaaaGreatDoorM1
import Derived.Deep.RegionHeld3
import Derived.Deep.RegionLaw
import Derived.BigQuiet
import Derived.Test.YtmoffcgbjmeiaaaGreatDoorRows
import Derived.WalkKit
import Derived.WalkSpells
import Derived.WalkLawsBesides
namespace Go.Proofs.YtmoffcgbjmeiaaaGreatDoor
open Go.RowKit

/-- What stands while the bytes grow. -/
structure BSt (w : World) (v : Value) (l : List UInt8) (g a0 a1 : Nat) (k m : ByteArray) (W : World) : Prop where
  own : Byt W w.heap.size 5 v l
  c0 : W.cell? ⟨g, a0, none⟩ = some (.string k)
  c1 : W.cell? ⟨g, a1, none⟩ = some (.string m)
  lt : g < W.heap.size
  below : Below w.heap.size w W
theorem BSt.up {w : World} {v : Value} {l : List UInt8} {g a0 a1 : Nat} {k m : ByteArray} {W W' : World} (h : BSt w v l g a0 a1 k m W) (hb : Below W.heap.size W W') : BSt w v l g a0 a1 k m W' :=
  ⟨byt_up h.own hb, (hb.cell (p := ⟨g, a0, none⟩) h.lt).trans h.c0, (hb.cell (p := ⟨g, a1, none⟩) h.lt).trans h.c1, Nat.lt_of_lt_of_le h.lt hb.size, h.below.trans (hb.mono h.below.size)⟩
theorem BSt.cells {w : World} {v : Value} {l : List UInt8} {g a0 a1 : Nat} {k m : ByteArray} {W : World} (h : BSt w v l g a0 a1 k m W) : W.cell? ⟨g, a0, none⟩ = some (.string k) ∧ W.cell? ⟨g, a1, none⟩ = some (.string m) := ⟨h.c0, h.c1⟩
theorem bst_pv {w : World} {v : Value} {l : List UInt8} {g a0 a1 : Nat} {k m : ByteArray} {W : World} (h : BSt w v l g a0 a1 k m W) (u : Nat) (hu : u < 9223372036854775808) {s : ByteArray} (hs : (⟨(pv u).toArray⟩ : ByteArray) = s) :
    Calls Tryz.prog 18 #[.int .i64 (u : Int)] W fun e W' => e = .returned (.string s) ∧ BSt w v l g a0 a1 k m W' :=
  (rputvar_any u W hu).mono fun e W' ⟨h1, h2⟩ => ⟨by rw [h1, hs], h.up h2⟩

theorem byt_slice {w : World} {B : Nat} {e : TypeId} {v : Value} {l : List UInt8} (h : Byt w B e v l) : ∃ A c, v = .slice A l.length c := by
  rcases h.2 with ⟨rfl, hn⟩ | ⟨g, cap, cur, rfl, _⟩
  · exact ⟨none, 0, by rw [hn]⟩
  · exact ⟨_, _, rfl⟩
theorem take_snoc {L : List KV} {k : Nat} {m : KV} (hm : L[k]? = some m) : L.take (k + 1) = L.take k ++ [m] := by
  obtain ⟨h1, h2⟩ := List.getElem?_eq_some_iff.1 hm
  rw [List.take_succ_eq_append_getElem h1, h2]
theorem take_body {L : List KV} {k : Nat} {m : KV} (hm : L[k]? = some m) : bodyL 0 [] (L.take (k + 1)) = bodyL 0 [] (L.take k) ++ onePair k (lastK [] (L.take k)) (bl m.1) (bl m.2) := by
  have h1 := (List.getElem?_eq_some_iff.1 hm).1
  rw [take_snoc hm, bodyL_snoc, List.length_take, Nat.min_eq_left (by omega), Nat.zero_add]
theorem lastK_take {L : List KV} {k : Nat} {m : KV} (hm : L[k]? = some m) : lastK [] (L.take (k + 1)) = bl m.1 := by
  rw [take_snoc hm, lastK_snoc]
theorem put4 {v : Nat} (hv : v < 4294967296) {s : ByteArray} {er : Int} (h : PutIs (v : Int) 4 s er) : er = 0 ∧ s = ⟨(be v 4).toArray⟩ := by
  rcases h with ⟨h1, _, _, _, _, h2⟩ | ⟨_, _, h3⟩
  · exact ⟨h1, h2⟩
  · rcases h3 with h3 | h3 | h3 | h3
    · exact absurd h3 (by decide)
    · exact absurd h3 (by decide)
    · omega
    · have : (2 : Int) ^ (8 * (4 : Int).toNat) = 4294967296 := by decide
      rw [this] at h3
      omega
theorem below_drewN' {w : World} (j : Nat) : Below w.heap.size w (w.drewN j) := (Tn.refl w.heap.size (fun _ => false) w).drewN j |>.below (Nat.le_refl _)
theorem below_drew' {w : World} : Below w.heap.size w w.drew := (Tn.refl w.heap.size (fun _ => false) w).drew |>.below (Nat.le_refl _)

set_option maxRecDepth 100000 in
set_option maxHeartbeats 16000000 in
theorem rbuild (A : Option Addr) (n c : Nat) (L : List KV) (w : World) (h : KeysAt w A n L) (hok : okP L) (hn : n ≤ 1000000) :
    Calls Tryz.prog 6 #[.slice A n c] w fun e w' => e = .returned (.tuple #[.string (buildP L).1, .int .i64 (buildP L).2]) ∧ Below w.heap.size w w' := by
  have HK := Lib.hid h
  have Hok := Lib.hid hok
  have Hlen := Lib.hid h.len
  have C0 := Lib.hid (rrising A n c L w h hok hn)
  obtain ⟨rs, re, hr⟩ : ∃ rs re, buildP L = (rs, re) := ⟨_, _, rfl⟩
  rw [hr]
  have Hr := Lib.hid hr
  clear h hok hr
  have mixed : Tryz.prog.follows .mixedOrders = true := by kernel_rfl
  cases hrise : risesK L with
  | false =>
    obtain ⟨rfl, rfl⟩ : rs = ByteArray.empty ∧ re = 32 := by
      have := Hr.out
      unfold buildP at this
      rw [if_pos hrise] at this
      exact ⟨(congrArg Prod.fst this).symm, (congrArg Prod.snd this).symm⟩
    rw [hrise] at C0
    clear hrise
    go_enter Tryz.func6, Tryz.ntmps6
    go_wp2_with fail
    refine C0.out.mono ?_
    rintro e w1 ⟨rfl, hb⟩
    have H := Lib.hid hb
    clear hb
    go_wp2_with fail
    go_ret2
    exact ⟨rfl, H.out⟩
  | true =>
    rw [hrise] at C0
    have Hrise := Lib.hid hrise
    clear hrise
    go_enter Tryz.func6, Tryz.ntmps6
    go_wp2_with fail
    refine C0.out.mono ?_
    rintro e w1 ⟨rfl, hb⟩
    have HB1 := Lib.hid hb
    clear hb C0
    go_wp2_with fail
    go_loopw [4, 5] (fun b i wr => ∃ k : Nat, k ≤ n ∧ i = .int .i64 (k : Int) ∧ Hid (Byt wr w.heap.size 5 b (bodyL 0 [] (L.take k))) ∧ Hid ((bodyL 0 [] (L.take k)).length ≤ k * 140000) ∧ Hid (∀ m ∈ L.take k, m.1.size ≤ 65536 ∧ m.2.size ≤ 65536) ∧ Hid (Below w.heap.size w wr)) (fun _ i _ => n - (intOf i).toNat)
    case atStart => exact ⟨0, Nat.zero_le _, rfl, Lib.hid (Byt.nil _ _ _), Lib.hid (Nat.zero_le _), Lib.hid (fun m hm => by simp at hm), HB1⟩
    case round =>
      obtain ⟨k, hk, rfl, HO, HL, HS, HB⟩ := hrel
      clear HB1
      by_cases hl : k < n
      · have hkL : k < L.length := by have := Hlen.out; omega
        have hm : L[k]? = some L[k] := List.getElem?_eq_getElem hkL
        have om := Hok.out L[k] (List.getElem_mem hkL)
        have hmem := List.getElem_mem hkL
        generalize L[k] = mm at *
        obtain ⟨key, vv⟩ := mm
        dsimp only at om
        obtain ⟨g, off, hA, hg, x0, x1⟩ := (HK.out.below HB.out).at_ k _ hm
        subst hA
        dsimp only at x0 x1
        have g1 : (k : Int) < (n : Int) := by omega
        have g2 : (0 : Int) ≤ (k : Int) := by omega
        have Hm := Lib.hid hm
        have Hmem := Lib.hid hmem
        clear hm hmem
        by_cases hbig : 65536 < key.size ∨ 65536 < vv.size
        · obtain ⟨rfl, rfl⟩ : rs = ByteArray.empty ∧ re = 2 := by
            have h1 := Hr.out
            have h2 : longK L = true := by
              unfold longK
              rw [List.any_eq_true]
              exact ⟨_, Hmem.out, by simpa using hbig⟩
            unfold buildP at h1
            rw [if_neg (by rw [Hrise.out]; decide), if_pos h2] at h1
            exact ⟨(congrArg Prod.fst h1).symm, (congrArg Prod.snd h1).symm⟩
          by_cases hb1 : 65536 < key.size
          · have q1 : (65536 : Int) < (key.size : Int) := by omega
            have q2 : decide ((65536 : Int) < (key.size : Int)) = true := decide_eq_true q1
            clear hb1 hbig om
            go_wp2_with fail
            go_ret2
            exact ⟨rfl, HB.out⟩
          · have q0 : ¬ (65536 : Int) < (key.size : Int) := by omega
            have q1 : (65536 : Int) < (vv.size : Int) := by omega
            have q2 : decide ((65536 : Int) < (key.size : Int)) = false := decide_eq_false q0
            have q3 : decide ((65536 : Int) < (vv.size : Int)) = true := decide_eq_true q1
            clear hb1 hbig om
            go_wp2_with fail
            go_ret2
            exact ⟨rfl, HB.out⟩
        · have s1 : key.size ≤ 65536 := by omega
          have s2 : vv.size ≤ 65536 := by omega
          have q0 : ¬ (65536 : Int) < (key.size : Int) := by omega
          have q1 : ¬ (65536 : Int) < (vv.size : Int) := by omega
          have q2 : decide ((65536 : Int) < (key.size : Int)) = false := decide_eq_false q0
          have q3 : decide ((65536 : Int) < (vv.size : Int)) = false := decide_eq_false q1
          clear hbig om
          obtain ⟨q, hq⟩ : ∃ q, comI k (lastK [] (L.take k)) (bl key) = q := ⟨_, rfl⟩
          have hqk : q ≤ key.size := by have := (comI_le k (lastK [] (L.take k)) (bl key)).1; rw [hq] at this; exact this
          have Hq := Lib.hid hq
          clear hq
          go_upto_if 38 with fail
          generalize htb : ((k : Int) % 8 != 0) = tb
          have Htb := Lib.hid htb
          clear htb
          go_cut [6] from 39 to 77 (fun s6 wx => s6 = .int .i64 (q : Int) ∧ Hid (Below wr.heap.size wr wx))
          case first =>
            as_aux_lemma =>
            cases tb with
            | false =>
              have hq0 : q = 0 := by
                have h0 : (k : Int) % 8 = 0 := by have := Htb.out; simpa using this
                rw [← Hq.out]; unfold comI; rw [if_pos (by omega)]
              have Hq0 := Lib.hid hq0
              clear hq0
              go_wp2_with fail
              go_meet
              exact ⟨by rw [Hq0.out]; rfl, Lib.hid (Below.refl _ _)⟩
            | true =>
              have hmod : ¬ (k : Int) % 8 = 0 := by have := Htb.out; simpa using this
              obtain ⟨j, hj⟩ : ∃ j, k = j + 1 := ⟨k - 1, by omega⟩
              have hjL : j < L.length := by omega
              have hjm : L[j]? = some L[j] := List.getElem?_eq_getElem hjL
              generalize L[j] = pm at *
              obtain ⟨pk, pvv⟩ := pm
              have hlast : lastK [] (L.take k) = bl pk := by rw [hj]; exact lastK_take hjm
              have hqc : Hid (comL (bl key) (bl pk) = q) := Lib.hid (by rw [← Hq.out, hlast]; unfold comI; rw [if_neg (by omega)])
              obtain ⟨g', off', e', -, y0, -, y1, -⟩ := (HK.out.below HB.out).two Hm.out hjm
              cases e'
              dsimp only at y0 y1
              have j1 : (j : Int) < (n : Int) := by omega
              have j2 : (0 : Int) ≤ (j : Int) := by omega
              have j3 : wrap64 ((k : Int) - 1) = (j : Int) := by unfold wrap64; omega
              have j4 : IntKind.i64.wrap ((k : Int) - 1) = (j : Int) := by rw [IntKind.wrap_i64]; omega
              have Hk1 := Lib.hid hj
              have X0g := Lib.hid hg
              clear hj hjm hjL hlast hmod x0 x1 s2 q0 q1 q2 q3
              go_wp2_with fail
              generalize wr = wo at *
              go_loopw [6] (fun s wx => ∃ t : Nat, s = .int .i64 (t : Int) ∧ t ≤ key.size ∧ Hid (q = t + comL ((bl key).drop t) ((bl pk).drop t)) ∧ Hid (Below wo.heap.size wo wx)) (fun s _ => key.size - (intOf s).toNat)
              case atStart => exact ⟨0, rfl, Nat.zero_le _, Lib.hid (by rw [← hqc.out, List.drop_zero, List.drop_zero, Nat.zero_add]), Lib.hid (Below.refl _ _)⟩
              case round =>
                obtain ⟨t, rfl, ht, HQ, HX⟩ := hrel
                have X0 : wr.cell? ⟨g, off + k * 2, none⟩ = some (.string key) := (HX.out.cell (p := ⟨g, off + k * 2, none⟩) X0g.out).trans y0
                have X1 : wr.cell? ⟨g, off + j * 2, none⟩ = some (.string pk) := (HX.out.cell (p := ⟨g, off + j * 2, none⟩) X0g.out).trans y1
                have t0 : (0 : Int) ≤ (t : Int) := by omega
                clear y0 y1
                by_cases ta : t < key.size
                · have ta1 : (t : Int) < (key.size : Int) := by omega
                  have ta2 : decide ((t : Int) < (key.size : Int)) = true := decide_eq_true ta1
                  by_cases tb : t < pk.size
                  · have tb1 : (t : Int) < (pk.size : Int) := by omega
                    have tb2 : decide ((t : Int) < (pk.size : Int)) = true := decide_eq_true tb1
                    by_cases te : key[t] = pk[t]
                    · have te1 : ((key[t].toNat : Int) == (pk[t].toNat : Int)) = true := by rw [te]; simp
                      have te2 : (key[t].toNat == pk[t].toNat) = true := by rw [te]; simp
                      have te3 : (key[t] == pk[t]) = true := by rw [te]; simp
                      have HQ2 : Hid (q = (t + 1) + comL ((bl key).drop (t + 1)) ((bl pk).drop (t + 1))) := Lib.hid (by
                        have h1 := comL_step (bl key) (bl pk) t ta tb te
                        rw [HQ.out, h1]; omega)
                      clear te
                      go_upto_region 11 with fail
                      refine wp_region_wq (fun W => ∃ j, W = wr.drewN j) mixed (by kernel_rfl) ⟨1, rfl⟩ ?_
                      repeat' (first
                        | (refine wq_skip (by rfl) ?_; try simp only [Act.put, List.setIfInBounds_toArray, List.set_cons_zero, List.set_cons_succ])
                        | (refine wq_take (by rfl) ?_ (fun W hW => ?_) ?_
                           rotate_left
                           focus
                             obtain ⟨jw, rfl⟩ := hW
                             have e0 : (wr.drewN jw).cell? ⟨g, off + k * 2, none⟩ = some (.string key) := X0
                             have e1 : (wr.drewN jw).cell? ⟨g, off + j * 2, none⟩ = some (.string pk) := X1
                             go_simp
                             first
                               | (refine ⟨rfl, _, rfl⟩)
                               | exact ⟨_, rfl⟩
                               | done
                               | with_reducible rfl
                           try simp only [Act.put, List.setIfInBounds_toArray, List.set_cons_zero, List.set_cons_succ]))
                      refine wq_nil (fun w9 S9 => ?_)
                      obtain ⟨jw, rfl⟩ := S9
                      have HX9 := Lib.hid (HX.out.trans ((below_drewN' (w := wr) jw).mono HX.out.size))
                      go_wp2_with fail
                      go_roundw
                      case rel => exact ⟨t + 1, by go_num, by omega, HQ2, HX9⟩
                      case measure => simp [intOf]; omega
                    · have te1 : ((key[t].toNat : Int) == (pk[t].toNat : Int)) = false := by rw [beq_eq_false_iff_ne]; intro h; exact te (UInt8.toNat_inj.1 (by omega))
                      have te2 : (key[t].toNat == pk[t].toNat) = false := by rw [beq_eq_false_iff_ne]; intro h; exact te (UInt8.toNat_inj.1 h)
                      have te3 : (key[t] == pk[t]) = false := by rw [beq_eq_false_iff_ne]; exact te
                      obtain rfl : q = t := by rw [HQ.out, comL_stop (bl key) (bl pk) t (Or.inr (Or.inr ⟨ta, tb, te⟩)), Nat.add_zero]
                      clear te HQ hqc
                      go_upto_region 11 with fail
                      refine wp_region_wq (fun W => ∃ j, W = wr.drewN j) mixed (by kernel_rfl) ⟨1, rfl⟩ ?_
                      repeat' (first
                        | (refine wq_skip (by rfl) ?_; try simp only [Act.put, List.setIfInBounds_toArray, List.set_cons_zero, List.set_cons_succ])
                        | (refine wq_take (by rfl) ?_ (fun W hW => ?_) ?_
                           rotate_left
                           focus
                             obtain ⟨jw, rfl⟩ := hW
                             have e0 : (wr.drewN jw).cell? ⟨g, off + k * 2, none⟩ = some (.string key) := X0
                             have e1 : (wr.drewN jw).cell? ⟨g, off + j * 2, none⟩ = some (.string pk) := X1
                             go_simp
                             first
                               | (refine ⟨rfl, _, rfl⟩)
                               | exact ⟨_, rfl⟩
                               | done
                               | with_reducible rfl
                           try simp only [Act.put, List.setIfInBounds_toArray, List.set_cons_zero, List.set_cons_succ]))
                      refine wq_nil (fun w9 S9 => ?_)
                      obtain ⟨jw, rfl⟩ := S9
                      have HX9 := Lib.hid (HX.out.trans ((below_drewN' (w := wr) jw).mono HX.out.size))
                      go_wp2_with fail
                      go_meet
                      exact ⟨rfl, HX9⟩
                  · have tb1 : ¬ (t : Int) < (pk.size : Int) := by omega
                    have tb2 : decide ((t : Int) < (pk.size : Int)) = false := decide_eq_false tb1
                    obtain rfl : q = t := by rw [HQ.out, comL_stop (bl key) (bl pk) t (Or.inr (Or.inl (by rw [bl_len]; omega))), Nat.add_zero]
                    clear HQ hqc
                    go_upto_region 11 with fail
                    refine wp_region_wq (fun W => ∃ j, W = wr.drewN j) mixed (by kernel_rfl) ⟨1, rfl⟩ ?_
                    repeat' (first
                      | (refine wq_skip (by rfl) ?_; try simp only [Act.put, List.setIfInBounds_toArray, List.set_cons_zero, List.set_cons_succ])
                      | (refine wq_take (by rfl) ?_ (fun W hW => ?_) ?_
                         rotate_left
                         focus
                           obtain ⟨jw, rfl⟩ := hW
                           have e0 : (wr.drewN jw).cell? ⟨g, off + k * 2, none⟩ = some (.string key) := X0
                           have e1 : (wr.drewN jw).cell? ⟨g, off + j * 2, none⟩ = some (.string pk) := X1
                           go_simp
                           first
                             | (refine ⟨rfl, _, rfl⟩)
                             | exact ⟨_, rfl⟩
                             | done
                             | with_reducible rfl
                         try simp only [Act.put, List.setIfInBounds_toArray, List.set_cons_zero, List.set_cons_succ]))
                    refine wq_nil (fun w9 S9 => ?_)
                    obtain ⟨jw, rfl⟩ := S9
                    have HX9 := Lib.hid (HX.out.trans ((below_drewN' (w := wr) jw).mono HX.out.size))
                    go_wp2_with fail
                    go_meet
                    exact ⟨rfl, HX9⟩
                · have ta1 : ¬ (t : Int) < (key.size : Int) := by omega
                  have ta2 : decide ((t : Int) < (key.size : Int)) = false := decide_eq_false ta1
                  obtain rfl : q = t := by rw [HQ.out, comL_stop (bl key) (bl pk) t (Or.inl (by rw [bl_len]; omega)), Nat.add_zero]
                  clear HQ hqc
                  go_upto_region 11 with fail
                  refine wp_region_wq (fun W => ∃ j, W = wr.drewN j) mixed (by kernel_rfl) ⟨1, rfl⟩ ?_
                  repeat' (first
                    | (refine wq_skip (by rfl) ?_; try simp only [Act.put, List.setIfInBounds_toArray, List.set_cons_zero, List.set_cons_succ])
                    | (refine wq_take (by rfl) ?_ (fun W hW => ?_) ?_
                       rotate_left
                       focus
                         obtain ⟨jw, rfl⟩ := hW
                         have e0 : (wr.drewN jw).cell? ⟨g, off + k * 2, none⟩ = some (.string key) := X0
                         have e1 : (wr.drewN jw).cell? ⟨g, off + j * 2, none⟩ = some (.string pk) := X1
                         go_simp
                         first
                           | (refine ⟨rfl, _, rfl⟩)
                           | exact ⟨_, rfl⟩
                           | done
                           | with_reducible rfl
                       try simp only [Act.put, List.setIfInBounds_toArray, List.set_cons_zero, List.set_cons_succ]))
                  refine wq_nil (fun w9 S9 => ?_)
                  obtain ⟨jw, rfl⟩ := S9
                  have HX9 := Lib.hid (HX.out.trans ((below_drewN' (w := wr) jw).mono HX.out.size))
                  go_wp2_with fail
                  go_meet
                  exact ⟨rfl, HX9⟩
          case rest =>
          as_aux_lemma =>
          obtain ⟨rfl, HX⟩ := hcut
          obtain ⟨d, hd⟩ : ∃ d, key.size - q = d := ⟨_, rfl⟩
          obtain ⟨p1, hp1⟩ : ∃ p1, (⟨(pv q).toArray⟩ : ByteArray) = p1 := ⟨_, rfl⟩
          obtain ⟨p2, hp2⟩ : ∃ p2, (⟨(pv d).toArray⟩ : ByteArray) = p2 := ⟨_, rfl⟩
          obtain ⟨p3, hp3⟩ : ∃ p3, (⟨(pv vv.size).toArray⟩ : ByteArray) = p3 := ⟨_, rfl⟩
          obtain ⟨ke, hke⟩ : ∃ ke, key.extract q key.size = ke := ⟨_, rfl⟩
          have z1 : p1.size ≤ 9 := by rw [← hp1, size_mk]; exact pv_len9 q (by omega)
          have z2 : p2.size ≤ 9 := by rw [← hp2, size_mk]; exact pv_len9 d (by omega)
          have z3 : p3.size ≤ 9 := by rw [← hp3, size_mk]; exact pv_len9 vv.size (by omega)
          have z4 : ke.size ≤ 65536 := by rw [← hke, ByteArray.size_extract]; omega
          obtain ⟨c1, hc1⟩ : ∃ c1, p1 ++ p2 = c1 := ⟨_, rfl⟩
          obtain ⟨c2, hc2⟩ : ∃ c2, c1 ++ p3 = c2 := ⟨_, rfl⟩
          obtain ⟨c3, hc3⟩ : ∃ c3, c2 ++ ke = c3 := ⟨_, rfl⟩
          obtain ⟨c4, hc4⟩ : ∃ c4, c3 ++ vv = c4 := ⟨_, rfl⟩
          have y1 : c1.size = p1.size + p2.size := by rw [← hc1, cat_size]
          have y2 : c2.size = c1.size + p3.size := by rw [← hc2, cat_size]
          have y3 : c3.size = c2.size + ke.size := by rw [← hc3, cat_size]
          have y4 : c4.size = c3.size + vv.size := by rw [← hc4, cat_size]
          have r1 := cat_is (P := Tryz.prog) p1 p2 c1 hc1 (by omega)
          have r2 := cat_is (P := Tryz.prog) c1 p3 c2 hc2 (by omega)
          have r3 := cat_is (P := Tryz.prog) c2 ke c3 hc3 (by omega)
          have r4 := cat_is (P := Tryz.prog) c3 vv c4 hc4 (by omega)
          rw [← hke] at r3
          have hbytes : Hid (bl c4 = onePair k (lastK [] (L.take k)) (bl key) (bl vv)) := Lib.hid (by
            have e1 : bl ke = (bl key).drop q := by
              rw [← hke]
              simp [bl]
              rw [List.take_of_length_le (by simp [List.length_drop])]
            rw [onePair, Hq.out, bl_len key, hd, bl_len vv]
            unfold bl at e1 ⊢
            rw [← hc4, ← hc3, ← hc2, ← hc1, cat_list, cat_list, cat_list, cat_list, e1, ← hp1, ← hp2, ← hp3]
            simp [List.append_assoc])
          have hroom : Hid ((bodyL 0 [] (L.take k)).length + c4.size < 140737488355328) := Lib.hid (by have := HL.out; have : k * 140000 ≤ 1000000 * 140000 := Nat.mul_le_mul_right _ (by omega); omega)
          have h4 : Hid (c4.size ≤ 140000) := Lib.hid (by omega)
          have BS := Lib.hid (BSt.up (g := g) (a0 := off + k * 2) (a1 := off + k * 2 + 1) (k := key) (m := vv) ⟨HO.out, x0, x1, hg, HB.out⟩ HX.out)
          have g4 : (q : Int) ≤ (key.size : Int) := by omega
          have g5 : (0 : Int) ≤ (q : Int) := by omega
          have g6 : wrap64 ((key.size : Int) - (q : Int)) = (d : Int) := by unfold wrap64; omega
          have g7 : IntKind.i64.wrap ((key.size : Int) - (q : Int)) = (d : Int) := by rw [IntKind.wrap_i64]; omega
          have CA := fun W S => Lib.hid (bst_pv (w := w) (v := u4) (l := bodyL 0 [] (L.take k)) (g := g) (a0 := off + k * 2) (a1 := off + k * 2 + 1) (k := key) (m := vv) (W := W) S q (by omega) hp1)
          have CB := fun W S => Lib.hid (bst_pv (w := w) (v := u4) (l := bodyL 0 [] (L.take k)) (g := g) (a0 := off + k * 2) (a1 := off + k * 2 + 1) (k := key) (m := vv) (W := W) S d (by omega) hp2)
          have CV := fun W S => Lib.hid (bst_pv (w := w) (v := u4) (l := bodyL 0 [] (L.take k)) (g := g) (a0 := off + k * 2) (a1 := off + k * 2 + 1) (k := key) (m := vv) (W := W) S vv.size (by omega) hp3)
          have S0 := BS.out.up (below_drew' (w := wc))
          obtain ⟨g', off', e', hg0, X0, X1⟩ := HK.out.at_ k _ Hm.out
          cases e'
          have XC := fun W (hW : Below w.heap.size w W) => (⟨(hW.cell (p := ⟨g, off + k * 2, none⟩) hg0).trans X0, (hW.cell (p := ⟨g, off + k * 2 + 1, none⟩) hg0).trans X1⟩ : W.cell? ⟨g, off + k * 2, none⟩ = some (.string key) ∧ W.cell? ⟨g, off + k * 2 + 1, none⟩ = some (.string vv))
          clear X0 X1
          clear z1 z2 z3 z4 y1 y2 y3 y4 hc1 hc2 hc3 hc4 hp1 hp2 hp3 hke hd x0 x1
          go_upto_region 13 with fail
          go_region_held3 (fun W => W.cell? ⟨g, off + k * 2, none⟩ = some (.string key) ∧ W.cell? ⟨g, off + k * 2 + 1, none⟩ = some (.string vv))
            (first | exact XC _ HB8 | exact XC _ S7.below | exact XC _ S6.below | exact XC _ S5.below | exact XC _ S0.below)
            (first
              | (go_at_call 18; refine (CV _ S6).out.mono ?_; rintro e w7 ⟨rfl, S7⟩)
              | (go_at_call 18; refine (CB _ S5).out.mono ?_; rintro e w6 ⟨rfl, S6⟩)
              | (go_at_call 18; refine (CA _ S0).out.mono ?_; rintro e w5 ⟨rfl, S5⟩)
              | (refine step_append_str rfl (.tmp 78) (.tmp 112) 54 9 rfl Tryz.underlying54 Tryz.underlying9 u8info (by simp [Act.eval]) S7.own c4 (by simp [Act.eval]) hroom.out S7.below.size ?_; intro v8 w8 HO8 hg8; have HB8 := S7.own.grown S7.below S7.below.size hg8))
          have HB8 := Lib.hid HB8
          have HO9 : Hid (Byt w8 w.heap.size 5 v8 (bodyL 0 [] (L.take (k + 1)))) := Lib.hid (by rw [take_body Hm.out]; have := hbytes.out; unfold bl at this ⊢; rw [← this]; exact HO8)
          have HL9 : Hid ((bodyL 0 [] (L.take (k + 1))).length ≤ (k + 1) * 140000) := Lib.hid (by
            rw [take_body Hm.out, List.length_append, ← hbytes.out, bl_len]
            have h1 := HL.out
            have h2 := h4.out
            omega)
          have HS9 : Hid (∀ m ∈ L.take (k + 1), m.1.size ≤ 65536 ∧ m.2.size ≤ 65536) := Lib.hid (by
            intro m hm
            rw [take_snoc Hm.out, List.mem_append, List.mem_singleton] at hm
            rcases hm with hm | rfl
            · exact HS.out m hm
            · exact ⟨s1, s2⟩)
          clear S0 S5 S6 S7 CA CB CV HO8 hg8 BS XC HO HL HS hbytes hroom h4
          go_wp2_with fail
          go_roundw
          case rel => exact ⟨k + 1, by omega, by go_num, HO9, HL9, HS9, HB8⟩
          case measure => simp [intOf]; omega
      · as_aux_lemma =>
        obtain rfl : k = n := by omega
        have g1 : ¬ (k : Int) < (k : Int) := by omega
        have hLk : L.take k = L := List.take_of_length_le (by have := Hlen.out; omega)
        rw [hLk] at HO HL HS
        have hlong : longK L = false := by
          unfold longK
          rw [List.any_eq_false]
          intro m hm
          have := HS.out m hm
          simp
          omega
        have Hbuild : Hid ((rs, re) = if 524288 < (blkL L).length then (ByteArray.empty, (2 : Int)) else (⟨(blkL L).toArray⟩, 0)) := Lib.hid (by
          rw [← Hr.out]
          unfold buildP
          rw [if_neg (by rw [Hrise.out]; decide), if_neg (by rw [hlong]; decide)])
        have hblk : Hid (blkL L = (bodyL 0 [] L ++ be k 4) ++ be (crc (bodyL 0 [] L ++ be k 4)) 4) := Lib.hid (by rw [blkL, ← Hlen.out])
        have hbl : Hid ((bodyL 0 [] L).length ≤ 140000000000) := Lib.hid (by have := HL.out; have : k * 140000 ≤ 1000000 * 140000 := Nat.mul_le_mul_right _ hn; omega)
        generalize bodyL 0 [] L = body at *
        clear hlong hLk HS HL hl hk
        have CP := Lib.hid (rput_any (k : Int) 4 wr (by omega))
        go_wp2_with fail
        refine CP.out.mono ?_
        rintro e w2 ⟨p4, er, rfl, hP, hb2⟩
        obtain ⟨rfl, hp4⟩ := put4 (by omega) hP.out
        have hl4 : p4.size = 4 := by rw [hp4, size_mk, be_length]
        have HO2 := Lib.hid (byt_up HO.out hb2)
        have HB2 := Lib.hid (HB.out.trans (hb2.mono HB.out.size))
        have hroom : Hid (body.length + p4.size < 140737488355328) := Lib.hid (by have := hbl.out; omega)
        have Hp4 := Lib.hid hp4
        have Hl4 := Lib.hid hl4
        clear CP hP hb2 HO HB hp4 hl4
        go_wp2_with (at_builtin; refine wpList_append_str _ rfl (.tmp 120) (.tmp 121) 54 9 rfl Tryz.underlying54 Tryz.underlying9 u8info rfl HO2.out p4 rfl hroom.out HB2.out.size ?_; intro v3 w3 HO3 hg3)
        have HB3 := Lib.hid (HO2.out.grown HB2.out HB2.out.size hg3)
        rw [show p4.data.toList = be k 4 from by rw [Hp4.out]] at HO3
        obtain ⟨A3, c3, rfl⟩ := byt_slice HO3
        obtain ⟨n3, hn3⟩ : ∃ n3, (body ++ be k 4).length = n3 := ⟨_, rfl⟩
        have hlen : (blkL L).length = n3 + 4 := by rw [hblk.out, List.length_append, be_length, hn3]
        have hn3b : n3 ≤ 140000000004 := by rw [← hn3, List.length_append, be_length]; have := hbl.out; omega
        rw [hn3] at HO3 ⊢
        obtain ⟨s3, hs3⟩ : ∃ s3, (⟨(body ++ be k 4).toArray⟩ : ByteArray) = s3 := ⟨_, rfl⟩
        have hs3n : s3.size = n3 := by rw [← hs3, size_mk, hn3]
        have HO4 := Lib.hid HO3
        have hln := fun W => run_len_slice (P := Tryz.prog) (w := W) 54 3 A3 n3 c3 (by kernel_rfl)
        have w1 : wrap64 ((n3 : Int) + 4) = (n3 : Int) + 4 := by unfold wrap64; omega
        have w1' : IntKind.i64.wrap ((n3 : Int) + 4) = (n3 : Int) + 4 := by rw [IntKind.wrap_i64]; omega
        clear HO2 HB2 hroom hbl Hp4 Hl4 hg3 HO3
        by_cases hbig : 524288 < n3 + 4
        · have q1 : (524288 : Int) < (n3 : Int) + 4 := by omega
          have q2 : decide ((524288 : Int) < (n3 : Int) + 4) = true := decide_eq_true q1
          obtain ⟨rfl, rfl⟩ : rs = ByteArray.empty ∧ re = 2 := by
            have := Hbuild.out
            rw [if_pos (by omega)] at this
            exact ⟨congrArg Prod.fst this, congrArg Prod.snd this⟩
          clear hn3 hlen hs3 hs3n hbig
          go_wp2_with fail
          rw [hln]
          go_wp2_with fail
          go_ret2
          exact ⟨rfl, HB3.out⟩
        · have q1 : ¬ (524288 : Int) < (n3 : Int) + 4 := by omega
          have q2 : decide ((524288 : Int) < (n3 : Int) + 4) = false := decide_eq_false q1
          have hcv := HO4.out.string (src := 54) (dst := 9) Tryz.underlying54 Tryz.underlying5 Tryz.underlying9
          rw [hs3] at hcv
          have CS := Lib.hid (rsum_any s3 w3 (by omega))
          have hcrc : crc s3.data.toList < 4294967296 := crc_lt _
          obtain ⟨cr, hcr⟩ : ∃ cr, crc s3.data.toList = cr := ⟨_, rfl⟩
          rw [hcr] at CS hcrc
          have CP := Lib.hid (rput_any (cr : Int) 4 w3 (by omega))
          have Hcrc := Lib.hid hcrc
          have Hs3 := Lib.hid hs3
          have Hcr := Lib.hid hcr
          have Hlen3 := Lib.hid hlen
          have Hs3n := Lib.hid hs3n
          have Hn3b : Hid (n3 + 4 ≤ 524288) := Lib.hid (by omega)
          clear hs3 hcr hlen hs3n hcrc hn3 hbig hn3b
          go_wp2_with fail
          refine CS.out.mono ?_
          rintro e w4 ⟨rfl, rfl⟩
          go_wp2_with fail
          refine CP.out.mono ?_
          rintro e w5 ⟨p5, er5, rfl, hP5, hb5⟩
          obtain ⟨rfl, hp5⟩ := put4 Hcrc.out hP5.out
          have hcv5 := (byt_up HO4.out hb5).string (src := 54) (dst := 9) Tryz.underlying54 Tryz.underlying5 Tryz.underlying9
          rw [Hs3.out] at hcv5
          have z5 : p5.size = 4 := by rw [hp5, size_mk, be_length]
          obtain ⟨c5, hc5⟩ : ∃ c5, s3 ++ p5 = c5 := ⟨_, rfl⟩
          have rc := cat_is (P := Tryz.prog) s3 p5 c5 hc5 (by have := Hs3n.out; have := Hn3b.out; omega)
          obtain ⟨rfl, rfl⟩ : rs = c5 ∧ re = 0 := by
            have h1 := Hbuild.out
            rw [if_neg (by rw [Hlen3.out]; have := Hn3b.out; omega)] at h1
            refine ⟨(congrArg Prod.fst h1).trans ?_, congrArg Prod.snd h1⟩
            apply bl_inj
            rw [bl_mk, hblk.out, ← hc5]
            show _ = (s3 ++ p5).data.toList
            rw [cat_list, hp5, ← Hcr.out, ← Hs3.out]
          have HB5 := Lib.hid (HB3.out.trans (hb5.mono HB3.out.size))
          clear hcv CS CP hP5 hb5 hp5 z5 hc5
          go_wp2_with fail
          go_ret2
          exact ⟨rfl, HB5.out⟩
end Go.Proofs.YtmoffcgbjmeiaaaGreatDoor

namespace Go.Proofs.YtmoffcgbjmeiaaaGreatDoor
open Go.RowKit

def val : List UInt8 → Nat
  | [] => 0
  | c :: r => c.toNat % 128 + 128 * val r

theorem gv_val (h r : List UInt8) (c : UInt8) (hc : c.toNat < 128) : ∀ i a, (∀ d ∈ h, 128 ≤ d.toNat) → i + h.length < 9 →
    gv (h ++ c :: r) i a = if c.toNat = 0 ∧ 0 < i + h.length then .err 4 else .ok (a + val (h ++ [c]) * 2 ^ (7 * i)) (i + h.length + 1) := by
  induction h with
  | nil =>
    intro i a _ hl
    rw [List.nil_append, gv, if_neg (by simp at hl; omega), if_neg (by omega)]
    simp only [List.length_nil, Nat.add_zero, List.nil_append, val, Nat.mul_zero]
  | cons d h ih =>
    intro i a hd hl
    have hd0 := hd d (by simp)
    rw [List.length_cons] at hl
    rw [List.cons_append, gv, if_neg (by omega), if_pos hd0, ih (i + 1) _ (fun x hx => hd x (by simp [hx])) (by omega)]
    have e1 : i + (d :: h).length = i + 1 + h.length := by rw [List.length_cons]; omega
    rw [e1]
    split
    · rfl
    · congr 1
      show _ = a + val (d :: (h ++ [c])) * _
      rw [val, Nat.add_mul, show 7 * (i + 1) = 7 * i + 7 from by omega, Nat.pow_add]
      have e2 : 128 * val (h ++ [c]) * 2 ^ (7 * i) = val (h ++ [c]) * (2 ^ (7 * i) * 2 ^ 7) := by
        rw [show (2 : Nat) ^ 7 = 128 from rfl, Nat.mul_comm 128, Nat.mul_assoc, Nat.mul_comm 128]
      omega

theorem gv_high (l : List UInt8) : ∀ i a, 9 ≤ i + l.length → (∀ c ∈ l.take (9 - i), 128 ≤ c.toNat) → gv l i a = .err 4 := by
  induction l with
  | nil => intro i a h _; exact gv_long _ _ _ (by simpa using h)
  | cons c r ih =>
    intro i a h hc
    by_cases h9 : 9 ≤ i
    · exact gv_long _ _ _ h9
    · rw [show 9 - i = (9 - (i + 1)) + 1 from by omega, List.take_succ_cons] at hc
      rw [gv, if_neg h9, if_pos (hc c (by simp))]
      rw [List.length_cons] at h
      exact ih (i + 1) _ (by omega) (fun d hd => hc d (List.mem_cons_of_mem _ hd))

theorem val_pos (h : List UInt8) (c : UInt8) (hc : c.toNat < 128) (h0 : c.toNat ≠ 0) : 1 ≤ val (h ++ [c]) := by
  induction h with
  | nil => show 1 ≤ c.toNat % 128 + 128 * 0; omega
  | cons d h ih => rw [List.cons_append, val]; omega

theorem pv_val (h : List UInt8) (c : UInt8) (hc : c.toNat < 128) (hh : ∀ d ∈ h, 128 ≤ d.toNat) (h0 : ¬ (c.toNat = 0 ∧ 0 < h.length)) : pv (val (h ++ [c])) = h ++ [c] := by
  induction h with
  | nil =>
    have e : val ([] ++ [c]) = c.toNat := by show c.toNat % 128 + 128 * 0 = _; omega
    rw [e, pv_last _ hc]
    simp
  | cons d h ih =>
    have hd := hh d (by simp)
    have hd8 := UInt8.toNat_lt d
    have hc0 : c.toNat ≠ 0 := fun e => h0 ⟨e, by simp⟩
    have hp := val_pos h c hc hc0
    have hi := ih (fun x hx => hh x (by simp [hx])) (fun e => hc0 e.1)
    rw [List.cons_append, val, pv_more _ (by omega), show (d.toNat % 128 + 128 * val (h ++ [c])) / 128 = val (h ++ [c]) from by omega, hi]
    congr 1
    rw [show (d.toNat % 128 + 128 * val (h ++ [c])) % 128 + 128 = d.toNat from by omega]
    simp

theorem pv_end (v : Nat) : ∀ l : List UInt8, l ≠ [] → ∀ c : UInt8, c.toNat = 0 → pv v ≠ l ++ [c] := by
  induction v using Nat.strongRecOn with
  | _ v ih =>
    intro l hl c hc e
    cases l with
    | nil => exact hl rfl
    | cons x r =>
      by_cases h : v < 128
      · rw [pv_last v h] at e
        have := congrArg List.length e
        simp at this
      · rw [pv_more v (by omega)] at e
        have e2 : pv (v / 128) = r ++ [c] := by injection e
        by_cases hr : r = []
        · subst hr
          by_cases h2 : v / 128 < 128
          · rw [pv_last _ h2] at e2
            have e3 : UInt8.ofNat (v / 128) = c := by injection e2
            rw [← e3, UInt8.toNat_ofNat'] at hc
            omega
          · rw [pv_more _ (by omega)] at e2
            have := congrArg List.length e2
            have h3 := pv_pos (v / 128 / 128)
            rw [List.length_cons, List.length_append] at this
            simp only [List.length_nil, List.length_singleton] at this
            omega
        · exact ih (v / 128) (by omega) r hr c hc e2

theorem val_lt (l : List UInt8) : val l < 2 ^ (7 * l.length) := by
  induction l with
  | nil => decide
  | cons c r ih =>
    rw [val, List.length_cons, Nat.mul_add, Nat.pow_add]
    omega
theorem val_drop (l : List UInt8) (i : Nat) (h : i < l.length) : val (l.drop i) = val (l.drop (i + 1)) * 128 + l[i].toNat % 128 := by
  rw [List.drop_eq_getElem_cons h, val]
  omega
end Go.Proofs.YtmoffcgbjmeiaaaGreatDoor

namespace Go.Proofs.YtmoffcgbjmeiaaaGreatDoor
open Go.RowKit

def VarIs (g : GV) (v n er : Int) : Prop := match g with
  | .ok a b => v = a ∧ n = b ∧ er = 0
  | .err e => v = 0 ∧ n = 0 ∧ er = e

theorem take_high {s : ByteArray} {k : Nat} (h : ∀ c ∈ s.data.toList.take k, 128 ≤ c.toNat) (hk : k < s.size) (hc : 128 ≤ s[k].toNat) : ∀ c ∈ s.data.toList.take (k + 1), 128 ≤ c.toNat := by
  intro c hm
  rw [List.take_succ_eq_append_getElem (by simpa using hk)] at hm
  rcases List.mem_append.1 hm with h1 | h1
  · exact h c h1
  · rw [List.mem_singleton] at h1
    rw [h1]
    exact hc

set_option maxRecDepth 100000 in
set_option maxHeartbeats 4000000 in
theorem rgetvar_any (s : ByteArray) (w : World) (hs : s.size ≤ 140737488351232) :
    Calls Tryz.prog 21 #[.string s] w fun e w' => ∃ v n er : Int, e = .returned (.tuple #[.int .i64 v, .int .i64 n, .int .i64 er]) ∧ Hid (VarIs (gv s.data.toList 0 0) v n er) ∧ Below w.heap.size w w' := by
  have hlen : s.data.toList.length = s.size := rfl
  obtain ⟨g, hg⟩ : ∃ g, g = gv s.data.toList 0 0 := ⟨_, rfl⟩
  rw [← hg]
  have Hg := Lib.hid hg
  have Hlen := Lib.hid hlen
  clear hg hlen
  go_enter Tryz.func21, Tryz.ntmps21
  go_wp2
  go_loop [5] (fun i => ∃ k : Nat, k ≤ s.size ∧ i = .int .i64 (k : Int) ∧ Hid (∀ c ∈ s.data.toList.take k, 128 ≤ c.toNat)) (fun i => s.size - (intOf i).toNat)
  case atStart => exact ⟨0, by omega, rfl, by show ∀ c ∈ _, _; simp⟩
  case round =>
    obtain ⟨k, hk, rfl, Hh⟩ := hrel
    by_cases hl : k < s.size
    · have hb8 := UInt8.toNat_lt s[k]
      by_cases h128 : 128 ≤ s[k].toNat
      · have Hh2 := Lib.hid (take_high Hh.out hl h128)
        go_wp2
        go_round
        case rel => exact ⟨k + 1, by omega, by go_num, Hh2⟩
        case measure => simp [intOf]; omega
      · by_cases h8 : 8 < k
        · have hgg : g = .err 4 := by
            rw [Hg.out]
            refine gv_high _ 0 0 (by have := Hlen.out; omega) ?_
            intro c hc
            refine Hh.out c ?_
            rw [show k = 9 + (k - 9) from by omega]
            exact List.mem_of_mem_take (i := 9) (by rw [List.take_take, Nat.min_eq_left (by omega)]; exact hc)
          have Hgg := Lib.hid hgg
          clear hgg
          go_wp2
          go_ret3
          exact ⟨_, _, _, rfl, by rw [Hgg.out]; exact Lib.hid ⟨rfl, rfl, rfl⟩, Below.refl _ _⟩
        · have hLl : (s.data.toList.take (k + 1)).length = k + 1 := by rw [List.length_take, Hlen.out]; omega
          have hsplit : s.data.toList.take (k + 1) = s.data.toList.take k ++ [s[k]] := List.take_succ_eq_append_getElem (by simpa using hl)
          have hgg : g = if s[k].toNat = 0 ∧ 0 < k then .err 4 else .ok (val (s.data.toList.take (k + 1))) (k + 1) := by
            have h1 : s.data.toList = s.data.toList.take k ++ s[k] :: s.data.toList.drop (k + 1) := by
              rw [show s[k] :: s.data.toList.drop (k + 1) = s.data.toList.drop k from (List.drop_eq_getElem_cons (by simpa using hl)).symm, List.take_append_drop]
            have h2 : (s.data.toList.take k).length = k := by rw [List.length_take, Hlen.out]; omega
            have h3 := gv_val (s.data.toList.take k) (s.data.toList.drop (k + 1)) s[k] (by omega) 0 0 Hh.out (by omega)
            rw [← h1, h2, ← hsplit] at h3
            rw [Hg.out, h3]
            simp
          have hpv : pv (val (s.data.toList.take (k + 1))) = s.data.toList.take (k + 1) ↔ ¬ (s[k].toNat = 0 ∧ 0 < k) := by
            rw [hsplit]
            have h2 : (s.data.toList.take k).length = k := by rw [List.length_take, Hlen.out]; omega
            constructor
            · rintro h ⟨h3, h4⟩
              exact pv_end _ _ (by intro e; rw [e] at h2; simp at h2; omega) _ h3 h
            · intro h
              exact pv_val _ _ (by omega) Hh.out (by rw [h2]; exact h)
          have Hgg := Lib.hid hgg
          have Hpv := Lib.hid hpv
          have HLl := Lib.hid hLl
          clear hgg hpv hLl hsplit
          go_wp2
          go_loop [6, 7] (fun x i => ∃ j y : Nat, j ≤ k + 1 ∧ i = .int .i64 ((j : Int) - 1) ∧ x = .int .i64 (y : Int) ∧ Hid (y = val ((s.data.toList.take (k + 1)).drop j))) (fun _ i => (intOf i + 1).toNat)
          case atStart => exact ⟨k + 1, 0, by omega, by go_num, rfl, by show _ = _; rw [List.drop_of_length_le (Nat.le_of_eq HLl.out)]; rfl⟩
          case round =>
            obtain ⟨j, y, hj, hi, rfl, Hy⟩ := hrel
            have hyl := val_lt ((s.data.toList.take (k + 1)).drop j)
            rw [← Hy.out, List.length_drop, HLl.out] at hyl
            cases j with
            | succ j =>
              rw [show (((j + 1 : Nat) : Int) - 1) = (j : Int) from by omega] at hi
              subst hi
              have hy56 : y < 72057594037927936 := Nat.lt_of_lt_of_le hyl (Nat.pow_le_pow_right (n := 2) (show 2 > 0 by decide) (show 7 * (k + 1 - (j + 1)) ≤ 56 by omega))
              have hjs : j < s.size := by omega
              have hjb := UInt8.toNat_lt s[j]
              have hst : y * 128 + s[j].toNat % 128 = val ((s.data.toList.take (k + 1)).drop j) := by
                rw [val_drop _ j (by rw [HLl.out]; omega), ← Hy.out, List.getElem_take]
                rfl
              have Hst := Lib.hid hst
              clear hst hyl
              go_wp2
              go_round
              case rel => exact ⟨j, y * 128 + s[j].toNat % 128, by omega, by go_num, by go_num, Hst⟩
              case measure => simp [intOf]
            | zero =>
              subst hi
              have hy63 : y < 9223372036854775808 := Nat.lt_of_lt_of_le hyl (Nat.pow_le_pow_right (n := 2) (show 2 > 0 by decide) (show 7 * (k + 1 - 0) ≤ 63 by omega))
              clear hyl
              obtain ⟨q, hq⟩ : ∃ q : ByteArray, q = ⟨(pv y).toArray⟩ := ⟨_, rfl⟩
              have Hq : ∀ W, Below w.heap.size w W → Calls Tryz.prog 18 #[.int .i64 (y : Int)] W fun e w' => e = .returned (.string q) ∧ Below w.heap.size w w' := by
                intro W hW
                have := rputvar_any y W hy63
                rw [← hq] at this
                exact this.mono fun e w' h => ⟨h.1, hW.trans (h.2.mono hW.size)⟩
              have Hq := Lib.hid Hq
              have B0 := Below.refl w.heap.size w
              have hqe : q.toList = pv y := by rw [Lib.toList_data, hq]
              obtain ⟨n1, hn1⟩ : ∃ n1, n1 = k + 1 := ⟨_, rfl⟩
              have hxe : (s.extract 0 n1).toList = s.data.toList.take (k + 1) := by rw [Lib.toList_data, Lib.extract_data, hn1]; simp
              have hyy : y = val (s.data.toList.take (k + 1)) := Hy.out
              have hk1 : (k : Int) + 1 = (n1 : Int) := by omega
              have hk2 : n1 ≤ s.size := by omega
              have hkw : IntKind.i64.wrap (n1 : Int) = (n1 : Int) := by rw [IntKind.wrap_i64]; omega
              have hk3 : (n1 : Int) ≤ (s.size : Int) := by omega
              have hk4 : (0 : Int) ≤ (n1 : Int) := by omega
              by_cases hz : s[k].toNat = 0 ∧ 0 < k
              · have hgg : g = .err 4 := by rw [Hgg.out, if_pos hz]
                have hne : (q.toList == (s.extract 0 n1).toList) = false := by
                  rw [hqe, hxe, beq_eq_false_iff_ne, hyy]
                  exact fun e => Hpv.out.1 e hz
                have Hge := Lib.hid hgg
                clear hgg hqe hxe hyy hq hz hn1
                go_wp2
                go_region_held3 (fun w' => Below w.heap.size w w') (first | exact B0.drew | assumption)
                  (first | (go_at_call 18; refine (Hq.out _ (by assumption)).mono ?_; rintro e w1 ⟨rfl, hb1⟩))
                go_wp2
                go_ret3
                exact ⟨_, _, _, rfl, by rw [Hge.out]; exact Lib.hid ⟨rfl, rfl, rfl⟩, by assumption⟩
              · have hgg : g = .ok y n1 := by rw [Hgg.out, if_neg hz, hyy, hn1]
                have hne : (q.toList == (s.extract 0 n1).toList) = true := by
                  rw [hqe, hxe, beq_iff_eq, hyy]
                  exact Hpv.out.2 hz
                have Hge := Lib.hid hgg
                clear hgg hqe hxe hyy hq hz hn1
                go_wp2
                go_region_held3 (fun w' => Below w.heap.size w w') (first | exact B0.drew | assumption)
                  (first | (go_at_call 18; refine (Hq.out _ (by assumption)).mono ?_; rintro e w1 ⟨rfl, hb1⟩))
                go_wp2
                go_ret3
                exact ⟨_, _, _, rfl, by rw [Hge.out]; exact Lib.hid ⟨rfl, rfl, rfl⟩, by assumption⟩
    · obtain rfl : k = s.size := by omega
      by_cases h8 : 8 < s.size
      · have hgg : g = .err 4 := by
          rw [Hg.out]
          refine gv_high _ 0 0 (by have := Hlen.out; omega) ?_
          intro c hc
          refine Hh.out c ?_
          rw [List.take_of_length_le (Nat.le_of_eq Hlen.out)]
          exact List.mem_of_mem_take hc
        have Hgg := Lib.hid hgg
        clear hgg
        go_wp2
        go_ret3
        exact ⟨_, _, _, rfl, by rw [Hgg.out]; exact Lib.hid ⟨rfl, rfl, rfl⟩, Below.refl _ _⟩
      · have hgg : g = .err 3 := by
          rw [Hg.out]
          refine gv_begin _ 0 0 (fun c hc => Hh.out c (by rw [List.take_of_length_le (Nat.le_of_eq Hlen.out)]; exact hc)) (by have := Hlen.out; omega)
        have Hgg := Lib.hid hgg
        clear hgg
        go_wp2
        go_ret3
        exact ⟨_, _, _, rfl, by rw [Hgg.out]; exact Lib.hid ⟨rfl, rfl, rfl⟩, Below.refl _ _⟩
end Go.Proofs.YtmoffcgbjmeiaaaGreatDoor

namespace Go.Proofs.YtmoffcgbjmeiaaaGreatDoor
open Go.RowKit

/-- What Parse answers, once it is known what the bytes tell. -/
def finP (b : ByteArray) : Option (List KV) → List KV × Int
  | none => ([], 31)
  | some l => if buildP l = (b, 0) then (l, 0) else ([], 31)
theorem parse_fin {b : ByteArray} (h : ¬ b.size < 8) : parseP b = finP b (readL b.size [] ((bl b).take (b.size - 8))) := by
  unfold parseP
  rw [if_neg h]
  cases readL b.size [] ((bl b).take (b.size - 8)) <;> rfl
theorem gv_err : ∀ (l : List UInt8) (i a : Nat) (e : Int), gv l i a = .err e → e = 3 ∨ e = 4
  | [], i, a, e, h => by
    rw [gv] at h
    split at h <;> (cases h; simp)
  | c :: r, i, a, e, h => by
    rw [gv] at h
    split at h
    · cases h; simp
    · split at h
      · exact gv_err r _ _ e h
      · split at h
        · cases h; simp
        · cases h
theorem teq11 (a b : ByteArray) : (a.toList == b.toList) = decide (a = b) := by
  rw [Lib.toList_data, Lib.toList_data, Bool.eq_iff_iff, beq_iff_eq, decide_eq_true_eq]
  exact ⟨fun h => ByteArray.ext (Array.toList_inj.1 h), fun h => by rw [h]⟩
/-- The length of a text in a slot. -/
def txtLen : Value → Nat
  | .string s => s.size
  | _ => 0
theorem pair_some {last t : List UInt8} {x y z : Nat} {kk vv : ByteArray} (h1 : x ≤ last.length) (h2 : y ≤ t.length) (h3 : z ≤ t.length - y) (hk : bl kk = last.take x ++ t.take y) (hv : bl vv = (t.drop y).take z) : pairOf last x y z t = some (kk, vv) := by
  have e1 : (⟨(last.take x ++ t.take y).toArray⟩ : ByteArray) = kk := bl_inj (by rw [bl_mk, hk])
  have e2 : (⟨((t.drop y).take z).toArray⟩ : ByteArray) = vv := bl_inj (by rw [bl_mk, hv])
  unfold pairOf
  rw [if_neg (by omega), e1, e2]
/-- What a pair that is told says of the rest. -/
theorem fin_of {b rs s la : ByteArray} {a0 a1 a2 f : Nat} {l : List KV} {PL : List KV} {PE : Int} (Hs : b.size ≤ 1000000) (Hle : s.size + 3 ≤ rs.size) (Hsz : rs.size + l.length ≤ b.size) (Hf : rs.size ≤ f + 1)
    (Hok : ∀ m ∈ l, m.1.size + rs.size ≤ b.size ∧ m.2.size ≤ 1000000) (hla : la.size + rs.size ≤ b.size) (q0 : ¬ la.size < a0) (q1 : ¬ s.size < a1) (q2 : ¬ s.size - a1 < a2)
    (HR4 : (PL, PE) = finP b (goOn l (match pairOf (bl la) a0 a1 a2 (bl s) with
      | none => none
      | some m => (readL f (bl m.1) ((bl s).drop (a1 + a2))).map (m :: ·)))) :
    ∃ (kk vv ss : ByteArray) (q : Nat), la.extract 0 a0 ++ s.extract 0 a1 = kk ∧ (la.extract 0 a0).size + (s.extract 0 a1).size ≤ 9223372036854775807 ∧ s.extract a1 q = vv ∧ s.extract q s.size = ss ∧
      (wrap64 ((a1 : Int) + (a2 : Int)) = (q : Int) ∧ IntKind.i64.wrap ((a1 : Int) + (a2 : Int)) = (q : Int) ∧ (q : Int) ≤ (s.size : Int) ∧ (0 : Int) ≤ (q : Int) ∧ (a1 : Int) ≤ (q : Int) ∧ (0 : Int) ≤ (a1 : Int) ∧ (a1 : Int) ≤ (s.size : Int) ∧ (0 : Int) ≤ (a0 : Int) ∧ (a0 : Int) ≤ (la.size : Int)) ∧
      (PL, PE) = finP b (goOn (l ++ [(kk, vv)]) (readL f (bl kk) (bl ss))) ∧ ss.size ≤ f ∧ ss.size + (l ++ [(kk, vv)]).length ≤ b.size ∧ (∀ m ∈ l ++ [(kk, vv)], m.1.size + ss.size ≤ b.size ∧ m.2.size ≤ 1000000) ∧ ss.size < rs.size ∧ lastK [] (l ++ [(kk, vv)]) = bl kk := by
  have hkl : bl (la.extract 0 a0 ++ s.extract 0 a1) = (bl la).take a0 ++ (bl s).take a1 := by
    rw [← bl_take la a0 (by omega), ← bl_take s a1 (by omega)]
    exact cat_list _ _
  have hvl : bl (s.extract a1 (a1 + a2)) = ((bl s).drop a1).take a2 := by
    rw [bl_extract s a1 (a1 + a2) (by omega), show a1 + a2 - a1 = a2 from by omega]
  have hsl : bl (s.extract (a1 + a2) s.size) = (bl s).drop (a1 + a2) := bl_drop s (a1 + a2)
  have e1 : (la.extract 0 a0).size = a0 := by rw [ByteArray.size_extract]; omega
  have e2 : (s.extract 0 a1).size = a1 := by rw [ByteArray.size_extract]; omega
  have e3 : (s.extract a1 (a1 + a2)).size = a2 := by rw [ByteArray.size_extract]; omega
  have e4 : (s.extract (a1 + a2) s.size).size = s.size - (a1 + a2) := by rw [ByteArray.size_extract]; omega
  have e5 : (la.extract 0 a0 ++ s.extract 0 a1).size = a0 + a1 := by rw [cat_size, e1, e2]
  refine ⟨_, _, _, a1 + a2, rfl, by omega, rfl, rfl, ⟨by unfold wrap64; omega, by rw [IntKind.wrap_i64]; omega, by omega, by omega, by omega, by omega, by omega, by omega, by omega⟩, ?_, by omega, by rw [List.length_append]; simp; omega, fun m hm => ?_, by omega, lastK_snoc _ _ _⟩
  · rw [HR4, pair_some (by rw [bl_len]; omega) (by rw [bl_len]; omega) (by rw [bl_len]; omega) hkl hvl]
    dsimp only
    rw [← hsl, goOn_cons]
  · rcases List.mem_append.1 hm with h | h
    · have h1 := Hok m h; omega
    · simp at h
      subst h
      dsimp only
      omega
/-- A pair more behind a row of the call's own. -/
theorem app_pair {W : World} {B n c : Nat} {A : Option Addr} {l : List KV} (kk vv : ByteArray) (hn : n ≤ 1000000) (hl : n = l.length) (h : Own elKeys W B 53 (.slice A n c) l) (hB : B ≤ W.heap.size) :
    ∃ A' n' c' w', (∀ ty, (Builtin.append_ #[22, 22] ty #[.slice A n c, .slice (some ⟨W.heap.size, 0, none⟩) 1 1]).run Tryz.prog (W.alloc (.cells #[.string kk, .string vv] 53)) = .ok (.slice A' n' c') w') ∧ n' = n + 1 ∧
      Own elKeys w' B 53 (.slice A' n' c') (l ++ [(kk, vv)]) ∧ Below B W w' ∧ ∀ p t cs, Blk W p t cs → t ≠ 53 → Blk w' p t cs := by
  obtain ⟨v', w', hr, hown, hgr, _, _⟩ := app_own (P := Tryz.prog) elKeys 22 53 (.agg #[.string ⟨#[]⟩, .string ⟨#[]⟩]) 32 underKeys infoKeys rfl (W.alloc (.cells #[.string kk, .string vv] 53)) B (.slice A n c) l [(kk, vv)] (World.ownsRow.alloc h _) (some ⟨W.heap.size, 0, none⟩) 1 (fun h => by cases h) (fun a ha j' u hu => by
    cases ha
    rw [El.row_one] at hu
    exact cells_new W 53 [.string kk, .string vv] j' u hu) (by unfold maxLen; simp; omega) (by simp; omega) (by simp; omega) 1 rfl
  obtain ⟨A', c', rfl⟩ := Own.slice hown
  refine ⟨A', _, c', w', hr, by rw [List.length_append, hl]; rfl, hown, ((Below.refl B W).alloc hB _).grown hgr (by simp; omega) (fun k hk => ((World.ownsRow.alloc h _ : (W.alloc (.cells #[.string kk, .string vv] 53)).ownsRow B 53 _ _ _ _).lt k hk).1), fun p t cs hb ht => (hb.alloc _).grown hgr (fun e => ?_)⟩
  rcases h.2 with ⟨h1, _⟩ | ⟨g, cap, cur, hv, _, hh, _⟩
  · rw [h1] at e; cases e
  · rw [hv] at e
    have e : p = g := Option.some.inj e
    subst e
    unfold Blk at hb
    rw [hh] at hb
    injection hb with hb
    injection hb with _ h2
    exact ht h2.symm

set_option maxRecDepth 100000 in
set_option maxHeartbeats 16000000 in
theorem rparse (b : ByteArray) (w : World) (hs : b.size ≤ 1000000) :
    Calls Tryz.prog 7 #[.string b] w fun e w' => ∃ v, e = .returned (.tuple #[v, .int .i64 (parseP b).2]) ∧ Own elKeys w' w.heap.size 53 v (parseP b).1 ∧ Below w.heap.size w w' := by
  obtain ⟨PL, PE, hp⟩ : ∃ PL PE, parseP b = (PL, PE) := ⟨_, _, rfl⟩
  rw [hp]
  dsimp only
  by_cases h8 : b.size < 8
  · obtain ⟨rfl, rfl⟩ : PL = [] ∧ PE = 31 := by
      unfold parseP at hp
      rw [if_pos h8] at hp
      exact ⟨(congrArg Prod.fst hp).symm, (congrArg Prod.snd hp).symm⟩
    have g1 : (b.size : Int) < 8 := by omega
    clear hp h8
    go_enter Tryz.func7, Tryz.ntmps7
    go_wp2_with fail
    go_ret2
    exact ⟨_, rfl, World.ownsRow_nil _ _ _ _, Below.refl _ _⟩
  · have hfin := parse_fin h8
    rw [hp] at hfin
    obtain ⟨m, hm⟩ : ∃ m, b.size - 8 = m := ⟨_, rfl⟩
    rw [hm] at hfin
    have g1 : ¬ (b.size : Int) < 8 := by omega
    have g2 : wrap64 ((b.size : Int) - 8) = (m : Int) := by unfold wrap64; omega
    have g3 : IntKind.i64.wrap ((b.size : Int) - 8) = (m : Int) := by rw [IntKind.wrap_i64]; omega
    have g4 : (m : Int) ≤ (b.size : Int) := by omega
    have g5 : (0 : Int) ≤ (m : Int) := by omega
    rw [← bl_take b m (by omega)] at hfin
    have hr0 : (b.extract 0 m).size ≤ b.size := by rw [ByteArray.size_extract]; omega
    have Hfin := Lib.hid hfin
    have Hr0 := Lib.hid hr0
    have Hs := Lib.hid hs
    clear hp hfin hm h8 hr0 hs
    go_enter Tryz.func7, Tryz.ntmps7
    go_wp2_with fail
    go_loopw [4, 5] (fun x4 x5 wr => ∃ (rs : ByteArray) (A5 : Option Addr) (n5 c5 f : Nat) (l : List KV), x4 = .string rs ∧ x5 = .slice A5 n5 c5 ∧ Hid (n5 = l.length) ∧ Hid (Own elKeys wr w.heap.size 53 (.slice A5 n5 c5) l) ∧ Hid ((PL, PE) = finP b (goOn l (readL f (lastK [] l) (bl rs)))) ∧ Hid (rs.size ≤ f) ∧ Hid (rs.size + l.length ≤ b.size) ∧ Hid (∀ m ∈ l, m.1.size + rs.size ≤ b.size ∧ m.2.size ≤ 1000000) ∧ Hid (Below w.heap.size w wr)) (fun x4 _ _ => txtLen x4)
    case atStart => exact ⟨_, none, 0, 0, b.size, [], rfl, rfl, Lib.hid rfl, Lib.hid (World.ownsRow_nil _ _ _ _), Lib.hid (by rw [goOn_nil]; exact Hfin.out), Hr0, Lib.hid (by have := Hr0.out; simpa using this), Lib.hid (fun m hm => by cases hm), Lib.hid (Below.refl _ _)⟩
    case round =>
      obtain ⟨rs, A5, n5, c5, f, l, rfl, rfl, Hn5, HO, HR, Hf, Hsz, Hok, HB⟩ := hrel
      clear Hfin Hr0
      by_cases h0 : 0 < rs.size
      · as_aux_lemma =>
        obtain ⟨f, rfl⟩ : ∃ g, f = g + 1 := ⟨f - 1, by have h1 := Hf.out; have h2 : rs.size ≤ f := h1; omega⟩
        have h1 : (0 : Int) < (rs.size : Int) := by omega
        have hne : bl rs ≠ [] := by
          intro h
          have h3 : rs.size = 0 := by rw [← bl_len, h]; rfl
          omega
        have HR3 := Lib.hid (HR.out.trans (congrArg (fun z => finP b (goOn l z)) (readL_three f (lastK [] l) (bl rs) hne)))
        clear hne HR
        have BP := Lib.hid (Blk.new wr 58 #[.int .i64 0, .int .i64 0, .int .i64 0])
        have HBa := Lib.hid ((Below.refl wr.heap.size wr).alloc (Nat.le_refl _) (.cells #[.int .i64 0, .int .i64 0, .int .i64 0] 58))
        have Hp : ∃ p, p = wr.heap.size ∧ wr.heap.size ≤ p := ⟨_, rfl, Nat.le_refl _⟩
        obtain ⟨p, hpe, hp1⟩ := Hp
        have Hp := Lib.hid hp1
        go_upto_region 7 with fail
        generalize wr.alloc (.cells #[.int .i64 0, .int .i64 0, .int .i64 0] 58) = wa at *
        rw [← hpe] at BP ⊢
        clear hpe hp1
        generalize wr = wo at *
        go_wp2_with fail
        go_loopw [4, 7] (fun x4 x7 wr => ∃ (t : Nat) (s : ByteArray) (a0 a1 a2 : Nat), x4 = .string s ∧ x7 = .int .i64 (t : Int) ∧ t ≤ 3 ∧ Hid (thr 3 (bl rs) [] = thr (3 - t) (bl s) ([a0, a1, a2].take t)) ∧ Hid (Blk wr p 58 #[.int .i64 (a0 : Int), .int .i64 (a1 : Int), .int .i64 (a2 : Int)]) ∧ Hid (s.size + t ≤ rs.size) ∧ Hid (Below wo.heap.size wo wr)) (fun _ x7 _ => 3 - (intOf x7).toNat)
        case atStart => exact ⟨0, rs, 0, 0, 0, rfl, rfl, by omega, Lib.hid rfl, BP, Lib.hid (by omega), HBa⟩
        case round =>
          obtain ⟨t, s, a0, a1, a2, rfl, rfl, ht, HT, HP, Hle, HBo⟩ := hrel
          clear BP HBa
          have HBw := Lib.hid (HB.out.trans (HBo.out.mono HB.out.size))
          by_cases t0 : t = 0
          · as_aux_lemma =>
            subst t0
            obtain ⟨g, hg⟩ : ∃ g, gv (bl s) 0 0 = g := ⟨_, rfl⟩
            have CV := Lib.hid (rgetvar_any s wr (by have := Hle.out; have := Hsz.out; have := Hs.out; omega))
            cases g with
            | err er =>
              have he := gv_err _ _ _ _ hg
              have hthr := HT.out
              rw [show 3 - 0 = 2 + 1 from rfl, thr_err hg] at hthr
              obtain ⟨rfl, rfl⟩ : PL = [] ∧ PE = 31 := by
                have h1 := HR3.out
                rw [hthr] at h1
                exact ⟨congrArg Prod.fst h1, congrArg Prod.snd h1⟩
              have e1 : (er == 0) = false := by rw [beq_eq_false_iff_ne]; omega
              have e2 : ¬ er = 0 := by omega
              have Hg := Lib.hid hg
              clear he hthr hg
              go_wp2_with fail
              refine CV.out.mono ?_
              rintro e w5 ⟨v', n', er', rfl, hV, hb⟩
              have hV2 := hV.out
              rw [Hg.out] at hV2
              obtain ⟨rfl, rfl, rfl⟩ : v' = 0 ∧ n' = 0 ∧ er' = er := hV2
              have HB5 := Lib.hid (HBw.out.trans (hb.mono HBw.out.size))
              clear hV hb CV
              go_wp2_with fail
              go_ret2
              exact ⟨_, rfl, World.ownsRow_nil _ _ _ _, HB5.out⟩
            | ok v n =>
              obtain ⟨n1, n2⟩ := gv_ok _ _ _ _ _ hg
              rw [Nat.zero_add, bl_len] at n2
              have hthr := HT.out
              rw [show 3 - 0 = 2 + 1 from rfl, thr_ok hg] at hthr
              have HT2 : Hid (thr 3 (bl rs) [] = thr 2 (bl (s.extract n s.size)) [v]) := Lib.hid (by rw [hthr, bl_drop]; rfl)
              have Hle2 : Hid ((s.extract n s.size).size + 1 ≤ rs.size) := Lib.hid (by have := Hle.out; rw [ByteArray.size_extract]; omega)
              have m1 : (n : Int) ≤ (s.size : Int) := by omega
              have m2 : (0 : Int) ≤ (n : Int) := by omega
              have Hg := Lib.hid hg
              clear hthr hg n1 n2
              go_wp2_with fail
              refine CV.out.mono ?_
              rintro e w5 ⟨v', n', er', rfl, hV, hb⟩
              have hV2 := hV.out
              rw [Hg.out] at hV2
              obtain ⟨rfl, rfl, rfl⟩ : v' = (v : Int) ∧ n' = (n : Int) ∧ er' = 0 := hV2
              have hpl : p < wr.heap.size := HP.out.lt
              have HP5 : Blk w5 p 58 _ := HP.out.below hb hpl
              have HB5 := Lib.hid (HBo.out.trans (hb.mono HBo.out.size))
              have HP6 := Lib.hid (Blk.set_ HP5 0 (.int .i64 (v : Int)))
              have HB6 := Lib.hid (below_setCell (below_drewN HB5.out 1) (p := ⟨p, 0, none⟩) Hp.out (.int .i64 (v : Int)))
              have fz := HP5.frozen 0
              have cz := HP5.cell 0
              clear hV hb CV HP5 hpl
              go_wp2_with fail
              go_region
              all_goals
                go_wp2_with fail
                go_roundw
                case rel => exact ⟨1, s.extract n s.size, v, a1, a2, rfl, rfl, by omega, HT2, HP6, Hle2, HB6⟩
                case measure => simp [intOf]
          · by_cases t1 : t = 1
            · as_aux_lemma =>
              subst t1
              obtain ⟨g, hg⟩ : ∃ g, gv (bl s) 0 0 = g := ⟨_, rfl⟩
              have CV := Lib.hid (rgetvar_any s wr (by have := Hle.out; have := Hsz.out; have := Hs.out; omega))
              cases g with
              | err er =>
                have he := gv_err _ _ _ _ hg
                have hthr := HT.out
                rw [show 3 - 1 = 1 + 1 from rfl, thr_err hg] at hthr
                obtain ⟨rfl, rfl⟩ : PL = [] ∧ PE = 31 := by
                  have h1 := HR3.out
                  rw [hthr] at h1
                  exact ⟨congrArg Prod.fst h1, congrArg Prod.snd h1⟩
                have e1 : (er == 0) = false := by rw [beq_eq_false_iff_ne]; omega
                have e2 : ¬ er = 0 := by omega
                have Hg := Lib.hid hg
                clear he hthr hg
                go_wp2_with fail
                refine CV.out.mono ?_
                rintro e w5 ⟨v', n', er', rfl, hV, hb⟩
                have hV2 := hV.out
                rw [Hg.out] at hV2
                obtain ⟨rfl, rfl, rfl⟩ : v' = 0 ∧ n' = 0 ∧ er' = er := hV2
                have HB5 := Lib.hid (HBw.out.trans (hb.mono HBw.out.size))
                clear hV hb CV
                go_wp2_with fail
                go_ret2
                exact ⟨_, rfl, World.ownsRow_nil _ _ _ _, HB5.out⟩
              | ok v n =>
                obtain ⟨n1, n2⟩ := gv_ok _ _ _ _ _ hg
                rw [Nat.zero_add, bl_len] at n2
                have hthr := HT.out
                rw [show 3 - 1 = 1 + 1 from rfl, thr_ok hg] at hthr
                have HT2 : Hid (thr 3 (bl rs) [] = thr 1 (bl (s.extract n s.size)) [a0, v]) := Lib.hid (by rw [hthr, bl_drop]; rfl)
                have Hle2 : Hid ((s.extract n s.size).size + 2 ≤ rs.size) := Lib.hid (by have := Hle.out; rw [ByteArray.size_extract]; omega)
                have m1 : (n : Int) ≤ (s.size : Int) := by omega
                have m2 : (0 : Int) ≤ (n : Int) := by omega
                have Hg := Lib.hid hg
                clear hthr hg n1 n2
                go_wp2_with fail
                refine CV.out.mono ?_
                rintro e w5 ⟨v', n', er', rfl, hV, hb⟩
                have hV2 := hV.out
                rw [Hg.out] at hV2
                obtain ⟨rfl, rfl, rfl⟩ : v' = (v : Int) ∧ n' = (n : Int) ∧ er' = 0 := hV2
                have hpl : p < wr.heap.size := HP.out.lt
                have HP5 : Blk w5 p 58 _ := HP.out.below hb hpl
                have HB5 := Lib.hid (HBo.out.trans (hb.mono HBo.out.size))
                have HP6 := Lib.hid (Blk.set_ HP5 1 (.int .i64 (v : Int)))
                have HB6 := Lib.hid (below_setCell (below_drewN HB5.out 1) (p := ⟨p, 1, none⟩) Hp.out (.int .i64 (v : Int)))
                have fz := HP5.frozen 1
                have cz := HP5.cell 1
                clear hV hb CV HP5 hpl
                go_wp2_with fail
                go_region
                all_goals
                  go_wp2_with fail
                  go_roundw
                  case rel => exact ⟨2, s.extract n s.size, a0, v, a2, rfl, rfl, by omega, HT2, HP6, Hle2, HB6⟩
                  case measure => simp [intOf]
            · by_cases t2 : t = 2
              · as_aux_lemma =>
                subst t2
                obtain ⟨g, hg⟩ : ∃ g, gv (bl s) 0 0 = g := ⟨_, rfl⟩
                have CV := Lib.hid (rgetvar_any s wr (by have := Hle.out; have := Hsz.out; have := Hs.out; omega))
                cases g with
                | err er =>
                  have he := gv_err _ _ _ _ hg
                  have hthr := HT.out
                  rw [show 3 - 2 = 0 + 1 from rfl, thr_err hg] at hthr
                  obtain ⟨rfl, rfl⟩ : PL = [] ∧ PE = 31 := by
                    have h1 := HR3.out
                    rw [hthr] at h1
                    exact ⟨congrArg Prod.fst h1, congrArg Prod.snd h1⟩
                  have e1 : (er == 0) = false := by rw [beq_eq_false_iff_ne]; omega
                  have e2 : ¬ er = 0 := by omega
                  have Hg := Lib.hid hg
                  clear he hthr hg
                  go_wp2_with fail
                  refine CV.out.mono ?_
                  rintro e w5 ⟨v', n', er', rfl, hV, hb⟩
                  have hV2 := hV.out
                  rw [Hg.out] at hV2
                  obtain ⟨rfl, rfl, rfl⟩ : v' = 0 ∧ n' = 0 ∧ er' = er := hV2
                  have HB5 := Lib.hid (HBw.out.trans (hb.mono HBw.out.size))
                  clear hV hb CV
                  go_wp2_with fail
                  go_ret2
                  exact ⟨_, rfl, World.ownsRow_nil _ _ _ _, HB5.out⟩
                | ok v n =>
                  obtain ⟨n1, n2⟩ := gv_ok _ _ _ _ _ hg
                  rw [Nat.zero_add, bl_len] at n2
                  have hthr := HT.out
                  rw [show 3 - 2 = 0 + 1 from rfl, thr_ok hg] at hthr
                  have HT2 : Hid (thr 3 (bl rs) [] = thr 0 (bl (s.extract n s.size)) [a0, a1, v]) := Lib.hid (by rw [hthr, bl_drop]; rfl)
                  have Hle2 : Hid ((s.extract n s.size).size + 3 ≤ rs.size) := Lib.hid (by have := Hle.out; rw [ByteArray.size_extract]; omega)
                  have m1 : (n : Int) ≤ (s.size : Int) := by omega
                  have m2 : (0 : Int) ≤ (n : Int) := by omega
                  have Hg := Lib.hid hg
                  clear hthr hg n1 n2
                  go_wp2_with fail
                  refine CV.out.mono ?_
                  rintro e w5 ⟨v', n', er', rfl, hV, hb⟩
                  have hV2 := hV.out
                  rw [Hg.out] at hV2
                  obtain ⟨rfl, rfl, rfl⟩ : v' = (v : Int) ∧ n' = (n : Int) ∧ er' = 0 := hV2
                  have hpl : p < wr.heap.size := HP.out.lt
                  have HP5 : Blk w5 p 58 _ := HP.out.below hb hpl
                  have HB5 := Lib.hid (HBo.out.trans (hb.mono HBo.out.size))
                  have HP6 := Lib.hid (Blk.set_ HP5 2 (.int .i64 (v : Int)))
                  have HB6 := Lib.hid (below_setCell (below_drewN HB5.out 1) (p := ⟨p, 2, none⟩) Hp.out (.int .i64 (v : Int)))
                  have fz := HP5.frozen 2
                  have cz := HP5.cell 2
                  clear hV hb CV HP5 hpl
                  go_wp2_with fail
                  go_region
                  all_goals
                    go_wp2_with fail
                    go_roundw
                    case rel => exact ⟨3, s.extract n s.size, a0, a1, v, rfl, rfl, by omega, HT2, HP6, Hle2, HB6⟩
                    case measure => simp [intOf]
              · as_aux_lemma =>
                obtain rfl : t = 3 := by omega
                have hT := HT.out
                have HR4 : Hid ((PL, PE) = finP b (goOn l (match pairOf (lastK [] l) a0 a1 a2 (bl s) with
                    | none => none
                    | some m => (readL f (bl m.1) ((bl s).drop (a1 + a2))).map (m :: ·)))) := Lib.hid (by rw [HR3.out, hT]; rfl)
                have p0 := HP.out.cell 0
                have p1 := HP.out.cell 1
                have p2 := HP.out.cell 2
                have HOw := Lib.hid (HO.out.below HBo.out)
                have hnb : n5 ≤ 1000000 := by have h2 := Hn5.out; have h3 := Hsz.out; have h4 := Hs.out; omega
                clear hT HT HR3 t0 t1 t2 ht
                by_cases hn : 0 < n5
                · obtain ⟨j, hj⟩ : ∃ j, n5 = j + 1 := ⟨n5 - 1, by omega⟩
                  have hjL : j < l.length := by have := Hn5.out; omega
                  have hjm : l[j]? = some l[j] := List.getElem?_eq_getElem hjL
                  generalize l[j] = lm at *
                  obtain ⟨la, lv⟩ := lm
                  have hlast : lastK [] l = bl la := by
                    have h1 := lastK_take hjm
                    rwa [List.take_of_length_le (by have := Hn5.out; omega)] at h1
                  obtain ⟨g, off, hA, hgg, x0, -⟩ := HOw.out.keysAt.at_ j _ hjm
                  subst hA
                  dsimp only at x0
                  have hla := (Hok.out _ (List.mem_of_getElem? hjm)).1
                  dsimp only at hla
                  rw [hlast] at HR4
                  have j0 : (0 : Int) < (n5 : Int) := by omega
                  have j1 : (j : Int) < (n5 : Int) := by omega
                  have j2 : (0 : Int) ≤ (j : Int) := by omega
                  have j3 : wrap64 ((n5 : Int) - 1) = (j : Int) := by unfold wrap64; omega
                  have j4 : IntKind.i64.wrap ((n5 : Int) - 1) = (j : Int) := by rw [IntKind.wrap_i64]; omega
                  have Hlast := Lib.hid hlast
                  clear hj hjL hjm hlast hn hgg
                  by_cases q0 : la.size < a0
                  · have z0 : (la.size : Int) < (a0 : Int) := by omega
                    have z1 : decide ((la.size : Int) < (a0 : Int)) = true := decide_eq_true z0
                    obtain ⟨rfl, rfl⟩ : PL = [] ∧ PE = 31 := by
                      have h1 := HR4.out
                      rw [show pairOf (bl la) a0 a1 a2 (bl s) = none from by unfold pairOf; rw [if_pos (by rw [bl_len, bl_len]; omega)]] at h1
                      exact ⟨congrArg Prod.fst h1, congrArg Prod.snd h1⟩
                    clear q0
                    go_wp2_with fail
                    go_ret2
                    exact ⟨_, rfl, World.ownsRow_nil _ _ _ _, HBw.out⟩
                  have z0 : ¬ (la.size : Int) < (a0 : Int) := by omega
                  have z1 : decide ((la.size : Int) < (a0 : Int)) = false := decide_eq_false z0
                  by_cases q1 : s.size < a1
                  · have z2 : (s.size : Int) < (a1 : Int) := by omega
                    have z3 : decide ((s.size : Int) < (a1 : Int)) = true := decide_eq_true z2
                    obtain ⟨rfl, rfl⟩ : PL = [] ∧ PE = 31 := by
                      have h1 := HR4.out
                      rw [show pairOf (bl la) a0 a1 a2 (bl s) = none from by unfold pairOf; rw [if_pos (by rw [bl_len, bl_len]; omega)]] at h1
                      exact ⟨congrArg Prod.fst h1, congrArg Prod.snd h1⟩
                    clear q0
                    go_wp2_with fail
                    go_ret2
                    exact ⟨_, rfl, World.ownsRow_nil _ _ _ _, HBw.out⟩
                  have z2 : ¬ (s.size : Int) < (a1 : Int) := by omega
                  have z3 : decide ((s.size : Int) < (a1 : Int)) = false := decide_eq_false z2
                  have hsb : s.size ≤ 1000000 := by have h2 := Hle.out; have h3 := Hsz.out; have h4 := Hs.out; omega
                  have z4 : wrap64 ((s.size : Int) - (a1 : Int)) = (s.size : Int) - (a1 : Int) := by unfold wrap64; omega
                  have z5 : IntKind.i64.wrap ((s.size : Int) - (a1 : Int)) = (s.size : Int) - (a1 : Int) := by rw [IntKind.wrap_i64]; omega
                  by_cases q2 : s.size - a1 < a2
                  · have z6 : (s.size : Int) - (a1 : Int) < (a2 : Int) := by omega
                    have z7 : decide ((s.size : Int) - (a1 : Int) < (a2 : Int)) = true := decide_eq_true z6
                    obtain ⟨rfl, rfl⟩ : PL = [] ∧ PE = 31 := by
                      have h1 := HR4.out
                      rw [show pairOf (bl la) a0 a1 a2 (bl s) = none from by unfold pairOf; rw [if_pos (by rw [bl_len, bl_len]; omega)]] at h1
                      exact ⟨congrArg Prod.fst h1, congrArg Prod.snd h1⟩
                    clear q0
                    go_wp2_with fail
                    go_ret2
                    exact ⟨_, rfl, World.ownsRow_nil _ _ _ _, HBw.out⟩
                  have z6 : ¬ (s.size : Int) - (a1 : Int) < (a2 : Int) := by omega
                  have z7 : decide ((s.size : Int) - (a1 : Int) < (a2 : Int)) = false := decide_eq_false z6
                  obtain ⟨kk, vv, ss, q, hkk, hsm1, hvv, hss, ⟨y1, y2, y3, y4, y5, y6, y7, y8, y9⟩, hR5, hf9, hs9, hk9, hms, hl9⟩ := fin_of (la := la) Hs.out Hle.out Hsz.out Hf.out Hok.out hla q0 q1 q2 HR4.out
                  have CA := fun W => cat_is (P := Tryz.prog) (la.extract 0 a0) (s.extract 0 a1) kk hkk hsm1 W
                  have HR5 := Lib.hid hR5
                  have Hf9 := Lib.hid hf9
                  have Hs9 := Lib.hid hs9
                  have Hk9 := Lib.hid hk9
                  have Hl9 := Lib.hid hl9
                  obtain ⟨A9, n9, c9, w9, hr9, e9, HO9, hb9, hP9⟩ := app_pair (W := wr.drew) kk vv hnb Hn5.out HOw.out HBw.out.size
                  have HR9 : ∀ ty, Hid ((Builtin.append_ #[22, 22] ty #[.slice (some ⟨g, off, none⟩) n5 c5, .slice (some ⟨wr.heap.size, 0, none⟩) 1 1]).run Tryz.prog ((wr.alloc (.cells #[.string kk, .string vv] 53)).drew) = .ok (.slice A9 n9 c9) w9) := fun ty => Lib.hid (hr9 ty)
                  have t0 : (wr.alloc (.cells #[.string kk, .string vv] 53)).drew.cell? ⟨p, 0, none⟩ = some (.int .i64 (a0 : Int)) := (HP.out.alloc _).cell 0
                  have t1 : (wr.alloc (.cells #[.string kk, .string vv] 53)).drew.cell? ⟨p, 1, none⟩ = some (.int .i64 (a1 : Int)) := (HP.out.alloc _).cell 1
                  have t2 : (wr.alloc (.cells #[.string kk, .string vv] 53)).drew.cell? ⟨p, 2, none⟩ = some (.int .i64 (a2 : Int)) := (HP.out.alloc _).cell 2
                  have HP9 := Lib.hid (hP9 _ _ _ HP.out.drew (by decide))
                  have HB9 := Lib.hid (HBw.out.drew.trans hb9)
                  have HO9 := Lib.hid HO9
                  have Hq9 : Hid (n9 = (l ++ [(kk, vv)]).length) := Lib.hid (by rw [e9, Hn5.out, List.length_append]; rfl)
                  have u0 : wr.cell? ⟨p, 0, none⟩ = some (.int .i64 (a0 : Int)) := HP.out.cell 0
                  have u1 : wr.cell? ⟨p, 1, none⟩ = some (.int .i64 (a1 : Int)) := HP.out.cell 1
                  have u2 : wr.cell? ⟨p, 2, none⟩ = some (.int .i64 (a2 : Int)) := HP.out.cell 2
                  have v0 : w9.cell? ⟨p, 0, none⟩ = some (.int .i64 (a0 : Int)) := HP9.out.cell 0
                  have v1 : w9.cell? ⟨p, 1, none⟩ = some (.int .i64 (a1 : Int)) := HP9.out.cell 1
                  have v2 : w9.cell? ⟨p, 2, none⟩ = some (.int .i64 (a2 : Int)) := HP9.out.cell 2
                  clear hR5 hf9 hs9 hk9 hl9 hr9 hb9 hP9 hkk hsm1 HOw HBw HP Hle Hok Hsz HO HB HR4 Hn5 Hf Hs Hlast hla e9 q0 q1 q2
                  go_upto_region 19 with fail
                  go_region_held3 (fun W => W.cell? ⟨p, 0, none⟩ = some (.int .i64 (a0 : Int)) ∧ W.cell? ⟨p, 1, none⟩ = some (.int .i64 (a1 : Int)) ∧ W.cell? ⟨p, 2, none⟩ = some (.int .i64 (a2 : Int)))
                    (first | exact ⟨u0, u1, u2⟩ | exact ⟨t0, t1, t2⟩ | exact ⟨v0, v1, v2⟩ | assumption)
                    ((refine step_append_k rfl (.tmp 75) (.tmp 95) 22 rfl _ _ (.slice A9 n9 c9) (by simp [Act.eval]) (by simp [Act.eval]) ((HR9 _).out) ?_))
                  go_wp2_with fail
                  go_roundw
                  case rel => exact ⟨ss, A9, n9, c9, f, l ++ [(kk, vv)], rfl, rfl, Hq9, HO9, Lib.hid (by rw [Hl9.out]; exact HR5.out), Hf9, Hs9, Hk9, HB9⟩
                  case measure => simp [txtLen]; omega
                · obtain ⟨la, hlae⟩ : ∃ la : ByteArray, la = ⟨#[]⟩ := ⟨_, rfl⟩
                  have hl0 : l = [] := List.eq_nil_of_length_eq_zero (by have := Hn5.out; omega)
                  have hlast : lastK [] l = bl la := by rw [hl0, hlae]; rfl
                  have hla : la.size + rs.size ≤ b.size := by have h2 : rs.size + l.length ≤ b.size := Hsz.out; have h3 : la.size = 0 := (by rw [hlae]; rfl); omega
                  rw [hlast] at HR4
                  have j0 : ¬ (0 : Int) < (n5 : Int) := by omega
                  have Hlast := Lib.hid hlast
                  clear hlast hn hl0
                  subst hlae
                  by_cases q0 : (⟨#[]⟩ : ByteArray).size < a0
                  · have z0 : ((⟨#[]⟩ : ByteArray).size : Int) < (a0 : Int) := by omega
                    have z1 : decide (((⟨#[]⟩ : ByteArray).size : Int) < (a0 : Int)) = true := decide_eq_true z0
                    have z0a : (0 : Int) < (a0 : Int) := z0
                    have z0b : 0 < a0 := q0
                    have z0c : decide (0 < a0) = true := decide_eq_true z0b
                    obtain ⟨rfl, rfl⟩ : PL = [] ∧ PE = 31 := by
                      have h1 := HR4.out
                      rw [show pairOf (bl (⟨#[]⟩ : ByteArray)) a0 a1 a2 (bl s) = none from by unfold pairOf; rw [if_pos (by rw [bl_len, bl_len]; omega)]] at h1
                      exact ⟨congrArg Prod.fst h1, congrArg Prod.snd h1⟩
                    clear q0
                    go_wp2_with fail
                    go_ret2
                    exact ⟨_, rfl, World.ownsRow_nil _ _ _ _, HBw.out⟩
                  have z0 : ¬ ((⟨#[]⟩ : ByteArray).size : Int) < (a0 : Int) := by omega
                  have z1 : decide (((⟨#[]⟩ : ByteArray).size : Int) < (a0 : Int)) = false := decide_eq_false z0
                  have z0a : ¬ (0 : Int) < (a0 : Int) := z0
                  have z0b : ¬ 0 < a0 := q0
                  have z0c : decide (0 < a0) = false := decide_eq_false z0b
                  have z0d : (a0 : Int) ≤ 0 := by omega
                  have z0e : a0 = 0 := by omega
                  by_cases q1 : s.size < a1
                  · have z2 : (s.size : Int) < (a1 : Int) := by omega
                    have z3 : decide ((s.size : Int) < (a1 : Int)) = true := decide_eq_true z2
                    obtain ⟨rfl, rfl⟩ : PL = [] ∧ PE = 31 := by
                      have h1 := HR4.out
                      rw [show pairOf (bl (⟨#[]⟩ : ByteArray)) a0 a1 a2 (bl s) = none from by unfold pairOf; rw [if_pos (by rw [bl_len, bl_len]; omega)]] at h1
                      exact ⟨congrArg Prod.fst h1, congrArg Prod.snd h1⟩
                    clear q0
                    go_wp2_with fail
                    go_ret2
                    exact ⟨_, rfl, World.ownsRow_nil _ _ _ _, HBw.out⟩
                  have z2 : ¬ (s.size : Int) < (a1 : Int) := by omega
                  have z3 : decide ((s.size : Int) < (a1 : Int)) = false := decide_eq_false z2
                  have hsb : s.size ≤ 1000000 := by have h2 := Hle.out; have h3 := Hsz.out; have h4 := Hs.out; omega
                  have z4 : wrap64 ((s.size : Int) - (a1 : Int)) = (s.size : Int) - (a1 : Int) := by unfold wrap64; omega
                  have z5 : IntKind.i64.wrap ((s.size : Int) - (a1 : Int)) = (s.size : Int) - (a1 : Int) := by rw [IntKind.wrap_i64]; omega
                  by_cases q2 : s.size - a1 < a2
                  · have z6 : (s.size : Int) - (a1 : Int) < (a2 : Int) := by omega
                    have z7 : decide ((s.size : Int) - (a1 : Int) < (a2 : Int)) = true := decide_eq_true z6
                    obtain ⟨rfl, rfl⟩ : PL = [] ∧ PE = 31 := by
                      have h1 := HR4.out
                      rw [show pairOf (bl (⟨#[]⟩ : ByteArray)) a0 a1 a2 (bl s) = none from by unfold pairOf; rw [if_pos (by rw [bl_len, bl_len]; omega)]] at h1
                      exact ⟨congrArg Prod.fst h1, congrArg Prod.snd h1⟩
                    clear q0
                    go_wp2_with fail
                    go_ret2
                    exact ⟨_, rfl, World.ownsRow_nil _ _ _ _, HBw.out⟩
                  have z6 : ¬ (s.size : Int) - (a1 : Int) < (a2 : Int) := by omega
                  have z7 : decide ((s.size : Int) - (a1 : Int) < (a2 : Int)) = false := decide_eq_false z6
                  obtain ⟨kk, vv, ss, q, hkk, hsm1, hvv, hss, ⟨y1, y2, y3, y4, y5, y6, y7, y8, y9⟩, hR5, hf9, hs9, hk9, hms, hl9⟩ := fin_of (la := (⟨#[]⟩ : ByteArray)) Hs.out Hle.out Hsz.out Hf.out Hok.out hla q0 q1 q2 HR4.out
                  obtain rfl : kk = s.extract 0 a1 := by
                    rw [← hkk]
                    have h0 : a0 = 0 := by omega
                    rw [h0]
                    exact bl_inj ((cat_list _ _).trans (by rfl))
                  have CA := fun W => cat_is (P := Tryz.prog) ((⟨#[]⟩ : ByteArray).extract 0 a0) (s.extract 0 a1) _ hkk hsm1 W
                  have CA0 := fun W => cat_is (P := Tryz.prog) ((⟨#[]⟩ : ByteArray).extract 0 0) (s.extract 0 a1) (s.extract 0 a1) (bl_inj ((cat_list _ _).trans (by rfl))) (by have h2 : (s.extract 0 a1).size ≤ s.size := (by rw [ByteArray.size_extract]; omega); have h3 : ((⟨#[]⟩ : ByteArray).extract 0 0).size = 0 := (by rfl); omega) W
                  have CA1 := fun W => cat_is (P := Tryz.prog) (⟨#[]⟩ : ByteArray) (s.extract 0 a1) (s.extract 0 a1) (bl_inj ((cat_list _ _).trans (by rfl))) (by have h2 : (s.extract 0 a1).size ≤ s.size := (by rw [ByteArray.size_extract]; omega); have h3 : (⟨#[]⟩ : ByteArray).size = 0 := (by rfl); omega) W
                  have CA2 := fun W => cat_is (P := Tryz.prog) ByteArray.empty (s.extract 0 a1) (s.extract 0 a1) (bl_inj ((cat_list _ _).trans (by rfl))) (by have h2 : (s.extract 0 a1).size ≤ s.size := (by rw [ByteArray.size_extract]; omega); have h3 : ByteArray.empty.size = 0 := (by rfl); omega) W
                  have HR5 := Lib.hid hR5
                  have Hf9 := Lib.hid hf9
                  have Hs9 := Lib.hid hs9
                  have Hk9 := Lib.hid hk9
                  have Hl9 := Lib.hid hl9
                  obtain ⟨A9, n9, c9, w9, hr9, e9, HO9, hb9, hP9⟩ := app_pair (W := wr.drew) (s.extract 0 a1) vv hnb Hn5.out HOw.out HBw.out.size
                  have HR9 : ∀ ty, Hid ((Builtin.append_ #[22, 22] ty #[.slice A5 n5 c5, .slice (some ⟨wr.heap.size, 0, none⟩) 1 1]).run Tryz.prog ((wr.alloc (.cells #[.string (s.extract 0 a1), .string vv] 53)).drew) = .ok (.slice A9 n9 c9) w9) := fun ty => Lib.hid (hr9 ty)
                  have t0 : (wr.alloc (.cells #[.string (s.extract 0 a1), .string vv] 53)).drew.cell? ⟨p, 0, none⟩ = some (.int .i64 (a0 : Int)) := (HP.out.alloc _).cell 0
                  have t1 : (wr.alloc (.cells #[.string (s.extract 0 a1), .string vv] 53)).drew.cell? ⟨p, 1, none⟩ = some (.int .i64 (a1 : Int)) := (HP.out.alloc _).cell 1
                  have t2 : (wr.alloc (.cells #[.string (s.extract 0 a1), .string vv] 53)).drew.cell? ⟨p, 2, none⟩ = some (.int .i64 (a2 : Int)) := (HP.out.alloc _).cell 2
                  have HP9 := Lib.hid (hP9 _ _ _ HP.out.drew (by decide))
                  have HB9 := Lib.hid (HBw.out.drew.trans hb9)
                  have HO9 := Lib.hid HO9
                  have Hq9 : Hid (n9 = (l ++ [(s.extract 0 a1, vv)]).length) := Lib.hid (by rw [e9, Hn5.out, List.length_append]; rfl)
                  have u0 : wr.cell? ⟨p, 0, none⟩ = some (.int .i64 (a0 : Int)) := HP.out.cell 0
                  have u1 : wr.cell? ⟨p, 1, none⟩ = some (.int .i64 (a1 : Int)) := HP.out.cell 1
                  have u2 : wr.cell? ⟨p, 2, none⟩ = some (.int .i64 (a2 : Int)) := HP.out.cell 2
                  have v0 : w9.cell? ⟨p, 0, none⟩ = some (.int .i64 (a0 : Int)) := HP9.out.cell 0
                  have v1 : w9.cell? ⟨p, 1, none⟩ = some (.int .i64 (a1 : Int)) := HP9.out.cell 1
                  have v2 : w9.cell? ⟨p, 2, none⟩ = some (.int .i64 (a2 : Int)) := HP9.out.cell 2
                  clear hR5 hf9 hs9 hk9 hl9 hr9 hb9 hP9 hkk hsm1 HOw HBw HP Hle Hok Hsz HO HB HR4 Hn5 Hf Hs Hlast hla e9 q0 q1 q2
                  go_upto_region 19 with fail
                  go_region_held3 (fun W => W.cell? ⟨p, 0, none⟩ = some (.int .i64 (a0 : Int)) ∧ W.cell? ⟨p, 1, none⟩ = some (.int .i64 (a1 : Int)) ∧ W.cell? ⟨p, 2, none⟩ = some (.int .i64 (a2 : Int)))
                    (first | exact ⟨u0, u1, u2⟩ | exact ⟨t0, t1, t2⟩ | exact ⟨v0, v1, v2⟩ | assumption)
                    ((refine step_append_k rfl (.tmp 75) (.tmp 95) 22 rfl _ _ (.slice A9 n9 c9) (by simp [Act.eval]) (by simp [Act.eval]) ((HR9 _).out) ?_))
                  go_wp2_with fail
                  go_roundw
                  case rel => exact ⟨ss, A9, n9, c9, f, l ++ [(s.extract 0 a1, vv)], rfl, rfl, Hq9, HO9, Lib.hid (by rw [Hl9.out]; exact HR5.out), Hf9, Hs9, Hk9, HB9⟩
                  case measure => simp [txtLen]; omega
      · as_aux_lemma =>
        have hz : rs.size = 0 := by omega
        have h1 : ¬ (0 : Int) < (rs.size : Int) := by omega
        have hnil : bl rs = [] := List.eq_nil_of_length_eq_zero hz
        have HR2 : Hid ((PL, PE) = if buildP l = (b, 0) then (l, 0) else ([], 31)) := Lib.hid (by
          rw [HR.out, hnil, readL_nil]
          show finP b (some (l ++ [])) = _
          rw [List.append_nil]
          rfl)
        have hl6 : n5 ≤ 1000000 := by have h2 := Hn5.out; have h3 := Hsz.out; have h4 := Hs.out; omega
        have hokP : okP l := fun m hm => by have h1 := Hok.out m hm; have h2 := Hs.out; omega
        have CB := Lib.hid (rbuild A5 n5 c5 l wr HO.out.keysAt hokP hl6)
        obtain ⟨bs, er, hbp⟩ : ∃ bs er, buildP l = (bs, er) := ⟨_, _, rfl⟩
        rw [hbp] at HR2 CB
        dsimp only at CB
        have hlen : l.length = n5 := Hn5.out.symm
        have HL := Lib.hid hlen
        clear hz hnil HR Hf Hsz Hok hokP hl6 h0 hbp hlen
        by_cases he : er = 0
        · subst he
          by_cases hbb : bs = b
          · subst hbb
            obtain ⟨rfl, rfl⟩ : PL = l ∧ PE = 0 := by
              have h2 := HR2.out
              rw [if_pos rfl] at h2
              exact ⟨congrArg Prod.fst h2, congrArg Prod.snd h2⟩
            go_wp2_with fail
            refine CB.out.mono ?_
            rintro e w5 ⟨rfl, hb⟩
            have HO5 := Lib.hid (HO.out.below hb)
            have HB5 := Lib.hid (HB.out.trans (hb.mono HB.out.size))
            clear hb CB
            go_wp2_with fail
            go_ret2
            exact ⟨_, rfl, HO5.out, HB5.out⟩
          · have e1 : (bs.toList == b.toList) = false := by rw [teq11]; exact decide_eq_false hbb
            obtain ⟨rfl, rfl⟩ : PL = [] ∧ PE = 31 := by
              have h2 := HR2.out
              rw [if_neg (fun h => hbb (congrArg Prod.fst h))] at h2
              exact ⟨congrArg Prod.fst h2, congrArg Prod.snd h2⟩
            clear hbb
            go_wp2_with fail
            refine CB.out.mono ?_
            rintro e w5 ⟨rfl, hb⟩
            have HB5 := Lib.hid (HB.out.trans (hb.mono HB.out.size))
            clear hb CB
            go_wp2_with fail
            go_ret2
            exact ⟨_, rfl, World.ownsRow_nil _ _ _ _, HB5.out⟩
        · have e1 : (er == 0) = false := by rw [beq_eq_false_iff_ne]; exact he
          obtain ⟨rfl, rfl⟩ : PL = [] ∧ PE = 31 := by
            have h2 := HR2.out
            rw [if_neg (fun h => he (congrArg Prod.snd h))] at h2
            exact ⟨congrArg Prod.fst h2, congrArg Prod.snd h2⟩
          go_wp2_with fail
          refine CB.out.mono ?_
          rintro e w5 ⟨rfl, hb⟩
          have HB5 := Lib.hid (HB.out.trans (hb.mono HB.out.size))
          clear hb CB
          go_wp2_with fail
          go_ret2
          exact ⟨_, rfl, World.ownsRow_nil _ _ _ _, HB5.out⟩
end Go.Proofs.YtmoffcgbjmeiaaaGreatDoor

namespace Go.Proofs.YtmoffcgbjmeiaaaGreatDoor
open Go.RowKit

set_option maxRecDepth 100000 in
set_option maxHeartbeats 1000000 in
theorem stillKeys_any (B bk m : Nat) (v1 v2 : Value) (a c : Nat → Value) (F : Nat → List (ByteArray × ByteArray)) (w : World) (hc1 : w.cell? ⟨bk, 6, none⟩ = some v1) (hc2 : w.cell? ⟨bk, 7, none⟩ = some v2) (r1 : w.ownsRow B 22 1 v1 m ((List.range m).map a)) (r2 : w.ownsRow B 22 1 v2 m ((List.range m).map c))
    (ra : ∀ i, i < m → Own elKeys w B 53 (a i) (F i)) (rc : ∀ i, i < m → Own elKeys w B 53 (c i) (F i)) (hF : ∀ i, i < m → (F i).length ≤ 1000000 ∧ ∀ x ∈ F i, okKeys x) (hm : m ≤ 250) :
    Calls Tryz.prog 40 #[.pointer (some ⟨bk, 0, none⟩)] w fun e w' => e = .returned (.bool true) ∧ ∃ q, w' = w.drewN q := by
  obtain ⟨A1, p1, e1⟩ := srow_slice r1
  obtain ⟨A2, p2, e2⟩ := srow_slice r2
  have s1 := fun k (hk : k < m) => srow_at r1 hk
  have s2 := fun k (hk : k < m) => srow_at r2 hk
  rw [e1] at hc1 s1
  rw [e2] at hc2 s2
  have S1 := Lib.hid s1
  have S2 := Lib.hid s2
  have RA := Lib.hid ra
  have RC := Lib.hid rc
  have HF := Lib.hid hF
  have hm' : (m : Int) ≤ 250 := by omega
  clear r1 r2 ra rc hF s1 s2
  go_enter Tryz.func40, Tryz.ntmps40
  go_wp2_with fail
  go_loopw [3] (fun i wr => ∃ k q : Nat, k ≤ m ∧ i = .int .i64 (k : Int) ∧ Hid (wr = w.drewN q)) (fun i _ => m - (intOf i).toNat)
  case atStart => exact ⟨0, 0, by omega, rfl, rfl⟩
  case round =>
    obtain ⟨k, q, hk, rfl, Hw⟩ := hrel
    have d1 : wr.cell? ⟨bk, 6, none⟩ = some (.slice A1 m p1) := by rw [Hw.out]; exact hc1
    have d2 : wr.cell? ⟨bk, 7, none⟩ = some (.slice A2 m p2) := by rw [Hw.out]; exact hc2
    by_cases hl : k < m
    · obtain ⟨g1, q1, f1, _, _, t1⟩ := S1.out k hl
      obtain ⟨g2, q2, f2, _, _, t2⟩ := S2.out k hl
      injection f1 with f1 f1b f1c
      injection f2 with f2 f2b f2c
      clear f1b f1c f2b f2c
      subst f1 f2
      have ia := RA.out k hl
      have ic := RC.out k hl
      obtain ⟨B1, b1, x1⟩ := ia.slice
      obtain ⟨B2, b2, x2⟩ := ic.slice
      rw [x1] at ia t1
      rw [x2] at ic t2
      have hf := HF.out k hl
      have K : Hid (∀ q, Calls Tryz.prog 13 #[.slice B1 (F k).length b1, .slice B2 (F k).length b2] (wr.drewN q) fun e w' => e = .returned (.bool true) ∧ ∃ m, w' = (wr.drewN q).drewN m) := fun q' => by
        rw [Hw.out]
        exact sameKeys_any B1 B2 _ _ b1 b2 B B (F k) _ ia ic hf.1 hf.2
      have u1 : wr.cell? ⟨g1, k, none⟩ = some (.slice B1 (F k).length b1) := by rw [Hw.out]; exact t1
      have u2 : wr.cell? ⟨g2, k, none⟩ = some (.slice B2 (F k).length b2) := by rw [Hw.out]; exact t2
      have hl1 : (k : Int) < (m : Int) := by omega
      clear ia ic x1 x2 t1 t2 hf
      generalize (F k).length = n1 at *
      go_wp2_with fail
      go_quiet (first | (go_at_call 13; refine Calls.quiet_of (K.out _)))
      go_wp2_with fail
      go_roundw
      case rel => exact ⟨k + 1, _, by omega, by go_num, (by rw [Hw.out, World.drewN_drewN]; rfl)⟩
      case measure => simp [intOf]; omega
    · obtain rfl : k = m := by omega
      go_wp2_with fail
      go_ret
      exact ⟨rfl, q, Hw.out⟩

set_option maxRecDepth 100000 in
set_option maxHeartbeats 4000000 in
theorem putKeys_any (B bk m : Nat) (bcs : Array Value) (v1 : Value) (a : Nat → Value) (F : Nat → List (ByteArray × ByteArray)) (w : World) (hb : Blk w bk 41 bcs) (hf : bcs[6]? = some v1) (r1 : w.ownsRow B 22 1 v1 m ((List.range m).map a)) (hR : Rwk elKeys w B 53 m a F) (hF : ∀ i, i < m → (F i).length ≤ 100000) (hm : m ≤ 250) (_hB : B ≤ w.heap.size) :
    Calls Tryz.prog 60 #[.pointer (some ⟨bk, 0, none⟩)] w fun e w' => e = .returned (.tuple #[]) ∧ Rwk elKeys w' B 53 m a (fun i => elKeys.marks i 0 (F i).length) ∧ Tn B (cellsT 53) w w' := by
  obtain ⟨A1, p1, e1⟩ := srow_slice r1
  have bkc : ∀ W, Tn B (cellsT 53) w W → W.cell? ⟨bk, 6, none⟩ = some (.slice A1 m p1) := fun W hW => by
    have := (hW.blk hb (cellsT_ne (by decide) _ _)).cell 6
    rw [this, hf, e1]
  have s1 : ∀ W, Tn B (cellsT 53) w W → ∀ k, k < m → ∃ g, A1 = some ⟨g, 0, none⟩ ∧ W.cell? ⟨g, k, none⟩ = some (a k) := fun W hW k hk => by
    obtain ⟨g, c, h1, _, _, h2⟩ := srow_at (hW.own r1 (fun cs fr => cellsT_ne (by decide) _ _)) hk
    rw [e1] at h1
    injection h1 with h1 _ _
    exact ⟨g, h1, h2⟩
  have BK := Lib.hid bkc
  have S1 := Lib.hid s1
  have HR := Lib.hid hR
  have HF := Lib.hid hF
  have hm' : (m : Int) ≤ 250 := by omega
  clear hb hf r1 hR hF e1 bkc s1
  go_enter Tryz.func60, Tryz.ntmps60
  go_wp2_with fail
  go_loopw [2] (fun i wr => ∃ k : Nat, ∃ G : Nat → List (ByteArray × ByteArray), k ≤ m ∧ i = .int .i64 (k : Int) ∧ Hid (Rwk elKeys wr B 53 m a G ∧ (∀ i, i < m → (G i).length = (F i).length) ∧ ∀ i, i < k → G i = elKeys.marks i 0 (F i).length) ∧ Hid (Tn B (cellsT 53) w wr)) (fun i _ => m - (intOf i).toNat)
  case atStart => exact ⟨0, F, by omega, rfl, ⟨HR.out, fun _ _ => rfl, fun i hi => absurd hi (by omega)⟩, Tn.refl _ _ _⟩
  case round =>
    obtain ⟨k, G, hk, rfl, HR1, HT1⟩ := hrel
    have d4 := BK.out _ HT1.out
    by_cases hl : k < m
    · obtain ⟨g1, rfl, s2⟩ := S1.out _ HT1.out k hl
      obtain ⟨nk, hnk⟩ : ∃ n, (F k).length = n := ⟨_, rfl⟩
      have hnk2 := HF.out k hl
      rw [hnk] at hnk2
      have hrow := HR1.out.1.each k hl
      have hGk := HR1.out.2.1 k hl
      rw [hnk] at hGk
      obtain ⟨ak, ck, ek⟩ := hrow.slice
      rw [hGk] at ek
      rw [ek] at s2
      have Hnk := Lib.hid hnk
      have Ek := Lib.hid ek
      have HGk := Lib.hid hGk
      have hl1 : (k : Int) < (m : Int) := by omega
      have hnk3 : (nk : Int) ≤ 100000 := by omega
      have M := Lib.hid (markKeys_any k 0 nk wr (by omega) (by omega))
      have HG : Hid (∀ g, (Value.slice ak nk ck).ownBlock = some g → g < wr.heap.size) := fun g hg => (hrow.lt (by rw [Ek.out]; exact hg)).2
      clear hnk hrow hGk ek
      go_wp2_with fail
      refine M.out.mono ?_
      rintro e w1 ⟨v, rfl, hN, hb⟩
      obtain ⟨av, cv, ev⟩ := hN.slice
      rw [El.marks_length] at ev
      subst ev
      obtain ⟨S, hS⟩ : ∃ S, wr.heap.size = S := ⟨_, rfl⟩
      rw [hS] at hN HG
      have HN := Lib.hid hN
      have HR2 := Lib.hid (HR1.out.1.below (below_g hb))
      have HT2 := Lib.hid (HT1.out.trans (Tn.of_grown hb))
      clear hN hb M hS d4 s2
      go_wp2_with fail
      go_loopw [4] (fun i wr' => ∃ j : Nat, ∃ G' : Nat → List (ByteArray × ByteArray), j ≤ nk ∧ i = .int .i64 (j : Int) ∧ Hid (Rwk elKeys wr' B 53 m a G' ∧ (∀ i, i < m → (G' i).length = (F i).length) ∧ (∀ i, i < k → G' i = elKeys.marks i 0 (F i).length) ∧ ∀ t, t < j → (G' k)[t]? = (elKeys.marks k 0 nk)[t]?) ∧ Hid (Own elKeys wr' S 53 (.slice av nk cv) (elKeys.marks k 0 nk)) ∧ Hid (Tn B (cellsT 53) w wr')) (fun i _ => nk - (intOf i).toNat)
      case atStart => exact ⟨0, G, by omega, rfl, ⟨HR2.out, HR1.out.2.1, HR1.out.2.2, fun t ht => absurd ht (by omega)⟩, HN, HT2⟩
      case round =>
        obtain ⟨j, G', hj, rfl, HR3, HN3, HT3⟩ := hrel
        by_cases hlj : j < nk
        · have d5 := BK.out _ HT3.out
          obtain ⟨g1', q1, s3⟩ := S1.out _ HT3.out k hl
          simp only [Option.some.injEq, Addr.mk.injEq, and_true] at q1
          subst q1
          rw [Ek.out] at s3
          have hGl : (G' k).length = nk := by rw [HR3.out.2.1 k hl, Hnk.out]
          obtain ⟨gk, ck', curk, ek', _, hhk⟩ := (HR3.out.1.each k hl).some_ (by omega)
          rw [Ek.out] at ek'
          injection ek' with ek1 ek2 ek3
          clear ek2 ek3
          subst ek1
          have hrow := HR3.out.1.each k hl
          rw [Ek.out] at hrow
          obtain ⟨gv, cv', curv, ev', _, _⟩ := HN3.out.some_ (by rw [El.marks_length]; omega)
          injection ev' with ev1 ev2 ev3
          clear ev2 ev3
          subst ev1
          obtain ⟨x, hx⟩ : ∃ x, x = elKeys.mark k j := ⟨_, rfl⟩
          have hxm : (elKeys.marks k 0 nk)[j]? = some x := by rw [hx]; exact El.marks_at _ _ _ _ hlj
          obtain ⟨y, hy⟩ : ∃ y, (G' k)[j]? = some y := ⟨_, List.getElem?_eq_getElem (by omega)⟩
          have y0 : wr.cell? ⟨gv, j * 2, none⟩ = some (.string x.1) := by
            have h9 := Own.cells (j := 0) HN3.out hxm (by decide) rfl
            rwa [show j * elKeys.sz + 0 = j * 2 from by show j * 2 + 0 = _; omega] at h9
          have y1 : wr.cell? ⟨gv, j * 2 + 1, none⟩ = some (.string x.2) := by
            have h9 := Own.cells (j := 1) HN3.out hxm (by decide) rfl
            rwa [show j * elKeys.sz + 1 = j * 2 + 1 from by show j * 2 + 1 = _; omega] at h9
          have z0 : wr.cell? ⟨gk, j * 2, none⟩ = some (.string y.1) := by
            have h9 := Own.cells (j := 0) hrow hy (by decide) rfl
            rwa [show j * elKeys.sz + 0 = j * 2 from by show j * 2 + 0 = _; omega] at h9
          have z1 : wr.cell? ⟨gk, j * 2 + 1, none⟩ = some (.string y.2) := by
            have h9 := Own.cells (j := 1) hrow hy (by decide) rfl
            rwa [show j * elKeys.sz + 1 = j * 2 + 1 from by show j * 2 + 1 = _; omega] at h9
          have hfz := fun i => (show Own elKeys wr B 53 _ _ from hrow).frozen_ i
          have fz0 := hfz (j * 2)
          have fz1 := hfz (j * 2 + 1)
          have PK := Lib.hid (put_k (j := j) (x := x) HR3.out.1 hl Ek.out (by omega))
          have hgS : (Value.slice (some ⟨gv, 0, none⟩) nk cv).ownBlock ≠ some gk := by
            intro h
            have h1 := (HN3.out.lt h).1
            have h2 := HG.out gk rfl
            omega
          have PN := Lib.hid (PK.out.2.2 _ _ _ HN3.out hgS)
          have hlj1 : (j : Int) < (nk : Int) := by omega
          have Hxm := Lib.hid hxm
          have HGl := Lib.hid hGl
          clear hrow hx hxm hy hgS hfz hhk hGl
          obtain ⟨xa, xb⟩ := x
          have PK1 := PK.out.1
          clear PK1
          go_wp2_with fail
          go_region
          go_wp2_with fail
          go_roundw
          case rel =>
            refine ⟨j + 1, upk G' k ((G' k).set j (xa, xb)), by omega, by go_num, ⟨⟨PK.out.1.each, PK.out.1.apart⟩, fun i hi => ?_, fun i hi => ?_, fun t ht => ?_⟩, PN, (HT3.out.drew.trans PK.out.2.1.fromDrew)⟩
            · by_cases hik : i = k
              · subst hik; rw [upk_at, List.length_set]; exact HR3.out.2.1 i hi
              · rw [upk_ne _ _ hik]; exact HR3.out.2.1 i hi
            · rw [upk_ne _ _ (by omega)]
              exact HR3.out.2.2.1 i hi
            · rw [upk_at]
              by_cases htj : t = j
              · subst htj
                rw [Hxm.out, List.getElem?_set_self (by rw [HGl.out]; exact hlj)]
              · rw [List.getElem?_set_ne (fun h => htj h.symm)]
                exact HR3.out.2.2.2 t (by omega)
          case measure => simp [intOf]; omega
        · obtain rfl : j = nk := by omega
          go_wp2_with fail
          go_roundw
          case rel =>
            refine ⟨k + 1, G', by omega, by go_num, ⟨HR3.out.1, HR3.out.2.1, fun i hi => ?_⟩, HT3⟩
            by_cases hik : i = k
            · subst hik
              rw [Hnk.out]
              refine List.ext_getElem? fun t => ?_
              by_cases ht : t < j
              · exact HR3.out.2.2.2 t ht
              · rw [List.getElem?_eq_none (by rw [HR3.out.2.1 i hl, Hnk.out]; omega), List.getElem?_eq_none (by rw [El.marks_length]; omega)]
            · exact HR3.out.2.2.1 i (by omega)
          case measure => simp [intOf]; omega
    · obtain rfl : k = m := by omega
      go_wp2_with fail
      go_end0
      exact ⟨rfl, ⟨fun i hi => by rw [← HR1.out.2.2 i hi]; exact HR1.out.1.each i hi, HR1.out.1.apart⟩, HT1.out⟩
end Go.Proofs.YtmoffcgbjmeiaaaGreatDoor

namespace Go.Proofs.YtmoffcgbjmeiaaaGreatDoor
open Go.RowKit

theorem sinfoKeys : (Tryz.prog.info? 22).map (fun i => (i.zero, i.size, i.bytes)) = some (some (.slice none 0 0), 1, 24) := by kernel_rfl
theorem sunderKeys : Tryz.prog.underlying 28 = some (.slice 22) := by kernel_rfl
set_option maxRecDepth 100000 in
set_option maxHeartbeats 4000000 in
theorem growKeys_any (B bk m : Nat) (bcs : Array Value) (v1 : Value) (a : Nat → Value) (n : Nat → Nat) (w : World) (hb : Blk w bk 41 bcs) (hf : bcs[6]? = some v1) (r1 : w.ownsRow B 22 1 v1 m ((List.range m).map a)) (hR : Rwk elKeys w B 53 m a (fun i => elKeys.marks i 0 (n i))) (hn : ∀ i, i < m → n i ≤ 100000) (hm : m ≤ 250) (hB : B ≤ w.heap.size) :
    Calls Tryz.prog 70 #[.pointer (some ⟨bk, 0, none⟩)] w fun e w' => ∃ v b, e = .returned v ∧ w'.ownsRow w.heap.size 22 1 v m ((List.range m).map b) ∧ Famk elKeys w' B 53 m a b (fun i => elKeys.marks i 0 (n i)) (fun i => elKeys.marks i 0 (n i + 72)) ∧ Tn B (cellsT 53) w w' := by
  obtain ⟨A1, p1, e1⟩ := srow_slice r1
  have bkc : ∀ W, Tn B (cellsT 53) w W → W.cell? ⟨bk, 6, none⟩ = some (.slice A1 m p1) := fun W hW => by
    have := (hW.blk hb (cellsT_ne (by decide) _ _)).cell 6
    rw [this, hf, e1]
  have s1 : ∀ W, Tn B (cellsT 53) w W → ∀ k, k < m → ∃ g, A1 = some ⟨g, 0, none⟩ ∧ W.cell? ⟨g, k, none⟩ = some (a k) := fun W hW k hk => by
    obtain ⟨g, c, h1, _, _, h2⟩ := srow_at (hW.own r1 (fun cs fr => cellsT_ne (by decide) _ _)) hk
    rw [e1] at h1
    injection h1 with h1 _ _
    exact ⟨g, h1, h2⟩
  have BK := Lib.hid bkc
  have S1 := Lib.hid s1
  have HR := Lib.hid hR
  have HN := Lib.hid hn
  have hm' : (m : Int) ≤ 250 := by omega
  obtain ⟨S, hS⟩ : ∃ S, w.heap.size = S := ⟨_, rfl⟩
  have HS := Lib.hid hS
  have HB := Lib.hid hB
  rw [hS]
  clear hb hf r1 hR hn e1 bkc s1 hS hB
  go_enter Tryz.func70, Tryz.ntmps70
  go_wp2_with fail
  go_loopw [3, 4] (fun o i wr => ∃ k : Nat, ∃ b : Nat → Value, ∃ H : Nat → List (ByteArray × ByteArray), k ≤ m ∧ i = .int .i64 (k : Int) ∧ Hid (wr.ownsRow S 22 1 o k ((List.range k).map b)) ∧ Hid (Famk elKeys wr B 53 m a b (fun i => elKeys.marks i 0 (n i)) H ∧ (∀ i, i < k → H i = elKeys.marks i 0 (n i + 72)) ∧ ∀ i, k ≤ i → b i = a i ∧ H i = elKeys.marks i 0 (n i)) ∧ Hid (Tn B (cellsT 53) w wr)) (fun _ i _ => m - (intOf i).toNat)
  case atStart => exact ⟨0, a, _, by omega, rfl, World.ownsRow_nil _ _ _ _, ⟨Famk.start HR.out, fun i hi => absurd hi (by omega), fun i _ => ⟨rfl, rfl⟩⟩, Tn.refl _ _ _⟩
  case round =>
    obtain ⟨k, b, H, hk, rfl, HO1, HF1, HT1⟩ := hrel
    have d4 := BK.out _ HT1.out
    obtain ⟨ao, co, eo⟩ := srow_slice HO1.out
    subst eo
    by_cases hl : k < m
    · obtain ⟨g1, rfl, s2⟩ := S1.out _ HT1.out k hl
      obtain ⟨nk, hnk⟩ : ∃ x, n k = x := ⟨_, rfl⟩
      have hnk2 := HN.out k hl
      rw [hnk] at hnk2
      obtain ⟨ak, ck, ek⟩ := (HF1.out.1.ra k hl).slice
      rw [El.marks_length, hnk] at ek
      rw [ek] at s2
      have Hnk := Lib.hid hnk
      have Ek := Lib.hid ek
      have hl1 : (k : Int) < (m : Int) := by omega
      have hnk3 : (nk : Int) ≤ 100000 := by omega
      have HF2 : Hid (Famk elKeys wr B 53 m a (upk b k (.slice ak nk ck)) (fun i => elKeys.marks i 0 (n i)) (upk H k (elKeys.marks k 0 (nk + 0)))) := by
        unfold Hid
        rw [upk_self b k _ (by rw [(HF1.out.2.2 k (Nat.le_refl _)).1, ek]), upk_self H k _ (by rw [(HF1.out.2.2 k (Nat.le_refl _)).2, hnk]; rfl)]
        exact HF1.out.1
      clear hnk ek
      go_wp2_with fail
      go_loopw [5, 6] (fun l t wr' => ∃ j : Nat, j ≤ 12 ∧ t = .int .i64 (j : Int) ∧ Hid (wr'.ownsRow S 22 1 (.slice ao k co) k ((List.range k).map b)) ∧ Hid (Famk elKeys wr' B 53 m a (upk b k l) (fun i => elKeys.marks i 0 (n i)) (upk H k (elKeys.marks k 0 (nk + j)))) ∧ Hid (Tn B (cellsT 53) w wr')) (fun _ t _ => 12 - (intOf t).toNat)
      case atStart => exact ⟨0, by omega, rfl, HO1, HF2, HT1⟩
      case round =>
        obtain ⟨j, hj, rfl, HO2, HF3, HT2⟩ := hrel
        have hrow := HF3.out.rb k hl
        rw [upk_at, upk_at] at hrow
        obtain ⟨N, hN⟩ : ∃ N, nk + j = N := ⟨_, rfl⟩
        rw [hN] at hrow HF3
        obtain ⟨al, cl, el⟩ := hrow.slice
        rw [El.marks_length] at el
        subst el
        have hN1 : N ≤ 100012 := by omega
        have HN4 := Lib.hid hN
        have Hrow := Lib.hid hrow
        clear hrow hN d4 s2
        by_cases hlj : j < 12
        · have hlj1 : (j : Int) < 12 := by omega
          have M := Lib.hid (markKeys_any k N 1 wr (by omega) (by omega))
          go_wp2_with fail
          refine M.out.mono ?_
          rintro e w1 ⟨v, rfl, hN5, hb5⟩
          obtain ⟨av, cv, ev⟩ := hN5.slice
          rw [El.marks_length] at ev
          subst ev
          obtain ⟨hz9, hA, hM⟩ := own_reads hN5
          have hrow1 := Hrow.out.below (below_g hb5)
          have hB1 : B ≤ w1.heap.size := Nat.le_trans HB.out (Nat.le_trans HT2.out.size hb5.size)
          obtain ⟨l', w2, hr, hown, hgr, hold, hblk⟩ := app_own (P := Tryz.prog) elKeys 22 53 (.agg #[.string ⟨#[]⟩, .string ⟨#[]⟩]) 32 underKeys infoKeys rfl w1 B (.slice al N cl) (elKeys.marks k 0 N) (elKeys.marks k N 1) hrow1 av cv hA hM (by rw [El.marks_length, El.marks_length]; unfold maxLen; omega) (by rw [El.marks_length, El.marks_length]; omega) hB1 1 (El.marks_length _ _ _ _).symm
          have HF5 := Lib.hid ((HF3.out.below (below_g hb5)).marked2 hl hown hgr hold hblk)
          have HT5 := Lib.hid ((HT2.out.trans (Tn.of_grown hb5)).grow hrow1 hgr)
          have HO5 : Hid (w2.ownsRow S 22 1 (.slice ao k co) k ((List.range k).map b)) := ((Tn.refl B (cellsT 53) w1).grow hrow1 hgr).own ((Tn.of_grown (B := B) (T := cellsT 53) hb5).own HO2.out (fun cs fr => cellsT_ne (by decide) _ _)) (fun cs fr => cellsT_ne (by decide) _ _)
          have HR5 := fun ty => Lib.hid (hr ty)
          clear hz9 hN5 hb5 hA hM hrow1 hB1 hr hown hgr hold hblk M hN1 hnk2 hnk3
          go_wp2_with (at_builtin; refine wpList_append_k _ w2 rfl (.tmp 27) (.tmp 31) 22 rfl _ _ l' rfl rfl (fun ty => (HR5 ty).out) ?_)
          go_roundw
          case rel => exact ⟨j + 1, by omega, by go_num, HO5, by rw [← Nat.add_assoc, HN4.out]; exact HF5, HT5⟩
          case measure => simp [intOf]; omega
        · obtain rfl : j = 12 := by omega
          have M := Lib.hid (markKeys_any k N 60 wr (by omega) (by omega))
          go_wp2_with fail
          refine M.out.mono ?_
          rintro e w1 ⟨v, rfl, hN5, hb5⟩
          obtain ⟨av, cv, ev⟩ := hN5.slice
          rw [El.marks_length] at ev
          subst ev
          obtain ⟨hz9, hA, hM⟩ := own_reads hN5
          have hrow1 := Hrow.out.below (below_g hb5)
          have hB1 : B ≤ w1.heap.size := Nat.le_trans HB.out (Nat.le_trans HT2.out.size hb5.size)
          obtain ⟨l', w2, hr, hown, hgr, hold, hblk⟩ := app_own (P := Tryz.prog) elKeys 22 53 (.agg #[.string ⟨#[]⟩, .string ⟨#[]⟩]) 32 underKeys infoKeys rfl w1 B (.slice al N cl) (elKeys.marks k 0 N) (elKeys.marks k N 60) hrow1 av cv hA hM (by rw [El.marks_length, El.marks_length]; unfold maxLen; omega) (by rw [El.marks_length, El.marks_length]; omega) hB1 60 (El.marks_length _ _ _ _).symm
          obtain ⟨al', cl', el'⟩ := hown.slice
          rw [List.length_append, El.marks_length, El.marks_length] at el'
          subst el'
          have hF5 := (HF3.out.below (below_g hb5)).marked2 hl hown hgr hold hblk
          have hT5 := (HT2.out.trans (Tn.of_grown hb5)).grow hrow1 hgr
          have hO5 : w2.ownsRow S 22 1 (.slice ao k co) k ((List.range k).map b) := ((Tn.refl B (cellsT 53) w1).grow hrow1 hgr).own ((Tn.of_grown (B := B) (T := cellsT 53) hb5).own HO2.out (fun cs fr => cellsT_ne (by decide) _ _)) (fun cs fr => cellsT_ne (by decide) _ _)
          have HR5 := fun ty => Lib.hid (hr ty)
          have hO6 := World.ownsRow.alloc hO5 (.cells #[.slice al' (N + 60) cl'] 22)
          obtain ⟨o', w3, hr3, hown3, hgr3, hold3, hblk3⟩ := app_srow (P := Tryz.prog) 28 22 sunderKeys sinfoKeys (w2.alloc (.cells #[.slice al' (N + 60) cl'] 22)) S (.slice ao k co) k _ hO6 (.slice al' (N + 60) cl') rfl w2.heap.size 1 ((Blk.new w2 22 #[.slice al' (N + 60) cl']).cell 0) (by omega) (Nat.le_trans (HS.out ▸ hT5.size) (by simp))
          have HR6 := fun ty => Lib.hid (hr3 ty)
          rw [range_upk] at hown3
          have HO7 := Lib.hid hown3
          have hT6 := (hT5.alloc (.cells #[.slice al' (N + 60) cl'] 22))
          have HT7 := Lib.hid (hT6.growNew hO6 (Nat.le_of_eq HS.out) hgr3)
          have HF7 : Hid (Famk elKeys w3 B 53 m a (upk b k (.slice al' (N + 60) cl')) (fun i => elKeys.marks i 0 (n i)) (upk H k (elKeys.marks k 0 (N + 60)))) := by
            have h1 := hF5.below (below_g (World.grownBy_alloc w2 (.cells #[.slice al' (N + 60) cl'] 22) none))
            have h2 : Tn S (cellsT 22) (w2.alloc (.cells #[.slice al' (N + 60) cl'] 22)) w3 := (Tn.refl S (cellsT 22) _).grow hO6 hgr3
            exact h1.tn h2 (fun cs fr => cellsT_ne (by decide) _ _)
          clear hz9 hN5 hb5 hA hM hrow1 hB1 hr hown hgr hold hblk M hF5 hT5 hO5 hO6 hr3 hown3 hgr3 hold3 hblk3 hT6 hN1 hnk2 hnk3
          go_wp2_with (at_builtin; first | refine wpList_append_k _ w2 rfl (.tmp 34) (.tmp 38) 22 rfl _ _ (.slice al' (N + 60) cl') rfl rfl (fun ty => (HR5 ty).out) ?_ | refine wpList_append_k _ w3 rfl (.tmp 33) (.tmp 40) 28 rfl _ _ o' rfl rfl (fun ty => (HR6 ty).out) ?_)
          go_roundw
          case rel =>
            refine ⟨k + 1, upk b k (.slice al' (N + 60) cl'), _, by omega, by go_num, HO7, ⟨HF7.out, fun i hi => ?_, fun i hi => ?_⟩, HT7⟩
            · by_cases hik : i = k
              · subst hik
                rw [upk_at, Hnk.out, ← HN4.out]
              · rw [upk_ne _ _ hik]
                exact HF1.out.2.1 i (by omega)
            · rw [upk_ne _ _ (show i ≠ k by omega), upk_ne _ _ (show i ≠ k by omega)]
              exact HF1.out.2.2 i (by omega)
          case measure => simp [intOf]; omega
    · obtain rfl : k = m := by omega
      go_wp2_with fail
      go_ret
      refine ⟨_, b, rfl, HO1.out, ⟨HF1.out.1.ra, fun i hi => ?_, HF1.out.1.oaa, HF1.out.1.oab, HF1.out.1.obb, fun i hi => ?_⟩, HT1.out⟩
      · rw [← HF1.out.2.1 i hi]
        exact HF1.out.1.rb i hi
      · rw [← HF1.out.2.1 i hi]
        exact HF1.out.1.tie i hi

set_option maxRecDepth 100000 in
set_option maxHeartbeats 2000000 in
theorem markedKeys_any (B B2 m : Nat) (v : Value) (a : Nat → Value) (n : Nat → Nat) (w : World) (hown : w.ownsRow B2 22 1 v m ((List.range m).map a)) (hR : ∀ i, i < m → Own elKeys w B 53 (a i) (elKeys.marks i 0 (n i))) (hn : ∀ i, i < m → n i ≤ 200000) (hm : m ≤ 250) :
    Calls Tryz.prog 85 #[v] w fun e w' => e = .returned (.bool true) ∧ w.grownBy w' none := by
  obtain ⟨A1, p1, e1⟩ := srow_slice hown
  subst e1
  have s1 : ∀ W, w.grownBy W none → ∀ k, k < m → ∃ g, A1 = some ⟨g, 0, none⟩ ∧ W.cell? ⟨g, k, none⟩ = some (a k) := fun W hW k hk => by
    obtain ⟨g, c, h1, _, _, h2⟩ := srow_at hown hk
    injection h1 with h1 _ _
    exact ⟨g, h1, hW.cell h2 (by simp)⟩
  have S1 := Lib.hid s1
  have HR := Lib.hid hR
  have HN := Lib.hid hn
  have hm' : (m : Int) ≤ 250 := by omega
  clear hown hR hn s1
  go_enter Tryz.func85, Tryz.ntmps85
  go_wp2_with fail
  go_loopw [3] (fun i wr => ∃ k : Nat, k ≤ m ∧ i = .int .i64 (k : Int) ∧ Hid (w.grownBy wr none)) (fun i _ => m - (intOf i).toNat)
  case atStart => exact ⟨0, by omega, rfl, grefl _ _⟩
  case round =>
    obtain ⟨k, hk, rfl, HG⟩ := hrel
    by_cases hl : k < m
    · obtain ⟨g1, rfl, s2⟩ := S1.out _ HG.out k hl
      obtain ⟨nk, hnk⟩ : ∃ x, n k = x := ⟨_, rfl⟩
      have hnk2 := HN.out k hl
      have hrow := HR.out k hl
      rw [hnk] at hnk2 hrow
      obtain ⟨ak, ck, ek⟩ := hrow.slice
      rw [El.marks_length] at ek
      rw [ek] at s2 hrow
      have M : ∀ W, wr.grownBy W none → Hid (Calls Tryz.prog 126 #[.int .i64 (k : Int), .int .i64 0, .int .i64 (nk : Int)] W fun e W1 => ∃ av cv, e = .returned (.slice av nk cv) ∧ W1.cell? ⟨g1, k, none⟩ = some (.slice ak nk ck) ∧ Hid (wr.grownBy W1 none) ∧ Hid (∀ W2, W1.grownBy W2 none → Calls Tryz.prog 13 #[.slice ak nk ck, .slice av nk cv] W2 fun e W3 => e = .returned (.bool true) ∧ W2.grownBy W3 none)) := by
        intro W hW
        refine (markKeys_any k 0 nk W (by omega) (by omega)).mono ?_
        rintro e W1 ⟨v, rfl, hN5, hb5⟩
        obtain ⟨av, cv, ev⟩ := hN5.slice
        rw [El.marks_length] at ev
        subst ev
        have hg1 := gnone hW hb5
        refine ⟨av, cv, rfl, hg1.cell s2 (by simp), hg1, fun W2 h2 => ?_⟩
        refine (sameKeys_any ak av nk nk ck cv B W.heap.size (elKeys.marks k 0 nk) W2 ((hrow.below (below_g HG.out)).below (below_g (gnone hg1 h2))) (hN5.below (below_g h2)) (by rw [El.marks_length]; omega) (okmKeys k 0 nk)).mono ?_
        rintro e W3 ⟨rfl, q, rfl⟩
        exact ⟨rfl, only_drewN (grefl _ _) q⟩
      have hl1 : (k : Int) < (m : Int) := by omega
      have hnk3 : (nk : Int) ≤ 200000 := by omega
      have G0 : wr.grownBy wr.drew none := ⟨rfl, rfl, rfl, Nat.le_refl _, fun _ _ _ => rfl⟩
      have HG0 := Lib.hid G0
      have c0 : wr.drew.cell? ⟨g1, k, none⟩ = some (.slice ak nk ck) := s2
      clear hnk hrow ek G0
      go_wp2_with fail
      go_region_held3 (fun W => W.cell? ⟨g1, k, none⟩ = some (.slice ak nk ck))
        (first | exact c0 | exact c1 | exact H2.out.cell c1 (by simp))
        (first
          | (go_at_call 126; refine (M _ HG0.out).out.mono ?_; rintro e W1 ⟨av, cv, rfl, c1, HG1, HS1⟩)
          | (go_at_call 13; refine (HS1.out _ (grefl _ _)).mono ?_; rintro e W3 ⟨rfl, h2⟩; have H2 := Lib.hid h2; clear h2))
      have HG9 := Lib.hid (gnone HG.out (gnone HG1.out H2.out))
      go_wp2_with fail
      go_roundw
      case rel => exact ⟨k + 1, by omega, by go_num, HG9⟩
      case measure => simp [intOf]; omega
    · obtain rfl : k = m := by omega
      go_wp2_with fail
      go_ret
      exact ⟨rfl, HG.out⟩
end Go.Proofs.YtmoffcgbjmeiaaaGreatDoor

namespace Go.Proofs.YtmoffcgbjmeiaaaGreatDoor
open Go.RowKit

abbrev KStKeys := @KSt (ByteArray × ByteArray) elKeys okKeys 53 22 6
set_option maxRecDepth 100000 in
set_option maxHeartbeats 4000000 in
theorem keepKeys_any (B bk S lo : Nat) (bcs : Array Value) (Z : List (List (ByteArray × ByteArray))) (A : Option Addr) (n c : Nat) (L : List (ByteArray × ByteArray)) (w : World) (hb : Blk w bk 41 bcs) (h : KStKeys w B bcs Z S) (hx : Own elKeys w lo 53 (.slice A n c) L) (hSl : S ≤ lo) (hBl : B ≤ lo) (hBk : B ≤ bk) (hB : B ≤ w.heap.size) (hS0 : S ≤ w.heap.size) (hL : L.length ≤ 100000 ∧ ∀ y ∈ L, okKeys y) :
    Calls Tryz.prog 15 #[.pointer (some ⟨bk, 0, none⟩), .slice A n c] w fun e w' => e = .returned (.tuple #[]) ∧ ∃ bcs' Z', Blk w' bk 41 bcs' ∧ KStKeys w' B bcs' Z' w.heap.size ∧ (∀ j, j ≠ 6 → j ≠ 7 → bcs'[j]? = bcs[j]?) ∧ Tn B (twoT 22 41) w w' ∧ (Z' = Z ++ [L] ∨ Z' = Z) := by
  have h0 := h
  obtain ⟨v1, v2, a, c', f1, f2, r1, r2, o, ra, rc, hz, hs, hm2⟩ := h
  obtain ⟨A1, p1, rfl⟩ := srow_slice r1
  obtain ⟨A2, p2, rfl⟩ := srow_slice r2
  have d1 : w.cell? ⟨bk, 6, none⟩ = some (.slice A1 Z.length p1) := by rw [hb.cell 6, f1]
  by_cases hm : Z.length < 250
  · obtain ⟨A3, d3, w1, hr1, hb1, hb2, q1, q2, qo, hT⟩ := keep_row (P := Tryz.prog) (f := 6) sunderKeys sinfoKeys (show 22 ≠ 41 by decide) (u := .slice A n c) hb hB hBk r1 r2 o (by omega) rfl
    have hsz : 7 < bcs.size := (Array.getElem?_eq_some_iff.1 f2).1
    have g1 : w1.cell? ⟨bk, 6, none⟩ = some (.slice A1 Z.length p1) := by rw [hb1.cell 6, f1]
    have g1f := hb1.frozen 6
    have eT : ∀ cs fr, twoT 22 41 (.cells cs 53 fr) = false := fun cs fr => twoT_ne (by decide) (by decide) _ _
    have hx2 := hx.tn hT eT
    have ra2 := ra.tn hT eT
    have rc2 := fun i hi => (rc i hi).tn hT eT
    have hB2 := Nat.le_trans hB hT.size
    have HR1 := fun ty => Lib.hid (hr1 ty)
    obtain ⟨w2, hw2⟩ : ∃ w2, w1.setCell ⟨bk, 6, none⟩ (.slice A3 (Z.length + 1) d3) = w2 := ⟨_, rfl⟩
    rw [hw2] at hb2 q1 q2 hT hx2 ra2 rc2 hB2
    have d2 : w2.cell? ⟨bk, 7, none⟩ = some (.slice A2 Z.length p2) := by
      rw [hb2.cell 7, Array.getElem?_setIfInBounds_ne (by decide), f2]
    have CP : Hid (Calls Tryz.prog 36 #[.slice A n c] w2.drew fun e w' => ∃ a3 c3, e = .returned (.slice a3 n c3) ∧ Own elKeys w' w2.heap.size 53 (.slice a3 n c3) L ∧ w2.drew.grownBy w' none) :=
      copyKeys_any A n c lo L w2.drew (hx2.below ⟨rfl, rfl, rfl, Nat.le_refl _, fun _ _ => rfl⟩) (by omega)
    have KP : ∀ w3 a3 c3, Own elKeys w3 w2.heap.size 53 (.slice a3 n c3) L → w2.drew.grownBy w3 none → Hid (∃ A5 d5 w5, (∀ ty, (Builtin.append_ #[28, 28] ty #[.slice A2 Z.length p2, .slice (some ⟨w3.heap.size, 0, none⟩) 1 1]).run Tryz.prog (w3.alloc (.cells #[.slice a3 n c3] 22)) = .ok (.slice A5 (Z.length + 1) d5) w5) ∧
        w5.cell? ⟨bk, 7, none⟩ = some (.slice A2 Z.length p2) ∧ w5.frozen? ⟨bk, 7, none⟩ = false ∧ Hid (∃ bcs' Z', Blk (w5.setCell ⟨bk, 7, none⟩ (.slice A5 (Z.length + 1) d5)) bk 41 bcs' ∧ KStKeys (w5.setCell ⟨bk, 7, none⟩ (.slice A5 (Z.length + 1) d5)) B bcs' Z' w.heap.size ∧ (∀ j, j ≠ 6 → j ≠ 7 → bcs'[j]? = bcs[j]?) ∧ Tn B (twoT 22 41) w (w5.setCell ⟨bk, 7, none⟩ (.slice A5 (Z.length + 1) d5)) ∧ (Z' = Z ++ [L] ∨ Z' = Z))) := by
      intro w3 a3 c3 hO hg
      have hg2 : w2.grownBy w3 none := ⟨hg.os, hg.tape, hg.output, hg.size, hg.block⟩
      have T3 : Tn B (twoT 22 41) w2 w3 := Tn.of_grown hg2
      have b3 : Blk w3 bk 41 (bcs.setIfInBounds 6 (.slice A3 (Z.length + 1) d3)) := hb2.grown hg2 (by simp)
      have g3 := below_g hg2
      have q13 := (Tn.of_below (B := 0) (T := fun _ => false) g3).own q1 (fun _ _ => rfl)
      have q23 := (Tn.of_below (B := 0) (T := fun _ => false) g3).own q2 (fun _ _ => rfl)
      obtain ⟨A5, d5, w5, hr5, hb5, hb6, s1, s2, so, hT5⟩ := keep_row (P := Tryz.prog) (f := 7) sunderKeys sinfoKeys (show 22 ≠ 41 by decide) (u := .slice a3 n c3) b3 (Nat.le_trans hB2 hg2.size) hBk q23 q13 qo.symm (by omega) rfl
      have T6 := (hT.trans T3).trans hT5
      refine ⟨A5, d5, w5, hr5, ?_, hb5.frozen _, (bcs.setIfInBounds 6 (.slice A3 (Z.length + 1) d3)).setIfInBounds 7 (.slice A5 (Z.length + 1) d5), Z ++ [L], hb6, ?_, fun j h1 h2 => ?_, T6, Or.inl rfl⟩
      · rw [hb5.cell 7, Array.getElem?_setIfInBounds_ne (by decide), f2]
      · refine KSt.add (S := S) (lo := lo) (v1 := .slice A3 (Z.length + 1) d3) (v2 := .slice A5 (Z.length + 1) d5) (x := .slice A n c) (cp := .slice a3 n c3) (a := a) (c := c') ?_ ?_ s2 s1 so.symm (ra.tn T6 eT) (fun i hi => (rc i hi).tn T6 eT) hz hs hm (hx.tn T6 eT) ((hO.tn hT5 eT).low hB2) hSl hBl hL (fun g hg' => (hx.lt hg').2) hS0
        · rw [Array.getElem?_setIfInBounds_ne (by decide), Array.getElem?_setIfInBounds_self_of_lt (by omega)]
        · rw [Array.getElem?_setIfInBounds_self_of_lt (by simp; omega)]
      · rw [Array.getElem?_setIfInBounds_ne (fun h => h2 h.symm), Array.getElem?_setIfInBounds_ne (fun h => h1 h.symm)]
    have m1 : (Z.length : Int) < 250 := by omega
    have D2 : w2.drew.cell? ⟨bk, 7, none⟩ = some (.slice A2 Z.length p2) := d2
    have HW2 := Lib.hid hw2
    clear h0 r1 r2 o ra rc hz hs hb1 hb2 q1 q2 qo hT hx hx2 ra2 rc2 hr1 f1 f2 hb hm2 hw2
    generalize Z.length = m at *
    go_enter Tryz.func15, Tryz.ntmps15
    go_wp2_with (at_builtin; refine wpList_append_k _ w1 rfl (.tmp 14) (.tmp 16) 28 rfl _ _ (.slice A3 (m + 1) d3) rfl rfl (fun ty => (HR1 ty).out) ?_)
    rw [HW2.out]
    go_region_law (first
      | (go_simp; go_at_call 36; refine CP.out.mono ?_; rintro e w3 ⟨a3, c3, rfl, hO3, hg3⟩; obtain ⟨A5, d5, w5, hr5, c5, z5, KF⟩ := (KP w3 a3 c3 hO3 hg3).out; have c3' : w3.cell? ⟨bk, 7, none⟩ = some (.slice A2 m p2) := hg3.cell D2 (by simp); have c4' : (w3.alloc (.cells #[.slice a3 n c3] 22)).cell? ⟨bk, 7, none⟩ = some (.slice A2 m p2) := (World.grownBy_alloc w3 _ none).cell c3' (by simp))
      | (refine step_append_k rfl (.tmp 24) (.tmp 27) 28 rfl _ _ (.slice A5 (m + 1) d5) (by simp [Act.eval]) (by simp [Act.eval]) (hr5 _) ?_))
    all_goals
      go_wp2_with fail
      go_end0
      obtain ⟨b9, Z9, k1, k2, k3, k4, k5⟩ := KF.out
      first | exact ⟨rfl, b9, Z9, k1, k2, k3, k4, k5⟩ | exact ⟨rfl, b9, k1, Z9, k2, k3, k4, k5⟩
  · have m1 : ¬ (Z.length : Int) < 250 := by omega
    have H0 := Lib.hid h0
    have HB := Lib.hid hb
    clear h0 r1 r2 o ra rc hz hs f1 f2 hb hx
    go_enter Tryz.func15, Tryz.ntmps15
    go_wp2_with fail
    go_end0
    exact ⟨rfl, bcs, HB.out, Z, H0.out.up hS0, fun _ _ _ => rfl, Tn.refl _ _ _, Or.inr rfl⟩
end Go.Proofs.YtmoffcgbjmeiaaaGreatDoor

namespace Go.Proofs.YtmoffcgbjmeiaaaGreatDoor
open Go.RowKit

def nilS : Value := .slice none 0 0


theorem stillTexts_nil (bk : Nat) (w : World) (h : w.cell? ⟨bk, 0, none⟩ = some (.slice none 0 0)) :
    Calls Tryz.prog 37 #[.pointer (some ⟨bk, 0, none⟩)] w fun e w' => e = .returned (.bool true) ∧ w = w' := by
  go_enter Tryz.func37, Tryz.ntmps37
  go_wp2_with fail
  go_loop [3] (fun i => i = .int .i64 0) (fun _ => 0)
  case atStart => rfl
  case round =>
    subst hrel
    go_wp2_with fail
    go_ret
    exact ⟨rfl, rfl⟩
theorem putTexts_nil (bk : Nat) (w : World) (h : w.cell? ⟨bk, 0, none⟩ = some (.slice none 0 0)) :
    Calls Tryz.prog 57 #[.pointer (some ⟨bk, 0, none⟩)] w fun e w' => e = .returned (.tuple #[]) ∧ w = w' := by
  go_enter Tryz.func57, Tryz.ntmps57
  go_wp2_with fail
  go_loop [2] (fun i => i = .int .i64 0) (fun _ => 0)
  case atStart => rfl
  case round =>
    subst hrel
    go_wp2_with fail
    go_end0
    exact ⟨rfl, rfl⟩
theorem growTexts_nil (bk : Nat) (w : World) (h : w.cell? ⟨bk, 0, none⟩ = some (.slice none 0 0)) :
    Calls Tryz.prog 67 #[.pointer (some ⟨bk, 0, none⟩)] w fun e w' => e = .returned (.slice none 0 0) ∧ w = w' := by
  go_enter Tryz.func67, Tryz.ntmps67
  go_wp2_with fail
  go_loop [3, 4] (fun o i => o = .slice none 0 0 ∧ i = .int .i64 0) (fun _ _ => 0)
  case atStart => exact ⟨rfl, rfl⟩
  case round =>
    obtain ⟨rfl, rfl⟩ := hrel
    go_wp2_with fail
    go_ret
    exact ⟨rfl, rfl⟩
theorem markedTexts_nil (w : World) :
    Calls Tryz.prog 82 #[.slice none 0 0] w fun e w' => e = .returned (.bool true) ∧ w = w' := by
  go_enter Tryz.func82, Tryz.ntmps82
  go_wp2_with fail
  go_loop [3] (fun i => i = .int .i64 0) (fun _ => 0)
  case atStart => rfl
  case round =>
    subst hrel
    go_wp2_with fail
    go_ret
    exact ⟨rfl, rfl⟩

theorem stillInts_nil (bk : Nat) (w : World) (h : w.cell? ⟨bk, 2, none⟩ = some (.slice none 0 0)) :
    Calls Tryz.prog 38 #[.pointer (some ⟨bk, 0, none⟩)] w fun e w' => e = .returned (.bool true) ∧ w = w' := by
  go_enter Tryz.func38, Tryz.ntmps38
  go_wp2_with fail
  go_loop [3] (fun i => i = .int .i64 0) (fun _ => 0)
  case atStart => rfl
  case round =>
    subst hrel
    go_wp2_with fail
    go_ret
    exact ⟨rfl, rfl⟩
theorem putInts_nil (bk : Nat) (w : World) (h : w.cell? ⟨bk, 2, none⟩ = some (.slice none 0 0)) :
    Calls Tryz.prog 58 #[.pointer (some ⟨bk, 0, none⟩)] w fun e w' => e = .returned (.tuple #[]) ∧ w = w' := by
  go_enter Tryz.func58, Tryz.ntmps58
  go_wp2_with fail
  go_loop [2] (fun i => i = .int .i64 0) (fun _ => 0)
  case atStart => rfl
  case round =>
    subst hrel
    go_wp2_with fail
    go_end0
    exact ⟨rfl, rfl⟩
theorem growInts_nil (bk : Nat) (w : World) (h : w.cell? ⟨bk, 2, none⟩ = some (.slice none 0 0)) :
    Calls Tryz.prog 68 #[.pointer (some ⟨bk, 0, none⟩)] w fun e w' => e = .returned (.slice none 0 0) ∧ w = w' := by
  go_enter Tryz.func68, Tryz.ntmps68
  go_wp2_with fail
  go_loop [3, 4] (fun o i => o = .slice none 0 0 ∧ i = .int .i64 0) (fun _ _ => 0)
  case atStart => exact ⟨rfl, rfl⟩
  case round =>
    obtain ⟨rfl, rfl⟩ := hrel
    go_wp2_with fail
    go_ret
    exact ⟨rfl, rfl⟩
theorem markedInts_nil (w : World) :
    Calls Tryz.prog 83 #[.slice none 0 0] w fun e w' => e = .returned (.bool true) ∧ w = w' := by
  go_enter Tryz.func83, Tryz.ntmps83
  go_wp2_with fail
  go_loop [3] (fun i => i = .int .i64 0) (fun _ => 0)
  case atStart => rfl
  case round =>
    subst hrel
    go_wp2_with fail
    go_ret
    exact ⟨rfl, rfl⟩

theorem stillVecs_nil (bk : Nat) (w : World) (h : w.cell? ⟨bk, 4, none⟩ = some (.slice none 0 0)) :
    Calls Tryz.prog 39 #[.pointer (some ⟨bk, 0, none⟩)] w fun e w' => e = .returned (.bool true) ∧ w = w' := by
  go_enter Tryz.func39, Tryz.ntmps39
  go_wp2_with fail
  go_loop [3] (fun i => i = .int .i64 0) (fun _ => 0)
  case atStart => rfl
  case round =>
    subst hrel
    go_wp2_with fail
    go_ret
    exact ⟨rfl, rfl⟩
theorem putVecs_nil (bk : Nat) (w : World) (h : w.cell? ⟨bk, 4, none⟩ = some (.slice none 0 0)) :
    Calls Tryz.prog 59 #[.pointer (some ⟨bk, 0, none⟩)] w fun e w' => e = .returned (.tuple #[]) ∧ w = w' := by
  go_enter Tryz.func59, Tryz.ntmps59
  go_wp2_with fail
  go_loop [2] (fun i => i = .int .i64 0) (fun _ => 0)
  case atStart => rfl
  case round =>
    subst hrel
    go_wp2_with fail
    go_end0
    exact ⟨rfl, rfl⟩
theorem growVecs_nil (bk : Nat) (w : World) (h : w.cell? ⟨bk, 4, none⟩ = some (.slice none 0 0)) :
    Calls Tryz.prog 69 #[.pointer (some ⟨bk, 0, none⟩)] w fun e w' => e = .returned (.slice none 0 0) ∧ w = w' := by
  go_enter Tryz.func69, Tryz.ntmps69
  go_wp2_with fail
  go_loop [3, 4] (fun o i => o = .slice none 0 0 ∧ i = .int .i64 0) (fun _ _ => 0)
  case atStart => exact ⟨rfl, rfl⟩
  case round =>
    obtain ⟨rfl, rfl⟩ := hrel
    go_wp2_with fail
    go_ret
    exact ⟨rfl, rfl⟩
theorem markedVecs_nil (w : World) :
    Calls Tryz.prog 84 #[.slice none 0 0] w fun e w' => e = .returned (.bool true) ∧ w = w' := by
  go_enter Tryz.func84, Tryz.ntmps84
  go_wp2_with fail
  go_loop [3] (fun i => i = .int .i64 0) (fun _ => 0)
  case atStart => rfl
  case round =>
    subst hrel
    go_wp2_with fail
    go_ret
    exact ⟨rfl, rfl⟩

theorem stillKeys_nil (bk : Nat) (w : World) (h : w.cell? ⟨bk, 6, none⟩ = some (.slice none 0 0)) :
    Calls Tryz.prog 40 #[.pointer (some ⟨bk, 0, none⟩)] w fun e w' => e = .returned (.bool true) ∧ w = w' := by
  go_enter Tryz.func40, Tryz.ntmps40
  go_wp2_with fail
  go_loop [3] (fun i => i = .int .i64 0) (fun _ => 0)
  case atStart => rfl
  case round =>
    subst hrel
    go_wp2_with fail
    go_ret
    exact ⟨rfl, rfl⟩
theorem putKeys_nil (bk : Nat) (w : World) (h : w.cell? ⟨bk, 6, none⟩ = some (.slice none 0 0)) :
    Calls Tryz.prog 60 #[.pointer (some ⟨bk, 0, none⟩)] w fun e w' => e = .returned (.tuple #[]) ∧ w = w' := by
  go_enter Tryz.func60, Tryz.ntmps60
  go_wp2_with fail
  go_loop [2] (fun i => i = .int .i64 0) (fun _ => 0)
  case atStart => rfl
  case round =>
    subst hrel
    go_wp2_with fail
    go_end0
    exact ⟨rfl, rfl⟩
theorem growKeys_nil (bk : Nat) (w : World) (h : w.cell? ⟨bk, 6, none⟩ = some (.slice none 0 0)) :
    Calls Tryz.prog 70 #[.pointer (some ⟨bk, 0, none⟩)] w fun e w' => e = .returned (.slice none 0 0) ∧ w = w' := by
  go_enter Tryz.func70, Tryz.ntmps70
  go_wp2_with fail
  go_loop [3, 4] (fun o i => o = .slice none 0 0 ∧ i = .int .i64 0) (fun _ _ => 0)
  case atStart => exact ⟨rfl, rfl⟩
  case round =>
    obtain ⟨rfl, rfl⟩ := hrel
    go_wp2_with fail
    go_ret
    exact ⟨rfl, rfl⟩
theorem markedKeys_nil (w : World) :
    Calls Tryz.prog 85 #[.slice none 0 0] w fun e w' => e = .returned (.bool true) ∧ w = w' := by
  go_enter Tryz.func85, Tryz.ntmps85
  go_wp2_with fail
  go_loop [3] (fun i => i = .int .i64 0) (fun _ => 0)
  case atStart => rfl
  case round =>
    subst hrel
    go_wp2_with fail
    go_ret
    exact ⟨rfl, rfl⟩

theorem stillPairs_nil (bk : Nat) (w : World) (h : w.cell? ⟨bk, 8, none⟩ = some (.slice none 0 0)) :
    Calls Tryz.prog 41 #[.pointer (some ⟨bk, 0, none⟩)] w fun e w' => e = .returned (.bool true) ∧ w = w' := by
  go_enter Tryz.func41, Tryz.ntmps41
  go_wp2_with fail
  go_loop [3] (fun i => i = .int .i64 0) (fun _ => 0)
  case atStart => rfl
  case round =>
    subst hrel
    go_wp2_with fail
    go_ret
    exact ⟨rfl, rfl⟩
theorem putPairs_nil (bk : Nat) (w : World) (h : w.cell? ⟨bk, 8, none⟩ = some (.slice none 0 0)) :
    Calls Tryz.prog 61 #[.pointer (some ⟨bk, 0, none⟩)] w fun e w' => e = .returned (.tuple #[]) ∧ w = w' := by
  go_enter Tryz.func61, Tryz.ntmps61
  go_wp2_with fail
  go_loop [2] (fun i => i = .int .i64 0) (fun _ => 0)
  case atStart => rfl
  case round =>
    subst hrel
    go_wp2_with fail
    go_end0
    exact ⟨rfl, rfl⟩
theorem growPairs_nil (bk : Nat) (w : World) (h : w.cell? ⟨bk, 8, none⟩ = some (.slice none 0 0)) :
    Calls Tryz.prog 71 #[.pointer (some ⟨bk, 0, none⟩)] w fun e w' => e = .returned (.slice none 0 0) ∧ w = w' := by
  go_enter Tryz.func71, Tryz.ntmps71
  go_wp2_with fail
  go_loop [3, 4] (fun o i => o = .slice none 0 0 ∧ i = .int .i64 0) (fun _ _ => 0)
  case atStart => exact ⟨rfl, rfl⟩
  case round =>
    obtain ⟨rfl, rfl⟩ := hrel
    go_wp2_with fail
    go_ret
    exact ⟨rfl, rfl⟩
theorem markedPairs_nil (w : World) :
    Calls Tryz.prog 86 #[.slice none 0 0] w fun e w' => e = .returned (.bool true) ∧ w = w' := by
  go_enter Tryz.func86, Tryz.ntmps86
  go_wp2_with fail
  go_loop [3] (fun i => i = .int .i64 0) (fun _ => 0)
  case atStart => rfl
  case round =>
    subst hrel
    go_wp2_with fail
    go_ret
    exact ⟨rfl, rfl⟩

theorem stillVersions_nil (bk : Nat) (w : World) (h : w.cell? ⟨bk, 10, none⟩ = some (.slice none 0 0)) :
    Calls Tryz.prog 42 #[.pointer (some ⟨bk, 0, none⟩)] w fun e w' => e = .returned (.bool true) ∧ w = w' := by
  go_enter Tryz.func42, Tryz.ntmps42
  go_wp2_with fail
  go_loop [3] (fun i => i = .int .i64 0) (fun _ => 0)
  case atStart => rfl
  case round =>
    subst hrel
    go_wp2_with fail
    go_ret
    exact ⟨rfl, rfl⟩
theorem putVersions_nil (bk : Nat) (w : World) (h : w.cell? ⟨bk, 10, none⟩ = some (.slice none 0 0)) :
    Calls Tryz.prog 52 #[.pointer (some ⟨bk, 0, none⟩)] w fun e w' => e = .returned (.tuple #[]) ∧ w = w' := by
  go_enter Tryz.func52, Tryz.ntmps52
  go_wp2_with fail
  go_loop [2] (fun i => i = .int .i64 0) (fun _ => 0)
  case atStart => rfl
  case round =>
    subst hrel
    go_wp2_with fail
    go_end0
    exact ⟨rfl, rfl⟩
theorem growVersions_nil (bk : Nat) (w : World) (h : w.cell? ⟨bk, 10, none⟩ = some (.slice none 0 0)) :
    Calls Tryz.prog 72 #[.pointer (some ⟨bk, 0, none⟩)] w fun e w' => e = .returned (.slice none 0 0) ∧ w = w' := by
  go_enter Tryz.func72, Tryz.ntmps72
  go_wp2_with fail
  go_loop [3, 4] (fun o i => o = .slice none 0 0 ∧ i = .int .i64 0) (fun _ _ => 0)
  case atStart => exact ⟨rfl, rfl⟩
  case round =>
    obtain ⟨rfl, rfl⟩ := hrel
    go_wp2_with fail
    go_ret
    exact ⟨rfl, rfl⟩
theorem markedVersions_nil (w : World) :
    Calls Tryz.prog 87 #[.slice none 0 0] w fun e w' => e = .returned (.bool true) ∧ w = w' := by
  go_enter Tryz.func87, Tryz.ntmps87
  go_wp2_with fail
  go_loop [3] (fun i => i = .int .i64 0) (fun _ => 0)
  case atStart => rfl
  case round =>
    subst hrel
    go_wp2_with fail
    go_ret
    exact ⟨rfl, rfl⟩

theorem stillWrites_nil (bk : Nat) (w : World) (h : w.cell? ⟨bk, 12, none⟩ = some (.slice none 0 0)) :
    Calls Tryz.prog 43 #[.pointer (some ⟨bk, 0, none⟩)] w fun e w' => e = .returned (.bool true) ∧ w = w' := by
  go_enter Tryz.func43, Tryz.ntmps43
  go_wp2_with fail
  go_loop [3] (fun i => i = .int .i64 0) (fun _ => 0)
  case atStart => rfl
  case round =>
    subst hrel
    go_wp2_with fail
    go_ret
    exact ⟨rfl, rfl⟩
theorem putWrites_nil (bk : Nat) (w : World) (h : w.cell? ⟨bk, 12, none⟩ = some (.slice none 0 0)) :
    Calls Tryz.prog 62 #[.pointer (some ⟨bk, 0, none⟩)] w fun e w' => e = .returned (.tuple #[]) ∧ w = w' := by
  go_enter Tryz.func62, Tryz.ntmps62
  go_wp2_with fail
  go_loop [2] (fun i => i = .int .i64 0) (fun _ => 0)
  case atStart => rfl
  case round =>
    subst hrel
    go_wp2_with fail
    go_end0
    exact ⟨rfl, rfl⟩
theorem growWrites_nil (bk : Nat) (w : World) (h : w.cell? ⟨bk, 12, none⟩ = some (.slice none 0 0)) :
    Calls Tryz.prog 73 #[.pointer (some ⟨bk, 0, none⟩)] w fun e w' => e = .returned (.slice none 0 0) ∧ w = w' := by
  go_enter Tryz.func73, Tryz.ntmps73
  go_wp2_with fail
  go_loop [3, 4] (fun o i => o = .slice none 0 0 ∧ i = .int .i64 0) (fun _ _ => 0)
  case atStart => exact ⟨rfl, rfl⟩
  case round =>
    obtain ⟨rfl, rfl⟩ := hrel
    go_wp2_with fail
    go_ret
    exact ⟨rfl, rfl⟩
theorem markedWrites_nil (w : World) :
    Calls Tryz.prog 88 #[.slice none 0 0] w fun e w' => e = .returned (.bool true) ∧ w = w' := by
  go_enter Tryz.func88, Tryz.ntmps88
  go_wp2_with fail
  go_loop [3] (fun i => i = .int .i64 0) (fun _ => 0)
  case atStart => rfl
  case round =>
    subst hrel
    go_wp2_with fail
    go_ret
    exact ⟨rfl, rfl⟩

theorem stillTxns_nil (bk : Nat) (w : World) (h : w.cell? ⟨bk, 14, none⟩ = some (.slice none 0 0)) :
    Calls Tryz.prog 44 #[.pointer (some ⟨bk, 0, none⟩)] w fun e w' => e = .returned (.bool true) ∧ w = w' := by
  go_enter Tryz.func44, Tryz.ntmps44
  go_wp2_with fail
  go_loop [3] (fun i => i = .int .i64 0) (fun _ => 0)
  case atStart => rfl
  case round =>
    subst hrel
    go_wp2_with fail
    go_ret
    exact ⟨rfl, rfl⟩
theorem putTxns_nil (bk : Nat) (w : World) (h : w.cell? ⟨bk, 14, none⟩ = some (.slice none 0 0)) :
    Calls Tryz.prog 53 #[.pointer (some ⟨bk, 0, none⟩)] w fun e w' => e = .returned (.tuple #[]) ∧ w = w' := by
  go_enter Tryz.func53, Tryz.ntmps53
  go_wp2_with fail
  go_loop [2] (fun i => i = .int .i64 0) (fun _ => 0)
  case atStart => rfl
  case round =>
    subst hrel
    go_wp2_with fail
    go_end0
    exact ⟨rfl, rfl⟩
theorem growTxns_nil (bk : Nat) (w : World) (h : w.cell? ⟨bk, 14, none⟩ = some (.slice none 0 0)) :
    Calls Tryz.prog 74 #[.pointer (some ⟨bk, 0, none⟩)] w fun e w' => e = .returned (.slice none 0 0) ∧ w = w' := by
  go_enter Tryz.func74, Tryz.ntmps74
  go_wp2_with fail
  go_loop [3, 4] (fun o i => o = .slice none 0 0 ∧ i = .int .i64 0) (fun _ _ => 0)
  case atStart => exact ⟨rfl, rfl⟩
  case round =>
    obtain ⟨rfl, rfl⟩ := hrel
    go_wp2_with fail
    go_ret
    exact ⟨rfl, rfl⟩
theorem markedTxns_nil (w : World) :
    Calls Tryz.prog 89 #[.slice none 0 0] w fun e w' => e = .returned (.bool true) ∧ w = w' := by
  go_enter Tryz.func89, Tryz.ntmps89
  go_wp2_with fail
  go_loop [3] (fun i => i = .int .i64 0) (fun _ => 0)
  case atStart => rfl
  case round =>
    subst hrel
    go_wp2_with fail
    go_ret
    exact ⟨rfl, rfl⟩

theorem stillFiles_nil (bk : Nat) (w : World) (h : w.cell? ⟨bk, 16, none⟩ = some (.slice none 0 0)) :
    Calls Tryz.prog 45 #[.pointer (some ⟨bk, 0, none⟩)] w fun e w' => e = .returned (.bool true) ∧ w = w' := by
  go_enter Tryz.func45, Tryz.ntmps45
  go_wp2_with fail
  go_loop [3] (fun i => i = .int .i64 0) (fun _ => 0)
  case atStart => rfl
  case round =>
    subst hrel
    go_wp2_with fail
    go_ret
    exact ⟨rfl, rfl⟩
theorem putFiles_nil (bk : Nat) (w : World) (h : w.cell? ⟨bk, 16, none⟩ = some (.slice none 0 0)) :
    Calls Tryz.prog 63 #[.pointer (some ⟨bk, 0, none⟩)] w fun e w' => e = .returned (.tuple #[]) ∧ w = w' := by
  go_enter Tryz.func63, Tryz.ntmps63
  go_wp2_with fail
  go_loop [2] (fun i => i = .int .i64 0) (fun _ => 0)
  case atStart => rfl
  case round =>
    subst hrel
    go_wp2_with fail
    go_end0
    exact ⟨rfl, rfl⟩
theorem growFiles_nil (bk : Nat) (w : World) (h : w.cell? ⟨bk, 16, none⟩ = some (.slice none 0 0)) :
    Calls Tryz.prog 75 #[.pointer (some ⟨bk, 0, none⟩)] w fun e w' => e = .returned (.slice none 0 0) ∧ w = w' := by
  go_enter Tryz.func75, Tryz.ntmps75
  go_wp2_with fail
  go_loop [3, 4] (fun o i => o = .slice none 0 0 ∧ i = .int .i64 0) (fun _ _ => 0)
  case atStart => exact ⟨rfl, rfl⟩
  case round =>
    obtain ⟨rfl, rfl⟩ := hrel
    go_wp2_with fail
    go_ret
    exact ⟨rfl, rfl⟩
theorem markedFiles_nil (w : World) :
    Calls Tryz.prog 90 #[.slice none 0 0] w fun e w' => e = .returned (.bool true) ∧ w = w' := by
  go_enter Tryz.func90, Tryz.ntmps90
  go_wp2_with fail
  go_loop [3] (fun i => i = .int .i64 0) (fun _ => 0)
  case atStart => rfl
  case round =>
    subst hrel
    go_wp2_with fail
    go_ret
    exact ⟨rfl, rfl⟩

theorem stillNotes_nil (bk : Nat) (w : World) (h : w.cell? ⟨bk, 18, none⟩ = some (.slice none 0 0)) :
    Calls Tryz.prog 46 #[.pointer (some ⟨bk, 0, none⟩)] w fun e w' => e = .returned (.bool true) ∧ w = w' := by
  go_enter Tryz.func46, Tryz.ntmps46
  go_wp2_with fail
  go_loop [3] (fun i => i = .int .i64 0) (fun _ => 0)
  case atStart => rfl
  case round =>
    subst hrel
    go_wp2_with fail
    go_ret
    exact ⟨rfl, rfl⟩
theorem putNotes_nil (bk : Nat) (w : World) (h : w.cell? ⟨bk, 18, none⟩ = some (.slice none 0 0)) :
    Calls Tryz.prog 64 #[.pointer (some ⟨bk, 0, none⟩)] w fun e w' => e = .returned (.tuple #[]) ∧ w = w' := by
  go_enter Tryz.func64, Tryz.ntmps64
  go_wp2_with fail
  go_loop [2] (fun i => i = .int .i64 0) (fun _ => 0)
  case atStart => rfl
  case round =>
    subst hrel
    go_wp2_with fail
    go_end0
    exact ⟨rfl, rfl⟩
theorem growNotes_nil (bk : Nat) (w : World) (h : w.cell? ⟨bk, 18, none⟩ = some (.slice none 0 0)) :
    Calls Tryz.prog 76 #[.pointer (some ⟨bk, 0, none⟩)] w fun e w' => e = .returned (.slice none 0 0) ∧ w = w' := by
  go_enter Tryz.func76, Tryz.ntmps76
  go_wp2_with fail
  go_loop [3, 4] (fun o i => o = .slice none 0 0 ∧ i = .int .i64 0) (fun _ _ => 0)
  case atStart => exact ⟨rfl, rfl⟩
  case round =>
    obtain ⟨rfl, rfl⟩ := hrel
    go_wp2_with fail
    go_ret
    exact ⟨rfl, rfl⟩
theorem markedNotes_nil (w : World) :
    Calls Tryz.prog 91 #[.slice none 0 0] w fun e w' => e = .returned (.bool true) ∧ w = w' := by
  go_enter Tryz.func91, Tryz.ntmps91
  go_wp2_with fail
  go_loop [3] (fun i => i = .int .i64 0) (fun _ => 0)
  case atStart => rfl
  case round =>
    subst hrel
    go_wp2_with fail
    go_ret
    exact ⟨rfl, rfl⟩

theorem stillLeases_nil (bk : Nat) (w : World) (h : w.cell? ⟨bk, 20, none⟩ = some (.slice none 0 0)) :
    Calls Tryz.prog 47 #[.pointer (some ⟨bk, 0, none⟩)] w fun e w' => e = .returned (.bool true) ∧ w = w' := by
  go_enter Tryz.func47, Tryz.ntmps47
  go_wp2_with fail
  go_loop [3] (fun i => i = .int .i64 0) (fun _ => 0)
  case atStart => rfl
  case round =>
    subst hrel
    go_wp2_with fail
    go_ret
    exact ⟨rfl, rfl⟩
theorem putLeases_nil (bk : Nat) (w : World) (h : w.cell? ⟨bk, 20, none⟩ = some (.slice none 0 0)) :
    Calls Tryz.prog 54 #[.pointer (some ⟨bk, 0, none⟩)] w fun e w' => e = .returned (.tuple #[]) ∧ w = w' := by
  go_enter Tryz.func54, Tryz.ntmps54
  go_wp2_with fail
  go_loop [2] (fun i => i = .int .i64 0) (fun _ => 0)
  case atStart => rfl
  case round =>
    subst hrel
    go_wp2_with fail
    go_end0
    exact ⟨rfl, rfl⟩
theorem growLeases_nil (bk : Nat) (w : World) (h : w.cell? ⟨bk, 20, none⟩ = some (.slice none 0 0)) :
    Calls Tryz.prog 77 #[.pointer (some ⟨bk, 0, none⟩)] w fun e w' => e = .returned (.slice none 0 0) ∧ w = w' := by
  go_enter Tryz.func77, Tryz.ntmps77
  go_wp2_with fail
  go_loop [3, 4] (fun o i => o = .slice none 0 0 ∧ i = .int .i64 0) (fun _ _ => 0)
  case atStart => exact ⟨rfl, rfl⟩
  case round =>
    obtain ⟨rfl, rfl⟩ := hrel
    go_wp2_with fail
    go_ret
    exact ⟨rfl, rfl⟩
theorem markedLeases_nil (w : World) :
    Calls Tryz.prog 92 #[.slice none 0 0] w fun e w' => e = .returned (.bool true) ∧ w = w' := by
  go_enter Tryz.func92, Tryz.ntmps92
  go_wp2_with fail
  go_loop [3] (fun i => i = .int .i64 0) (fun _ => 0)
  case atStart => rfl
  case round =>
    subst hrel
    go_wp2_with fail
    go_ret
    exact ⟨rfl, rfl⟩

theorem stillLetters_nil (bk : Nat) (w : World) (h : w.cell? ⟨bk, 22, none⟩ = some (.slice none 0 0)) :
    Calls Tryz.prog 48 #[.pointer (some ⟨bk, 0, none⟩)] w fun e w' => e = .returned (.bool true) ∧ w = w' := by
  go_enter Tryz.func48, Tryz.ntmps48
  go_wp2_with fail
  go_loop [3] (fun i => i = .int .i64 0) (fun _ => 0)
  case atStart => rfl
  case round =>
    subst hrel
    go_wp2_with fail
    go_ret
    exact ⟨rfl, rfl⟩
theorem putLetters_nil (bk : Nat) (w : World) (h : w.cell? ⟨bk, 22, none⟩ = some (.slice none 0 0)) :
    Calls Tryz.prog 65 #[.pointer (some ⟨bk, 0, none⟩)] w fun e w' => e = .returned (.tuple #[]) ∧ w = w' := by
  go_enter Tryz.func65, Tryz.ntmps65
  go_wp2_with fail
  go_loop [2] (fun i => i = .int .i64 0) (fun _ => 0)
  case atStart => rfl
  case round =>
    subst hrel
    go_wp2_with fail
    go_end0
    exact ⟨rfl, rfl⟩
theorem growLetters_nil (bk : Nat) (w : World) (h : w.cell? ⟨bk, 22, none⟩ = some (.slice none 0 0)) :
    Calls Tryz.prog 78 #[.pointer (some ⟨bk, 0, none⟩)] w fun e w' => e = .returned (.slice none 0 0) ∧ w = w' := by
  go_enter Tryz.func78, Tryz.ntmps78
  go_wp2_with fail
  go_loop [3, 4] (fun o i => o = .slice none 0 0 ∧ i = .int .i64 0) (fun _ _ => 0)
  case atStart => exact ⟨rfl, rfl⟩
  case round =>
    obtain ⟨rfl, rfl⟩ := hrel
    go_wp2_with fail
    go_ret
    exact ⟨rfl, rfl⟩
theorem markedLetters_nil (w : World) :
    Calls Tryz.prog 93 #[.slice none 0 0] w fun e w' => e = .returned (.bool true) ∧ w = w' := by
  go_enter Tryz.func93, Tryz.ntmps93
  go_wp2_with fail
  go_loop [3] (fun i => i = .int .i64 0) (fun _ => 0)
  case atStart => rfl
  case round =>
    subst hrel
    go_wp2_with fail
    go_ret
    exact ⟨rfl, rfl⟩

theorem stillSteps_nil (bk : Nat) (w : World) (h : w.cell? ⟨bk, 24, none⟩ = some (.slice none 0 0)) :
    Calls Tryz.prog 49 #[.pointer (some ⟨bk, 0, none⟩)] w fun e w' => e = .returned (.bool true) ∧ w = w' := by
  go_enter Tryz.func49, Tryz.ntmps49
  go_wp2_with fail
  go_loop [3] (fun i => i = .int .i64 0) (fun _ => 0)
  case atStart => rfl
  case round =>
    subst hrel
    go_wp2_with fail
    go_ret
    exact ⟨rfl, rfl⟩
theorem putSteps_nil (bk : Nat) (w : World) (h : w.cell? ⟨bk, 24, none⟩ = some (.slice none 0 0)) :
    Calls Tryz.prog 55 #[.pointer (some ⟨bk, 0, none⟩)] w fun e w' => e = .returned (.tuple #[]) ∧ w = w' := by
  go_enter Tryz.func55, Tryz.ntmps55
  go_wp2_with fail
  go_loop [2] (fun i => i = .int .i64 0) (fun _ => 0)
  case atStart => rfl
  case round =>
    subst hrel
    go_wp2_with fail
    go_end0
    exact ⟨rfl, rfl⟩
theorem growSteps_nil (bk : Nat) (w : World) (h : w.cell? ⟨bk, 24, none⟩ = some (.slice none 0 0)) :
    Calls Tryz.prog 79 #[.pointer (some ⟨bk, 0, none⟩)] w fun e w' => e = .returned (.slice none 0 0) ∧ w = w' := by
  go_enter Tryz.func79, Tryz.ntmps79
  go_wp2_with fail
  go_loop [3, 4] (fun o i => o = .slice none 0 0 ∧ i = .int .i64 0) (fun _ _ => 0)
  case atStart => exact ⟨rfl, rfl⟩
  case round =>
    obtain ⟨rfl, rfl⟩ := hrel
    go_wp2_with fail
    go_ret
    exact ⟨rfl, rfl⟩
theorem markedSteps_nil (w : World) :
    Calls Tryz.prog 94 #[.slice none 0 0] w fun e w' => e = .returned (.bool true) ∧ w = w' := by
  go_enter Tryz.func94, Tryz.ntmps94
  go_wp2_with fail
  go_loop [3] (fun i => i = .int .i64 0) (fun _ => 0)
  case atStart => rfl
  case round =>
    subst hrel
    go_wp2_with fail
    go_ret
    exact ⟨rfl, rfl⟩

theorem stillReals_nil (bk : Nat) (w : World) (h : w.cell? ⟨bk, 26, none⟩ = some (.slice none 0 0)) :
    Calls Tryz.prog 50 #[.pointer (some ⟨bk, 0, none⟩)] w fun e w' => e = .returned (.bool true) ∧ w = w' := by
  go_enter Tryz.func50, Tryz.ntmps50
  go_wp2_with fail
  go_loop [3] (fun i => i = .int .i64 0) (fun _ => 0)
  case atStart => rfl
  case round =>
    subst hrel
    go_wp2_with fail
    go_ret
    exact ⟨rfl, rfl⟩
theorem putReals_nil (bk : Nat) (w : World) (h : w.cell? ⟨bk, 26, none⟩ = some (.slice none 0 0)) :
    Calls Tryz.prog 66 #[.pointer (some ⟨bk, 0, none⟩)] w fun e w' => e = .returned (.tuple #[]) ∧ w = w' := by
  go_enter Tryz.func66, Tryz.ntmps66
  go_wp2_with fail
  go_loop [2] (fun i => i = .int .i64 0) (fun _ => 0)
  case atStart => rfl
  case round =>
    subst hrel
    go_wp2_with fail
    go_end0
    exact ⟨rfl, rfl⟩
theorem growReals_nil (bk : Nat) (w : World) (h : w.cell? ⟨bk, 26, none⟩ = some (.slice none 0 0)) :
    Calls Tryz.prog 80 #[.pointer (some ⟨bk, 0, none⟩)] w fun e w' => e = .returned (.slice none 0 0) ∧ w = w' := by
  go_enter Tryz.func80, Tryz.ntmps80
  go_wp2_with fail
  go_loop [3, 4] (fun o i => o = .slice none 0 0 ∧ i = .int .i64 0) (fun _ _ => 0)
  case atStart => exact ⟨rfl, rfl⟩
  case round =>
    obtain ⟨rfl, rfl⟩ := hrel
    go_wp2_with fail
    go_ret
    exact ⟨rfl, rfl⟩
theorem markedReals_nil (w : World) :
    Calls Tryz.prog 95 #[.slice none 0 0] w fun e w' => e = .returned (.bool true) ∧ w = w' := by
  go_enter Tryz.func95, Tryz.ntmps95
  go_wp2_with fail
  go_loop [3] (fun i => i = .int .i64 0) (fun _ => 0)
  case atStart => rfl
  case round =>
    subst hrel
    go_wp2_with fail
    go_ret
    exact ⟨rfl, rfl⟩

theorem stillLists_nil (bk : Nat) (w : World) (h : w.cell? ⟨bk, 28, none⟩ = some (.slice none 0 0)) :
    Calls Tryz.prog 51 #[.pointer (some ⟨bk, 0, none⟩)] w fun e w' => e = .returned (.bool true) ∧ w = w' := by
  go_enter Tryz.func51, Tryz.ntmps51
  go_wp2_with fail
  go_loop [3] (fun i => i = .int .i64 0) (fun _ => 0)
  case atStart => rfl
  case round =>
    subst hrel
    go_wp2_with fail
    go_ret
    exact ⟨rfl, rfl⟩
theorem putLists_nil (bk : Nat) (w : World) (h : w.cell? ⟨bk, 28, none⟩ = some (.slice none 0 0)) :
    Calls Tryz.prog 56 #[.pointer (some ⟨bk, 0, none⟩)] w fun e w' => e = .returned (.tuple #[]) ∧ w = w' := by
  go_enter Tryz.func56, Tryz.ntmps56
  go_wp2_with fail
  go_loop [2] (fun i => i = .int .i64 0) (fun _ => 0)
  case atStart => rfl
  case round =>
    subst hrel
    go_wp2_with fail
    go_end0
    exact ⟨rfl, rfl⟩
theorem growLists_nil (bk : Nat) (w : World) (h : w.cell? ⟨bk, 28, none⟩ = some (.slice none 0 0)) :
    Calls Tryz.prog 81 #[.pointer (some ⟨bk, 0, none⟩)] w fun e w' => e = .returned (.slice none 0 0) ∧ w = w' := by
  go_enter Tryz.func81, Tryz.ntmps81
  go_wp2_with fail
  go_loop [3, 4] (fun o i => o = .slice none 0 0 ∧ i = .int .i64 0) (fun _ _ => 0)
  case atStart => exact ⟨rfl, rfl⟩
  case round =>
    obtain ⟨rfl, rfl⟩ := hrel
    go_wp2_with fail
    go_ret
    exact ⟨rfl, rfl⟩
theorem markedLists_nil (w : World) :
    Calls Tryz.prog 96 #[.slice none 0 0] w fun e w' => e = .returned (.bool true) ∧ w = w' := by
  go_enter Tryz.func96, Tryz.ntmps96
  go_wp2_with fail
  go_loop [3] (fun i => i = .int .i64 0) (fun _ => 0)
  case atStart => rfl
  case round =>
    subst hrel
    go_wp2_with fail
    go_ret
    exact ⟨rfl, rfl⟩

end Go.Proofs.YtmoffcgbjmeiaaaGreatDoor
