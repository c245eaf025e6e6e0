/-
  The law PickApart.
-/
import Derived.Test.YtcljocmaojfhhaaM3
import Derived.Deep.DeepCutAuto
namespace Go.Proofs.Ytcljocmaojfhhaa
open Go.RowKit

theorem picks_len {L : List FileM} {lv : Int} : (picksP L lv).length ≤ 2 * L.length := by
  unfold picksP
  have h := due_len L lv
  cases hd : dueP L lv with
  | nil => exact Nat.zero_le _
  | cons f r =>
    rw [hd] at h
    have h2 := over_len L (lv + 1) (firstP f.fi (f :: r)) (lastP' f.la (f :: r))
    simp only [List.length_append, List.length_map]
    omega
theorem leqP (a b : ByteArray) : (Op.bytesLess a.toList b.toList || a.toList == b.toList) = decide (cmpT a b ≤ 0) := by
  rw [blessP, eqlP, Bool.eq_iff_iff]
  simp only [Bool.or_eq_true, decide_eq_true_eq]
  omega
theorem cnt_le (L : List FileM) (M : List Int) (lv : Int) : cntP L M lv ≤ L.length := List.length_filter_le _ _
theorem files_low {w : World} {A : Option Addr} {n : Nat} {L : List FileM} (h : FilesAt w A n L) {W : World} (hg : w.grownBy W none) : FilesAt W A n L := h.below (below_g hg)
theorem three (a b : Bool) : a = true ∨ (a = false ∧ b = true) ∨ (a = false ∧ b = false) := by cases a <;> cases b <;> simp
set_option maxRecDepth 100000 in
set_option maxHeartbeats 8000000 in
theorem lawPickApart (A : Option Addr) (n c : Nat) (L : List FileM) (base : Nat) (hbw : (Lit.float .f64 base).wf = true) (ratio : Nat) (_hrw : (Lit.float .f64 ratio).wf = true) (w : World) (I : FilesAt w A n L ∧ n ≤ 9223372036854775807 ∧ ∀ f ∈ L, FileOk f) :
    Calls Try.prog 3 #[.slice A n c, .float .f64 base, .float .f64 ratio] w fun e w' => e = .returned (.bool true) ∧ Below w.heap.size w w' := by
  have CA := fun W => Lib.hid (alive15_any W)
  by_cases h60 : 60 < (n : Int)
  · clear I hbw
    go_enter Try.func3, Try.ntmps3
    go_wp2_with fail
    refine (CA _).out.mono ?_
    rintro e w1 ⟨rfl, hb1⟩
    have HB := Lib.hid (below_g hb1)
    clear hb1
    go_wp2_with fail
    go_ret
    exact ⟨rfl, HB.out⟩
  have hb64 : base < 18446744073709551616 := by simpa [Lit.wf] using hbw
  have hn : n ≤ 1000000 := by omega
  have hn60 : n ≤ 60 := by omega
  have HI := Lib.hid I.1
  have HL := Lib.hid I.1.len
  have HO := Lib.hid I.2.2
  have CP := fun W (h : w.grownBy W none) => Lib.hid (ppick_any A n c L base ratio W (files_low I.1 h) hn hb64)
  have H60 := Lib.hid hn60
  have HG0 : Hid (w.grownBy w none) := Lib.hid (grefl _ _)
  clear I hbw hb64 hn60
  go_enter Try.func3, Try.ntmps3
  go_wp2_with fail
  go_loopw [7] (fun i wr => ∃ k : Nat, k ≤ n ∧ i = .int .i64 (k : Int) ∧ Hid (w.grownBy wr none) ∧ Hid (DistP L k)) (fun i _ => n - (intOf i).toNat)
  case atStart => exact ⟨0, by omega, rfl, HG0, Lib.hid fun i j x y h1 h2 => by omega⟩
  case round =>
    obtain ⟨k, hk, rfl, HW, HD⟩ := hrel
    by_cases hl : k < n
    · have g1 : (k : Int) < (n : Int) := Int.ofNat_lt.2 hl
      have g2 : (0 : Int) ≤ (k : Int) := Int.natCast_nonneg k
      have w1' := wrap_sucP hl hn
      have hkL : k < L.length := by rw [← HL.out]; exact hl
      have hs := List.getElem?_eq_getElem hkL
      generalize L[k] = m at hs
      have HS := Lib.hid hs
      clear hkL CP
      go_upto_region 6 with fail
      go_cut [53] from 27 to 53 (fun s wx => ∃ bd : Bool, s = .bool bd ∧ Hid (w.grownBy wx none))
      case first =>
        as_aux_lemma =>
        obtain ⟨g, o, rfl, hgs, x0, x1, _, _, x4, x5⟩ := (files_low HI.out HW.out).at_ k m hs
        clear hs
        cases t1 : (!Op.bytesLess m.fi.toList m.la.toList && !(m.fi.toList == m.la.toList)) with
        | true =>
          go_quiet (fail)
          go_wp2_with fail
          go_meet
          exact ⟨_, rfl, Lib.hid (only_drewN HW.out _)⟩
        | false =>
        cases t2 : decide (m.lv < 0) with
        | true =>
          go_quiet (fail)
          go_wp2_with fail
          go_meet
          exact ⟨_, rfl, Lib.hid (only_drewN HW.out _)⟩
        | false =>
        cases t3 : decide (6 < m.lv) with
        | true =>
          go_quiet (fail)
          go_wp2_with fail
          go_meet
          exact ⟨_, rfl, Lib.hid (only_drewN HW.out _)⟩
        | false =>
          go_quiet (fail)
          go_wp2_with fail
          go_meet
          exact ⟨_, rfl, Lib.hid (only_drewN HW.out _)⟩
      case rest =>
      clear hs HW
      obtain ⟨bd, rfl, HW⟩ := hcut
      cases bd with
      | true =>
        go_wp2_with fail
        refine (CA _).out.mono ?_
        rintro e w9 ⟨rfl, hb9⟩
        have HB := Lib.hid (below_g (gnone HW.out hb9))
        clear hb9
        go_wp2_with fail
        go_ret
        exact ⟨rfl, HB.out⟩
      | false =>
      go_wp2_with fail
      go_loopw [8] (fun i wx => ∃ j : Nat, j ≤ k ∧ i = .int .i64 (j : Int) ∧ Hid (w.grownBy wx none) ∧ Hid (∀ i y, i < j → L[i]? = some y → m.nu ≠ y.nu)) (fun i _ => k - (intOf i).toNat)
      case atStart => exact ⟨0, by omega, rfl, HW, Lib.hid fun i y h => by omega⟩
      case round =>
        clear HW
        obtain ⟨j, hj, rfl, HW, HE⟩ := hrel
        by_cases hl2 : j < k
        · have g3 : (j : Int) < (k : Int) := Int.ofNat_lt.2 hl2
          have g4 : (0 : Int) ≤ (j : Int) := Int.natCast_nonneg j
          have g5 : (j : Int) < (n : Int) := Int.lt_trans g3 g1
          have w2' := wrap_sucP hl2 (Nat.le_trans hk hn)
          have hjL : j < L.length := by rw [← HL.out]; omega
          have hs := List.getElem?_eq_getElem hjL
          generalize L[j] = y at hs
          have HY := Lib.hid hs
          clear hs hjL
          go_upto_region 11 with fail
          go_cut [117] from 60 to 117 (fun s wx => ∃ bd : Bool, s = .bool bd ∧ Hid (bd = false → m.nu ≠ y.nu) ∧ Hid (w.grownBy wx none))
          case first =>
            as_aux_lemma =>
            obtain ⟨g, o, e', _, y0, y1, _, _, y4, y5⟩ := (files_low HI.out HW.out).at_ j y HY.out
            subst e'
            obtain ⟨g', o', e', _, x0, x1, _, _, x4, x5⟩ := (files_low HI.out HW.out).at_ k m HS.out
            injection e' with e'
            injection e' with e1' e2'
            subst e1' e2'
            cases b1 : (m.nu == y.nu) with
            | true =>
              go_quiet (fail)
              go_wp2_with fail
              go_meet
              exact ⟨_, rfl, Lib.hid (fun h => by cases h), Lib.hid (only_drewN HW.out _)⟩
            | false =>
            have NE : Hid (m.nu ≠ y.nu) := Lib.hid (beq_eq_false_iff_ne.1 b1)
            cases b2 : (m.lv == y.lv) with
            | false =>
              go_quiet (fail)
              go_wp2_with fail
              go_meet
              exact ⟨_, rfl, Lib.hid (fun _ => NE.out), Lib.hid (only_drewN HW.out _)⟩
            | true =>
            cases b3 : decide (0 < m.lv) with
            | false =>
              go_quiet (fail)
              go_wp2_with fail
              go_meet
              exact ⟨_, rfl, Lib.hid (fun _ => NE.out), Lib.hid (only_drewN HW.out _)⟩
            | true =>
            cases b4 : (Op.bytesLess m.fi.toList y.la.toList || m.fi.toList == y.la.toList) with
            | false =>
              go_quiet (fail)
              go_wp2_with fail
              go_meet
              exact ⟨_, rfl, Lib.hid (fun _ => NE.out), Lib.hid (only_drewN HW.out _)⟩
            | true =>
            cases b5 : (Op.bytesLess y.fi.toList m.la.toList || y.fi.toList == m.la.toList) with
            | false =>
              go_quiet (fail)
              go_wp2_with fail
              go_meet
              exact ⟨_, rfl, Lib.hid (fun _ => NE.out), Lib.hid (only_drewN HW.out _)⟩
            | true =>
              go_quiet (fail)
              go_wp2_with fail
              go_meet
              exact ⟨_, rfl, Lib.hid (fun _ => NE.out), Lib.hid (only_drewN HW.out _)⟩
          case rest =>
          clear HW
          obtain ⟨bd, rfl, NE, HW⟩ := hcut
          cases bd with
          | true =>
            clear HE NE
            go_wp2_with fail
            refine (CA _).out.mono ?_
            rintro e w9 ⟨rfl, hb9⟩
            have HB := Lib.hid (below_g (gnone HW.out hb9))
            clear hb9
            go_wp2_with fail
            go_ret
            exact ⟨rfl, HB.out⟩
          | false =>
            have NE2 : Hid (∀ i z, i < j + 1 → L[i]? = some z → m.nu ≠ z.nu) := Lib.hid fun i z h1 h2 => by
              by_cases e : i = j
              · subst e
                rw [HY.out] at h2
                cases h2
                exact NE.out rfl
              · exact HE.out i z (by omega) h2
            clear NE HE
            go_wp2_with fail
            go_roundw
            case rel => exact ⟨j + 1, hl2, by go_num, HW, NE2⟩
            case measure => exact meas_ltP hl2
        · obtain rfl : j = k := by omega
          have g3 : ¬ (j : Int) < (j : Int) := Int.lt_irrefl _
          go_wp2_with fail
          go_roundw
          case rel => exact ⟨j + 1, hl, by go_num, HW, Lib.hid (HD.out.step HS.out HE.out)⟩
          case measure => exact meas_ltP hl
    · obtain rfl : k = n := by omega
      have g3 : ¬ (k : Int) < (k : Int) := Int.lt_irrefl _
      have hD : DistP L L.length := by rw [← HL.out]; exact HD.out
      have CPw := CP wr HW.out
      clear CP HD
      cases hf : fullP (scoresP L base ratio) 6 with
      | none =>
        have PN : ∀ e w', PickP L base ratio wr e w' → wr.grownBy w' none ∧ e = .returned (.tuple #[.int .i64 0, .slice none 0 0, .bool false]) := fun e w' h => by
          refine ⟨h.1, ?_⟩
          have := h.2
          rw [hf] at this
          exact this
        clear hD hf
        go_wp2_with fail
        refine CPw.out.mono ?_
        intro e w1 hp
        obtain ⟨hg, rfl⟩ := PN e w1 hp
        have HW := Lib.hid (gnone HW.out hg)
        clear hp hg PN CPw
        go_wp2_with fail
        refine (CA _).out.mono ?_
        rintro e w9 ⟨rfl, hb9⟩
        have HB := Lib.hid (below_g (gnone HW.out hb9))
        clear hb9
        go_wp2_with fail
        go_ret
        exact ⟨rfl, HB.out⟩
      | some b =>
        obtain ⟨hb6, hne⟩ := full_has (SameL.refl _) hf
        have PN : ∀ e w', PickP L base ratio wr e w' → wr.grownBy w' none ∧ ∃ v, e = .returned (.tuple #[.int .i64 (b : Int), v, .bool true]) ∧ Own elInts w' wr.heap.size 3 v (picksP L (b : Int)) := fun e w' h => by
          refine ⟨h.1, ?_⟩
          have := h.2
          rw [hf] at this
          exact this
        have hml : (picksP L (b : Int)).length ≤ 1000000 := by have := picks_len (L := L) (lv := (b : Int)); have := HL.out; have := H60.out; omega
        have F1 : Hid (∀ x ∈ L, x.nu ∈ picksP L (b : Int) → x.lv = (b : Int) ∨ x.lv = (b : Int) + 1) := Lib.hid fun x hx hm => (picked_level hD hne hx hm).imp (fun h => h.2) id
        have F2 := Lib.hid (cnt_picked hD hne)
        have F3 : Hid ((b : Int) = 0 → ∀ x ∈ L, x.lv = (b : Int) → x.nu ∈ picksP L (b : Int)) := Lib.hid fun h x hx e => by (obtain rfl : b = 0 := by omega); exact picked_zero hx e
        have F4 : Hid ((b : Int) = 0 → ∀ x ∈ L, x.lv = (b : Int) + 1 → withinP L (picksP L (b : Int)) (b : Int) x = true → x.nu ∈ picksP L (b : Int)) := Lib.hid fun h x hx e hw => by (obtain rfl : b = 0 := by omega); exact picked_within hx e hne hw
        clear hD hf hne
        go_wp2_with fail
        refine CPw.out.mono ?_
        intro e w1 hp
        obtain ⟨hg, v, rfl, ho⟩ := PN e w1 hp
        obtain ⟨a1, c1, rfl⟩ := ho.slice
        have HW := Lib.hid (gnone HW.out hg)
        have HM := Lib.hid ho
        clear hp hg PN CPw ho
        generalize picksP L (b : Int) = M at *
        generalize hm : M.length = m at *
        have HMM := Lib.hid hm
        have CM := fun W (h : w1.grownBy W none) x => Lib.hid (among_any a1 m c1 _ M x W (HM.out.below (below_g h)) hml)
        have CW := fun W (h : w1.grownBy W none) x => Lib.hid (within_any A a1 k c m c1 _ L M (b : Int) x W (files_low HI.out (gnone HW.out h)) (HM.out.below (below_g h)) hn hml)
        have HB6 := Lib.hid hb6
        have wb : wrap64 ((b : Int) + 1) = (b : Int) + 1 := by unfold wrap64; omega
        clear hm hb6 hml HM
        go_wp2_with fail
        go_loopw [12, 13, 14, 15] (fun x y s i wx => ∃ (j q : Nat) (fa la : ByteArray), j ≤ k ∧ x = .string fa ∧ y = .string la ∧ s = .int .i64 ((cntP (L.take j) M (b : Int) : Nat) : Int) ∧ i = .int .i64 (j : Int) ∧ Hid (wx = w1.drewN q)) (fun _ _ _ i _ => k - (intOf i).toNat)
        case atStart => exact ⟨0, 0, _, _, by omega, rfl, rfl, rfl, rfl, Lib.hid rfl⟩
        case round =>
          obtain ⟨j, q, fa, la, hj, rfl, rfl, rfl, rfl, HQ⟩ := hrel
          by_cases hl : j < k
          · have g4 : (j : Int) < (k : Int) := Int.ofNat_lt.2 hl
            have g5 : (0 : Int) ≤ (j : Int) := Int.natCast_nonneg j
            have w1' := wrap_sucP hl hn
            have hjL : j < L.length := by rw [← HL.out]; exact hl
            have hs := List.getElem?_eq_getElem hjL
            have hin := List.getElem_mem hjL
            have HT : Hid (L.take (j + 1) = L.take j ++ [L[j]]) := Lib.hid (List.take_succ_eq_append_getElem hjL)
            have HSn := Lib.hid (cntP_snoc (L.take j) M (b : Int) L[j])
            rw [← HT.out] at HSn
            have hcl : cntP (L.take j) M (b : Int) < k := by have := cnt_le (L.take j) M (b : Int); rw [List.length_take] at this; omega
            generalize L[j] = x at hs HSn hin HT
            have HIN := Lib.hid hin
            have f1 := F1.out x hin
            have ws := wrap_sucP hcl hn
            generalize cntP (L.take j) M (b : Int) = t at *
            have HB2 : Hid (w1.grownBy wr none) := Lib.hid (by rw [HQ.out]; exact only_drewN (grefl w1 none) q)
            obtain ⟨g, o, rfl, _, y0, y1, _, _, y4, y5⟩ := (files_low HI.out (gnone HW.out HB2.out)).at_ j x hs
            have CMx := CM wr HB2.out x.nu
            clear hs hin hjL hcl CM CW F1 F3 F4 HB2 HT
            by_cases e2 : x.nu ∈ M
            · have E2 := Lib.hid e2
              rw [decide_eq_true e2] at CMx
              have f1 := f1 e2
              clear e2
              go_wp2_with fail
              refine CMx.out.mono ?_
              rintro e w2 ⟨rfl, q2, hw2⟩
              have HQ2 : Hid (w2 = w1.drewN (q + q2)) := Lib.hid (by rw [hw2, HQ.out, World.drewN_drewN])
              have z0 : w2.cell? ⟨g, o + j * 6, none⟩ = some (.int .i64 x.lv) := by rw [hw2]; exact y0
              have z4 : w2.cell? ⟨g, o + j * 6 + 4, none⟩ = some (.string x.fi) := by rw [hw2]; exact y4
              have z5 : w2.cell? ⟨g, o + j * 6 + 5, none⟩ = some (.string x.la) := by rw [hw2]; exact y5
              clear hw2 CMx y0 y1 y4 y5 HQ
              go_upto_region 22 with fail
              go_cut [169] from 153 to 169 (fun s wx => s = .bool false ∧ wx = w2)
              case first =>
                as_aux_lemma =>
                rcases f1 with e | e
                · have lv1 : (x.lv != (b : Int)) = false := by rw [e]; simp
                  clear e HSn
                  go_wp2_with fail
                  go_meet
                  exact ⟨rfl, rfl⟩
                · have lv1 : (x.lv != (b : Int)) = true := by rw [e]; simp; omega
                  have lv3 : (x.lv != (b : Int) + 1) = false := by rw [e]; simp
                  clear e HSn
                  go_wp2_with fail
                  go_meet
                  exact ⟨rfl, rfl⟩
              case rest =>
              obtain ⟨rfl, rfl⟩ := hcut
              obtain ⟨lb, hlb⟩ : ∃ lb, (x.lv == (b : Int)) = lb := ⟨_, rfl⟩
              have SN : Hid (Value.int .i64 (if lb = true then (t : Int) + 1 else (t : Int)) = Value.int .i64 ((cntP (L.take (j + 1)) M (b : Int) : Nat) : Int)) := Lib.hid (by
                rw [HSn.out]
                cases lb with
                | true => rw [if_pos rfl, if_pos ⟨beq_iff_eq.1 hlb, E2.out⟩]; rfl
                | false => rw [if_neg (by decide), if_neg (fun h => beq_eq_false_iff_ne.1 hlb h.1)])
              clear f1 HSn
              go_upto_if 176 with fail
              go_cut [14] from 177 to 178 (fun s wx => s = .int .i64 ((cntP (L.take (j + 1)) M (b : Int) : Nat) : Int) ∧ wx = wc)
              case first =>
                as_aux_lemma =>
                cases lb with
                | true =>
                  go_wp2_with fail
                  go_meet
                  exact ⟨by rw [← SN.out]; rfl, rfl⟩
                | false =>
                  go_wp2_with fail
                  go_meet
                  exact ⟨by rw [← SN.out]; rfl, rfl⟩
              case rest =>
              obtain ⟨rfl, rfl⟩ := hcut
              clear SN hlb
              go_upto_region 26 with fail
              go_cut [189] from 179 to 189 (fun s wx => (∃ bd, s = .bool bd) ∧ wx = wc)
              case first =>
                as_aux_lemma =>
                rcases three fa.toList.isEmpty (Op.bytesLess x.fi.toList fa.toList) with u1 | ⟨u1, u2⟩ | ⟨u1, u2⟩
                all_goals
                  go_wp2_with fail
                  go_meet
                  exact ⟨⟨_, rfl⟩, rfl⟩
              case rest =>
              obtain ⟨⟨bd, rfl⟩, rfl⟩ := hcut
              go_upto_if 189 with fail
              go_cut [12] from 190 to 194 (fun s wx => (∃ fa, s = .string fa) ∧ wx = wc)
              case first =>
                as_aux_lemma =>
                cases bd
                all_goals
                  go_wp2_with fail
                  go_meet
                  exact ⟨⟨_, rfl⟩, rfl⟩
              case rest =>
              obtain ⟨⟨fa', rfl⟩, rfl⟩ := hcut
              go_upto_region 28 with fail
              go_cut [205] from 195 to 205 (fun s wx => (∃ bd, s = .bool bd) ∧ wx = wc)
              case first =>
                as_aux_lemma =>
                rcases three la.toList.isEmpty (!Op.bytesLess x.la.toList la.toList && !(x.la.toList == la.toList)) with u3 | ⟨u3, u4⟩ | ⟨u3, u4⟩
                all_goals
                  go_wp2_with fail
                  go_meet
                  exact ⟨⟨_, rfl⟩, rfl⟩
              case rest =>
              obtain ⟨⟨bd', rfl⟩, rfl⟩ := hcut
              cases bd'
              all_goals
                go_wp2_with fail
                go_roundw
                case rel => exact ⟨j + 1, _, _, _, hl, rfl, rfl, rfl, by go_num, HQ2⟩
                case measure => exact meas_ltP hl
            · have E2 := Lib.hid e2
              rw [decide_eq_false e2] at CMx
              have SN := HSn.out
              rw [if_neg (fun h => e2 h.2)] at SN
              have SN := Lib.hid SN
              clear e2 f1 HSn
              go_wp2_with fail
              refine CMx.out.mono ?_
              rintro e w2 ⟨rfl, q2, hw2⟩
              have HQ2 : Hid (w2 = w1.drewN (q + q2)) := Lib.hid (by rw [hw2, HQ.out, World.drewN_drewN])
              clear hw2 CMx
              go_wp2_with fail
              go_roundw
              case rel => exact ⟨j + 1, _, _, _, hl, rfl, rfl, by rw [SN.out], by go_num, HQ2⟩
              case measure => exact meas_ltP hl
          · obtain rfl : j = k := by omega
            have g4 : ¬ (j : Int) < (j : Int) := Int.lt_irrefl _
            have htk : L.take j = L := by rw [HL.out]; exact List.take_length
            have cz : ((cntP L M (b : Int) : Nat) : Int) ≠ 0 := by have := F2.out.1; omega
            have c0 : (((cntP L M (b : Int) : Nat) : Int) == 0) = false := beq_eq_false_iff_ne.2 cz
            have c1 : decide (0 < (b : Int)) = true → (((cntP L M (b : Int) : Nat) : Int) != 1) = false := fun h => by
              have h := of_decide_eq_true h
              rw [F2.out.2 (by omega)]
              rfl
            rw [htk]
            generalize ((cntP L M (b : Int) : Nat) : Int) = t at *
            have HW1 : Hid (w1.grownBy wr none) := Lib.hid (by rw [HQ.out]; exact only_drewN (grefl w1 none) q)
            clear cz htk HQ F1 F2
            have hb0 : 0 ≤ (b : Int) := Int.natCast_nonneg b
            generalize (b : Int) = bi at *
            go_upto_region 30 with fail
            go_cut [220] (fun s wx => s = .bool false ∧ wx = wr)
            case first =>
              as_aux_lemma =>
              cases hb : decide (0 < bi) with
              | true =>
                have c1 := c1 hb
                go_wp2_with fail
                go_meet
                exact ⟨rfl, rfl⟩
              | false =>
                clear c1
                go_wp2_with fail
                go_meet
                exact ⟨rfl, rfl⟩
            case rest =>
            clear c1 c0
            obtain ⟨rfl, rfl⟩ := hcut
            go_wp2_with fail
            go_loopw [16] (fun y wx => ∃ i : Nat, i ≤ j ∧ y = .int .i64 (i : Int) ∧ Hid (w1.grownBy wx none)) (fun y _ => j - (intOf y).toNat)
            case atStart => exact ⟨0, by omega, rfl, HW1⟩
            case round =>
              clear HW1
              obtain ⟨i, hi, rfl, HX⟩ := hrel
              by_cases hl : i < j
              · have g4 : (i : Int) < (j : Int) := Int.ofNat_lt.2 hl
                have g5 : (0 : Int) ≤ (i : Int) := Int.natCast_nonneg i
                have w1' := wrap_sucP hl hn
                have hjL : i < L.length := by rw [← HL.out]; exact hl
                have hs := List.getElem?_eq_getElem hjL
                have hin := List.getElem_mem hjL
                generalize L[i] = x at hs hin
                have HSx := Lib.hid hs
                have f3 := Lib.hid (fun h => F3.out h x hin)
                have f4 := Lib.hid (fun h => F4.out h x hin)
                clear hs hjL F3 F4 hin
                go_upto_region 35 with fail
                go_cut [247] from 227 to 247 (fun s wx => s = .bool false ∧ Hid (w1.grownBy wx none))
                case first =>
                  as_aux_lemma =>
                  obtain ⟨g, o, rfl, _, y0, y1, _⟩ := (files_low HI.out (gnone HW.out HX.out)).at_ i x HSx.out
                  have CMx := CM wr HX.out x.nu
                  clear CM CW f4
                  by_cases l1 : x.lv = bi
                  · have lv1 : (x.lv == bi) = true := beq_iff_eq.2 l1
                    by_cases hm : x.nu ∈ M
                    · rw [decide_eq_true hm] at CMx
                      clear hm f3 l1
                      go_wp2_with fail
                      refine CMx.out.mono ?_
                      rintro e w2 ⟨rfl, q2, hw2⟩
                      have HX2 : Hid (w1.grownBy w2 none) := Lib.hid (by rw [hw2]; exact only_drewN HX.out q2)
                      clear hw2 CMx
                      go_wp2_with fail
                      go_meet
                      exact ⟨rfl, HX2⟩
                    · have bz : (bi == 0) = false := beq_eq_false_iff_ne.2 (fun h => hm (f3.out h l1))
                      rw [decide_eq_false hm] at CMx
                      clear hm f3 l1
                      go_wp2_with fail
                      refine CMx.out.mono ?_
                      rintro e w2 ⟨rfl, q2, hw2⟩
                      have HX2 : Hid (w1.grownBy w2 none) := Lib.hid (by rw [hw2]; exact only_drewN HX.out q2)
                      clear hw2 CMx
                      go_wp2_with fail
                      go_meet
                      exact ⟨rfl, HX2⟩
                  · have lv1 : (x.lv == bi) = false := beq_eq_false_iff_ne.2 l1
                    clear l1 f3 CMx
                    go_wp2_with fail
                    go_meet
                    exact ⟨rfl, HX⟩
                case rest =>
                clear HX f3
                obtain ⟨rfl, HX⟩ := hcut
                go_upto_region 37 with fail
                go_cut [297] from 248 to 297 (fun s wx => s = .bool false ∧ Hid (w1.grownBy wx none))
                case first =>
                  as_aux_lemma =>
                  obtain ⟨g, o, rfl, _, y0, y1, y2, y3, y4, y5⟩ := (files_low HI.out (gnone HW.out HX.out)).at_ i x HSx.out
                  have CMx := CM wc HX.out x.nu
                  clear CM
                  by_cases l2 : x.lv = bi + 1
                  · have lv2 : (x.lv == bi + 1) = true := beq_iff_eq.2 l2
                    by_cases e2 : x.nu ∈ M
                    · rw [decide_eq_true e2] at CMx
                      clear e2 f4 l2 CW y2 y3 y4 y5
                      go_wp2_with fail
                      refine CMx.out.mono ?_
                      rintro e w2 ⟨rfl, q2, hw2⟩
                      have HX2 : Hid (w1.grownBy w2 none) := Lib.hid (by rw [hw2]; exact only_drewN HX.out q2)
                      clear hw2 CMx
                      go_wp2_with fail
                      go_meet
                      exact ⟨rfl, HX2⟩
                    · rw [decide_eq_false e2] at CMx
                      by_cases hb : bi = 0
                      · have bz : (bi == 0) = true := beq_iff_eq.2 hb
                        have hw : withinP L M bi x = false := by
                          cases h : withinP L M bi x with
                          | false => rfl
                          | true => exact absurd (f4.out hb l2 h) e2
                        have CWx := fun W h => CW W h x
                        rw [hw] at CWx
                        clear e2 f4 hw CW lv2 bz wb hb0
                        subst hb
                        have lv2 : (x.lv == 1) = true := beq_iff_eq.2 l2
                        clear l2
                        have PR : ∀ W, (∃ q, W = wc.drewN q) → Hid (w1.grownBy W none) := fun W h => by
                          obtain ⟨q, h⟩ := h
                          exact Lib.hid (by rw [h]; exact only_drewN HX.out q)
                        cases u1 : (Op.bytesLess x.fi.toList la.toList || x.fi.toList == la.toList) with
                        | false =>
                          clear CWx y2 y3 y5
                          go_wp2_with fail
                          refine CMx.out.mono ?_
                          rintro e w2 ⟨rfl, q2, hw2⟩
                          have HX2 := PR w2 ⟨q2, hw2⟩
                          have z4 : w2.cell? ⟨g, o + i * 6 + 4, none⟩ = some (.string x.fi) := by rw [hw2]; exact y4
                          clear hw2 CMx y4
                          go_wp2_with fail
                          go_meet
                          exact ⟨rfl, HX2⟩
                        | true =>
                        cases u2 : Op.bytesLess x.la.toList fa.toList with
                        | true =>
                          clear CWx y2 y3
                          go_wp2_with fail
                          refine CMx.out.mono ?_
                          rintro e w2 ⟨rfl, q2, hw2⟩
                          have HX2 := PR w2 ⟨q2, hw2⟩
                          have z4 : w2.cell? ⟨g, o + i * 6 + 4, none⟩ = some (.string x.fi) := by rw [hw2]; exact y4
                          have z5 : w2.cell? ⟨g, o + i * 6 + 5, none⟩ = some (.string x.la) := by rw [hw2]; exact y5
                          clear hw2 CMx y4 y5
                          go_wp2_with fail
                          go_meet
                          exact ⟨rfl, HX2⟩
                        | false =>
                          go_wp2_with fail
                          refine CMx.out.mono ?_
                          rintro e w2 ⟨rfl, q2, hw2⟩
                          have HX2 := PR w2 ⟨q2, hw2⟩
                          have z0 : w2.cell? ⟨g, o + i * 6, none⟩ = some (.int .i64 x.lv) := by rw [hw2]; exact y0
                          have z1 : w2.cell? ⟨g, o + i * 6 + 1, none⟩ = some (.int .i64 x.nu) := by rw [hw2]; exact y1
                          have z2 : w2.cell? ⟨g, o + i * 6 + 2, none⟩ = some (.int .i64 x.co) := by rw [hw2]; exact y2
                          have z3 : w2.cell? ⟨g, o + i * 6 + 3, none⟩ = some (.int .i64 x.sz) := by rw [hw2]; exact y3
                          have z4 : w2.cell? ⟨g, o + i * 6 + 4, none⟩ = some (.string x.fi) := by rw [hw2]; exact y4
                          have z5 : w2.cell? ⟨g, o + i * 6 + 5, none⟩ = some (.string x.la) := by rw [hw2]; exact y5
                          clear hw2 CMx y0 y1 y2 y3 y4 y5
                          go_wp2_with fail
                          refine (CWx _ HX2.out).out.mono ?_
                          rintro e w3 ⟨rfl, hg3⟩
                          have HX3 := Lib.hid (gnone HX2.out hg3)
                          clear hg3 CWx
                          go_wp2_with fail
                          go_meet
                          exact ⟨rfl, HX3⟩
                      · have bz : (bi == 0) = false := beq_eq_false_iff_ne.2 hb
                        clear e2 f4 l2 CW y2 y3 y4 y5 hb
                        go_wp2_with fail
                        refine CMx.out.mono ?_
                        rintro e w2 ⟨rfl, q2, hw2⟩
                        have HX2 : Hid (w1.grownBy w2 none) := Lib.hid (by rw [hw2]; exact only_drewN HX.out q2)
                        clear hw2 CMx
                        go_wp2_with fail
                        go_meet
                        exact ⟨rfl, HX2⟩
                  · have lv2 : (x.lv == bi + 1) = false := beq_eq_false_iff_ne.2 l2
                    clear l2 f4 CMx CW
                    go_wp2_with fail
                    go_meet
                    exact ⟨rfl, HX⟩
                case rest =>
                clear HX f4
                obtain ⟨rfl, HX⟩ := hcut
                go_wp2_with fail
                go_roundw
                case rel => exact ⟨i + 1, hl, by go_num, HX⟩
                case measure => exact meas_ltP hl
              · obtain rfl : i = j := by omega
                have g5 : ¬ (i : Int) < (i : Int) := Int.lt_irrefl _
                go_wp2_with fail
                refine (CA _).out.mono ?_
                rintro e w9 ⟨rfl, hb9⟩
                have HB := Lib.hid (below_g (gnone HW.out (gnone HX.out hb9)))
                clear hb9
                go_wp2_with fail
                go_ret
                exact ⟨rfl, HB.out⟩
end Go.Proofs.Ytcljocmaojfhhaa
