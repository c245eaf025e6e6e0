/-
  The law MergeGroups.
-/
import Derived.Test.YteackdafggomhaaM4
namespace Go.Proofs.Yteackdafggomhaa
open Go.RowKit

theorem light_parts {Ls : List (List KV)} (h : lightL Ls = true) : (∀ L ∈ Ls, wtK L ≤ 60000) ∧ Ls.length ≤ 40 ∧ sumLen Ls ≤ 2000 := by
  unfold lightL at h
  simp only [Bool.and_eq_true, decide_eq_true_eq] at h
  exact ⟨h.1, h.2.1, h.2.2⟩
theorem len_sum {Ls : List (List KV)} {L : List KV} (h : L ∈ Ls) : L.length ≤ sumLen Ls := by
  induction Ls with
  | nil => cases h
  | cons x r ih =>
    have e : sumLen (x :: r) = x.length + sumLen r := by unfold sumLen; simp
    rw [e]
    rcases List.mem_cons.1 h with rfl | h
    · omega
    · have := ih h; omega
/-- Lists that rise are merged. -/
theorem merge_yes {w : World} {A : Option Addr} {n c : Nat} {Ls : List (List KV)} (h : ListsAt w A n Ls) (hn : n ≤ 90000) (hl : ∀ L ∈ Ls, L.length ≤ 1000000) (hr : ∀ L ∈ Ls, risesK L = true) :
    Calls Try.prog 8 #[.slice A n c] w fun e w' => ∃ v R, e = .returned (.tuple #[v, .int .i64 0]) ∧ Own elKeys w' w.heap.size 33 v R ∧ IsMerge Ls R ∧ w.grownBy w' none :=
  (mmerge_any A n c Ls w h hn hl).mono fun e w' hm => by
    obtain ⟨v, R, e1, ho, hi⟩ := hm.2.1 hr
    exact ⟨v, R, e1, ho, hi, hm.1⟩
theorem merge_no {w : World} {A : Option Addr} {n c : Nat} {Ls : List (List KV)} (h : ListsAt w A n Ls) (hn : n ≤ 90000) (hl : ∀ L ∈ Ls, L.length ≤ 1000000) (hr : ¬ ∀ L ∈ Ls, risesK L = true) :
    Calls Try.prog 8 #[.slice A n c] w fun e w' => e = .returned (.tuple #[.slice none 0 0, .int .i64 32]) ∧ w.grownBy w' none :=
  (mmerge_any A n c Ls w h hn hl).mono fun _e _w' hm => ⟨hm.2.2 hr, hm.1⟩
theorem sum_parts (Ls : List (List KV)) (k : Nat) : sumLen (Ls.take k) ≤ sumLen Ls ∧ sumLen (Ls.drop k) ≤ sumLen Ls := by
  have e : sumLen Ls = sumLen (Ls.take k) + sumLen (Ls.drop k) := by
    unfold sumLen
    rw [← List.sum_append, ← List.map_append, List.take_append_drop]
  omega
theorem own_len {w : World} {B n c : Nat} {A : Option Addr} {L : List KV} (h : Own elKeys w B 33 (.slice A n c) L) : n = L.length := (own_reads h).1
/-- Two lists of the call's own in a row. -/
theorem two_lists {w : World} {B1 B2 n1 c1 n2 c2 : Nat} {A1 A2 : Option Addr} {L1 L2 : List KV} (h1 : Own elKeys w B1 33 (.slice A1 n1 c1) L1) (h2 : Own elKeys w B2 33 (.slice A2 n2 c2) L2) :
    ListsAt (w.alloc (.cells #[.slice A1 n1 c1, .slice A2 n2 c2] 25)) (some ⟨w.heap.size, 0, none⟩) 2 [L1, L2] := by
  have B := Blk.new w 25 #[.slice A1 n1 c1, .slice A2 n2 c2]
  refine ⟨rfl, fun i L hL => ?_⟩
  match i, hL with
  | 0, hL => cases hL; exact ⟨_, 0, _, _, _, rfl, B.lt, B.cell 0, own_keysAt (keysAlloc h1 _), own_capS h1⟩
  | 1, hL => cases hL; exact ⟨_, 0, _, _, _, rfl, B.lt, B.cell 1, own_keysAt (keysAlloc h2 _), own_capS h2⟩
  | i + 2, hL => simp at hL
theorem three_lists {w : World} {B1 n1 c1 : Nat} {A1 : Option Addr} {L1 : List KV} (h1 : Own elKeys w B1 33 (.slice A1 n1 c1) L1) :
    ListsAt (w.alloc (.cells #[.slice A1 n1 c1, .slice A1 n1 c1, .slice none 0 0] 25)) (some ⟨w.heap.size, 0, none⟩) 3 [L1, L1, []] := by
  have B := Blk.new w 25 #[.slice A1 n1 c1, .slice A1 n1 c1, .slice none 0 0]
  refine ⟨rfl, fun i L hL => ?_⟩
  match i, hL with
  | 0, hL => cases hL; exact ⟨_, 0, _, _, _, rfl, B.lt, B.cell 0, own_keysAt (keysAlloc h1 _), own_capS h1⟩
  | 1, hL => cases hL; exact ⟨_, 0, _, _, _, rfl, B.lt, B.cell 1, own_keysAt (keysAlloc h1 _), own_capS h1⟩
  | 2, hL => cases hL; exact ⟨_, 0, _, _, _, rfl, B.lt, B.cell 2, ⟨rfl, fun i m hm => by simp at hm⟩, Nat.le_refl _⟩
  | i + 3, hL => simp at hL
set_option maxRecDepth 100000 in
set_option maxHeartbeats 8000000 in
theorem lawMergeGroups (A : Option Addr) (n c : Nat) (Ls : List (List KV)) (k : Int) (_hk : (Lit.int .i64 k).wf = true) (w : World) (I : ListsIn w A n Ls ∧ n ≤ c ∧ (A = none → c = 0)) (hT : LaidH w) :
    Calls Try.prog 3 #[.slice A n c, .int .i64 k] w fun e w' => e = .returned (.bool true) ∧ Below w.heap.size w w' := by
  have CA := fun W (h : w.grownBy W none) => Lib.hid (alive16_any W (hT.on (below_g h)))
  have CL := Lib.hid (light16_any A n c Ls w I.1)
  obtain ⟨lb, hlb⟩ : ∃ lb, lightL Ls = lb := ⟨_, rfl⟩
  rw [hlb] at CL
  have hmax := I.1.max
  have exit_ : ∀ (t1 t2 : Bool), decide (k < 0) = t1 → decide ((n : Int) < k) = t2 → (!lb || t1 || t2) = true →
      Calls Try.prog 3 #[.slice A n c, .int .i64 k] w fun e w' => e = .returned (.bool true) ∧ Below w.heap.size w w' := by
    intro t1 t2 e1 e2 e3
    clear I hT
    cases lb <;> cases t1 <;> cases t2
    case true.false.false => cases e3
    all_goals
      clear e3
      go_enter Try.func3, Try.ntmps3
      go_wp2_with fail
      refine CL.out.mono ?_
      rintro e w1 ⟨rfl, hg1⟩
      have HG1 := Lib.hid hg1
      clear hg1
      go_wp2_with fail
      refine (CA _ HG1.out).out.mono ?_
      rintro e w2 ⟨rfl, hg2⟩
      have HG2 := Lib.hid (gnone HG1.out hg2)
      clear hg2
      go_wp2_with fail
      go_ret
      exact ⟨rfl, below_g HG2.out⟩
  cases lb with
  | false => exact exit_ _ _ rfl rfl rfl
  | true =>
  by_cases h1 : k < 0
  · exact exit_ true _ (decide_eq_true h1) rfl (by simp)
  by_cases h2 : (n : Int) < k
  · exact exit_ _ true rfl (decide_eq_true h2) (by simp)
  clear exit_
  obtain ⟨kk, rfl⟩ : ∃ kk : Nat, k = (kk : Int) := ⟨k.toNat, by omega⟩
  have hkn : kk ≤ n := by omega
  obtain ⟨hL, hn40, hsum⟩ := light_parts hlb
  have hlen := I.1.at_.len
  have hl6 : ∀ L ∈ Ls, L.length ≤ 1000000 := fun L h => by have := len_sum h; omega
  have LA := fun W (h : w.grownBy W none) => Lib.hid (I.1.at_.below (below_g h))
  by_cases hr : ∀ L ∈ Ls, risesK L = true
  · have hok : ∀ m, (∃ L ∈ Ls, m ∈ L) → okKeys m := fun m ⟨L, hL, hm⟩ => by
      obtain ⟨i, hi, e⟩ := List.getElem_of_mem hL
      obtain ⟨_, _, _, _, _, _, _, _, hP⟩ := I.1.each i L (by rw [List.getElem?_eq_getElem hi, e])
      have := hP.size m hm
      exact ⟨by omega, by omega⟩
    have HOK := Lib.hid hok
    have hrp := rises_parts hr kk
    have hsp := sum_parts Ls kk
    have hl7 : (∀ L ∈ Ls.take kk, L.length ≤ 1000000) ∧ ∀ L ∈ Ls.drop kk, L.length ≤ 1000000 := ⟨fun L h => hl6 L (List.mem_of_mem_take h), fun L h => hl6 L (List.mem_of_mem_drop h)⟩
    have CM := fun W (h : w.grownBy W none) => Lib.hid (merge_yes (c := c) (LA W h).out (by omega) hl6 hr)
    have CT := fun W (h : w.grownBy W none) => Lib.hid (merge_yes (c := c) ((LA W h).out.take hkn) (by omega) hl7.1 hrp.1)
    have CD := fun W A' n' c' (h : ListsAt W A' n' (Ls.drop kk)) (h' : n' ≤ 90000) => Lib.hid (merge_yes (c := c') h h' hl7.2 hrp.2)
    have HSP : Hid (sumLen Ls ≤ 2000 ∧ sumLen (Ls.take kk) ≤ 2000 ∧ sumLen (Ls.drop kk) ≤ 2000) := Lib.hid ⟨hsum, Nat.le_trans hsp.1 hsum, Nat.le_trans hsp.2 hsum⟩
    have PM : ∀ L1 L2 : List KV, L1.length ≤ 2000 → L2.length ≤ 2000 → risesK L1 = true → risesK L2 = true → Hid (∀ W A' c', ListsAt W A' 2 [L1, L2] → Calls Try.prog 8 #[.slice A' 2 c'] W fun e w' => ∃ v R, e = .returned (.tuple #[v, .int .i64 0]) ∧ Own elKeys w' W.heap.size 33 v R ∧ IsMerge [L1, L2] R ∧ W.grownBy w' none) := fun L1 L2 a1 a2 b1 b2 => Lib.hid fun W A' c' h => merge_yes h (by omega) (fun L hL => by
      simp only [List.mem_cons, List.not_mem_nil, or_false] at hL
      rcases hL with rfl | rfl <;> omega) (fun L hL => by
      simp only [List.mem_cons, List.not_mem_nil, or_false] at hL
      rcases hL with rfl | rfl <;> assumption)
    have PS : ∀ L1 : List KV, L1.length ≤ 2000 → risesK L1 = true → Hid (∀ W A' c', ListsAt W A' 3 [L1, L1, []] → Calls Try.prog 8 #[.slice A' 3 c'] W fun e w' => ∃ v R, e = .returned (.tuple #[v, .int .i64 0]) ∧ Own elKeys w' W.heap.size 33 v R ∧ IsMerge [L1, L1, []] R ∧ W.grownBy w' none) := fun L1 a1 b1 => Lib.hid fun W A' c' h => merge_yes h (by omega) (fun L hL => by
      simp only [List.mem_cons, List.not_mem_nil, or_false] at hL
      rcases hL with rfl | rfl | rfl
      · omega
      · omega
      · exact Nat.zero_le _) (fun L hL => by
      simp only [List.mem_cons, List.not_mem_nil, or_false] at hL
      rcases hL with rfl | rfl | rfl
      · exact b1
      · exact b1
      · rfl)
    have PM := Lib.hid PM
    have PS := Lib.hid PS
    have HLEN := Lib.hid hlen
    have HI := Lib.hid I
    cases A with
    | none =>
      obtain rfl : c = 0 := I.2.2 rfl
      obtain rfl : n = 0 := by omega
      obtain rfl : kk = 0 := by omega
      have hd : ∀ W, ListsAt W none 0 (Ls.drop 0) := fun W => by
        have e : Ls.drop 0 = [] := by rw [List.drop_zero]; exact List.eq_nil_of_length_eq_zero hlen.symm
        rw [e]; exact ListsAt.nil W none
      have HD := Lib.hid hd
      clear hd
      clear I hT hlb hL hsum hl6 hr LA hlen hok hrp hsp hl7
      go_enter Try.func3, Try.ntmps3
      go_wp2_with fail
      refine CL.out.mono ?_
      rintro e w1 ⟨rfl, hg1⟩
      have HG1 := Lib.hid hg1
      clear hg1
      go_wp2_with fail
      refine (CM _ HG1.out).out.mono ?_
      rintro e w2 ⟨v0, R, rfl, ho0, hm0, hg2⟩
      obtain ⟨a0, c0, rfl⟩ := ho0.slice
      have HO0 := Lib.hid ho0
      have HM0 := Lib.hid hm0
      have HG2 := Lib.hid (gnone HG1.out hg2)
      obtain ⟨l0, hl0⟩ : ∃ l0, R.length = l0 := ⟨_, rfl⟩
      have HL0 := Lib.hid hl0
      rw [hl0] at HO0 ⊢
      clear ho0 hm0 hg2 hl0
      go_wp2_with fail
      refine (CT _ HG2.out).out.mono ?_
      rintro e w3 ⟨v1, RA, rfl, ho1, hm1, hg3⟩
      obtain ⟨a1, c1, rfl⟩ := ho1.slice
      have HO1 := Lib.hid ho1
      have HM1 := Lib.hid hm1
      have HG3 := Lib.hid (gnone HG2.out hg3)
      have HO0 := Lib.hid (HO0.out.below (below_g hg3))
      obtain ⟨l1, hl1⟩ : ∃ l1, RA.length = l1 := ⟨_, rfl⟩
      have HL1 := Lib.hid hl1
      rw [hl1] at HO1 ⊢
      clear ho1 hm1 hg3 hl1
      go_wp2_with fail
      refine (CD _ none 0 0 (HD.out _) (by omega)).out.mono ?_
      rintro e w4 ⟨v2, RB, rfl, ho2, hm2, hg4⟩
      obtain ⟨a2, c2, rfl⟩ := ho2.slice
      have HO2 := Lib.hid ho2
      have HM2 := Lib.hid hm2
      have HG4 := Lib.hid (gnone HG3.out hg4)
      have HO0 := Lib.hid (HO0.out.below (below_g hg4))
      have HO1 := Lib.hid (HO1.out.below (below_g hg4))
      obtain ⟨l2, hl2⟩ : ∃ l2, RB.length = l2 := ⟨_, rfl⟩
      have HL2 := Lib.hid hl2
      rw [hl2] at HO2 ⊢
      clear ho2 hm2 hg4 hl2
      have CC := Lib.hid ((PM.out RA RB (merge_len HM1.out _ HSP.out.2.1) (merge_len HM2.out _ HSP.out.2.2) HM1.out.ris HM2.out.ris).out _ _ 2 (two_lists HO1.out HO2.out))
      go_wp2_with fail
      refine CC.out.mono ?_
      rintro e w5 ⟨v3, RC, rfl, ho3, hm3, hg5⟩
      have hRC : RC = R := merge_groups HM0.out HM1.out HM2.out hm3
      subst hRC
      obtain ⟨a3, c3, rfl⟩ := ho3.slice
      have hg5 := gnone (World.grownBy_alloc w4 _ none) hg5
      have HO3 := Lib.hid ho3
      have HG5 := Lib.hid (gnone HG4.out hg5)
      have HO0 := Lib.hid (HO0.out.below (below_g hg5))
      rw [HL0.out] at HO3 ⊢
      clear ho3 hm3 hg5 CC
      have CS := Lib.hid ((PS.out RC (merge_len HM0.out _ HSP.out.1) HM0.out.ris).out _ _ 3 (three_lists HO0.out))
      go_wp2_with fail
      refine CS.out.mono ?_
      rintro e w6 ⟨v4, RD, rfl, ho4, hm4, hg6⟩
      have hRD : RD = RC := merge_self HM0.out.ris hm4
      subst hRD
      obtain ⟨a4, c4, rfl⟩ := ho4.slice
      have hg6 := gnone (World.grownBy_alloc w5 _ none) hg6
      have HO4 := Lib.hid ho4
      have HG6 := Lib.hid (gnone HG5.out hg6)
      have HO0 := Lib.hid (HO0.out.below (below_g hg6))
      have HO3 := Lib.hid (HO3.out.below (below_g hg6))
      rw [HL0.out] at HO4 ⊢
      clear ho4 hm4 hg6 CS
      have HLL : Hid (l0 ≤ 1000000) := Lib.hid (by rw [← HL0.out]; exact Nat.le_trans (merge_len HM0.out 2000 HSP.out.1) (by decide))
      have HKK : Hid (∀ m ∈ RD, okKeys m) := Lib.hid fun m hm => by
        obtain ⟨i, L, h1, h2, _⟩ := (HM0.out.mem m).1 hm
        exact HOK.out m ⟨L, List.mem_of_getElem? h1, h2⟩
      have CE := fun W (h : Below w6.heap.size w6 W) A1 k1 (hA : KeysAt w6 A1 l0 RD) => Lib.hid (same_at A1 a0 l0 k1 c0 RD W (hA.below h) ((own_keysAt HO0.out).below h) HLL.out HKK.out)
      go_wp2_with fail
      refine (CA _ HG6.out).out.mono ?_
      rintro e w7 ⟨rfl, hg7⟩
      have HG7 := Lib.hid (gnone HG6.out hg7)
      have HB7 := Lib.hid (below_g hg7)
      have CE3 := CE w7 HB7.out a3 c3 (own_keysAt HO3.out)
      clear hg7
      go_wp2_with fail
      refine CE3.out.mono ?_
      rintro e w8 ⟨rfl, hb8⟩
      have HG8 := Lib.hid (gnone HG7.out (g_below hb8))
      have CE4 := CE w8 (HB7.out.trans (hb8.mono HB7.out.size)) a4 c4 (own_keysAt HO4.out)
      clear hb8 CE3
      go_wp2_with fail
      refine CE4.out.mono ?_
      rintro e w9 ⟨rfl, hb9⟩
      have HG9 := Lib.hid (gnone HG8.out (g_below hb9))
      clear hb9 CE4
      go_wp2_with fail
      go_ret
      exact ⟨rfl, below_g HG9.out⟩
    | some a =>
      have hkc : (kk : Int) ≤ (c : Int) := by have := I.2.1; omega
      have hk0 : (0 : Int) ≤ (kk : Int) := by omega
      have hkI : (kk : Int) ≤ (n : Int) := by omega
      by_cases hkk : kk = n
      · have hd : ∀ W A', ListsAt W A' 0 (Ls.drop kk) := fun W A' => by
          have e : Ls.drop kk = [] := List.drop_eq_nil_of_le (by omega)
          rw [e]; exact ListsAt.nil W A'
        have HD := Lib.hid hd
        subst hkk
        clear hd
        by_cases hcn : kk = c
        · subst hcn
          clear I hT hlb hL hsum hl6 hr LA hlen hok hrp hsp hl7
          go_enter Try.func3, Try.ntmps3
          go_wp2_with fail
          refine CL.out.mono ?_
          rintro e w1 ⟨rfl, hg1⟩
          have HG1 := Lib.hid hg1
          clear hg1
          go_wp2_with fail
          refine (CM _ HG1.out).out.mono ?_
          rintro e w2 ⟨v0, R, rfl, ho0, hm0, hg2⟩
          obtain ⟨a0, c0, rfl⟩ := ho0.slice
          have HO0 := Lib.hid ho0
          have HM0 := Lib.hid hm0
          have HG2 := Lib.hid (gnone HG1.out hg2)
          obtain ⟨l0, hl0⟩ : ∃ l0, R.length = l0 := ⟨_, rfl⟩
          have HL0 := Lib.hid hl0
          rw [hl0] at HO0 ⊢
          clear ho0 hm0 hg2 hl0
          go_wp2_with fail
          refine (CT _ HG2.out).out.mono ?_
          rintro e w3 ⟨v1, RA, rfl, ho1, hm1, hg3⟩
          obtain ⟨a1, c1, rfl⟩ := ho1.slice
          have HO1 := Lib.hid ho1
          have HM1 := Lib.hid hm1
          have HG3 := Lib.hid (gnone HG2.out hg3)
          have HO0 := Lib.hid (HO0.out.below (below_g hg3))
          obtain ⟨l1, hl1⟩ : ∃ l1, RA.length = l1 := ⟨_, rfl⟩
          have HL1 := Lib.hid hl1
          rw [hl1] at HO1 ⊢
          clear ho1 hm1 hg3 hl1
          go_wp2_with fail
          refine (CD _ _ _ _ (HD.out _ _) (by omega)).out.mono ?_
          rintro e w4 ⟨v2, RB, rfl, ho2, hm2, hg4⟩
          obtain ⟨a2, c2, rfl⟩ := ho2.slice
          have HO2 := Lib.hid ho2
          have HM2 := Lib.hid hm2
          have HG4 := Lib.hid (gnone HG3.out hg4)
          have HO0 := Lib.hid (HO0.out.below (below_g hg4))
          have HO1 := Lib.hid (HO1.out.below (below_g hg4))
          obtain ⟨l2, hl2⟩ : ∃ l2, RB.length = l2 := ⟨_, rfl⟩
          have HL2 := Lib.hid hl2
          rw [hl2] at HO2 ⊢
          clear ho2 hm2 hg4 hl2
          have CC := Lib.hid ((PM.out RA RB (merge_len HM1.out _ HSP.out.2.1) (merge_len HM2.out _ HSP.out.2.2) HM1.out.ris HM2.out.ris).out _ _ 2 (two_lists HO1.out HO2.out))
          go_wp2_with fail
          refine CC.out.mono ?_
          rintro e w5 ⟨v3, RC, rfl, ho3, hm3, hg5⟩
          have hRC : RC = R := merge_groups HM0.out HM1.out HM2.out hm3
          subst hRC
          obtain ⟨a3, c3, rfl⟩ := ho3.slice
          have hg5 := gnone (World.grownBy_alloc w4 _ none) hg5
          have HO3 := Lib.hid ho3
          have HG5 := Lib.hid (gnone HG4.out hg5)
          have HO0 := Lib.hid (HO0.out.below (below_g hg5))
          rw [HL0.out] at HO3 ⊢
          clear ho3 hm3 hg5 CC
          have CS := Lib.hid ((PS.out RC (merge_len HM0.out _ HSP.out.1) HM0.out.ris).out _ _ 3 (three_lists HO0.out))
          go_wp2_with fail
          refine CS.out.mono ?_
          rintro e w6 ⟨v4, RD, rfl, ho4, hm4, hg6⟩
          have hRD : RD = RC := merge_self HM0.out.ris hm4
          subst hRD
          obtain ⟨a4, c4, rfl⟩ := ho4.slice
          have hg6 := gnone (World.grownBy_alloc w5 _ none) hg6
          have HO4 := Lib.hid ho4
          have HG6 := Lib.hid (gnone HG5.out hg6)
          have HO0 := Lib.hid (HO0.out.below (below_g hg6))
          have HO3 := Lib.hid (HO3.out.below (below_g hg6))
          rw [HL0.out] at HO4 ⊢
          clear ho4 hm4 hg6 CS
          have HLL : Hid (l0 ≤ 1000000) := Lib.hid (by rw [← HL0.out]; exact Nat.le_trans (merge_len HM0.out 2000 HSP.out.1) (by decide))
          have HKK : Hid (∀ m ∈ RD, okKeys m) := Lib.hid fun m hm => by
            obtain ⟨i, L, h1, h2, _⟩ := (HM0.out.mem m).1 hm
            exact HOK.out m ⟨L, List.mem_of_getElem? h1, h2⟩
          have CE := fun W (h : Below w6.heap.size w6 W) A1 k1 (hA : KeysAt w6 A1 l0 RD) => Lib.hid (same_at A1 a0 l0 k1 c0 RD W (hA.below h) ((own_keysAt HO0.out).below h) HLL.out HKK.out)
          go_wp2_with fail
          refine (CA _ HG6.out).out.mono ?_
          rintro e w7 ⟨rfl, hg7⟩
          have HG7 := Lib.hid (gnone HG6.out hg7)
          have HB7 := Lib.hid (below_g hg7)
          have CE3 := CE w7 HB7.out a3 c3 (own_keysAt HO3.out)
          clear hg7
          go_wp2_with fail
          refine CE3.out.mono ?_
          rintro e w8 ⟨rfl, hb8⟩
          have HG8 := Lib.hid (gnone HG7.out (g_below hb8))
          have CE4 := CE w8 (HB7.out.trans (hb8.mono HB7.out.size)) a4 c4 (own_keysAt HO4.out)
          clear hb8 CE3
          go_wp2_with fail
          refine CE4.out.mono ?_
          rintro e w9 ⟨rfl, hb9⟩
          have HG9 := Lib.hid (gnone HG8.out (g_below hb9))
          clear hb9 CE4
          go_wp2_with fail
          go_ret
          exact ⟨rfl, below_g HG9.out⟩
        · have hcn' : ¬ c = kk := fun e => hcn e.symm
          clear I hT hlb hL hsum hl6 hr LA hlen hok hrp hsp hl7
          go_enter Try.func3, Try.ntmps3
          go_wp2_with fail
          refine CL.out.mono ?_
          rintro e w1 ⟨rfl, hg1⟩
          have HG1 := Lib.hid hg1
          clear hg1
          go_wp2_with fail
          refine (CM _ HG1.out).out.mono ?_
          rintro e w2 ⟨v0, R, rfl, ho0, hm0, hg2⟩
          obtain ⟨a0, c0, rfl⟩ := ho0.slice
          have HO0 := Lib.hid ho0
          have HM0 := Lib.hid hm0
          have HG2 := Lib.hid (gnone HG1.out hg2)
          obtain ⟨l0, hl0⟩ : ∃ l0, R.length = l0 := ⟨_, rfl⟩
          have HL0 := Lib.hid hl0
          rw [hl0] at HO0 ⊢
          clear ho0 hm0 hg2 hl0
          go_wp2_with fail
          refine (CT _ HG2.out).out.mono ?_
          rintro e w3 ⟨v1, RA, rfl, ho1, hm1, hg3⟩
          obtain ⟨a1, c1, rfl⟩ := ho1.slice
          have HO1 := Lib.hid ho1
          have HM1 := Lib.hid hm1
          have HG3 := Lib.hid (gnone HG2.out hg3)
          have HO0 := Lib.hid (HO0.out.below (below_g hg3))
          obtain ⟨l1, hl1⟩ : ∃ l1, RA.length = l1 := ⟨_, rfl⟩
          have HL1 := Lib.hid hl1
          rw [hl1] at HO1 ⊢
          clear ho1 hm1 hg3 hl1
          go_wp2_with fail
          refine (CD _ _ _ _ (HD.out _ _) (by omega)).out.mono ?_
          rintro e w4 ⟨v2, RB, rfl, ho2, hm2, hg4⟩
          obtain ⟨a2, c2, rfl⟩ := ho2.slice
          have HO2 := Lib.hid ho2
          have HM2 := Lib.hid hm2
          have HG4 := Lib.hid (gnone HG3.out hg4)
          have HO0 := Lib.hid (HO0.out.below (below_g hg4))
          have HO1 := Lib.hid (HO1.out.below (below_g hg4))
          obtain ⟨l2, hl2⟩ : ∃ l2, RB.length = l2 := ⟨_, rfl⟩
          have HL2 := Lib.hid hl2
          rw [hl2] at HO2 ⊢
          clear ho2 hm2 hg4 hl2
          have CC := Lib.hid ((PM.out RA RB (merge_len HM1.out _ HSP.out.2.1) (merge_len HM2.out _ HSP.out.2.2) HM1.out.ris HM2.out.ris).out _ _ 2 (two_lists HO1.out HO2.out))
          go_wp2_with fail
          refine CC.out.mono ?_
          rintro e w5 ⟨v3, RC, rfl, ho3, hm3, hg5⟩
          have hRC : RC = R := merge_groups HM0.out HM1.out HM2.out hm3
          subst hRC
          obtain ⟨a3, c3, rfl⟩ := ho3.slice
          have hg5 := gnone (World.grownBy_alloc w4 _ none) hg5
          have HO3 := Lib.hid ho3
          have HG5 := Lib.hid (gnone HG4.out hg5)
          have HO0 := Lib.hid (HO0.out.below (below_g hg5))
          rw [HL0.out] at HO3 ⊢
          clear ho3 hm3 hg5 CC
          have CS := Lib.hid ((PS.out RC (merge_len HM0.out _ HSP.out.1) HM0.out.ris).out _ _ 3 (three_lists HO0.out))
          go_wp2_with fail
          refine CS.out.mono ?_
          rintro e w6 ⟨v4, RD, rfl, ho4, hm4, hg6⟩
          have hRD : RD = RC := merge_self HM0.out.ris hm4
          subst hRD
          obtain ⟨a4, c4, rfl⟩ := ho4.slice
          have hg6 := gnone (World.grownBy_alloc w5 _ none) hg6
          have HO4 := Lib.hid ho4
          have HG6 := Lib.hid (gnone HG5.out hg6)
          have HO0 := Lib.hid (HO0.out.below (below_g hg6))
          have HO3 := Lib.hid (HO3.out.below (below_g hg6))
          rw [HL0.out] at HO4 ⊢
          clear ho4 hm4 hg6 CS
          have HLL : Hid (l0 ≤ 1000000) := Lib.hid (by rw [← HL0.out]; exact Nat.le_trans (merge_len HM0.out 2000 HSP.out.1) (by decide))
          have HKK : Hid (∀ m ∈ RD, okKeys m) := Lib.hid fun m hm => by
            obtain ⟨i, L, h1, h2, _⟩ := (HM0.out.mem m).1 hm
            exact HOK.out m ⟨L, List.mem_of_getElem? h1, h2⟩
          have CE := fun W (h : Below w6.heap.size w6 W) A1 k1 (hA : KeysAt w6 A1 l0 RD) => Lib.hid (same_at A1 a0 l0 k1 c0 RD W (hA.below h) ((own_keysAt HO0.out).below h) HLL.out HKK.out)
          go_wp2_with fail
          refine (CA _ HG6.out).out.mono ?_
          rintro e w7 ⟨rfl, hg7⟩
          have HG7 := Lib.hid (gnone HG6.out hg7)
          have HB7 := Lib.hid (below_g hg7)
          have CE3 := CE w7 HB7.out a3 c3 (own_keysAt HO3.out)
          clear hg7
          go_wp2_with fail
          refine CE3.out.mono ?_
          rintro e w8 ⟨rfl, hb8⟩
          have HG8 := Lib.hid (gnone HG7.out (g_below hb8))
          have CE4 := CE w8 (HB7.out.trans (hb8.mono HB7.out.size)) a4 c4 (own_keysAt HO4.out)
          clear hb8 CE3
          go_wp2_with fail
          refine CE4.out.mono ?_
          rintro e w9 ⟨rfl, hb9⟩
          have HG9 := Lib.hid (gnone HG8.out (g_below hb9))
          clear hb9 CE4
          go_wp2_with fail
          go_ret
          exact ⟨rfl, below_g HG9.out⟩
      · have hnk : kk < n := by omega
        have hne : ¬ kk = c := by have := I.2.1; omega
        obtain ⟨g, off, ea⟩ : ∃ g off, a = (⟨g, off, none⟩ : Addr) := by
          obtain ⟨g, off, _, _, _, ea, _⟩ := I.1.at_.at_ 0 _ (List.getElem?_eq_getElem (show 0 < Ls.length by omega))
          exact ⟨g, off, Option.some.inj ea⟩
        subst ea
        have hd : ∀ W, w.grownBy W none → ListsAt W (some ⟨g, off + kk, none⟩) (n - kk) (Ls.drop kk) := fun W h => (LA W h).out.drop hkn
        have HD := Lib.hid hd
        have hsub : n - kk ≤ 90000 := by omega
        have HSUB := Lib.hid hsub
        clear hd hsub
        clear I hT hlb hL hsum hl6 hr LA hlen hok hrp hsp hl7
        go_enter Try.func3, Try.ntmps3
        go_wp2_with fail
        refine CL.out.mono ?_
        rintro e w1 ⟨rfl, hg1⟩
        have HG1 := Lib.hid hg1
        clear hg1
        go_wp2_with fail
        refine (CM _ HG1.out).out.mono ?_
        rintro e w2 ⟨v0, R, rfl, ho0, hm0, hg2⟩
        obtain ⟨a0, c0, rfl⟩ := ho0.slice
        have HO0 := Lib.hid ho0
        have HM0 := Lib.hid hm0
        have HG2 := Lib.hid (gnone HG1.out hg2)
        obtain ⟨l0, hl0⟩ : ∃ l0, R.length = l0 := ⟨_, rfl⟩
        have HL0 := Lib.hid hl0
        rw [hl0] at HO0 ⊢
        clear ho0 hm0 hg2 hl0
        go_wp2_with fail
        refine (CT _ HG2.out).out.mono ?_
        rintro e w3 ⟨v1, RA, rfl, ho1, hm1, hg3⟩
        obtain ⟨a1, c1, rfl⟩ := ho1.slice
        have HO1 := Lib.hid ho1
        have HM1 := Lib.hid hm1
        have HG3 := Lib.hid (gnone HG2.out hg3)
        have HO0 := Lib.hid (HO0.out.below (below_g hg3))
        obtain ⟨l1, hl1⟩ : ∃ l1, RA.length = l1 := ⟨_, rfl⟩
        have HL1 := Lib.hid hl1
        rw [hl1] at HO1 ⊢
        clear ho1 hm1 hg3 hl1
        go_wp2_with fail
        refine (CD _ _ _ _ (HD.out _ HG3.out) HSUB.out).out.mono ?_
        rintro e w4 ⟨v2, RB, rfl, ho2, hm2, hg4⟩
        obtain ⟨a2, c2, rfl⟩ := ho2.slice
        have HO2 := Lib.hid ho2
        have HM2 := Lib.hid hm2
        have HG4 := Lib.hid (gnone HG3.out hg4)
        have HO0 := Lib.hid (HO0.out.below (below_g hg4))
        have HO1 := Lib.hid (HO1.out.below (below_g hg4))
        obtain ⟨l2, hl2⟩ : ∃ l2, RB.length = l2 := ⟨_, rfl⟩
        have HL2 := Lib.hid hl2
        rw [hl2] at HO2 ⊢
        clear ho2 hm2 hg4 hl2
        have CC := Lib.hid ((PM.out RA RB (merge_len HM1.out _ HSP.out.2.1) (merge_len HM2.out _ HSP.out.2.2) HM1.out.ris HM2.out.ris).out _ _ 2 (two_lists HO1.out HO2.out))
        go_wp2_with fail
        refine CC.out.mono ?_
        rintro e w5 ⟨v3, RC, rfl, ho3, hm3, hg5⟩
        have hRC : RC = R := merge_groups HM0.out HM1.out HM2.out hm3
        subst hRC
        obtain ⟨a3, c3, rfl⟩ := ho3.slice
        have hg5 := gnone (World.grownBy_alloc w4 _ none) hg5
        have HO3 := Lib.hid ho3
        have HG5 := Lib.hid (gnone HG4.out hg5)
        have HO0 := Lib.hid (HO0.out.below (below_g hg5))
        rw [HL0.out] at HO3 ⊢
        clear ho3 hm3 hg5 CC
        have CS := Lib.hid ((PS.out RC (merge_len HM0.out _ HSP.out.1) HM0.out.ris).out _ _ 3 (three_lists HO0.out))
        go_wp2_with fail
        refine CS.out.mono ?_
        rintro e w6 ⟨v4, RD, rfl, ho4, hm4, hg6⟩
        have hRD : RD = RC := merge_self HM0.out.ris hm4
        subst hRD
        obtain ⟨a4, c4, rfl⟩ := ho4.slice
        have hg6 := gnone (World.grownBy_alloc w5 _ none) hg6
        have HO4 := Lib.hid ho4
        have HG6 := Lib.hid (gnone HG5.out hg6)
        have HO0 := Lib.hid (HO0.out.below (below_g hg6))
        have HO3 := Lib.hid (HO3.out.below (below_g hg6))
        rw [HL0.out] at HO4 ⊢
        clear ho4 hm4 hg6 CS
        have HLL : Hid (l0 ≤ 1000000) := Lib.hid (by rw [← HL0.out]; exact Nat.le_trans (merge_len HM0.out 2000 HSP.out.1) (by decide))
        have HKK : Hid (∀ m ∈ RD, okKeys m) := Lib.hid fun m hm => by
          obtain ⟨i, L, h1, h2, _⟩ := (HM0.out.mem m).1 hm
          exact HOK.out m ⟨L, List.mem_of_getElem? h1, h2⟩
        have CE := fun W (h : Below w6.heap.size w6 W) A1 k1 (hA : KeysAt w6 A1 l0 RD) => Lib.hid (same_at A1 a0 l0 k1 c0 RD W (hA.below h) ((own_keysAt HO0.out).below h) HLL.out HKK.out)
        go_wp2_with fail
        refine (CA _ HG6.out).out.mono ?_
        rintro e w7 ⟨rfl, hg7⟩
        have HG7 := Lib.hid (gnone HG6.out hg7)
        have HB7 := Lib.hid (below_g hg7)
        have CE3 := CE w7 HB7.out a3 c3 (own_keysAt HO3.out)
        clear hg7
        go_wp2_with fail
        refine CE3.out.mono ?_
        rintro e w8 ⟨rfl, hb8⟩
        have HG8 := Lib.hid (gnone HG7.out (g_below hb8))
        have CE4 := CE w8 (HB7.out.trans (hb8.mono HB7.out.size)) a4 c4 (own_keysAt HO4.out)
        clear hb8 CE3
        go_wp2_with fail
        refine CE4.out.mono ?_
        rintro e w9 ⟨rfl, hb9⟩
        have HG9 := Lib.hid (gnone HG8.out (g_below hb9))
        clear hb9 CE4
        go_wp2_with fail
        go_ret
        exact ⟨rfl, below_g HG9.out⟩
  · have CM := fun W (h : w.grownBy W none) => Lib.hid (merge_no (c := c) (LA W h).out (by omega) hl6 hr)
    clear I hT hlb hL hsum hl6 hr LA hlen
    go_enter Try.func3, Try.ntmps3
    go_wp2_with fail
    refine CL.out.mono ?_
    rintro e w1 ⟨rfl, hg1⟩
    have HG1 := Lib.hid hg1
    clear hg1
    go_wp2_with fail
    refine (CM _ HG1.out).out.mono ?_
    rintro e w2 ⟨rfl, hg2⟩
    have HG2 := Lib.hid (gnone HG1.out hg2)
    clear hg2
    go_wp2_with fail
    refine (CA _ HG2.out).out.mono ?_
    rintro e w3 ⟨rfl, hg3⟩
    have HG3 := Lib.hid (gnone HG2.out hg3)
    clear hg3
    go_wp2_with fail
    go_ret
    exact ⟨rfl, below_g HG3.out⟩
end Go.Proofs.Yteackdafggomhaa
