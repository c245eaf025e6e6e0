/-
  The law PickTells, walked.
-/
import Derived.Test.YtkhmbkofkdnlkaaGreatM3
import Derived.Test.YtkhmbkofkdnlkaaGreatM2
import Derived.Test.YtkhmbkofkdnlkaaGreatM4
import Derived.Test.YtkhmbkofkdnlkaaGreatM5
namespace Go.Proofs.YtkhmbkofkdnlkaaGreat
open Go.RowKit

/-- The book of what was told. -/
structure St15 (w : World) (bk sI sR : Nat) (W : World) : Prop where
  book : ∃ bcs ZI ZR, Blk W bk 41 bcs ∧ KStInts W w.heap.size bcs ZI sI ∧ KStReals W w.heap.size bcs ZR sR ∧ ∀ j, j < 30 → j ≠ 2 → j ≠ 3 → j ≠ 26 → j ≠ 27 → bcs[j]? = some (.slice none 0 0)
  hbk : w.heap.size ≤ bk
  leI : sI ≤ W.heap.size
  leR : sR ≤ W.heap.size
  below : Below w.heap.size w W
section
variable {w : World} {bk sI sR : Nat} {W W' : World}
theorem St15.up (S : St15 w bk sI sR W) (h : Below W.heap.size W W') : St15 w bk sI sR W' := by
  have g : Tn w.heap.size (fun _ => false) W W' := Tn.of_below h
  obtain ⟨bcs, ZI, ZR, k1, k2, k3, k4⟩ := S.book
  exact ⟨⟨bcs, ZI, ZR, g.blk k1 rfl, k2.tn g (fun _ _ => rfl) (fun _ _ => rfl), k3.tn g (fun _ _ => rfl) (fun _ _ => rfl), k4⟩, S.hbk, Nat.le_trans S.leI g.size, Nat.le_trans S.leR g.size, S.below.trans (h.mono S.below.size)⟩
theorem st15_reals (S : St15 w bk sI sR W) {A : Option Addr} {n c lo : Nat} {M : List Nat} (hx : Own elReals W lo 23 (.slice A n c) M) (hs : sR ≤ lo) (hl : w.heap.size ≤ lo) (hM : M.length ≤ 100000 ∧ ∀ y ∈ M, okReals y) :
    Calls Tryz.prog 17 #[.pointer (some ⟨bk, 0, none⟩), .slice A n c] W fun e W2 => e = .returned (.tuple #[]) ∧ St15 w bk sI W.heap.size W2 ∧ (∀ {lo' : Nat} {v : Value} {X : List Int}, Own elInts W lo' 3 v X → Own elInts W2 lo' 3 v X) := by
  obtain ⟨bcs, ZI, ZR, k1, k2, k3, k4⟩ := S.book
  refine (keepReals_any w.heap.size bk sR lo bcs ZR A n c M W k1 k3 hx hs hl S.hbk S.below.size S.leR hM).mono ?_
  rintro e W2 ⟨rfl, bcs', Z', h1, h2, h3, h4, _⟩
  exact ⟨rfl, ⟨⟨bcs', ZI, Z', h1, (k2.tn h4 (twoT_ne (by decide) (by decide)) (twoT_ne (by decide) (by decide))).fields (h3 2 (by decide) (by decide)) (h3 3 (by decide) (by decide)), h2, fun j hj a b c d => by rw [h3 j c d]; exact k4 j hj a b c d⟩, S.hbk, Nat.le_trans S.leI h4.size, h4.size, S.below.trans (h4.below S.below.size)⟩, fun h => h.tn h4 (twoT_ne (by decide) (by decide))⟩
theorem st15_ints (S : St15 w bk sI sR W) {A : Option Addr} {n c lo S' : Nat} {M : List Int} (hx : Own elInts W lo 3 (.slice A n c) M) (hs : sI ≤ lo) (hl : w.heap.size ≤ lo) (hM : M.length ≤ 100000) (h1' : sI ≤ S') (h2' : S' ≤ W.heap.size) (hxS : ∀ g, (Value.slice A n c).ownBlock = some g → g < S') :
    Calls Tryz.prog 18 #[.pointer (some ⟨bk, 0, none⟩), .slice A n c] W fun e W2 => e = .returned (.tuple #[]) ∧ St15 w bk S' sR W2 ∧ (∀ {lo' : Nat} {v : Value} {X : List Int}, Own elInts W lo' 3 v X → Own elInts W2 lo' 3 v X) := by
  obtain ⟨bcs, ZI, ZR, k1, k2, k3, k4⟩ := S.book
  refine (keepIntsS_any w.heap.size bk sI S' lo bcs ZI A n c M W k1 k2 hx hs hl S.hbk S.below.size S.leI ⟨hM, fun _ _ => trivial⟩ h1' hxS).mono ?_
  rintro e W2 ⟨rfl, bcs', Z', h1, h2, h3, h4, _⟩
  exact ⟨rfl, ⟨⟨bcs', Z', ZR, h1, h2, (k3.tn h4 (twoT_ne (by decide) (by decide)) (twoT_ne (by decide) (by decide))).fields (h3 26 (by decide) (by decide)) (h3 27 (by decide) (by decide)), fun j hj a b c d => by rw [h3 j a b]; exact k4 j hj a b c d⟩, S.hbk, Nat.le_trans h2' h4.size, Nat.le_trans S.leR h4.size, S.below.trans (h4.below S.below.size)⟩, fun h => h.tn h4 (twoT_ne (by decide) (by decide))⟩
theorem st15_apart (S : St15 w bk sI sR W) :
    Calls Tryz.prog 19 #[.pointer (some ⟨bk, 0, none⟩)] W fun e W2 => e = .returned (.bool true) ∧ Below w.heap.size w W2 := by
  obtain ⟨bcs, ZI, ZR, k1, k2, k3, k4⟩ := S.book
  exact (apartIntsReals w.heap.size bk bcs ZI sI ZR sR W k1 k2 k3 k4 S.below.size).mono fun e W2 ⟨h1, h2⟩ => ⟨h1, S.below.trans h2⟩
end
/-- What Pick answers, told once. -/
theorem pick_told (L : List FileM) (base ratio : Nat) (hL : L.length ≤ 200) : ∃ (N : Int) (M : List Int) (ok : Bool), M.length ≤ 400 ∧ ∀ (w : World) (e : Ending) (w' : World), PickP L base ratio w e w' → ∃ A c, e = .returned (.tuple #[.int .i64 N, .slice A M.length c, .bool ok]) ∧ Own elInts w' w.heap.size 3 (.slice A M.length c) M ∧ w.grownBy w' none := by
  cases hf : fullP (scoresP L base ratio) 6 with
  | none =>
    refine ⟨0, [], false, by simp, fun w e w' h => ?_⟩
    obtain ⟨h1, h2⟩ := h
    rw [hf] at h2
    exact ⟨none, 0, h2, World.ownsRow_nil _ _ _ _, h1⟩
  | some b =>
    refine ⟨(b : Int), picksP L (b : Int), true, ?_, fun w e w' h => ?_⟩
    · have h1 := due_len L (b : Int)
      unfold picksP
      split
      · simp
      · rename_i f r hd
        rw [hd] at h1
        have h2 := over_len L ((b : Int) + 1) (firstP f.fi (f :: r)) (lastP' f.la (f :: r))
        rw [List.length_append, List.length_map]
        omega
    · obtain ⟨h1, h2⟩ := h
      rw [hf] at h2
      obtain ⟨v, h3, h4⟩ := h2
      obtain ⟨a, c, rfl⟩ := h4.slice
      exact ⟨a, c, h3, h4, h1⟩
theorem wf_f64_t {x : Nat} (h : (Lit.float .f64 x).wf = true) : x < 18446744073709551616 := of_decide_eq_true h
theorem sameL_both {S T U : List Nat} (h1 : SameL S U) (h2 : SameL T U) : SameL S T := h1.trans h2.symm
/-- A book that keeps nothing. -/
abbrev bookNil15 : Array Value := #[.slice none 0 0, .slice none 0 0, .slice none 0 0, .slice none 0 0, .slice none 0 0, .slice none 0 0, .slice none 0 0, .slice none 0 0, .slice none 0 0, .slice none 0 0, .slice none 0 0, .slice none 0 0, .slice none 0 0, .slice none 0 0, .slice none 0 0, .slice none 0 0, .slice none 0 0, .slice none 0 0, .slice none 0 0, .slice none 0 0, .slice none 0 0, .slice none 0 0, .slice none 0 0, .slice none 0 0, .slice none 0 0, .slice none 0 0, .slice none 0 0, .slice none 0 0, .slice none 0 0, .slice none 0 0]
theorem bookNil15_at (j : Nat) (hj : j < 30) : (bookNil15)[j]? = some (.slice none 0 0) := by
  have e : bookNil15 = Array.replicate 30 (Value.slice none 0 0) := by rfl
  rw [e]
  simp [hj]

set_option maxRecDepth 100000 in
set_option maxHeartbeats 16000000 in
theorem lawPickTells (A : Option Addr) (n c : Nat) (L : List FileM) (base : Nat) (hbw : (Lit.float .f64 base).wf = true) (ratio : Nat) (_hrw : (Lit.float .f64 ratio).wf = true) (lv : Int) (_hlv : (Lit.int .i64 lv).wf = true) (fi : ByteArray) (hfi : fi.size ≤ 140737488351232) (la : ByteArray) (hla : la.size ≤ 140737488351232) (w : World) (I : FilesAt w A n L ∧ n ≤ 9223372036854775807 ∧ ∀ f ∈ L, FileOk f) :
    Calls Tryz.prog 3 #[.slice A n c, .float .f64 base, .float .f64 ratio, .int .i64 lv, .string fi, .string la] w fun e w' => e = .returned (.bool true) ∧ Below w.heap.size w w' := by
  have CA := fun W => Lib.hid (alive15_any W)
  by_cases h1 : 200 < (n : Int)
  · clear I
    go_enter Tryz.func3, Tryz.ntmps3
    go_wp2_with fail
    refine (CA _).out.mono ?_
    rintro e w1 ⟨rfl, hb1⟩
    have HB := Lib.hid (below_g hb1)
    clear hb1
    go_wp2_with fail
    go_ret
    exact ⟨rfl, HB.out⟩
  have hn : n ≤ 1000000 := by omega
  have hb64 : base < 18446744073709551616 := wf_f64_t hbw
  have hlen := I.1.len
  obtain ⟨N, M, ok, hM4, hPT⟩ := pick_told L base ratio (by omega)
  have hov : (overP L lv fi la).length ≤ 200 := by have := over_len L lv fi la; omega
  have HI := Lib.hid I
  have Hn := Lib.hid hn
  have CL := fun W (hb : Below w.heap.size w W) => Lib.hid (lent15_any A n c L W (I.1.below hb) hn)
  have lentF : ∀ {W : World} {B g cc : Nat}, Own elFl W B 57 (.slice (some ⟨g, 0, none⟩) (n + 1) cc) (L ++ [endF]) → FilesAt W (some ⟨g, 0, none⟩) n L := fun h => by
    have hX := (own_files h).1
    exact ⟨hlen, fun i m hm => hX.at_ i m (by rw [List.getElem?_append_left (List.getElem?_eq_some_iff.1 hm).1]; exact hm)⟩
  have CS := fun W B g cc (h : Own elFl W B 57 (.slice (some ⟨g, 0, none⟩) (n + 1) cc) (L ++ [endF])) => Lib.hid (pscores_any (some ⟨g, 0, none⟩) n cc L base ratio W (lentF h) hn hb64)
  have CO := fun W B g cc (h : Own elFl W B 57 (.slice (some ⟨g, 0, none⟩) (n + 1) cc) (L ++ [endF])) => Lib.hid (poverlap_any (some ⟨g, 0, none⟩) n cc L lv fi la W (lentF h) hn)
  have CP := fun W B g cc (h : Own elFl W B 57 (.slice (some ⟨g, 0, none⟩) (n + 1) cc) (L ++ [endF])) => Lib.hid ((ppick_any (some ⟨g, 0, none⟩) n cc L base ratio W (lentF h) hn hb64).mono (hPT W))
  have CB := fun W B g cc (h : Own elFl W B 57 (.slice (some ⟨g, 0, none⟩) (n + 1) cc) (L ++ [endF])) => Lib.hid (pbytes_any (some ⟨g, 0, none⟩) n cc L lv W (lentF h) hn)
  have CY := fun W B g cc (h : Own elFl W B 57 (.slice (some ⟨g, 0, none⟩) (n + 1) cc) (L ++ [endF])) (hb : Below w.heap.size w W) => Lib.hid (stays15_any A n c g cc B L W (I.1.below hb) h hn I.2.2)
  have QP := fun W (hb : Below w.heap.size w W) => Lib.hid ((qpick_any A n c L base ratio W (I.1.below hb) hn I.2.2).mono (hPT W))
  have QS := fun W (hb : Below w.heap.size w W) => Lib.hid (qscores_any A n c L base ratio W (I.1.below hb) hn)
  have QO := fun W (hb : Below w.heap.size w W) => Lib.hid (qoverlap_any A n c L lv fi la W (I.1.below hb) hn I.2.2 (by omega) (by omega))
  have QB := fun W (hb : Below w.heap.size w W) => Lib.hid (qbytes_any A n c L lv W (I.1.below hb) hn)
  clear hPT lentF
  generalize bytesP L lv = bz at *
  generalize overP L lv fi la = O at *
  have e1 : (N != N) = false := bne_self_eq_false _
  have e2 : (ok != ok) = false := bne_self_eq_false _
  have e3 : (bz != bz) = false := bne_self_eq_false _
  have e4 : (ok == ok) = true := beq_self_eq_true _
  have HO4 := Lib.hid hov
  have HM4 := Lib.hid hM4
  obtain ⟨no, hno⟩ : ∃ no, O.length = no := ⟨_, rfl⟩
  obtain ⟨nm, hnm⟩ : ∃ nm, M.length = nm := ⟨_, rfl⟩
  rw [hnm] at CP QP
  have HNO := Lib.hid hno
  have HNM := Lib.hid hnm
  have K0 : Hid (Blk (w.alloc (.cells bookNil15 41)) w.heap.size 41 bookNil15) := Lib.hid (Blk.new _ _ _)
  have KB : Hid (Below w.heap.size w (w.alloc (.cells bookNil15 41))) := Lib.hid (below_alloc (Below.refl _ _) (Nat.le_refl _) _)
  have HS : Hid (St15 w w.heap.size 0 0 (w.alloc (.cells bookNil15 41))) := Lib.hid ⟨⟨_, [], [], K0.out, KSt.nil (bookNil15_at 2 (by decide)) (bookNil15_at 3 (by decide)), KSt.nil (bookNil15_at 26 (by decide)) (bookNil15_at 27 (by decide)), fun j hj _ _ _ _ => bookNil15_at j hj⟩, Nat.le_refl _, Nat.zero_le _, Nat.zero_le _, KB.out⟩
  clear K0 KB hov hM4 hno hnm hn hlen I hb64 hbw hfi hla
  go_enter Tryz.func3, Tryz.ntmps3
  unfold bookNil15 at HS
  go_wp2_with fail
  generalize hbk : w.heap.size = bk at HS ⊢
  generalize w.alloc _ = w14 at *
  go_loopw [14] (fun y wr => ∃ (j s t : Nat), j ≤ 2 ∧ y = .int .i64 (j : Int) ∧ Hid (St15 w bk s t wr)) (fun y _ => 2 - (intOf y).toNat)
  case atStart => exact ⟨0, 0, 0, by omega, rfl, HS⟩
  case round =>
    obtain ⟨j, s, t, hj, rfl, HS⟩ := hrel
    by_cases hj2 : j < 2
    · as_aux_lemma =>
      have c1 : (j : Int) < 2 := by omega
      go_wp2_with fail
      refine (CL _ HS.out.below).out.mono ?_
      rintro e w1 ⟨g, cc, rfl, hx, hg1⟩
      have HX := Lib.hid hx
      have HS1 := Lib.hid (HS.out.up (below_g hg1))
      have I1 := Lib.hid (Nat.le_trans HS.out.leI hg1.size)
      have R1 := Lib.hid (Nat.le_trans HS.out.leR hg1.size)
      clear hx hg1 CL HS
      go_wp2_with fail
      refine (CS _ _ g cc HX.out).out.mono ?_
      rintro e w2 ⟨gs, Sx, rfl, ho, hse, hs6, hg2⟩
      have HSx := Lib.hid ho
      have HSE := Lib.hid hse
      have HS6 := Lib.hid hs6
      have HX := Lib.hid (HX.out.below (below_g hg2))
      have HS2 := Lib.hid (HS1.out.up (below_g hg2))
      have G2 := Lib.hid hg2.size
      clear ho hse hs6 hg2 CS
      go_wp2_with fail
      refine (CO _ _ g cc HX.out).out.mono ?_
      rintro e w3 ⟨vo, rfl, ho, hg3⟩
      obtain ⟨ao, co, rfl⟩ := ho.slice
      rw [HNO.out] at ho ⊢
      have HOx := Lib.hid ho
      have B3x : ∀ q, (Value.slice ao no co).ownBlock = some q → q < w3.heap.size := fun q hq => (ho.lt hq).2
      have HX := Lib.hid (HX.out.below (below_g hg3))
      have HSx := Lib.hid (HSx.out.below (below_g hg3))
      have HS3 := Lib.hid (HS2.out.up (below_g hg3))
      have G3 := Lib.hid hg3.size
      clear ho hg3 CO
      go_wp2_with fail
      refine (CP _ _ g cc HX.out).out.mono ?_
      rintro e w4 ⟨am, cm, rfl, hm, hg4⟩
      have HMx := Lib.hid hm
      have HX := Lib.hid (HX.out.below (below_g hg4))
      have HSx := Lib.hid (HSx.out.below (below_g hg4))
      have HOx := Lib.hid (HOx.out.below (below_g hg4))
      have HS4 := Lib.hid (HS3.out.up (below_g hg4))
      have G4 := Lib.hid hg4.size
      have B3 : Hid (∀ q, (Value.slice ao no co).ownBlock = some q → q < w3.heap.size) := Lib.hid B3x
      clear hm hg4 CP
      dsimp only
      go_wp2_with fail
      refine (QP _ HS4.out.below).out.mono ?_
      rintro e w5 ⟨aq, cq, rfl, hq, hg5⟩
      have HQ := Lib.hid hq
      have HX := Lib.hid (HX.out.below (below_g hg5))
      have HSx := Lib.hid (HSx.out.below (below_g hg5))
      have HOx := Lib.hid (HOx.out.below (below_g hg5))
      have HMx := Lib.hid (HMx.out.below (below_g hg5))
      have HS5 := Lib.hid (HS4.out.up (below_g hg5))
      have G5 := Lib.hid hg5.size
      clear hq hg5 QP
      dsimp only
      go_wp2_with fail
      refine (QS _ HS5.out.below).out.mono ?_
      rintro e w6 ⟨gq, cq6, Sy, rfl, hq, hsy, hsy6, hg6⟩
      have HX := Lib.hid (HX.out.below (below_g hg6))
      have HSx := Lib.hid (HSx.out.below (below_g hg6))
      have HOx := Lib.hid (HOx.out.below (below_g hg6))
      have HMx := Lib.hid (HMx.out.below (below_g hg6))
      have HQ := Lib.hid (HQ.out.below (below_g hg6))
      have HS6x := Lib.hid (HS5.out.up (below_g hg6))
      have G6 := Lib.hid hg6.size
      have CM := Lib.hid (samereals_like gs gq 6 6 cq6 _ _ Sx Sy w6 HSx.out hq (sameL_both HSE.out hsy) (by decide) HS6.out hsy6)
      clear hq hsy hsy6 hg6 QS
      go_wp2_with fail
      refine CM.out.mono ?_
      rintro e w7 ⟨rfl, q7, hw7⟩
      have hg7 : w6.grownBy w7 none := by rw [hw7]; exact only_drewN (grefl w6 none) q7
      have HX := Lib.hid (HX.out.below (below_g hg7))
      have HSx := Lib.hid (HSx.out.below (below_g hg7))
      have HOx := Lib.hid (HOx.out.below (below_g hg7))
      have HMx := Lib.hid (HMx.out.below (below_g hg7))
      have HQ := Lib.hid (HQ.out.below (below_g hg7))
      have HS7 := Lib.hid (HS6x.out.up (below_g hg7))
      have G7 := Lib.hid hg7.size
      clear hg7 hw7 CM
      go_wp2_with fail
      refine (QO _ HS7.out.below).out.mono ?_
      rintro e w8 ⟨vq, rfl, hq, hb8⟩
      obtain ⟨ar, cr, rfl⟩ := hq.slice
      rw [HNO.out] at hq ⊢
      have HX := Lib.hid (HX.out.below (hb8))
      have HSx := Lib.hid (HSx.out.below (hb8))
      have HOx := Lib.hid (HOx.out.below (hb8))
      have HMx := Lib.hid (HMx.out.below (hb8))
      have HQ := Lib.hid (HQ.out.below (hb8))
      have HS8 := Lib.hid (HS7.out.up hb8)
      have G8 := Lib.hid hb8.size
      have CM := Lib.hid (sameInts_any ao ar no no co cr _ _ O w8 HOx.out hq (by have := HO4.out; omega) (fun _ _ => trivial))
      clear hq hb8 QO
      go_wp2_with fail
      refine CM.out.mono ?_
      rintro e w9 ⟨rfl, q9, hw9⟩
      have hg9 : w8.grownBy w9 none := by rw [hw9]; exact only_drewN (grefl w8 none) q9
      have HX := Lib.hid (HX.out.below (below_g hg9))
      have HSx := Lib.hid (HSx.out.below (below_g hg9))
      have HOx := Lib.hid (HOx.out.below (below_g hg9))
      have HMx := Lib.hid (HMx.out.below (below_g hg9))
      have HQ := Lib.hid (HQ.out.below (below_g hg9))
      have HS9 := Lib.hid (HS8.out.up (below_g hg9))
      have G9 := Lib.hid hg9.size
      have CM := Lib.hid (sameInts_any am aq nm nm cm cq _ _ M w9 HMx.out HQ.out (by have := HM4.out; omega) (fun _ _ => trivial))
      clear hg9 hw9
      go_wp2_with fail
      refine CM.out.mono ?_
      rintro e w10 ⟨rfl, q10, hw10⟩
      have hg10 : w9.grownBy w10 none := by rw [hw10]; exact only_drewN (grefl w9 none) q10
      have HX := Lib.hid (HX.out.below (below_g hg10))
      have HSx := Lib.hid (HSx.out.below (below_g hg10))
      have HOx := Lib.hid (HOx.out.below (below_g hg10))
      have HMx := Lib.hid (HMx.out.below (below_g hg10))
      have HS10 := Lib.hid (HS9.out.up (below_g hg10))
      have G10 := Lib.hid hg10.size
      clear hg10 hw10 CM HQ
      go_wp2_with fail
      refine (CB _ _ g cc HX.out).out.mono ?_
      rintro e w11 ⟨rfl, hg11⟩
      have HX := Lib.hid (HX.out.below (below_g hg11))
      have HSx := Lib.hid (HSx.out.below (below_g hg11))
      have HOx := Lib.hid (HOx.out.below (below_g hg11))
      have HMx := Lib.hid (HMx.out.below (below_g hg11))
      have HS11 := Lib.hid (HS10.out.up (below_g hg11))
      have G11 := Lib.hid hg11.size
      clear hg11 CB
      go_wp2_with fail
      refine (QB _ HS11.out.below).out.mono ?_
      rintro e w12 ⟨rfl, hg12⟩
      have HX := Lib.hid (HX.out.below (below_g hg12))
      have HSx := Lib.hid (HSx.out.below (below_g hg12))
      have HOx := Lib.hid (HOx.out.below (below_g hg12))
      have HMx := Lib.hid (HMx.out.below (below_g hg12))
      have HS12 := Lib.hid (HS11.out.up (below_g hg12))
      have G12 := Lib.hid hg12.size
      clear hg12 QB
      go_wp2_with fail
      refine (CY _ _ g cc HX.out HS12.out.below).out.mono ?_
      rintro e w13 ⟨rfl, hg13⟩
      have HSx := Lib.hid (HSx.out.below (below_g hg13))
      have HOx := Lib.hid (HOx.out.below (below_g hg13))
      have HMx := Lib.hid (HMx.out.below (below_g hg13))
      have HS13 := Lib.hid (HS12.out.up (below_g hg13))
      have G13 := Lib.hid hg13.size
      clear hg13 CY HX
      go_wp2_with fail
      have L0 : w.heap.size ≤ w1.heap.size := HS1.out.below.size
      have l6 : Sx.length = 6 := (own_reads HSx.out).1.symm
      have KR := Lib.hid (st15_reals HS13.out HSx.out R1.out L0 ⟨by omega, HS6.out⟩)
      clear l6
      go_wp2_with fail
      refine KR.out.mono ?_
      rintro e w14 ⟨rfl, hs14, hk14⟩
      have HOx := Lib.hid (hk14 HOx.out)
      have HMx := Lib.hid (hk14 HMx.out)
      have HS14 := Lib.hid hs14
      have l14 : w13.heap.size ≤ w14.heap.size := hs14.leR
      have l3 : w3.heap.size ≤ w14.heap.size := by have := G4.out; have := G5.out; have := G6.out; have := G7.out; have := G8.out; have := G9.out; have := G10.out; have := G11.out; have := G12.out; have := G13.out; omega
      have KI := Lib.hid (st15_ints (S' := w3.heap.size) hs14 HOx.out (Nat.le_trans I1.out G2.out) (Nat.le_trans L0 G2.out) (by have := HO4.out; have := HNO.out; omega) (by have := I1.out; have := G2.out; have := G3.out; omega) l3 B3.out)
      clear hs14 hk14 l14 KR
      go_wp2_with fail
      refine KI.out.mono ?_
      rintro e w15 ⟨rfl, hs15, hk15⟩
      have HMx := Lib.hid (hk15 HMx.out)
      have HS15 := Lib.hid hs15
      have KJ := Lib.hid (st15_ints (S' := w15.heap.size) hs15 HMx.out (Nat.le_refl _) (Nat.le_trans L0 (Nat.le_trans G2.out G3.out)) (by have := HM4.out; omega) hs15.leI (Nat.le_refl _) (fun q hq => (HMx.out.lt hq).2))
      clear hs15 hk15 KI l3 L0
      go_wp2_with fail
      refine KJ.out.mono ?_
      rintro e w16 ⟨rfl, hs16, _⟩
      have HS16 := Lib.hid hs16
      clear hs16 KJ
      go_wp2_with fail
      go_roundw
      case rel => exact ⟨j + 1, _, _, by omega, by go_num, HS16⟩
      case measure => simp [intOf]; omega
    · as_aux_lemma =>
      obtain rfl : j = 2 := by omega
      clear CL CS CO CP CB CY QP QS QO QB
      go_wp2_with fail
      refine (CA _).out.mono ?_
      rintro e w1 ⟨rfl, hg1⟩
      have HS := Lib.hid (HS.out.up (below_g hg1))
      clear hg1
      go_wp2_with fail
      refine (st15_apart HS.out).mono ?_
      rintro e w2 ⟨rfl, hb1⟩
      have HB := Lib.hid hb1
      clear hb1
      go_wp2_with fail
      go_ret
      exact ⟨rfl, HB.out⟩
end Go.Proofs.YtkhmbkofkdnlkaaGreat
