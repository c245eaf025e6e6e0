/-
  The law SstAlike, walked.
-/
import Derived.Test.YtcbgflidlpmhcaaDoorM6
import Derived.Test.YtcbgflidlpmhcaaDoorM3
import Derived.Test.YtcbgflidlpmhcaaDoorM5
namespace Go.Proofs.YtcbgflidlpmhcaaDoor
open Go.RowKit

theorem write_take {L : List KV} {k : Nat} (hl : wtK L ≤ 60000) (he : writeE L = 0) (hk : 1 ≤ k) : writeE (L.take k) = 0 := by
  have hlt : wtK (L.take k) ≤ 60000 := Nat.le_trans (wtK_take L k) hl
  obtain ⟨h1, h2, _, _⟩ := light_short hlt
  have hR : risesK L = true := by
    cases h : risesK L
    · unfold writeE at he
      rw [if_pos h] at he
      cases he
    · rfl
  have hne : L ≠ [] := by
    rintro rfl
    have h9 : writeE [] = 1 := by decide +kernel
    rw [h9] at he
    cases he
  have hb : (buildP (L.take k)).2 = 0 := by
    unfold buildP
    rw [if_neg (by rw [rises_take L k hR]; decide), if_neg (by rw [h1]; decide), if_neg (by omega)]
  unfold writeE
  rw [if_neg (by rw [rises_take L k hR]; decide), if_pos hb, if_neg]
  intro h
  have h5 : (L.take k).length = 0 := by rw [h]; rfl
  rw [List.length_take] at h5
  have h6 := List.length_pos_iff.2 hne
  omega
theorem KeysAt.first {w : World} {A : Option Addr} {n k : Nat} {L : List KV} (h : KeysAt w A n L) (hk : k ≤ n) : KeysAt w A k (L.take k) :=
  ⟨by rw [List.length_take, ← h.len]; omega, fun i m hm => by
    rw [List.getElem?_take] at hm
    split at hm
    · exact h.at_ i m hm
    · cases hm⟩
set_option maxRecDepth 100000 in
set_option maxHeartbeats 16000000 in
theorem lawSstAlike (A : Option Addr) (n c : Nat) (L : List KV) (a : Nat) (_ha : (Lit.float .f64 a).wf = true) (b : Nat) (_hb : (Lit.float .f64 b).wf = true) (k : Int) (_hk : (Lit.int .i64 k).wf = true) (w : World) (I : PairsIn w A n L) (hcap : n ≤ c) (hT : LaidS w) :
    Calls Tryd.prog 6 #[.slice A n c, .float .f64 a, .float .f64 b, .int .i64 k] w fun e w' => e = .returned (.bool true) ∧ Below w.heap.size w w' := by
  have CL := Lib.hid (light13_any A n c L w I)
  have CA := fun W (hb : Below w.heap.size w W) => Lib.hid (alive13_any W (hT.on hb))
  have exit_ : ∀ (t1 t2 t3 : Bool), decide (wtK L ≤ 60000) = t1 → decide (k < 1) = t2 → decide ((n : Int) < k) = t3 → (!t1 || t2 || t3) = true →
      Calls Tryd.prog 6 #[.slice A n c, .float .f64 a, .float .f64 b, .int .i64 k] w fun e w' => e = .returned (.bool true) ∧ Below w.heap.size w w' := by
    intro t1 t2 t3 g1 g2 g3 g4
    rw [g1] at CL
    clear hT I hcap g1
    cases t1 <;> cases t2 <;> cases t3
    case true.false.false => cases g4
    all_goals
      clear g4
      go_enter Tryd.func6, Tryd.ntmps6
      go_wp2_with fail
      refine CL.out.mono ?_
      rintro e w1 ⟨rfl, hb1⟩
      have HB := Lib.hid hb1
      clear hb1 CL
      go_wp2_with fail
      refine (CA _ HB.out).out.mono ?_
      rintro e w1 ⟨rfl, hb1⟩
      have HB := Lib.hid (HB.out.trans (hb1.mono HB.out.size))
      clear hb1
      go_wp2_with fail
      go_ret
      exact ⟨rfl, HB.out⟩
  by_cases hlt : wtK L ≤ 60000
  case neg => exact exit_ false _ _ (decide_eq_false hlt) rfl rfl rfl
  by_cases hk1 : k < 1
  · exact exit_ true true _ (decide_eq_true hlt) (decide_eq_true hk1) rfl rfl
  by_cases hk2 : (n : Int) < k
  · exact exit_ true false true (decide_eq_true hlt) (decide_eq_false hk1) (decide_eq_true hk2) rfl
  clear exit_
  rw [decide_eq_true hlt] at CL
  obtain ⟨q, rfl⟩ : ∃ q : Nat, k = (q : Int) := ⟨k.toNat, by omega⟩
  have hlen := I.at_.len
  have hltq : wtK (L.take q) ≤ 60000 := Nat.le_trans (wtK_take L q) hlt
  have W1 := fun x W (hb : Below w.heap.size w W) => Lib.hid (swrite_any A n c L x W (I.at_.below hb) hcap hlt (hT.on hb))
  have W3 := fun W (hb : Below w.heap.size w W) => Lib.hid (swrite_any A q c (L.take q) a W ((I.at_.below hb).first (by omega)) (by omega) hltq (hT.on hb))
  have c1 : (1 : Int) ≤ (q : Int) := by omega
  have c2 : (q : Int) ≤ (n : Int) := by omega
  have c3 : (q : Int) ≤ (c : Int) := by omega
  have c4 : (0 : Int) ≤ (q : Int) := by omega
  have g2 : decide ((q : Int) < 1) = false := decide_eq_false hk1
  have g3 : decide ((n : Int) < (q : Int)) = false := decide_eq_false hk2
  have pre : ∀ (P : World → ByteArray → ByteArray → ByteArray → Prop), True := fun _ => trivial
  clear pre
  by_cases he : writeE L = 0
  · have he3 := write_take hlt he (show 1 ≤ q by omega)
    rw [he] at W1
    rw [he3] at W3
    have W1 := fun x W hb => (W1 x W hb).out
    have W3 := fun W hb => (W3 W hb).out
    have O1 := fun x b W (h : WrtP L x b) (hb : Below w.heap.size w W) => Lib.hid (sopen_any L x b W h (hT.on hb))
    have O3 := fun b W (h : WrtP (L.take q) a b) (hb : Below w.heap.size w W) => Lib.hid (sopen_any (L.take q) a b W h (hT.on hb))
    have hne : 0 < L.length := by omega
    have hm0 : L[0]? = some L[0] := List.getElem?_eq_getElem hne
    have hm3 : (L.take q)[0]? = some L[0] := by rw [List.getElem?_take, if_pos (by omega)]; exact hm0
    generalize L[0] = m0 at *
    have hokL : ∀ x ∈ L, okKeys x := fun x hx => by have := wtK_all L x hx; exact ⟨by omega, by omega⟩
    have Hok := Lib.hid hokL
    have hn3 : L.length ≤ 3000 := (light_short hlt).2.2.2
    have Hn3 := Lib.hid hn3
    have hble : ¬ ((blocksK L : Nat) : Int) < ((blocksK (L.take q) : Nat) : Int) := by
      have := blocks_le (L.take q) (L.drop q)
      rw [List.take_append_drop] at this
      omega
    have F1 : ∀ W t F, TabAt W t L F → Below w.heap.size w W → Hid (Calls Tryd.prog 12 #[.pointer (some ⟨t, 0, none⟩), .string ⟨#[]⟩, .int .i64 (-1)] W fun e w' => ∃ v, e = .returned v ∧ Own elKeys w' W.heap.size 35 v L ∧ Below W.heap.size W w') := fun W t F h hb => Lib.hid (by
      have h9 := sfrom_any h (hT.on hb) ⟨#[]⟩ (-1) (by decide)
      rw [fromK_empty L] at h9
      exact h9)
    have F2 : ∀ W t F, TabAt W t L F → Below w.heap.size w W → Hid (Calls Tryd.prog 12 #[.pointer (some ⟨t, 0, none⟩), .string ⟨#[]⟩, .int .i64 (q : Int)] W fun e w' => ∃ v, e = .returned v ∧ Own elKeys w' W.heap.size 35 v (L.take q) ∧ Below W.heap.size W w') := fun W t F h hb => Lib.hid (by
      have h9 := sfrom_any h (hT.on hb) ⟨#[]⟩ (q : Int) (by decide)
      rw [fromK_first L q] at h9
      exact h9)
    have F3 : ∀ W t F, TabAt W t (L.take q) F → Below w.heap.size w W → Hid (Calls Tryd.prog 12 #[.pointer (some ⟨t, 0, none⟩), .string ⟨#[]⟩, .int .i64 (-1)] W fun e w' => ∃ v, e = .returned v ∧ Own elKeys w' W.heap.size 35 v (L.take q) ∧ Below W.heap.size W w') := fun W t F h hb => Lib.hid (by
      have h9 := sfrom_any h (hT.on hb) ⟨#[]⟩ (-1) (by decide)
      rw [fromK_empty (L.take q)] at h9
      exact h9)
    have Hm0 := Lib.hid hm0
    have Hm3 := Lib.hid hm3
    have Hsub := Lib.hid (fun y (hy : y ∈ L.take q) => hokL y (List.mem_of_mem_take hy))
    have hq3 : (L.take q).length ≤ 3000 := by rw [List.length_take]; omega
    have Hq3 := Lib.hid hq3
    clear hlt hltq hlen I hT he he3 hne hm0 hm3 hokL hn3 hk1 hk2 hcap hq3
    obtain ⟨Lq, hLq⟩ : ∃ Lq, L.take q = Lq := ⟨_, rfl⟩
    simp only [hLq] at O3 F2 F3 W3 Hm3 hble Hsub Hq3
    have HLq := Lib.hid hLq
    clear hLq
    go_enter Tryd.func6, Tryd.ntmps6
    go_wp2_with fail
    refine CL.out.mono ?_
    rintro e w1 ⟨rfl, hb1⟩
    have HB := Lib.hid hb1
    clear hb1 CL
    go_wp2_with fail
    refine (W1 _ _ HB.out).mono ?_
    rintro e w2 ⟨s1, rfl, hw1, -, hb1⟩
    have HW1 := Lib.hid (hw1 (by first | rfl | trivial))
    have HB := Lib.hid (HB.out.trans (hb1.mono HB.out.size))
    clear hb1 hw1
    dsimp only
    go_wp2_with fail
    refine (W1 _ _ HB.out).mono ?_
    rintro e w3 ⟨s2, rfl, hw1, -, hb1⟩
    have HW2 := Lib.hid (hw1 (by first | rfl | trivial))
    have HB := Lib.hid (HB.out.trans (hb1.mono HB.out.size))
    clear hb1 hw1 W1
    dsimp only
    go_wp2_with fail
    refine (W3 _ HB.out).mono ?_
    rintro e w4 ⟨s3, rfl, hw1, -, hb1⟩
    have hw9 := hw1 (by first | rfl | trivial)
    have HW3 : Hid (WrtP Lq a s3) := Lib.hid (by rw [← HLq.out]; exact hw9)
    clear hw9
    have HB := Lib.hid (HB.out.trans (hb1.mono HB.out.size))
    clear hb1 hw1 W3
    dsimp only
    go_wp2_with fail
    refine (O1 a s1 _ HW1.out HB.out).out.mono ?_
    rintro e w1 ⟨p1, rfl, ht, hb1⟩
    have HB := Lib.hid (HB.out.trans (hb1.mono HB.out.size))
    have Tp1 := Lib.hid ht
    clear hb1 ht
    dsimp only
    go_wp2_with fail
    refine (O1 b s2 _ HW2.out HB.out).out.mono ?_
    rintro e w1 ⟨p2, rfl, ht, hb1⟩
    have Tp1 := Lib.hid (Tp1.out.up hb1)
    have HB := Lib.hid (HB.out.trans (hb1.mono HB.out.size))
    have Tp2 := Lib.hid ht
    clear hb1 ht
    dsimp only
    go_wp2_with fail
    refine (O3 s3 _ HW3.out HB.out).out.mono ?_
    rintro e w1 ⟨p3, rfl, ht, hb1⟩
    have Tp1 := Lib.hid (Tp1.out.up hb1)
    have Tp2 := Lib.hid (Tp2.out.up hb1)
    have HB := Lib.hid (HB.out.trans (hb1.mono HB.out.size))
    have Tp3 := Lib.hid ht
    clear hb1 ht
    dsimp only
    go_wp2_with fail
    refine ((CA _ HB.out).out).mono ?_
    rintro e w1 ⟨rfl, hb1⟩
    have Tp1 := Lib.hid (Tp1.out.up hb1)
    have Tp2 := Lib.hid (Tp2.out.up hb1)
    have Tp3 := Lib.hid (Tp3.out.up hb1)
    have HB := Lib.hid (HB.out.trans (hb1.mono HB.out.size))
    clear hb1
    go_wp2_with fail
    refine (F1 _ p1 _ Tp1.out HB.out).out.mono ?_
    rintro e w1 ⟨v, rfl, hv, hb1⟩
    obtain ⟨Ax, cx, rfl⟩ := Own.slice hv
    have Tp1 := Lib.hid (Tp1.out.up hb1)
    have Tp2 := Lib.hid (Tp2.out.up hb1)
    have Tp3 := Lib.hid (Tp3.out.up hb1)
    have HB := Lib.hid (HB.out.trans (hb1.mono HB.out.size))
    have Mx := Lib.hid (Own.keysAt hv)
    clear hb1 hv
    go_wp2_with fail
    refine (F1 _ p2 _ Tp2.out HB.out).out.mono ?_
    rintro e w1 ⟨v, rfl, hv, hb1⟩
    obtain ⟨Ay, cy, rfl⟩ := Own.slice hv
    have Tp1 := Lib.hid (Tp1.out.up hb1)
    have Tp2 := Lib.hid (Tp2.out.up hb1)
    have Tp3 := Lib.hid (Tp3.out.up hb1)
    have Mx := Lib.hid (Mx.out.below hb1)
    have HB := Lib.hid (HB.out.trans (hb1.mono HB.out.size))
    have My := Lib.hid (Own.keysAt hv)
    clear hb1 hv
    go_wp2_with fail
    refine (same_at Ax Ay L.length cx cy L _ Mx.out My.out (by have := Hn3.out; omega) Hok.out).mono ?_
    rintro e w1 ⟨rfl, hb1⟩
    have Tp1 := Lib.hid (Tp1.out.up hb1)
    have Tp2 := Lib.hid (Tp2.out.up hb1)
    have Tp3 := Lib.hid (Tp3.out.up hb1)
    have Mx := Lib.hid (Mx.out.below hb1)
    have My := Lib.hid (My.out.below hb1)
    have HB := Lib.hid (HB.out.trans (hb1.mono HB.out.size))
    clear hb1
    go_wp2_with fail
    refine (F3 _ p3 _ Tp3.out HB.out).out.mono ?_
    rintro e w1 ⟨v, rfl, hv, hb1⟩
    obtain ⟨Az, cz, rfl⟩ := Own.slice hv
    have Tp1 := Lib.hid (Tp1.out.up hb1)
    have Tp2 := Lib.hid (Tp2.out.up hb1)
    have Tp3 := Lib.hid (Tp3.out.up hb1)
    have HB := Lib.hid (HB.out.trans (hb1.mono HB.out.size))
    have Mz := Lib.hid (Own.keysAt hv)
    clear hb1 hv
    go_wp2_with fail
    refine (F2 _ p1 _ Tp1.out HB.out).out.mono ?_
    rintro e w1 ⟨v, rfl, hv, hb1⟩
    obtain ⟨Au, cu, rfl⟩ := Own.slice hv
    have Tp1 := Lib.hid (Tp1.out.up hb1)
    have Tp2 := Lib.hid (Tp2.out.up hb1)
    have Tp3 := Lib.hid (Tp3.out.up hb1)
    have Mz := Lib.hid (Mz.out.below hb1)
    have HB := Lib.hid (HB.out.trans (hb1.mono HB.out.size))
    have Mu := Lib.hid (Own.keysAt hv)
    clear hb1 hv
    go_wp2_with fail
    refine (same_at Az Au Lq.length cz cu Lq _ Mz.out Mu.out (by have := Hq3.out; omega) Hsub.out).mono ?_
    rintro e w1 ⟨rfl, hb1⟩
    have Tp1 := Lib.hid (Tp1.out.up hb1)
    have Tp2 := Lib.hid (Tp2.out.up hb1)
    have Tp3 := Lib.hid (Tp3.out.up hb1)
    have Mz := Lib.hid (Mz.out.below hb1)
    have Mu := Lib.hid (Mu.out.below hb1)
    have HB := Lib.hid (HB.out.trans (hb1.mono HB.out.size))
    clear hb1
    go_wp2_with fail
    refine (sblocks_any Tp1.out).mono ?_
    rintro e w1 ⟨rfl, hb1⟩
    have Tp1 := Lib.hid (Tp1.out.up hb1)
    have Tp2 := Lib.hid (Tp2.out.up hb1)
    have Tp3 := Lib.hid (Tp3.out.up hb1)
    have HB := Lib.hid (HB.out.trans (hb1.mono HB.out.size))
    clear hb1
    go_wp2_with fail
    refine (sblocks_any Tp2.out).mono ?_
    rintro e w1 ⟨rfl, hb1⟩
    have Tp1 := Lib.hid (Tp1.out.up hb1)
    have Tp2 := Lib.hid (Tp2.out.up hb1)
    have Tp3 := Lib.hid (Tp3.out.up hb1)
    have HB := Lib.hid (HB.out.trans (hb1.mono HB.out.size))
    clear hb1
    go_wp2_with fail
    refine (sblocks_any Tp3.out).mono ?_
    rintro e w1 ⟨rfl, hb1⟩
    have Tp1 := Lib.hid (Tp1.out.up hb1)
    have Tp2 := Lib.hid (Tp2.out.up hb1)
    have Tp3 := Lib.hid (Tp3.out.up hb1)
    have HB := Lib.hid (HB.out.trans (hb1.mono HB.out.size))
    clear hb1
    go_wp2_with fail
    refine (sblocks_any Tp1.out).mono ?_
    rintro e w1 ⟨rfl, hb1⟩
    have Tp1 := Lib.hid (Tp1.out.up hb1)
    have Tp2 := Lib.hid (Tp2.out.up hb1)
    have Tp3 := Lib.hid (Tp3.out.up hb1)
    have HB := Lib.hid (HB.out.trans (hb1.mono HB.out.size))
    clear hb1
    go_wp2_with fail
    refine (sfirst_any Tp3.out Hm3.out).mono ?_
    rintro e w1 ⟨rfl, hb1⟩
    have Tp1 := Lib.hid (Tp1.out.up hb1)
    have Tp2 := Lib.hid (Tp2.out.up hb1)
    have Tp3 := Lib.hid (Tp3.out.up hb1)
    have HB := Lib.hid (HB.out.trans (hb1.mono HB.out.size))
    clear hb1
    go_wp2_with fail
    refine (sfirst_any Tp1.out Hm0.out).mono ?_
    rintro e w1 ⟨rfl, hb1⟩
    have Tp1 := Lib.hid (Tp1.out.up hb1)
    have Tp2 := Lib.hid (Tp2.out.up hb1)
    have Tp3 := Lib.hid (Tp3.out.up hb1)
    have HB := Lib.hid (HB.out.trans (hb1.mono HB.out.size))
    clear hb1
    go_wp2_with fail
    go_ret
    exact ⟨rfl, HB.out⟩
  · obtain ⟨er, her⟩ : ∃ er, writeE L = er := ⟨_, rfl⟩
    rw [her] at he W1
    have W1 := fun x W hb => (W1 x W hb).out
    have W3 := fun W hb => (W3 W hb).out
    have e1 : (er != 0) = true := bne_iff_ne.2 he
    have e2 : (er == 0) = false := beq_eq_false_iff_ne.2 he
    have e3 : (er == er) = true := beq_self_eq_true _
    clear hlt hltq hlen I hT her he hk1 hk2 hcap
    go_enter Tryd.func6, Tryd.ntmps6
    go_wp2_with fail
    refine CL.out.mono ?_
    rintro e w1 ⟨rfl, hb1⟩
    have HB := Lib.hid hb1
    clear hb1 CL
    go_wp2_with fail
    refine (W1 _ _ HB.out).mono ?_
    rintro e w2 ⟨s1, rfl, -, -, hb1⟩
    have HB := Lib.hid (HB.out.trans (hb1.mono HB.out.size))
    clear hb1
    dsimp only
    go_wp2_with fail
    refine (W1 _ _ HB.out).mono ?_
    rintro e w3 ⟨s2, rfl, -, -, hb1⟩
    have HB := Lib.hid (HB.out.trans (hb1.mono HB.out.size))
    clear hb1 W1
    dsimp only
    go_wp2_with fail
    refine (W3 _ HB.out).mono ?_
    rintro e w4 ⟨s3, rfl, -, -, hb1⟩
    have HB := Lib.hid (HB.out.trans (hb1.mono HB.out.size))
    clear hb1 W3
    dsimp only
    go_wp2_with fail
    refine (CA _ HB.out).out.mono ?_
    rintro e w5 ⟨rfl, hb1⟩
    have HB := Lib.hid (HB.out.trans (hb1.mono HB.out.size))
    clear hb1
    go_wp2_with fail
    go_ret
    exact ⟨rfl, HB.out⟩
end Go.Proofs.YtcbgflidlpmhcaaDoor
