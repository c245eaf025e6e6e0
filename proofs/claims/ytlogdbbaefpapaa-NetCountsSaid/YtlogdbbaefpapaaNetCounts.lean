/-
  NetCounts: each message that was sent is on its way, was delivered, or was lost, as often as it was made twice and once more.
-/
import Derived.Test.YtlogdbbaefpapaaNetCuts
import Derived.Test.YtlogdbbaefpapaaView4
import Derived.LoopTactic
import Derived.StillTailTactics
namespace Go.Proofs.Ytlogdbbaefpapaa
open Go.RowKit Go.Maps

abbrev Ms := List (Int × Int × ByteArray)
theorem send_cnt (L : Ms) (C : List (Int × Int)) (lo f t : Int) (s : ByteArray) (hs : s.size ≤ 65536) :
    (∃ L' lo', sendP ⟨3, L, C, lo⟩ f t s = (0, ⟨3, L', C, lo'⟩) ∧ (L'.length : Int) + lo' = (L.length : Int) + lo + 1 ∧ lo ≤ lo') ∨ sendP ⟨3, L, C, lo⟩ f t s = (1, ⟨3, L, C, lo⟩) := by
  unfold sendP
  have h1 : decide (65536 < s.size) = false := decide_eq_false (by omega)
  cases wayB 3 f t with
  | false => exact Or.inr rfl
  | true =>
    refine Or.inl ?_
    dsimp only
    rw [h1]
    cases C.contains (f, t) || decide (400 ≤ L.length) with
    | true => exact ⟨L, lo + 1, rfl, by omega, by omega⟩
    | false => exact ⟨L ++ [(f, t, s)], lo, rfl, by simp; omega, by omega⟩
theorem atP_cases (x : N8) (i : Int) : atP x i = none ∨ (∃ m, atP x i = some m ∧ (outP x i).L.length + 1 = x.L.length) := by
  by_cases h : i < 0 ∨ (x.L.length : Int) ≤ i
  · exact Or.inl (atP_out h)
  · obtain ⟨j, rfl⟩ : ∃ j : Nat, i = (j : Int) := ⟨i.toNat, by omega⟩
    have hj : j < x.L.length := by omega
    refine Or.inr ⟨x.L[j], atP_in (List.getElem?_eq_getElem hj), ?_⟩
    simp [outP]
    omega
theorem deliver_cnt (L : Ms) (C : List (Int × Int)) (lo i : Int) :
    (∃ m L', peekP ⟨3, L, C, lo⟩ i = (0, m) ∧ deliverP ⟨3, L, C, lo⟩ i = ⟨3, L', C, lo⟩ ∧ L'.length + 1 = L.length) ∨ (peekP ⟨3, L, C, lo⟩ i = (5, noMsg) ∧ deliverP ⟨3, L, C, lo⟩ i = ⟨3, L, C, lo⟩) := by
  unfold peekP deliverP
  rcases atP_cases ⟨3, L, C, lo⟩ i with h | ⟨m, h, h2⟩
  · rw [h]; exact Or.inr ⟨rfl, rfl⟩
  · rw [h]; exact Or.inl ⟨m, _, rfl, rfl, h2⟩
theorem drop_cnt (L : Ms) (C : List (Int × Int)) (lo i : Int) :
    ∃ er L' lo', dropP ⟨3, L, C, lo⟩ i = (er, ⟨3, L', C, lo'⟩) ∧ (L'.length : Int) + lo' = (L.length : Int) + lo ∧ lo ≤ lo' := by
  unfold dropP
  rcases atP_cases ⟨3, L, C, lo⟩ i with h | ⟨m, h, h2⟩
  · rw [h]; exact ⟨5, L, lo, rfl, rfl, by omega⟩
  · rw [h]; exact ⟨0, _, lo + 1, rfl, by dsimp only at h2; dsimp only [outP] at h2 ⊢; omega, by omega⟩
theorem twice_cnt (L : Ms) (C : List (Int × Int)) (lo i : Int) (hL : L.length ≤ 300) :
    (∃ L', twiceP ⟨3, L, C, lo⟩ i = (0, ⟨3, L', C, lo⟩) ∧ L'.length = L.length + 1) ∨ twiceP ⟨3, L, C, lo⟩ i = (5, ⟨3, L, C, lo⟩) := by
  unfold twiceP
  rcases atP_cases ⟨3, L, C, lo⟩ i with h | ⟨m, h, h2⟩
  · rw [h]; exact Or.inr rfl
  · rw [h]
    dsimp only
    rw [show decide (400 ≤ L.length) = false from decide_eq_false (by omega)]
    exact Or.inl ⟨L ++ [m], rfl, by simp⟩
theorem cut_cnt (L : Ms) (C : List (Int × Int)) (lo a b : Int) (c : Bool) : ∃ er C', cutP ⟨3, L, C, lo⟩ a b c = (er, ⟨3, L, C', lo⟩) := by
  unfold cutP
  cases wayB 3 a b with
  | false => exact ⟨1, C, rfl⟩
  | true => exact ⟨0, _, rfl⟩
theorem NetAt.drew {B p k : Nat} {x : N8} {W : World} (h : NetAt B p k W x) : NetAt B p k W.drew x := h.up (kgrow_drew W)
theorem cmp_eq {a b c : Int} {l : Nat} (h : a = b + (l : Int) + c) : (a == b + (l : Int) + c) = true := by rw [beq_iff_eq]; exact h

set_option maxRecDepth 100000 in
set_option maxHeartbeats 1000000 in
theorem netcounts_long (A : Option Addr) (n c : Nat) (w : World) (h : 300 < n) :
    Calls Try.prog 5 #[.slice A n c] w fun e w' => e = .returned (.bool true) ∧ Below w.heap.size w w' := by
  have al := Lib.hid (alive8_any w)
  have g1 : (300 : Int) < (n : Int) := by omega
  clear h
  go_enter Try.func5, Try.ntmps5
  go_wp2_with fail
  refine al.out.mono ?_
  rintro e w1 ⟨rfl, h⟩
  have H := Lib.hid h
  clear h
  go_wp2_with fail
  go_ret
  exact ⟨rfl, H.out⟩

set_option maxRecDepth 100000 in
set_option maxHeartbeats 8000000 in
theorem netcounts_some (A : Option Addr) (n c : Nat) (K X Y : Nat → Int) (D : Nat → ByteArray) (w : World) (I : NOpsIn w A n K X Y D) (h : n ≤ 300) :
    Calls Try.prog 5 #[.slice A n c] w fun e w' => e = .returned (.bool true) ∧ Below w.heap.size w w' := by
  have g1 : ¬ (300 : Int) < (n : Int) := by omega
  have HI := Lib.hid I
  have HA := fun W => Lib.hid (alive8_any W)
  have s0 := Lib.hid (new_any 3 w (by decide) (by decide))
  clear I
  go_enter Try.func5, Try.ntmps5
  go_wp2_with fail
  refine s0.out.mono ?_
  rintro e w1 ⟨p, rfl, hN, hg⟩
  have N0 := Lib.hid hN
  have G0 := Lib.hid (Fr.of_grown (B := w.heap.size) (T := netObj) hg)
  unfold newP at N0
  clear hN hg s0
  go_wp2_with fail
  go_loopw [4, 5, 6] (fun a b i wr => ∃ (k : Nat) (L : Ms) (C : List (Int × Int)) (lo came sent : Int), k ≤ n ∧ i = .int .i64 (k : Int) ∧ a = .int .i64 sent ∧ b = .int .i64 came ∧ Hid (sent = came + (L.length : Int) + lo ∧ 0 ≤ lo ∧ 0 ≤ came ∧ sent ≤ (k : Int)) ∧ Hid (NetAt w.heap.size p k wr ⟨3, L, C, lo⟩) ∧ Hid (Fr w.heap.size netObj w wr)) (fun _ _ i _ => n - (intOf i).toNat)
  case atStart => exact ⟨0, [], [], 0, 0, 0, by omega, rfl, rfl, rfl, ⟨rfl, by decide, by decide, by decide⟩, N0, G0⟩
  case round =>
    obtain ⟨k, L, C, lo, came, sent, hk, rfl, rfl, rfl, Ar, N, G⟩ := hrel
    by_cases hl : k < n
    · obtain ⟨b, off, rfl, hcc⟩ := HI.out.at hl
      obtain ⟨wx, wy, hzs⟩ := HI.out.wf k hl
      obtain ⟨x0, x1, x2, x3⟩ := hcc _ (G.out.below (Nat.le_refl _))
      have hL3 : L.length ≤ 300 := by have := Ar.out; omega
      have g2 : (k : Int) < (n : Int) := by omega
      clear hcc
      generalize K k = kd at *
      generalize X k = f at *
      generalize Y k = t at *
      generalize D k = s at *
      by_cases hbig : 1000 < s.size
      · have g3 : (1000 : Int) < (s.size : Int) := by omega
        go_wp2_with fail
        refine (HA _).out.mono ?_
        rintro e w2 ⟨rfl, hb⟩
        have H := Lib.hid ((G.out.below (Nat.le_refl _)).trans (hb.mono G.out.size))
        clear hb
        go_wp2_with fail
        go_ret
        exact ⟨rfl, H.out⟩
      have g3 : ¬ (1000 : Int) < (s.size : Int) := by omega
      have hs65 : s.size ≤ 65536 := by omega
      clear hbig
      have U : ∀ j, Hid (NetAt w.heap.size p k (wr.drewN j) ⟨3, L, C, lo⟩) := fun j => N.out.up (only_drewN (kgrow_refl wr none) j)
      have UG : ∀ j, Hid (Fr w.heap.size netObj w (wr.drewN j)) := fun j => G.out.drewN j
      have hl0 : Hid (0 ≤ lo ∧ lo < 9223372036854775807) := by have := Ar.out; exact ⟨by omega, by omega⟩
      by_cases k1 : kd = 1
      · subst k1
        have UGd := UG 1
        rcases send_cnt L C lo f t s hs65 with ⟨L', lo', h1, h2, h3⟩ | h1
        · have S : Hid (Calls Try.prog 10 #[.pointer (some ⟨p, 0, none⟩), .int .i64 f, .int .i64 t, .string s] wr.drew fun e w' => e = .returned (.int .i64 0) ∧ NetAt w.heap.size p (k + 1) w' ⟨3, L', C, lo'⟩ ∧ Fr w.heap.size netObj wr.drew w') := by
            have hh := send_any w.heap.size p k ⟨3, L, C, lo⟩ f t s wr.drew (U 1).out hl0.out.1 hl0.out.2 (by dsimp only; omega) wx wy hzs G.out.drew.size
            rw [h1] at hh
            exact hh.mono fun e w' h => ⟨h.1, h.2.1.mono (Nat.le_succ k), h.2.2⟩

          have Ar4 : Hid ((sent + 1) = came + ((L').length : Int) + lo' ∧ 0 ≤ lo' ∧ 0 ≤ came ∧ (sent + 1) ≤ ((k + 1 : Nat) : Int)) := by have := Ar.out; exact ⟨by omega, by omega, by omega, by push_cast; omega⟩
          have gs : wrap64 (sent + 1) = sent + 1 := by have := Ar.out; unfold wrap64; omega
          clear h1 h2 h3
          clear Ar U UG hl0 hL3 hs65
          go_wp2_with fail
          go_still_tail 16, (by kernel_rfl)
          change wpList _ _ _ _ _ wr.drew
          go_wp2_with fail
          refine S.out.mono ?_
          rintro e w4 ⟨rfl, hN, hg⟩
          have N4 := Lib.hid hN
          have G4 := Lib.hid (UGd.out.trans hg)
          clear hN hg S N G
          have gc := cmp_eq Ar4.out.1
          have gw1 : wrap64 (came + ((L').length : Int)) = came + ((L').length : Int) := by have := Ar4.out; unfold wrap64; omega
          have gw2 : wrap64 (came + ((L').length : Int) + lo') = came + ((L').length : Int) + lo' := by have := Ar4.out; unfold wrap64; omega
          have C1 := Lib.hid (len_any N4.out)
          have C2 := Lib.hid (lost_any N4.out)
          dsimp only at C1 C2
          go_wp2_with fail
          refine C1.out.mono ?_
          rintro e w7 ⟨rfl, rfl⟩
          go_wp2_with fail
          refine C2.out.mono ?_
          rintro e w7 ⟨rfl, rfl⟩
          go_wp2_with fail
          go_roundw
          case rel => exact ⟨k + 1, L', C, lo', came, (sent + 1), by omega, by go_num, rfl, rfl, Ar4, N4, G4⟩
          case measure => simp [intOf]; omega
        · have S : Hid (Calls Try.prog 10 #[.pointer (some ⟨p, 0, none⟩), .int .i64 f, .int .i64 t, .string s] wr.drew fun e w' => e = .returned (.int .i64 1) ∧ NetAt w.heap.size p (k + 1) w' ⟨3, L, C, lo⟩ ∧ Fr w.heap.size netObj wr.drew w') := by
            have hh := send_any w.heap.size p k ⟨3, L, C, lo⟩ f t s wr.drew (U 1).out hl0.out.1 hl0.out.2 (by dsimp only; omega) wx wy hzs G.out.drew.size
            rw [h1] at hh
            exact hh.mono fun e w' h => ⟨h.1, h.2.1.mono (Nat.le_succ k), h.2.2⟩

          have Ar4 : Hid (sent = came + ((L).length : Int) + lo ∧ 0 ≤ lo ∧ 0 ≤ came ∧ sent ≤ ((k + 1 : Nat) : Int)) := by have := Ar.out; exact ⟨by omega, by omega, by omega, by push_cast; omega⟩
          clear h1
          clear Ar U UG hl0 hL3 hs65
          go_wp2_with fail
          go_still_tail 16, (by kernel_rfl)
          change wpList _ _ _ _ _ wr.drew
          go_wp2_with fail
          refine S.out.mono ?_
          rintro e w4 ⟨rfl, hN, hg⟩
          have N4 := Lib.hid hN
          have G4 := Lib.hid (UGd.out.trans hg)
          clear hN hg S N G
          have gc := cmp_eq Ar4.out.1
          have gw1 : wrap64 (came + ((L).length : Int)) = came + ((L).length : Int) := by have := Ar4.out; unfold wrap64; omega
          have gw2 : wrap64 (came + ((L).length : Int) + lo) = came + ((L).length : Int) + lo := by have := Ar4.out; unfold wrap64; omega
          have C1 := Lib.hid (len_any N4.out)
          have C2 := Lib.hid (lost_any N4.out)
          dsimp only at C1 C2
          go_wp2_with fail
          refine C1.out.mono ?_
          rintro e w7 ⟨rfl, rfl⟩
          go_wp2_with fail
          refine C2.out.mono ?_
          rintro e w7 ⟨rfl, rfl⟩
          go_wp2_with fail
          go_roundw
          case rel => exact ⟨k + 1, L, C, lo, came, sent, by omega, by go_num, rfl, rfl, Ar4, N4, G4⟩
          case measure => simp [intOf]; omega
      have k1' : (kd == 1) = false := by rw [beq_eq_false_iff_ne]; exact k1
      clear k1
      by_cases k3 : kd = 3
      · subst k3
        rcases deliver_cnt L C lo f with ⟨m, L', h1, h2, h3⟩ | ⟨h1, h2⟩
        · have S : Hid (Calls Try.prog 14 #[.pointer (some ⟨p, 0, none⟩), .int .i64 f] wr fun e w' => e = ansP 0 m ∧ NetAt w.heap.size p (k + 1) w' ⟨3, L', C, lo⟩ ∧ Fr w.heap.size netObj wr w') := by
            have hh := deliver_any N.out (by dsimp only; decide) f G.out.size
            rw [h1, h2] at hh
            exact hh.mono fun e w' h => ⟨h.1, h.2.1.mono (Nat.le_succ k), h.2.2⟩
          unfold ansP at S
          have Ar4 : Hid (sent = (came + 1) + ((L').length : Int) + lo ∧ 0 ≤ lo ∧ 0 ≤ (came + 1) ∧ sent ≤ ((k + 1 : Nat) : Int)) := by have := Ar.out; exact ⟨by omega, by omega, by omega, by push_cast; omega⟩
          have gs : wrap64 (came + 1) = came + 1 := by have := Ar.out; unfold wrap64; omega
          clear h1 h2 h3 k1'
          clear Ar U UG hl0 hL3 hs65
          go_wp2_with fail
          refine S.out.mono ?_
          rintro e w4 ⟨rfl, hN, hg⟩
          have N4 := Lib.hid hN
          have G4 := Lib.hid (G.out.trans hg)
          clear hN hg S N G
          have gc := cmp_eq Ar4.out.1
          have gw1 : wrap64 ((came + 1) + ((L').length : Int)) = (came + 1) + ((L').length : Int) := by have := Ar4.out; unfold wrap64; omega
          have gw2 : wrap64 ((came + 1) + ((L').length : Int) + lo) = (came + 1) + ((L').length : Int) + lo := by have := Ar4.out; unfold wrap64; omega
          have C1 := Lib.hid (len_any N4.out)
          have C2 := Lib.hid (lost_any N4.out)
          dsimp only at C1 C2
          go_wp2_with fail
          refine C1.out.mono ?_
          rintro e w7 ⟨rfl, rfl⟩
          go_wp2_with fail
          refine C2.out.mono ?_
          rintro e w7 ⟨rfl, rfl⟩
          go_wp2_with fail
          go_roundw
          case rel => exact ⟨k + 1, L', C, lo, (came + 1), sent, by omega, by go_num, rfl, rfl, Ar4, N4, G4⟩
          case measure => simp [intOf]; omega
        · have S : Hid (Calls Try.prog 14 #[.pointer (some ⟨p, 0, none⟩), .int .i64 f] wr fun e w' => e = ansP 5 noMsg ∧ NetAt w.heap.size p (k + 1) w' ⟨3, L, C, lo⟩ ∧ Fr w.heap.size netObj wr w') := by
            have hh := deliver_any N.out (by dsimp only; decide) f G.out.size
            rw [h1, h2] at hh
            exact hh.mono fun e w' h => ⟨h.1, h.2.1.mono (Nat.le_succ k), h.2.2⟩
          unfold ansP at S
          have Ar4 : Hid (sent = came + ((L).length : Int) + lo ∧ 0 ≤ lo ∧ 0 ≤ came ∧ sent ≤ ((k + 1 : Nat) : Int)) := by have := Ar.out; exact ⟨by omega, by omega, by omega, by push_cast; omega⟩
          clear h1 h2 k1'
          clear Ar U UG hl0 hL3 hs65
          go_wp2_with fail
          refine S.out.mono ?_
          rintro e w4 ⟨rfl, hN, hg⟩
          have N4 := Lib.hid hN
          have G4 := Lib.hid (G.out.trans hg)
          clear hN hg S N G
          have gc := cmp_eq Ar4.out.1
          have gw1 : wrap64 (came + ((L).length : Int)) = came + ((L).length : Int) := by have := Ar4.out; unfold wrap64; omega
          have gw2 : wrap64 (came + ((L).length : Int) + lo) = came + ((L).length : Int) + lo := by have := Ar4.out; unfold wrap64; omega
          have C1 := Lib.hid (len_any N4.out)
          have C2 := Lib.hid (lost_any N4.out)
          dsimp only at C1 C2
          go_wp2_with fail
          refine C1.out.mono ?_
          rintro e w7 ⟨rfl, rfl⟩
          go_wp2_with fail
          refine C2.out.mono ?_
          rintro e w7 ⟨rfl, rfl⟩
          go_wp2_with fail
          go_roundw
          case rel => exact ⟨k + 1, L, C, lo, came, sent, by omega, by go_num, rfl, rfl, Ar4, N4, G4⟩
          case measure => simp [intOf]; omega
      have k3' : (kd == 3) = false := by rw [beq_eq_false_iff_ne]; exact k3
      clear k3
      by_cases k4 : kd = 4
      · subst k4
        obtain ⟨er, L', lo', h1, h2, h3⟩ := drop_cnt L C lo f
        have S : Hid (Calls Try.prog 16 #[.pointer (some ⟨p, 0, none⟩), .int .i64 f] wr fun e w' => e = .returned (.int .i64 er) ∧ NetAt w.heap.size p (k + 1) w' ⟨3, L', C, lo'⟩ ∧ Fr w.heap.size netObj wr w') := by
          have hh := drop_any N.out (by dsimp only; decide) f hl0.out.1 hl0.out.2
          rw [h1] at hh
          exact hh.mono fun e w' h => ⟨h.1, h.2.1.mono (Nat.le_succ k), h.2.2⟩

        have Ar4 : Hid (sent = came + ((L').length : Int) + lo' ∧ 0 ≤ lo' ∧ 0 ≤ came ∧ sent ≤ ((k + 1 : Nat) : Int)) := by have := Ar.out; exact ⟨by omega, by omega, by omega, by push_cast; omega⟩
        clear h1 h2 h3 k1' k3'
        clear Ar U UG hl0 hL3 hs65
        go_wp2_with fail
        refine S.out.mono ?_
        rintro e w4 ⟨rfl, hN, hg⟩
        have N4 := Lib.hid hN
        have G4 := Lib.hid (G.out.trans hg)
        clear hN hg S N G
        have gc := cmp_eq Ar4.out.1
        have gw1 : wrap64 (came + ((L').length : Int)) = came + ((L').length : Int) := by have := Ar4.out; unfold wrap64; omega
        have gw2 : wrap64 (came + ((L').length : Int) + lo') = came + ((L').length : Int) + lo' := by have := Ar4.out; unfold wrap64; omega
        have C1 := Lib.hid (len_any N4.out)
        have C2 := Lib.hid (lost_any N4.out)
        dsimp only at C1 C2
        go_wp2_with fail
        refine C1.out.mono ?_
        rintro e w7 ⟨rfl, rfl⟩
        go_wp2_with fail
        refine C2.out.mono ?_
        rintro e w7 ⟨rfl, rfl⟩
        go_wp2_with fail
        go_roundw
        case rel => exact ⟨k + 1, L', C, lo', came, sent, by omega, by go_num, rfl, rfl, Ar4, N4, G4⟩
        case measure => simp [intOf]; omega
      have k4' : (kd == 4) = false := by rw [beq_eq_false_iff_ne]; exact k4
      clear k4
      by_cases k5 : kd = 5
      · subst k5
        rcases twice_cnt L C lo f hL3 with ⟨L', h1, h2⟩ | h1
        · have S : Hid (Calls Try.prog 18 #[.pointer (some ⟨p, 0, none⟩), .int .i64 f] wr fun e w' => e = .returned (.int .i64 0) ∧ NetAt w.heap.size p (k + 1) w' ⟨3, L', C, lo⟩ ∧ Fr w.heap.size netObj wr w') := by
            have hh := twice_any N.out (by dsimp only; decide) f (by dsimp only; omega) G.out.size
            rw [h1] at hh
            exact hh.mono fun e w' h => ⟨h.1, h.2.1.mono (Nat.le_succ k), h.2.2⟩

          have Ar4 : Hid ((sent + 1) = came + ((L').length : Int) + lo ∧ 0 ≤ lo ∧ 0 ≤ came ∧ (sent + 1) ≤ ((k + 1 : Nat) : Int)) := by have := Ar.out; exact ⟨by omega, by omega, by omega, by push_cast; omega⟩
          have gs : wrap64 (sent + 1) = sent + 1 := by have := Ar.out; unfold wrap64; omega
          clear h1 h2 k1' k3' k4'
          clear Ar U UG hl0 hL3 hs65
          go_wp2_with fail
          refine S.out.mono ?_
          rintro e w4 ⟨rfl, hN, hg⟩
          have N4 := Lib.hid hN
          have G4 := Lib.hid (G.out.trans hg)
          clear hN hg S N G
          have gc := cmp_eq Ar4.out.1
          have gw1 : wrap64 (came + ((L').length : Int)) = came + ((L').length : Int) := by have := Ar4.out; unfold wrap64; omega
          have gw2 : wrap64 (came + ((L').length : Int) + lo) = came + ((L').length : Int) + lo := by have := Ar4.out; unfold wrap64; omega
          have C1 := Lib.hid (len_any N4.out)
          have C2 := Lib.hid (lost_any N4.out)
          dsimp only at C1 C2
          go_wp2_with fail
          refine C1.out.mono ?_
          rintro e w7 ⟨rfl, rfl⟩
          go_wp2_with fail
          refine C2.out.mono ?_
          rintro e w7 ⟨rfl, rfl⟩
          go_wp2_with fail
          go_roundw
          case rel => exact ⟨k + 1, L', C, lo, came, (sent + 1), by omega, by go_num, rfl, rfl, Ar4, N4, G4⟩
          case measure => simp [intOf]; omega
        · have S : Hid (Calls Try.prog 18 #[.pointer (some ⟨p, 0, none⟩), .int .i64 f] wr fun e w' => e = .returned (.int .i64 5) ∧ NetAt w.heap.size p (k + 1) w' ⟨3, L, C, lo⟩ ∧ Fr w.heap.size netObj wr w') := by
            have hh := twice_any N.out (by dsimp only; decide) f (by dsimp only; omega) G.out.size
            rw [h1] at hh
            exact hh.mono fun e w' h => ⟨h.1, h.2.1.mono (Nat.le_succ k), h.2.2⟩

          have Ar4 : Hid (sent = came + ((L).length : Int) + lo ∧ 0 ≤ lo ∧ 0 ≤ came ∧ sent ≤ ((k + 1 : Nat) : Int)) := by have := Ar.out; exact ⟨by omega, by omega, by omega, by push_cast; omega⟩
          clear h1 k1' k3' k4'
          clear Ar U UG hl0 hL3 hs65
          go_wp2_with fail
          refine S.out.mono ?_
          rintro e w4 ⟨rfl, hN, hg⟩
          have N4 := Lib.hid hN
          have G4 := Lib.hid (G.out.trans hg)
          clear hN hg S N G
          have gc := cmp_eq Ar4.out.1
          have gw1 : wrap64 (came + ((L).length : Int)) = came + ((L).length : Int) := by have := Ar4.out; unfold wrap64; omega
          have gw2 : wrap64 (came + ((L).length : Int) + lo) = came + ((L).length : Int) + lo := by have := Ar4.out; unfold wrap64; omega
          have C1 := Lib.hid (len_any N4.out)
          have C2 := Lib.hid (lost_any N4.out)
          dsimp only at C1 C2
          go_wp2_with fail
          refine C1.out.mono ?_
          rintro e w7 ⟨rfl, rfl⟩
          go_wp2_with fail
          refine C2.out.mono ?_
          rintro e w7 ⟨rfl, rfl⟩
          go_wp2_with fail
          go_roundw
          case rel => exact ⟨k + 1, L, C, lo, came, sent, by omega, by go_num, rfl, rfl, Ar4, N4, G4⟩
          case measure => simp [intOf]; omega
      have k5' : (kd == 5) = false := by rw [beq_eq_false_iff_ne]; exact k5
      clear k5
      by_cases k6 : kd = 6
      · subst k6
        obtain ⟨er, C', h1⟩ := cut_cnt L C lo f t true
        have UGd := UG 1
        have S : Hid (Calls Try.prog 20 #[.pointer (some ⟨p, 0, none⟩), .int .i64 f, .int .i64 t, .bool true] wr.drew fun e w' => e = .returned (.int .i64 er) ∧ NetAt w.heap.size p (k + 1) w' ⟨3, L, C', lo⟩ ∧ Fr w.heap.size netObj wr.drew w') := by
          have hh := cut_any (U 1).out f t true (by unfold maxLen; omega) wx wy
          rw [h1] at hh
          exact hh

        have Ar4 : Hid (sent = came + ((L).length : Int) + lo ∧ 0 ≤ lo ∧ 0 ≤ came ∧ sent ≤ ((k + 1 : Nat) : Int)) := by have := Ar.out; exact ⟨by omega, by omega, by omega, by push_cast; omega⟩
        clear h1 k1' k3' k4' k5'
        clear Ar U UG hl0 hL3 hs65
        go_wp2_with fail
        go_still_tail 17, (by kernel_rfl)
        change wpList _ _ _ _ _ wr.drew
        go_wp2_with fail
        refine S.out.mono ?_
        rintro e w4 ⟨rfl, hN, hg⟩
        have N4 := Lib.hid hN
        have G4 := Lib.hid (UGd.out.trans hg)
        clear hN hg S N G
        have gc := cmp_eq Ar4.out.1
        have gw1 : wrap64 (came + ((L).length : Int)) = came + ((L).length : Int) := by have := Ar4.out; unfold wrap64; omega
        have gw2 : wrap64 (came + ((L).length : Int) + lo) = came + ((L).length : Int) + lo := by have := Ar4.out; unfold wrap64; omega
        have C1 := Lib.hid (len_any N4.out)
        have C2 := Lib.hid (lost_any N4.out)
        dsimp only at C1 C2
        go_wp2_with fail
        refine C1.out.mono ?_
        rintro e w7 ⟨rfl, rfl⟩
        go_wp2_with fail
        refine C2.out.mono ?_
        rintro e w7 ⟨rfl, rfl⟩
        go_wp2_with fail
        go_roundw
        case rel => exact ⟨k + 1, L, C', lo, came, sent, by omega, by go_num, rfl, rfl, Ar4, N4, G4⟩
        case measure => simp [intOf]; omega
      have k6' : (kd == 6) = false := by rw [beq_eq_false_iff_ne]; exact k6
      clear k6
      by_cases k7 : kd = 7
      · subst k7
        obtain ⟨er, C', h1⟩ := cut_cnt L C lo f t false
        have UGd := UG 1
        have S : Hid (Calls Try.prog 20 #[.pointer (some ⟨p, 0, none⟩), .int .i64 f, .int .i64 t, .bool false] wr.drew fun e w' => e = .returned (.int .i64 er) ∧ NetAt w.heap.size p (k + 1) w' ⟨3, L, C', lo⟩ ∧ Fr w.heap.size netObj wr.drew w') := by
          have hh := cut_any (U 1).out f t false (by unfold maxLen; omega) wx wy
          rw [h1] at hh
          exact hh

        have Ar4 : Hid (sent = came + ((L).length : Int) + lo ∧ 0 ≤ lo ∧ 0 ≤ came ∧ sent ≤ ((k + 1 : Nat) : Int)) := by have := Ar.out; exact ⟨by omega, by omega, by omega, by push_cast; omega⟩
        clear h1 k1' k3' k4' k5' k6'
        clear Ar U UG hl0 hL3 hs65
        go_wp2_with fail
        go_still_tail 17, (by kernel_rfl)
        change wpList _ _ _ _ _ wr.drew
        go_wp2_with fail
        refine S.out.mono ?_
        rintro e w4 ⟨rfl, hN, hg⟩
        have N4 := Lib.hid hN
        have G4 := Lib.hid (UGd.out.trans hg)
        clear hN hg S N G
        have gc := cmp_eq Ar4.out.1
        have gw1 : wrap64 (came + ((L).length : Int)) = came + ((L).length : Int) := by have := Ar4.out; unfold wrap64; omega
        have gw2 : wrap64 (came + ((L).length : Int) + lo) = came + ((L).length : Int) + lo := by have := Ar4.out; unfold wrap64; omega
        have C1 := Lib.hid (len_any N4.out)
        have C2 := Lib.hid (lost_any N4.out)
        dsimp only at C1 C2
        go_wp2_with fail
        refine C1.out.mono ?_
        rintro e w7 ⟨rfl, rfl⟩
        go_wp2_with fail
        refine C2.out.mono ?_
        rintro e w7 ⟨rfl, rfl⟩
        go_wp2_with fail
        go_roundw
        case rel => exact ⟨k + 1, L, C', lo, came, sent, by omega, by go_num, rfl, rfl, Ar4, N4, G4⟩
        case measure => simp [intOf]; omega
      have k7' : (kd == 7) = false := by rw [beq_eq_false_iff_ne]; exact k7
      clear k7
      have N4 : Hid (NetAt w.heap.size p (k + 1) wr ⟨3, L, C, lo⟩) := N.out.mono (Nat.le_succ k)
      have G4 := G
      have Ar4 : Hid (sent = came + ((L).length : Int) + lo ∧ 0 ≤ lo ∧ 0 ≤ came ∧ sent ≤ ((k + 1 : Nat) : Int)) := by have := Ar.out; exact ⟨by omega, by omega, by omega, by push_cast; omega⟩
      clear N G U UG hl0 hL3 hs65 Ar
      have gc := cmp_eq Ar4.out.1
      have gw1 : wrap64 (came + ((L).length : Int)) = came + ((L).length : Int) := by have := Ar4.out; unfold wrap64; omega
      have gw2 : wrap64 (came + ((L).length : Int) + lo) = came + ((L).length : Int) + lo := by have := Ar4.out; unfold wrap64; omega
      have C1 := Lib.hid (len_any N4.out)
      have C2 := Lib.hid (lost_any N4.out)
      dsimp only at C1 C2
      go_wp2_with fail
      refine C1.out.mono ?_
      rintro e w7 ⟨rfl, rfl⟩
      go_wp2_with fail
      refine C2.out.mono ?_
      rintro e w7 ⟨rfl, rfl⟩
      go_wp2_with fail
      go_roundw
      case rel => exact ⟨k + 1, L, C, lo, came, sent, by omega, by go_num, rfl, rfl, Ar4, N4, G4⟩
      case measure => simp [intOf]; omega
    · have g2 : ¬ (k : Int) < (n : Int) := by omega
      clear hl
      go_wp2_with fail
      refine (HA _).out.mono ?_
      rintro e w2 ⟨rfl, hb⟩
      have H := Lib.hid ((G.out.below (Nat.le_refl _)).trans (hb.mono G.out.size))
      clear hb
      go_wp2_with fail
      go_ret
      exact ⟨rfl, H.out⟩

theorem lawNetCounts (A : Option Addr) (n c : Nat) (K X Y : Nat → Int) (D : Nat → ByteArray) (w : World) (I : NOpsIn w A n K X Y D) :
    Calls Try.prog 5 #[.slice A n c] w fun e w' => e = .returned (.bool true) ∧ Below w.heap.size w w' := by
  by_cases h : 300 < n
  · exact netcounts_long A n c w h
  · exact netcounts_some A n c K X Y D w I (by omega)
end Go.Proofs.Ytlogdbbaefpapaa
