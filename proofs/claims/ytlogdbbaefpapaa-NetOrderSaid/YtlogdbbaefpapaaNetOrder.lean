/-
  NetOrder: messages that are delivered from the front come in the order in which they were sent; from behind in the other one.
-/
import Derived.Test.YtlogdbbaefpapaaNetCuts
import Derived.Test.YtlogdbbaefpapaaView
import Derived.LoopTactic
import Derived.Lib.Strings
namespace Go.Proofs.Ytlogdbbaefpapaa
open Go.RowKit Go.Maps

def msgAt (ss : List ByteArray) (i : Nat) : Int × Int × ByteArray := ((i : Int) % 3, ((i : Int) + 1) % 3, ss.getD i ByteArray.empty)
def msgs (ss : List ByteArray) (a n : Nat) : List (Int × Int × ByteArray) := (List.range' a n).map (msgAt ss)
theorem msgs_length (ss : List ByteArray) (a n : Nat) : (msgs ss a n).length = n := by simp [msgs]
theorem msgs_snoc (ss : List ByteArray) (a n : Nat) : msgs ss a (n + 1) = msgs ss a n ++ [msgAt ss (a + n)] := by
  unfold msgs
  rw [List.range'_concat]
  simp
theorem msgs_cons (ss : List ByteArray) (a n : Nat) : msgs ss a (n + 1) = msgAt ss a :: msgs ss (a + 1) n := by
  unfold msgs
  rw [List.range'_succ]
  rfl
theorem way3 (i : Nat) : wayB 3 ((i : Int) % 3) (((i : Int) + 1) % 3) = true := by
  have h : (i : Int) % 3 = 0 ∨ (i : Int) % 3 = 1 ∨ (i : Int) % 3 = 2 := by omega
  rcases h with h | h | h
  · rw [h, show ((i : Int) + 1) % 3 = 1 by omega]; decide
  · rw [h, show ((i : Int) + 1) % 3 = 2 by omega]; decide
  · rw [h, show ((i : Int) + 1) % 3 = 0 by omega]; decide
theorem wf3 (x : Int) : (Lit.int .i64 (x % 3)).wf = true := by
  have h : x % 3 = 0 ∨ x % 3 = 1 ∨ x % 3 = 2 := by omega
  rcases h with h | h | h <;> rw [h] <;> decide
theorem outP_front (n : Int) (m : Int × Int × ByteArray) (L : List (Int × Int × ByteArray)) (C : List (Int × Int)) (lo : Int) : deliverP ⟨n, m :: L, C, lo⟩ 0 = ⟨n, L, C, lo⟩ ∧ peekP ⟨n, m :: L, C, lo⟩ 0 = (0, m) := ⟨rfl, rfl⟩
theorem outP_back (n : Int) (m : Int × Int × ByteArray) (L : List (Int × Int × ByteArray)) (C : List (Int × Int)) (lo : Int) : deliverP ⟨n, L ++ [m], C, lo⟩ (L.length : Int) = ⟨n, L, C, lo⟩ ∧ peekP ⟨n, L ++ [m], C, lo⟩ (L.length : Int) = (0, m) := by
  have h : (⟨n, L ++ [m], C, lo⟩ : N8).L[L.length]? = some m := by simp
  have e1 := atP_in h
  constructor
  · unfold deliverP
    rw [e1]
    simp [outP]
  · unfold peekP
    rw [e1]
theorem strs_at {w : World} {A : Option Addr} {n k : Nat} {ss : List ByteArray} (h : StrsIn w A n ss) (hk : k < n) :
    ∃ b off, A = some ⟨b, off, none⟩ ∧ (∀ W, Below w.heap.size w W → W.cell? ⟨b, off + k, none⟩ = some (.string (ss.getD k ByteArray.empty))) ∧ (ss.getD k ByteArray.empty).size ≤ 9223372036854775807 := by
  obtain ⟨b, off, e, hlt, hc⟩ := h.some (by omega)
  exact ⟨b, off, e, fun W hb => (hb.cell (p := ⟨b, off + k, none⟩) hlt).trans (hc k hk), h.size _ (by rw [List.getD_eq_getElem?_getD, List.getElem?_eq_getElem (by rw [h.len]; exact hk)]; exact List.getElem_mem _)⟩

set_option maxRecDepth 100000 in
set_option maxHeartbeats 1000000 in
theorem netorder_long (A : Option Addr) (n c : Nat) (back : Bool) (w : World) (h : 100 < n) :
    Calls Try.prog 7 #[.slice A n c, .bool back] w fun e w' => e = .returned (.bool true) ∧ Below w.heap.size w w' := by
  have al := Lib.hid (alive8_any w)
  have g1 : (100 : Int) < (n : Int) := by omega
  clear h
  go_enter Try.func7, Try.ntmps7
  go_wp2_with fail
  refine al.out.mono ?_
  rintro e w1 ⟨rfl, h⟩
  have H := Lib.hid h
  clear h
  go_wp2_with fail
  go_ret
  exact ⟨rfl, H.out⟩

set_option maxRecDepth 100000 in
set_option maxHeartbeats 4000000 in
theorem netorder_some (A : Option Addr) (n c : Nat) (ss : List ByteArray) (back : Bool) (w : World) (I : StrsIn w A n ss) (h : n ≤ 100) :
    Calls Try.prog 7 #[.slice A n c, .bool back] w fun e w' => e = .returned (.bool true) ∧ Below w.heap.size w w' := by
  have g1 : ¬ (100 : Int) < (n : Int) := by omega
  have HI := Lib.hid I
  have HA := fun W => Lib.hid (alive8_any W)
  have s0 := Lib.hid (new_any 3 w (by decide) (by decide))
  clear I
  go_enter Try.func7, Try.ntmps7
  go_wp2_with fail
  refine s0.out.mono ?_
  rintro e w1 ⟨p, rfl, hN, hg⟩
  have N0 := Lib.hid hN
  have G0 := Lib.hid (Fr.of_grown (B := w.heap.size) (T := netObj) hg)
  unfold newP at N0
  clear hN hg s0
  go_wp2_with fail
  go_loopw [6] (fun i wr => ∃ k : Nat, k ≤ n ∧ i = .int .i64 (k : Int) ∧ Hid (NetAt w.heap.size p 0 wr ⟨3, msgs ss 0 k, [], 0⟩) ∧ Hid (Fr w.heap.size netObj w wr)) (fun i _ => n - (intOf i).toNat)
  case atStart => exact ⟨0, by omega, rfl, N0, G0⟩
  case round =>
    obtain ⟨k, hk, rfl, N, G⟩ := hrel
    by_cases hl : k < n
    · obtain ⟨b, off, rfl, hcc, hzs⟩ := strs_at HI.out hl
      have hck := hcc _ (G.out.below (Nat.le_refl _))
      have hm : msgAt ss k = ((k : Int) % 3, ((k : Int) + 1) % 3, ss.getD k ByteArray.empty) := rfl
      have hs := msgs_snoc ss 0 k
      rw [Nat.zero_add, hm] at hs
      have HS := Lib.hid hs
      clear hs hm
      generalize ss.getD k ByteArray.empty = z at *
      by_cases hn : 300 < z.size
      · go_wp2_with fail
        refine (HA _).out.mono ?_
        rintro e w2 ⟨rfl, hb⟩
        have H := Lib.hid ((G.out.below (Nat.le_refl _)).trans (hb.mono G.out.size))
        clear hb
        go_wp2_with fail
        go_ret
        exact ⟨rfl, H.out⟩
      · have S : Hid (Calls Try.prog 10 #[.pointer (some ⟨p, 0, none⟩), .int .i64 ((k : Int) % 3), .int .i64 (((k : Int) + 1) % 3), .string z] wr fun e w' => e = .returned (.int .i64 0) ∧ NetAt w.heap.size p 0 w' ⟨3, msgs ss 0 (k + 1), [], 0⟩ ∧ Fr w.heap.size netObj wr w') := by
          have hh := send_any w.heap.size p 0 ⟨3, msgs ss 0 k, [], 0⟩ ((k : Int) % 3) (((k : Int) + 1) % 3) z wr N.out (by dsimp only; decide) (by dsimp only; decide) (by dsimp only; rw [msgs_length]; omega) (wf3 _) (wf3 _) (by omega) G.out.size
          rw [show sendP ⟨3, msgs ss 0 k, [], 0⟩ ((k : Int) % 3) (((k : Int) + 1) % 3) z = (0, ⟨3, msgs ss 0 (k + 1), [], 0⟩) by rw [HS.out]; exact sendP_on (way3 k) (by omega) rfl (decide_eq_false (by rw [msgs_length]; omega))] at hh
          exact hh
        go_wp2_with fail
        refine S.out.mono ?_
        rintro e w2 ⟨rfl, hN, hg⟩
        have N2 := Lib.hid hN
        have G2 := Lib.hid (G.out.trans hg)
        clear hN hg N G S HS
        go_wp2_with fail
        go_roundw
        case rel => exact ⟨k + 1, by omega, by go_num, N2, G2⟩
        case measure => simp [intOf]; omega
    · obtain rfl : k = n := by omega
      clear hl hk
      go_wp2_with fail
      go_loopw [7] (fun i wr => ∃ j : Nat, j ≤ k ∧ i = .int .i64 (j : Int) ∧ Hid (NetAt w.heap.size p 0 wr ⟨3, msgs ss (if back then 0 else j) (k - j), [], 0⟩) ∧ Hid (Fr w.heap.size netObj w wr)) (fun i _ => k - (intOf i).toNat)
      case atStart => exact ⟨0, by omega, rfl, by cases back <;> exact N, G⟩
      case round =>
        obtain ⟨j, hj, rfl, N2, G2⟩ := hrel
        by_cases hl : j < k
        · cases back with
          | true =>
            obtain ⟨b, off, rfl, hcc, hzs⟩ := strs_at HI.out (show k - 1 - j < k by omega)
            obtain ⟨q, hq⟩ : ∃ q, q = k - 1 - j := ⟨_, rfl⟩
            rw [← hq] at hcc hzs
            have hq1 : (q : Int) = (k : Int) - 1 - (j : Int) := by omega
            have hm : msgAt ss q = ((q : Int) % 3, ((q : Int) + 1) % 3, ss.getD q ByteArray.empty) := rfl
            have hs := msgs_snoc ss 0 q
            rw [Nat.zero_add, hm] at hs
            have N3 : NetAt w.heap.size p 0 wr ⟨3, msgs ss 0 q ++ [((q : Int) % 3, ((q : Int) + 1) % 3, ss.getD q ByteArray.empty)], [], 0⟩ := by
              have := N2.out
              rw [if_pos rfl, show k - j = q + 1 by omega, hs] at this
              exact this
            generalize ss.getD q ByteArray.empty = z at *
            have S : Hid (Calls Try.prog 14 #[.pointer (some ⟨p, 0, none⟩), .int .i64 (q : Int)] wr fun e w' => e = .returned (.tuple #[.int .i64 ((q : Int) % 3), .int .i64 (((q : Int) + 1) % 3), .string z, .int .i64 0]) ∧ NetAt w.heap.size p 0 w' ⟨3, msgs ss 0 q, [], 0⟩ ∧ Fr w.heap.size netObj wr w') := by
              have hh := deliver_any N3 (by dsimp only; decide) (q : Int) G2.out.size
              have e1 := outP_back 3 ((q : Int) % 3, ((q : Int) + 1) % 3, z) (msgs ss 0 q) [] 0
              rw [msgs_length] at e1
              rw [e1.1, e1.2] at hh
              exact hh
            clear hs hm N3
            have hq2 : k - (j + 1) = q := by omega
            rw [hq1] at S
            have HC := fun W h => Lib.hid (hcc W h)
            rw [hq] at HC
            clear hcc hzs hq hq1
            go_wp2_with fail
            refine S.out.mono ?_
            rintro e w3 ⟨rfl, hN, hg⟩
            rw [← hq2] at hN
            have N4 := Lib.hid hN
            have G4 := Lib.hid (G2.out.trans hg)
            have hc3 := (HC w3 (G4.out.below (Nat.le_refl _))).out
            clear hN hg N2 G2 S HC hq2
            go_wp2_with fail
            go_roundw
            case rel => exact ⟨j + 1, by omega, by go_num, N4, G4⟩
            case measure => simp [intOf]; omega
          | false =>
            obtain ⟨b, off, rfl, hcc, hzs⟩ := strs_at HI.out hl
            have hm : msgAt ss j = ((j : Int) % 3, ((j : Int) + 1) % 3, ss.getD j ByteArray.empty) := rfl
            have hs := msgs_cons ss j (k - (j + 1))
            rw [hm] at hs
            have N3 : NetAt w.heap.size p 0 wr ⟨3, ((j : Int) % 3, ((j : Int) + 1) % 3, ss.getD j ByteArray.empty) :: msgs ss (j + 1) (k - (j + 1)), [], 0⟩ := by
              have := N2.out
              rw [if_neg (by decide), show k - j = k - (j + 1) + 1 by omega, hs] at this
              exact this
            generalize ss.getD j ByteArray.empty = z at *
            have S : Hid (Calls Try.prog 14 #[.pointer (some ⟨p, 0, none⟩), .int .i64 0] wr fun e w' => e = .returned (.tuple #[.int .i64 ((j : Int) % 3), .int .i64 (((j : Int) + 1) % 3), .string z, .int .i64 0]) ∧ NetAt w.heap.size p 0 w' ⟨3, msgs ss (j + 1) (k - (j + 1)), [], 0⟩ ∧ Fr w.heap.size netObj wr w') := by
              have hh := deliver_any N3 (by dsimp only; decide) 0 G2.out.size
              have e1 := outP_front 3 ((j : Int) % 3, ((j : Int) + 1) % 3, z) (msgs ss (j + 1) (k - (j + 1))) [] 0
              rw [e1.1, e1.2] at hh
              exact hh
            clear hs hm N3
            have HC := fun W h => Lib.hid (hcc W h)
            clear hcc hzs
            go_wp2_with fail
            refine S.out.mono ?_
            rintro e w3 ⟨rfl, hN, hg⟩
            have N4 := Lib.hid hN
            have G4 := Lib.hid (G2.out.trans hg)
            have hc3 := (HC w3 (G4.out.below (Nat.le_refl _))).out
            clear hN hg N2 G2 S HC
            go_wp2_with fail
            go_roundw
            case rel => exact ⟨j + 1, by omega, by go_num, N4, G4⟩
            case measure => simp [intOf]; omega
        · obtain rfl : j = k := by omega
          have N3 : Hid (NetAt w.heap.size p 0 wr ⟨3, [], [], 0⟩) := by
            have := N2.out
            rw [Nat.sub_self] at this
            exact this
          clear N2 hl hj
          go_wp2_with fail
          refine (HA _).out.mono ?_
          rintro e w3 ⟨rfl, hb⟩
          have N4 := Lib.hid (N3.out.fr (fr_below (B := 0) (T := fun _ => false) hb) (fun _ _ => rfl))
          have G4 := Lib.hid ((G2.out.below (Nat.le_refl _)).trans (hb.mono G2.out.size))
          clear hb N3 G2
          have C1 := Lib.hid (len_any N4.out)
          have C2 := Lib.hid (lost_any N4.out)
          go_wp2_with fail
          refine C1.out.mono ?_
          rintro e w4 ⟨rfl, rfl⟩
          go_wp2_with fail
          refine C2.out.mono ?_
          rintro e w5 ⟨rfl, rfl⟩
          go_wp2_with fail
          go_ret
          exact ⟨rfl, G4.out⟩

theorem lawNetOrder (A : Option Addr) (n c : Nat) (ss : List ByteArray) (back : Bool) (w : World) (I : StrsIn w A n ss) :
    Calls Try.prog 7 #[.slice A n c, .bool back] w fun e w' => e = .returned (.bool true) ∧ Below w.heap.size w w' := by
  by_cases h : 100 < n
  · exact netorder_long A n c back w h
  · exact netorder_some A n c ss back w I (by omega)
end Go.Proofs.Ytlogdbbaefpapaa
