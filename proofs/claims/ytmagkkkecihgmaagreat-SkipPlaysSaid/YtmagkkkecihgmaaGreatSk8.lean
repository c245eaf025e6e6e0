/-
  The document's own list of chapter 10, part 8: Steps.
-/
import Derived.Test.YtmagkkkecihgmaaGreatSk7
namespace Go.Proofs.YtmagkkkecihgmaaGreat
open Go.RowKit

/-- A lane, walked: a is one past the last pair that was stepped onto, c the steps. -/
def scanL (key : ByteArray) (h : Nat) : List P10 → Nat → Nat × Nat → Nat × Nat
  | [], _, st => st
  | m :: R, i, st => if m.2.2 ≤ (h : Int) then scanL key h R (i + 1) st else if 0 ≤ cmpT m.1 key then st else scanL key h R (i + 1) (i + 1, st.2 + 1)
def downL (L : List P10) (key : ByteArray) : Nat → Nat × Nat → Nat × Nat
  | 0, st => st
  | h + 1, st => downL L key h (scanL key h (L.drop st.1) st.1 st)
/-- What Steps answers. -/
def stepsL (L : List P10) (key : ByteArray) : Nat := (downL L key (hiL L) (0, 0)).2
theorem scanL_at (key : ByteArray) (h : Nat) (L : List P10) (i : Nat) (st : Nat × Nat) (m : P10) (hm : L[i]? = some m) :
    scanL key h (L.drop i) i st = if m.2.2 ≤ (h : Int) then scanL key h (L.drop (i + 1)) (i + 1) st else if 0 ≤ cmpT m.1 key then st else scanL key h (L.drop (i + 1)) (i + 1) (i + 1, st.2 + 1) := by
  have hi := (List.getElem?_eq_some_iff.1 hm).1
  rw [List.drop_eq_getElem_cons hi, (List.getElem?_eq_some_iff.1 hm).2]
  rfl
theorem hiL_le (L : List P10) : hiL L ≤ 12 := Nat.le_trans (List.takeWhile_sublist _).length_le (by simp)

set_option maxRecDepth 100000 in
set_option maxHeartbeats 4000000 in
theorem rsteps10 {B p : Nat} {s : S10} {w : World} (h : SkR B p w s) (key : ByteArray) (hkey : key.size ≤ 140737488351232) (hL : s.L.length ≤ 100000) :
    Calls Tryz.prog 18 #[.pointer (some ⟨p, 0, none⟩), .string key] w fun e w' => e = .returned (.int .i64 (stepsL s.L key)) ∧ w.grownBy w' none := by
  obtain ⟨A, c, hC⟩ := h.cells
  have LC := Lib.hid (rlanes10 h hL)
  obtain ⟨sl, _, _, _, hs⟩ := h
  have c0 := hC.c0
  have hat := hC.at_
  obtain ⟨L, hLL⟩ : ∃ L, s.L = L := ⟨_, rfl⟩
  rw [hLL] at c0 hat hL hs LC ⊢
  obtain ⟨n, hn⟩ : ∃ n, L.length = n := ⟨_, rfl⟩
  rw [hn] at c0 hL
  have Hat := Lib.hid hat
  have Hs := Lib.hid hs
  have Hkey := Lib.hid hkey
  have Hge := Lib.hid (fun k (hk : k < n) => (show ∃ m, L[k]? = some m from ⟨_, List.getElem?_eq_getElem (by omega)⟩))
  have HL := Lib.hid hL
  have Hn := Lib.hid hn
  have hr0 := hiL_le L
  obtain ⟨r, hr⟩ : ∃ r, stepsL L key = r := ⟨_, rfl⟩
  rw [hr]
  unfold stepsL at hr
  obtain ⟨k0, hk0⟩ : ∃ k0, hiL L = k0 := ⟨_, rfl⟩
  rw [hk0] at hr hr0 LC
  have Hr := Lib.hid hr
  have gw : wrap64 ((k0 : Int) - 1) = (k0 : Int) - 1 := IntWalk.wrap64_in _ (by omega)
  clear hC hat hs hkey hn hL hLL hr hk0
  go_enter Tryz.func18, Tryz.ntmps18
  go_wp2_with fail
  refine LC.out.mono ?_
  rintro e w7 ⟨v, rfl, hv, hg7⟩
  obtain ⟨av, cv, rfl⟩ := hv.slice
  rw [lanesTo_length]
  have HG7 := Lib.hid hg7
  clear hv hg7
  go_wp2_with fail
  go_loopw [5, 6, 7, 8] (fun s5 s6 s7 _ wr => ∃ (k a c : Nat) (aI hI : Int), s7 = .int .i64 hI ∧ s5 = .int .i64 aI ∧ s6 = .int .i64 (c : Int) ∧ Hid (hI + 1 = (k : Int) ∧ aI + 1 = (a : Int) ∧ k ≤ 12 ∧ a ≤ n ∧ c ≤ a) ∧ Hid ((downL L key k (a, c)).2 = r) ∧ Hid (w.grownBy wr none)) (fun _ _ s7 _ _ => (intOf s7 + 1).toNat)
  case atStart => exact ⟨k0, 0, 0, -1, (k0 : Int) - 1, rfl, rfl, rfl, Lib.hid ⟨by omega, by omega, hr0, by omega, by omega⟩, Hr, HG7⟩
  case round =>
    obtain ⟨k, a, c1, aI, hI, rfl, rfl, rfl, HB, HD, HG⟩ := hrel
    obtain ⟨b1, b2, b3, b4, b5⟩ := HB.out
    cases k with
    | zero =>
      obtain rfl : hI = -1 := by omega
      have e1 : c1 = r := HD.out
      subst e1
      clear b1 b2 b3 b4 b5
      go_wp2_with fail
      go_ret
      exact ⟨rfl, HG.out⟩
    | succ k =>
      obtain rfl : hI = (k : Int) := by omega
      have HL1 := HL.out
      have g1 : (0 : Int) ≤ (k : Int) := by omega
      have g2 : wrap64 (aI + 1) = (a : Int) := (IntWalk.wrap64_in _ (by omega)).trans b2
      have g3 : wrap64 ((k : Int) - 1) = (k : Int) - 1 := IntWalk.wrap64_in _ (by omega)
      have HD1 : Hid ((downL L key k (scanL key k (L.drop a) a (a, c1))).2 = r) := HD.out
      have B1 : Hid (aI + 1 = (a : Int) ∧ k + 1 ≤ 12 ∧ a ≤ n ∧ c1 ≤ a) := ⟨b2, b3, b4, b5⟩
      have Bk : Hid ((k : Int) - 1 + 1 = (k : Int) ∧ k ≤ 12) := ⟨by omega, by omega⟩
      clear b1 b2 b3 b5 HL1 HB HD
      go_wp2_with fail
      rw [g2]
      go_loopw [5, 6, 8] (fun s5 s6 s8 wi => ∃ (i a c : Nat) (aI : Int), i ≤ n ∧ s8 = .int .i64 (i : Int) ∧ s5 = .int .i64 aI ∧ s6 = .int .i64 (c : Int) ∧ Hid (aI + 1 = (a : Int) ∧ a ≤ i ∧ c ≤ a) ∧ Hid ((downL L key k (scanL key k (L.drop i) i (a, c))).2 = r) ∧ Hid (w.grownBy wi none)) (fun _ _ s8 _ => n - (intOf s8).toNat)
      case atStart => exact ⟨a, a, c1, aI, b4, rfl, rfl, rfl, Lib.hid ⟨B1.out.1, Nat.le_refl _, B1.out.2.2.2⟩, HD1, HG⟩
      case round =>
        obtain ⟨i, a2, c2, aI2, hi, rfl, rfl, rfl, HB2, HD2, HG2⟩ := hrel
        by_cases hl : i < n
        · obtain ⟨m, hm⟩ := Hge.out i hl
          obtain ⟨g, rfl, x0, x1, x2⟩ := Hat.out i m hm
          have C0 := HG2.out.cell c0 (by simp)
          have X0 := HG2.out.cell x0 (by simp)
          have X2 := HG2.out.cell x2 (by simp)
          have hmm := (Hs.out m (List.mem_of_getElem? hm)).1
          have gi : (i : Int) < (n : Int) := by omega
          have hsc := scanL_at key k L i (a2, c2) m hm
          have hd2 := HD2.out
          rw [hsc] at hd2
          obtain ⟨q1, q2, q3⟩ := HB2.out
          have HL1 := HL.out
          have gi2 : i < 100000 := by omega
          have gc2 : c2 < 100000 := by omega
          by_cases z : m.2.2 ≤ (k : Int)
          · rw [if_pos z] at hd2
            have HD3 := Lib.hid hd2
            have HB3 : Hid (aI2 + 1 = (a2 : Int) ∧ a2 ≤ i + 1 ∧ c2 ≤ a2) := ⟨q1, by omega, q3⟩
            clear hd2 hsc hm q1 q2 q3 x0 x1 x2 HB2 HD2 HL1 hmm
            go_wp2_with fail
            go_roundw
            case rel => exact ⟨i + 1, a2, c2, aI2, by omega, by go_num, rfl, rfl, HB3, HD3, HG2⟩
            case measure => simp [intOf]; omega
          · rw [if_neg z] at hd2
            have CM := fun W => Lib.hid (rcompare9 m.1 key W (by omega) (by have := Hkey.out; omega))
            by_cases y : 0 ≤ cmpT m.1 key
            · rw [if_pos y] at hd2
              have HD3 := Lib.hid hd2
              have HB3 : Hid ((k : Int) - 1 + 1 = (k : Int) ∧ aI2 + 1 = (a2 : Int) ∧ k ≤ 12 ∧ a2 ≤ n ∧ c2 ≤ a2) := ⟨Bk.out.1, q1, Bk.out.2, by omega, q3⟩
              generalize cmpT m.1 key = cm at *
              clear hd2 hsc hm q1 q2 q3 x0 x1 x2 HB2 HD2 HL1 hmm
              go_wp2_with fail
              refine (CM _).out.mono ?_
              rintro e w8 ⟨rfl, j, rfl⟩
              have HG3 := Lib.hid (only_drewN HG2.out j)
              clear CM HG2
              go_wp2_with fail
              go_roundw
              case rel => exact ⟨k, a2, c2, aI2, (k : Int) - 1, by rw [g3], rfl, rfl, HB3, HD3, HG3⟩
              case measure => simp [intOf]; omega
            · rw [if_neg y] at hd2
              have HD3 := Lib.hid hd2
              have HB3 : Hid ((i : Int) + 1 = ((i + 1 : Nat) : Int) ∧ i + 1 ≤ i + 1 ∧ c2 + 1 ≤ i + 1) := ⟨by omega, by omega, by omega⟩
              generalize cmpT m.1 key = cm at *
              clear hd2 hsc hm q1 q2 q3 x0 x1 x2 HB2 HD2 HL1 hmm
              go_wp2_with fail
              refine (CM _).out.mono ?_
              rintro e w8 ⟨rfl, j, rfl⟩
              have HG3 := Lib.hid (only_drewN HG2.out j)
              clear CM HG2
              go_wp2_with fail
              go_roundw
              case rel => exact ⟨i + 1, i + 1, c2 + 1, (i : Int), by omega, by go_num, rfl, by go_num, HB3, HD3, HG3⟩
              case measure => simp [intOf]; omega
        · obtain rfl : i = n := by omega
          have hd2 := HD2.out
          rw [show L.drop i = [] from List.drop_eq_nil_of_le (by rw [Hn.out]; exact Nat.le_refl _)] at hd2
          have HD3 : Hid ((downL L key k (a2, c2)).2 = r) := hd2
          obtain ⟨q1, q2, q3⟩ := HB2.out
          have HB3 : Hid ((k : Int) - 1 + 1 = (k : Int) ∧ aI2 + 1 = (a2 : Int) ∧ k ≤ 12 ∧ a2 ≤ i ∧ c2 ≤ a2) := ⟨Bk.out.1, q1, Bk.out.2, by omega, q3⟩
          have C0 := HG2.out.cell c0 (by simp)
          clear hd2 q1 q2 q3 HB2 HD2
          go_wp2_with fail
          go_roundw
          case rel => exact ⟨k, a2, c2, aI2, (k : Int) - 1, by rw [g3], rfl, rfl, HB3, HD3, HG2⟩
          case measure => simp [intOf]; omega
end Go.Proofs.YtmagkkkecihgmaaGreat
