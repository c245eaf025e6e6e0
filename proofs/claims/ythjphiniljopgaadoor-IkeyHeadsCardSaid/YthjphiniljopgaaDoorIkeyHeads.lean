/-
  IkeyHeads: no key's head begins another one's: all versions of a key stand together.
-/
import Derived.Test.YthjphiniljopgaaDoorIkC
namespace Go.Proofs.YthjphiniljopgaaDoor
open Go.RowKit

/-- What the walk needs of three texts: two heads and bytes that begin with the first. -/
structure HeadsP (X Y : ByteArray) : Prop where
  ne : (X.toList == Y.toList) = false
  xy : X.size ≤ Y.size → ((Y.extract 0 X.size).toList == X.toList) = false
  yx : Y.size ≤ X.size → ((X.extract 0 Y.size).toList == Y.toList) = false
theorem headsP {a b : List UInt8} (h : a ≠ b) : HeadsP ⟨(headL a).toArray⟩ ⟨(headL b).toArray⟩ := by
  refine ⟨?_, fun hs => str_not_front hs fun r e => ?_, fun hs => str_not_front hs fun r e => ?_⟩
  · rw [str_eq, decide_eq_false_iff_not, mk_data, mk_data]
    intro e
    exact h (headL_apart a b [] [] (by rw [List.append_nil, List.append_nil]; exact e)).1
  · rw [mk_data, mk_data] at e
    exact h (headL_apart a b r [] (by rw [List.append_nil]; exact e.symm)).1
  · rw [mk_data, mk_data] at e
    exact h (headL_apart a b [] r (by rw [List.append_nil]; exact e)).1
structure PutsP (S X Y : ByteArray) : Prop where
  long : (X.size : Int) < (S.size : Int)
  front : ((S.extract 0 X.size).toList == X.toList) = true
  far : Y.size ≤ S.size → ((S.extract 0 Y.size).toList == Y.toList) = false
theorem putsP {a b : List UInt8} {xs : List Int} {o x : Int} (h : a ≠ b) (hk : okV a xs o x = true) : PutsP ⟨(putVL a xs o x).toArray⟩ ⟨(headL a).toArray⟩ ⟨(headL b).toArray⟩ := by
  have hl := putVL_length (okV_of hk)
  have hs : (⟨(headL a).toArray⟩ : ByteArray).size ≤ (⟨(putVL a xs o x).toArray⟩ : ByteArray).size := by rw [size_mk, size_mk]; omega
  refine ⟨?_, (str_front hs).2 ⟨tailL (timeN xs o).toNat o.toNat x.toNat (vecB xs), ?_⟩, fun hs => str_not_front hs fun r e => ?_⟩
  · rw [size_mk, size_mk]; omega
  · rw [mk_data, mk_data]; rfl
  · rw [mk_data, mk_data] at e
    unfold putVL at e
    exact h (headL_apart a b _ r e).1

set_option maxRecDepth 100000 in
set_option maxHeartbeats 4000000 in
theorem lawIkeyHeads (a : ByteArray) (ha : a.size ≤ 140737488351232) (b : ByteArray) (hb : b.size ≤ 140737488351232) (key : ByteArray) (A : Option Addr) (n c : Nat) (o x kd : Int) (nu : Nat) (it : Int) (tx : ByteArray) (xs : List Int) (w : World) (V : VerIn w key A n xs o x kd nu it tx) :
    Calls Tryd.prog 5 #[.string a, .string b, verV key A n c o x kd nu it tx] w fun e w' => e = .returned (.bool true) ∧ Below w.heap.size w w' := by
  unfold verV
  have f1 : IntKind.i64.wrap ((a.size : Int) + (b.size : Int)) = (a.size : Int) + (b.size : Int) := IntWalk.i64_in _ (by omega)
  have f2 : wrap64 ((a.size : Int) + (b.size : Int)) = (a.size : Int) + (b.size : Int) := IntWalk.wrap64_in _ (by omega)
  by_cases hbig : (3000 : Int) < (a.size : Int) + (b.size : Int)
  · clear V
    go_enter Tryd.func5, Tryd.ntmps5
    go_wp2_with fail
    refine (kalive_any _).mono ?_
    rintro e w1 ⟨rfl, h1⟩
    go_wp2_with fail
    go_ret
    exact ⟨rfl, ((Below.refl _ w).alloc (Nat.le_refl _) _).trans (h1.mono (by simp))⟩
  by_cases hab : (a.toList == b.toList) = true
  · clear V
    go_enter Tryd.func5, Tryd.ntmps5
    go_wp2_with fail
    refine (kalive_any _).mono ?_
    rintro e w1 ⟨rfl, h1⟩
    go_wp2_with fail
    go_ret
    exact ⟨rfl, ((Below.refl _ w).alloc (Nat.le_refl _) _).trans (h1.mono (by simp))⟩
  have hab : (a.toList == b.toList) = false := by simpa using hab
  have hne : a.data.toList ≠ b.data.toList := by
    rw [str_eq, decide_eq_false_iff_not] at hab
    exact hab
  have P := headsP hne
  have Q := fun k => putsP (xs := xs) (o := o) (x := x) hne k
  have H1 := fun W => Lib.hid (khead_any a W (by omega))
  have H2 := fun W => Lib.hid (khead_any b W (by omega))
  have hp := headL_two a.data.toList
  have hq := headL_two b.data.toList
  have sx : ((⟨(headL a.data.toList).toArray⟩ : ByteArray).size : Int) ≤ 20000 := by
    rw [size_mk]
    have : a.data.toList.length = a.size := (str_size a).symm
    omega
  have sy : ((⟨(headL b.data.toList).toArray⟩ : ByteArray).size : Int) ≤ 20000 := by
    rw [size_mk]
    have : b.data.toList.length = b.size := (str_size b).symm
    omega
  have PC := fun W h => Lib.hid (kput_any a A n c o x kd nu it tx xs W h)
  have sS : ∀ l : List UInt8, l = putVL a.data.toList xs o x → okV a.data.toList xs o x = true → ((⟨l.toArray⟩ : ByteArray).size : Int) ≤ 300 := by
    intro l hl hk
    rw [size_mk, hl]
    have := putVL_length (okV_of hk)
    omega
  obtain ⟨S, hS⟩ : ∃ S : ByteArray, (⟨(putVL a.data.toList xs o x).toArray⟩ : ByteArray) = S := ⟨_, rfl⟩
  have sS := fun hk => sS _ rfl hk
  rw [hS] at sS
  simp only [hS] at Q PC
  generalize (⟨(headL a.data.toList).toArray⟩ : ByteArray) = X at *
  generalize (⟨(headL b.data.toList).toArray⟩ : ByteArray) = Y at *
  generalize okV a.data.toList xs o x = ok at *
  have V := Lib.hid V
  have Q := Lib.hid Q
  have sS := Lib.hid sS
  have P1 := P.ne
  have P2 := P.xy
  have P3 := P.yx
  clear P hp hq hne hS
  have V : Hid (VerIn w a A n xs o x kd nu it tx) := ⟨V.out.ints, by omega, V.out.ow, V.out.xw, V.out.kw, V.out.nw, V.out.iw, V.out.ts⟩
  simp only [verV] at PC
  by_cases g1 : X.size ≤ Y.size
  · have P2 := P2 g1
    have g1' : (X.size : Int) ≤ (Y.size : Int) := by omega
    by_cases g2 : Y.size ≤ X.size
    · have P3 := P3 g2
      have g2' : (Y.size : Int) ≤ (X.size : Int) := by omega
      clear g1 g2
      go_enter Tryd.func5, Tryd.ntmps5
      go_wp2_with fail
      have B0 : Blk (w.alloc (.cells #[.string key, .slice A n c, .int .i64 o, .int .i64 x, .int .i64 kd, .float .f64 nu, .int .i64 it, .string tx] 28)) w.heap.size 28 (verC key A n c o x kd nu it tx) := Blk.new w _ _
      have hb0 : Below w.heap.size w (w.alloc (.cells #[.string key, .slice A n c, .int .i64 o, .int .i64 x, .int .i64 kd, .float .f64 nu, .int .i64 it, .string tx] 28)) := (Below.refl _ w).alloc (Nat.le_refl _) _
      generalize w.alloc (.cells #[.string key, .slice A n c, .int .i64 o, .int .i64 x, .int .i64 kd, .float .f64 nu, .int .i64 it, .string tx] 28) = w0 at B0 hb0 ⊢
      have B0 := Lib.hid B0
      have hb0 := Lib.hid hb0
      refine (H1 _).out.mono ?_
      rintro e w1 ⟨rfl, h1⟩
      have B1 := Lib.hid (B0.out.below h1 B0.out.lt)
      have hb1 := Lib.hid (hb0.out.trans (h1.mono hb0.out.size))
      clear B0 hb0 h1
      go_wp2_with fail
      refine (H2 _).out.mono ?_
      rintro e w2 ⟨rfl, h2⟩
      have B2 := Lib.hid (B1.out.below h2 B1.out.lt)
      have hb2 := Lib.hid (hb1.out.trans (h2.mono hb1.out.size))
      clear B1 hb1 h2
      obtain ⟨c0, c1, c2, c3, c4, c5, c6, c7⟩ := ver_cells B2.out
      have z0 := B2.out.frozen 0
      have hb3 := Lib.hid (below_setCell hb2.out (p := ⟨w.heap.size, 0, none⟩) (Nat.le_refl _) (.string a))
      go_wp2_with fail
      refine (PC _ (V.out.below hb3.out)).out.mono ?_
      rintro e w4 ⟨hR, h4⟩
      have hb4 := Lib.hid (hb3.out.trans (h4.mono hb3.out.size))
      clear c0 c1 c2 c3 c4 c5 c6 c7 z0 hb2 hb3 h4 B2
      rcases hR with ⟨hok, rfl⟩ | ⟨_, rfl⟩
      · have U := Q.out hok
        have U1 := U.long
        have U2 := U.front
        have U3 := U.far
        have U4 := sS.out hok
        clear U hok
        by_cases g5 : Y.size ≤ S.size
        · have U3 := U3 g5
          have g5' : ¬ (S.size : Int) < (Y.size : Int) := by omega
          have g6 : (Y.size : Int) ≤ (S.size : Int) := by omega
          clear g5
          go_wp2_with fail
          refine (kalive_any _).mono ?_
          rintro e w5 ⟨rfl, h5⟩
          have hb5 := hb4.out.trans (h5.mono hb4.out.size)
          go_wp2_with fail
          go_ret
          exact ⟨rfl, hb5⟩
        · have g5' : (S.size : Int) < (Y.size : Int) := by omega
          clear g5 U3
          go_wp2_with fail
          refine (kalive_any _).mono ?_
          rintro e w5 ⟨rfl, h5⟩
          have hb5 := hb4.out.trans (h5.mono hb4.out.size)
          go_wp2_with fail
          go_ret
          exact ⟨rfl, hb5⟩
      · go_wp2_with fail
        refine (kalive_any _).mono ?_
        rintro e w5 ⟨rfl, h5⟩
        have hb5 := hb4.out.trans (h5.mono hb4.out.size)
        go_wp2_with fail
        go_ret
        exact ⟨rfl, hb5⟩
    · have g2' : ¬ (Y.size : Int) ≤ (X.size : Int) := by omega
      clear g1 g2 P3
      go_enter Tryd.func5, Tryd.ntmps5
      go_wp2_with fail
      have B0 : Blk (w.alloc (.cells #[.string key, .slice A n c, .int .i64 o, .int .i64 x, .int .i64 kd, .float .f64 nu, .int .i64 it, .string tx] 28)) w.heap.size 28 (verC key A n c o x kd nu it tx) := Blk.new w _ _
      have hb0 : Below w.heap.size w (w.alloc (.cells #[.string key, .slice A n c, .int .i64 o, .int .i64 x, .int .i64 kd, .float .f64 nu, .int .i64 it, .string tx] 28)) := (Below.refl _ w).alloc (Nat.le_refl _) _
      generalize w.alloc (.cells #[.string key, .slice A n c, .int .i64 o, .int .i64 x, .int .i64 kd, .float .f64 nu, .int .i64 it, .string tx] 28) = w0 at B0 hb0 ⊢
      have B0 := Lib.hid B0
      have hb0 := Lib.hid hb0
      refine (H1 _).out.mono ?_
      rintro e w1 ⟨rfl, h1⟩
      have B1 := Lib.hid (B0.out.below h1 B0.out.lt)
      have hb1 := Lib.hid (hb0.out.trans (h1.mono hb0.out.size))
      clear B0 hb0 h1
      go_wp2_with fail
      refine (H2 _).out.mono ?_
      rintro e w2 ⟨rfl, h2⟩
      have B2 := Lib.hid (B1.out.below h2 B1.out.lt)
      have hb2 := Lib.hid (hb1.out.trans (h2.mono hb1.out.size))
      clear B1 hb1 h2
      obtain ⟨c0, c1, c2, c3, c4, c5, c6, c7⟩ := ver_cells B2.out
      have z0 := B2.out.frozen 0
      have hb3 := Lib.hid (below_setCell hb2.out (p := ⟨w.heap.size, 0, none⟩) (Nat.le_refl _) (.string a))
      go_wp2_with fail
      refine (PC _ (V.out.below hb3.out)).out.mono ?_
      rintro e w4 ⟨hR, h4⟩
      have hb4 := Lib.hid (hb3.out.trans (h4.mono hb3.out.size))
      clear c0 c1 c2 c3 c4 c5 c6 c7 z0 hb2 hb3 h4 B2
      rcases hR with ⟨hok, rfl⟩ | ⟨_, rfl⟩
      · have U := Q.out hok
        have U1 := U.long
        have U2 := U.front
        have U3 := U.far
        have U4 := sS.out hok
        clear U hok
        by_cases g5 : Y.size ≤ S.size
        · have U3 := U3 g5
          have g5' : ¬ (S.size : Int) < (Y.size : Int) := by omega
          have g6 : (Y.size : Int) ≤ (S.size : Int) := by omega
          clear g5
          go_wp2_with fail
          refine (kalive_any _).mono ?_
          rintro e w5 ⟨rfl, h5⟩
          have hb5 := hb4.out.trans (h5.mono hb4.out.size)
          go_wp2_with fail
          go_ret
          exact ⟨rfl, hb5⟩
        · have g5' : (S.size : Int) < (Y.size : Int) := by omega
          clear g5 U3
          go_wp2_with fail
          refine (kalive_any _).mono ?_
          rintro e w5 ⟨rfl, h5⟩
          have hb5 := hb4.out.trans (h5.mono hb4.out.size)
          go_wp2_with fail
          go_ret
          exact ⟨rfl, hb5⟩
      · go_wp2_with fail
        refine (kalive_any _).mono ?_
        rintro e w5 ⟨rfl, h5⟩
        have hb5 := hb4.out.trans (h5.mono hb4.out.size)
        go_wp2_with fail
        go_ret
        exact ⟨rfl, hb5⟩
  · have g1' : ¬ (X.size : Int) ≤ (Y.size : Int) := by omega
    have g2 : Y.size ≤ X.size := by omega
    have P3 := P3 g2
    have g2' : (Y.size : Int) ≤ (X.size : Int) := by omega
    clear g1 g2 P2
    go_enter Tryd.func5, Tryd.ntmps5
    go_wp2_with fail
    have B0 : Blk (w.alloc (.cells #[.string key, .slice A n c, .int .i64 o, .int .i64 x, .int .i64 kd, .float .f64 nu, .int .i64 it, .string tx] 28)) w.heap.size 28 (verC key A n c o x kd nu it tx) := Blk.new w _ _
    have hb0 : Below w.heap.size w (w.alloc (.cells #[.string key, .slice A n c, .int .i64 o, .int .i64 x, .int .i64 kd, .float .f64 nu, .int .i64 it, .string tx] 28)) := (Below.refl _ w).alloc (Nat.le_refl _) _
    generalize w.alloc (.cells #[.string key, .slice A n c, .int .i64 o, .int .i64 x, .int .i64 kd, .float .f64 nu, .int .i64 it, .string tx] 28) = w0 at B0 hb0 ⊢
    have B0 := Lib.hid B0
    have hb0 := Lib.hid hb0
    refine (H1 _).out.mono ?_
    rintro e w1 ⟨rfl, h1⟩
    have B1 := Lib.hid (B0.out.below h1 B0.out.lt)
    have hb1 := Lib.hid (hb0.out.trans (h1.mono hb0.out.size))
    clear B0 hb0 h1
    go_wp2_with fail
    refine (H2 _).out.mono ?_
    rintro e w2 ⟨rfl, h2⟩
    have B2 := Lib.hid (B1.out.below h2 B1.out.lt)
    have hb2 := Lib.hid (hb1.out.trans (h2.mono hb1.out.size))
    clear B1 hb1 h2
    obtain ⟨c0, c1, c2, c3, c4, c5, c6, c7⟩ := ver_cells B2.out
    have z0 := B2.out.frozen 0
    have hb3 := Lib.hid (below_setCell hb2.out (p := ⟨w.heap.size, 0, none⟩) (Nat.le_refl _) (.string a))
    go_wp2_with fail
    refine (PC _ (V.out.below hb3.out)).out.mono ?_
    rintro e w4 ⟨hR, h4⟩
    have hb4 := Lib.hid (hb3.out.trans (h4.mono hb3.out.size))
    clear c0 c1 c2 c3 c4 c5 c6 c7 z0 hb2 hb3 h4 B2
    rcases hR with ⟨hok, rfl⟩ | ⟨_, rfl⟩
    · have U := Q.out hok
      have U1 := U.long
      have U2 := U.front
      have U3 := U.far
      have U4 := sS.out hok
      clear U hok
      by_cases g5 : Y.size ≤ S.size
      · have U3 := U3 g5
        have g5' : ¬ (S.size : Int) < (Y.size : Int) := by omega
        have g6 : (Y.size : Int) ≤ (S.size : Int) := by omega
        clear g5
        go_wp2_with fail
        refine (kalive_any _).mono ?_
        rintro e w5 ⟨rfl, h5⟩
        have hb5 := hb4.out.trans (h5.mono hb4.out.size)
        go_wp2_with fail
        go_ret
        exact ⟨rfl, hb5⟩
      · have g5' : (S.size : Int) < (Y.size : Int) := by omega
        clear g5 U3
        go_wp2_with fail
        refine (kalive_any _).mono ?_
        rintro e w5 ⟨rfl, h5⟩
        have hb5 := hb4.out.trans (h5.mono hb4.out.size)
        go_wp2_with fail
        go_ret
        exact ⟨rfl, hb5⟩
    · go_wp2_with fail
      refine (kalive_any _).mono ?_
      rintro e w5 ⟨rfl, h5⟩
      have hb5 := hb4.out.trans (h5.mono hb4.out.size)
      go_wp2_with fail
      go_ret
      exact ⟨rfl, hb5⟩
end Go.Proofs.YthjphiniljopgaaDoor
