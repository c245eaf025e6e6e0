/-
  Walks over package raw: quoted.
-/
import Derived.Test.YtkjfhgaiakienaaDoorRaw9
namespace Go.Proofs.YtkjfhgaiakienaaDoor
open Go.RowKit

def posAt (w : World) (p : Nat) : Nat := match w.cell? ⟨p, 1, none⟩ with
  | some v => (intOf v).toNat
  | none => 0
theorem posAt_blk {w : World} {p k : Nat} {t : TypeId} {x : Value} (h : Blk w p t #[x, .int .i64 (k : Int)]) : posAt w p = k := by
  unfold posAt
  rw [h.cell 1]
  simp [intOf]

theorem Byt.far {w w' : World} {B p : Nat} {e : TypeId} {v : Value} {l : List UInt8} (h : Byt w B e v l) (hg : w.grownBy w' (some p)) (hp : p < B) : Byt w' B e v l :=
  World.ownsRow.kept h hg (by
    rcases hv : v.ownBlock with _ | k
    · exact .inl rfl
    · refine .inr fun e' => ?_
      have := World.ownsRow.lt h k hv
      injection e' with e'
      omega)
/-- An append to bytes of the call's own leaves the reader. -/
theorem Byt.own {w w' : World} {B p : Nat} {e t : TypeId} {v : Value} {l : List UInt8} {cs : Array Value} (h : Byt w B e v l) (hg : w.grownBy w' v.ownBlock) (hb : Blk w p t cs) (hp : p < B) : Blk w' p t cs :=
  hb.grown hg fun e' => by
    have := World.ownsRow.lt h p e'.symm
    omega
theorem Byt.only {a w w' : World} {p : Nat} {e : TypeId} {v : Value} {l : List UInt8} (h : Byt w a.heap.size e v l) (hg : w.grownBy w' v.ownBlock) (ha : a.grownBy w (some p)) : a.grownBy w' (some p) :=
  ⟨hg.os.trans ha.os, hg.tape.trans ha.tape, hg.output.trans ha.output, Nat.le_trans ha.size hg.size, fun i hi hne =>
    (hg.block i (Nat.lt_of_lt_of_le hi ha.size) (fun e' => by have := World.ownsRow.lt h i e'.symm; omega)).trans (ha.block i hi hne)⟩

set_option maxRecDepth 100000 in
set_option maxHeartbeats 4000000 in
theorem quoted_any (p : Nat) (s : ByteArray) (w : World) (hB : Blk w p 49 #[.string s, .int .i64 (0 : Nat)]) (hs : s.size ≤ 140737488351232) :
    Calls Tryd.prog 40 #[.pointer (some ⟨p, 0, none⟩)] w fun e w' => QuotPost p s w (unq s.data.toList) e w' := by
  have hp := hB.lt
  by_cases h0 : 0 < s.size
  · have hd : s.data.toList = s[0] :: s.data.toList.drop 1 := by
      have := List.drop_eq_getElem_cons (l := s.data.toList) (i := 0) (by simpa using h0)
      rw [List.drop_zero] at this
      exact this
    have N1 := Lib.hid (nextB_some p 0 s 4 w hB h0 (by omega))
    by_cases h34 : s[0].toNat = 34
    · obtain ⟨g, hg⟩ : ∃ g, g = unq s.data.toList := ⟨_, rfl⟩
      have hg2 : g = onto [] 1 (uq (s.data.toList.drop 1)) := by
        rw [hg]
        conv => lhs; rw [hd, unq, if_pos h34]
      rw [← hg]
      have Hg := Lib.hid hg2
      have e0 : ((s[0].toNat : Int) != 34) = false := by rw [h34]; rfl
      clear hg hg2 hd h34
      go_enter Tryd.func40, Tryd.ntmps40
      go_wp2_with fail
      refine N1.out.mono ?_
      rintro e w1 ⟨rfl, hB1, hg1⟩
      go_wp2_with fail
      go_loopw [3] (fun b wr => ∃ (k : Nat) (acc : List UInt8), k ≤ s.size ∧ acc.length ≤ k ∧ Blk wr p 49 #[.string s, .int .i64 (k : Int)] ∧ Byt wr w.heap.size 5 b acc ∧ Hid (g = onto acc k (uq (s.data.toList.drop k))) ∧ w.grownBy wr (some p))
        (fun _ wr => s.size - posAt wr p)
      case atStart => exact ⟨1, [], by omega, by simp, hB1, Byt.nil _ _ _, Hg, hg1⟩
      case round =>
        obtain ⟨k, acc, hk, hacc, hBk, hown, Hk, hgr⟩ := hrel
        have hm := posAt_blk hBk
        by_cases hl : k < s.size
        · have hb8 := UInt8.toNat_lt s[k]
          have hdk : s.data.toList.drop k = s[k] :: s.data.toList.drop (k + 1) := List.drop_eq_getElem_cons (by simpa using hl)
          have N2 := Lib.hid (nextB_some p k s 4 wr hBk hl (by omega))
          have Hm := Lib.hid hm
          have HBk := Lib.hid hBk
          clear hm hBk
          by_cases q34 : s[k].toNat = 34
          · have hgg : g = some (acc, k + 1) := by rw [Hk.out, hdk, uq_end _ _ q34]; simp [onto]
            have e1 : ((s[k].toNat : Int) == 34) = true := by rw [beq_iff_eq]; omega
            have Hgg := Lib.hid hgg
            clear hgg hdk q34
            go_wp2_with fail
            refine N2.out.mono ?_
            rintro e w2 ⟨rfl, hB2, hg2'⟩
            have hown1 := hown.far hg2' hp
            have hcv := hown1.string (src := 42) (dst := 9) Tryd.underlying42 Tryd.underlying5 Tryd.underlying9
            have hg2 := grown_trans hgr hg2'
            clear hown1 hown
            go_wp2_with fail
            go_ret
            rw [Hgg.out]
            exact ⟨rfl, hB2, hg2⟩
          by_cases q92 : s[k].toNat = 92
          · have e1 : ((s[k].toNat : Int) == 34) = false := by rw [beq_eq_false_iff_ne]; omega
            have e2 : ((s[k].toNat : Int) == 92) = true := by rw [beq_iff_eq]; omega
            cases he : esc (s.data.toList.drop (k + 1)) with
            | none =>
              have hgg : g = none := by rw [Hk.out, hdk, uq_bad _ _ q92 he]; rfl
              have Hgg := Lib.hid hgg
              have He := Lib.hid he
              clear hgg hdk q92 q34 he
              go_wp2_with fail
              refine N2.out.mono ?_
              rintro e w2 ⟨rfl, hB2, hg2'⟩
              go_wp2_with fail
              refine (escaped_any p (k + 1) s w2 hB2 (by omega) (by omega)).mono ?_
              rw [He.out]
              rintro e w3 ⟨rfl, hg3⟩
              refine ⟨rfl, ?_⟩
              rw [Hgg.out]
              exact ⟨rfl, grown_trans (grown_trans hgr hg2') hg3⟩
            | some x =>
              obtain ⟨d, n⟩ := x
              have hn := esc_pos he
              rw [List.length_drop] at hn
              have hn1 : 1 ≤ n := hn.1
              have hn2 : k + 1 + n ≤ s.size := by
                have := hn.2
                have h2 : s.data.toList.length = s.size := rfl
                omega
              have hgg : g = onto (acc ++ [d]) (k + 1 + n) (uq (s.data.toList.drop (k + 1 + n))) := by
                rw [Hk.out, hdk, uq_esc _ _ d n q92 he, List.drop_drop]
              have Hgg := Lib.hid hgg
              have He := Lib.hid he
              clear hgg hdk q92 q34 he hn
              go_wp2_with fail
              refine N2.out.mono ?_
              rintro e w2 ⟨rfl, hB2, hg2'⟩
              go_wp2_with fail
              refine (escaped_any p (k + 1) s w2 hB2 (by omega) (by omega)).mono ?_
              rw [He.out]
              rintro e w3 ⟨rfl, hB3, hg3⟩
              have hown1 := (hown.far hg2' hp).far hg3 hp
              have hg2 := grown_trans (grown_trans hgr hg2') hg3
              clear hown hB2
              go_wp2_with (at_builtin; refine wpList_append_byte _ rfl (.tmp 26) (.tmp 28) 42 rfl Tryd.underlying42 u8info rfl (hown1.alloc _) ⟨w3.heap.size, 0, none⟩ 1 rfl _ (cell_new _ _ _) d rfl (by omega) (Nat.le_trans hg2.size (by simp)) ?_; intro v' w' hown' hgw; have hB' := (hown1.alloc (.cells #[.int .u8 (d.toNat : Int)] 5)).own hgw (hB3.alloc _) hp; have hG' := Byt.only (hown1.alloc (.cells #[.int .u8 (d.toNat : Int)] 5)) hgw (only_alloc hg2 _); clear hgw)
              go_roundw
              case rel => exact ⟨k + 1 + n, acc ++ [d], by omega, by simp; omega, hB', hown', Hgg, hG'⟩
              case measure => rw [posAt_blk hB', Hm.out]; omega
          have e1 : ((s[k].toNat : Int) == 34) = false := by rw [beq_eq_false_iff_ne]; omega
          have e2 : ((s[k].toNat : Int) == 92) = false := by rw [beq_eq_false_iff_ne]; omega
          by_cases qp : 32 ≤ s[k].toNat ∧ s[k].toNat ≤ 126
          · have hgg : g = onto (acc ++ [s[k]]) (k + 1) (uq (s.data.toList.drop (k + 1))) := by rw [Hk.out, hdk, uq_plain _ _ q34 q92 qp]
            have Hgg := Lib.hid hgg
            have P1 := fun W => Lib.hid (plain_yes (s[k].toNat : Int) W (by omega) (by omega))
            clear hgg hdk q92 q34 qp
            go_wp2_with fail
            refine N2.out.mono ?_
            rintro e w2 ⟨rfl, hB2, hg2'⟩
            go_wp2_with fail
            refine (P1 w2).out.mono ?_
            rintro e w3 ⟨rfl, rfl⟩
            have hown1 := hown.far hg2' hp
            have hg2 := grown_trans hgr hg2'
            clear hown
            go_wp2_with (at_builtin; refine wpList_append_byte _ rfl (.tmp 26) (.tmp 28) 42 rfl Tryd.underlying42 u8info rfl (hown1.alloc _) ⟨w2.heap.size, 0, none⟩ 1 rfl _ (cell_new _ _ _) s[k] rfl (by omega) (Nat.le_trans hg2.size (by simp)) ?_; intro v' w' hown' hgw; have hB' := (hown1.alloc (.cells #[.int .u8 (s[k].toNat : Int)] 5)).own hgw (hB2.alloc _) hp; have hG' := Byt.only (hown1.alloc (.cells #[.int .u8 (s[k].toNat : Int)] 5)) hgw (only_alloc hg2 _); clear hgw)
            go_roundw
            case rel => exact ⟨k + 1, acc ++ [s[k]], by omega, by simp; omega, hB', hown', Hgg, hG'⟩
            case measure => rw [posAt_blk (k := k + 1) hB', Hm.out]; omega
          · have hgg : g = none := by rw [Hk.out, hdk, uq_not _ _ q34 q92 qp]; rfl
            have Hgg := Lib.hid hgg
            have P1 := fun W => Lib.hid (plain_no (s[k].toNat : Int) W (by omega))
            clear hgg hdk q92 q34 qp
            go_wp2_with fail
            refine N2.out.mono ?_
            rintro e w2 ⟨rfl, hB2, hg2'⟩
            go_wp2_with fail
            refine (P1 w2).out.mono ?_
            rintro e w3 ⟨rfl, rfl⟩
            go_wp2_with fail
            refine ⟨rfl, ?_⟩
            rw [Hgg.out]
            exact ⟨rfl, grown_trans hgr hg2'⟩
        · obtain rfl : k = s.size := by omega
          have hgg : g = none := by
            rw [Hk.out, List.drop_of_length_le (by simp), uq]
            rfl
          have Hgg := Lib.hid hgg
          clear hgg hm
          go_wp2_with fail
          refine (nextB_end p s 4 wr hBk (by omega)).mono ?_
          rintro e w2 ⟨rfl, hg2'⟩
          refine ⟨rfl, ?_⟩
          rw [Hgg.out]
          exact ⟨rfl, grown_trans hgr hg2'⟩
    · have hgg : unq s.data.toList = none := by rw [hd, unq, if_neg h34]
      have e0 : ((s[0].toNat : Int) != 34) = true := by rw [bne_iff_ne]; omega
      rw [hgg]
      clear hgg hd h34
      go_enter Tryd.func40, Tryd.ntmps40
      go_wp2_with fail
      refine N1.out.mono ?_
      rintro e w1 ⟨rfl, hB1, hg1⟩
      go_wp2_with fail
      exact ⟨rfl, rfl, hg1⟩
  · have hsz : s.size = 0 := by omega
    have hgg : unq s.data.toList = none := by
      have : s.data.toList = [] := List.eq_nil_of_length_eq_zero hsz
      rw [this, unq]
    rw [hgg]
    have hB' : Blk w p 49 #[.string s, .int .i64 (s.size : Int)] := by rw [hsz]; exact hB
    clear hgg
    go_enter Tryd.func40, Tryd.ntmps40
    go_wp2_with fail
    refine (nextB_end p s 4 w hB' (by omega)).mono ?_
    rintro e w1 ⟨rfl, hg1⟩
    exact ⟨rfl, rfl, hg1⟩
end Go.Proofs.YtkjfhgaiakienaaDoor
