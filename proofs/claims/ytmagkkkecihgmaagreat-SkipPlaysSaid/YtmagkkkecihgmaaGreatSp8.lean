/-
  Package skip, part 8: insert.
-/
import Derived.Test.YtmagkkkecihgmaaGreatSp7
namespace Go.Proofs.YtmagkkkecihgmaaGreat
open Go.RowKit

set_option maxRecDepth 100000 in
set_option maxHeartbeats 4000000 in
theorem insert_any {B p a H : Nat} {s : S10} {w : World} {Z : List Z10} (h : SkZ B p w s Z) (key value : ByteArray) (pl : Nat) (hpl : pl ≤ Z.length) (hnew : NdAt w a key value (fun _ => none)) (ha : ¬ Foot p Z a) (hH : H ≤ 12) (hL : s.L.length ≤ 100000) (hk : key.size ≤ 65536) (hv : value.size ≤ 65536) :
    Calls Tryz.prog 33 #[.pointer (some ⟨p, 0, none⟩), .pointer (some ⟨a, 0, none⟩), .agg (befV p Z pl), .int .i64 (H : Int)] w fun e w' => e = .returned (.tuple #[]) ∧ SpAt B p w' Z (lnkM Z pl a H) (cntM s.L H) ((bytesL s.L + key.size + value.size : Nat) : Int) s.frozen ∧ NdAt w' a key value (lnkN Z pl H) ∧ Tu (FootN p Z a) w w' := by
  have G0 := World.grownBy_alloc w (.cells (befV p Z pl) 31) none
  have hb : ¬ Foot p Z w.heap.size := fun e => by have := (h.at_.foot_lt e).2; omega
  have M0 : Hid (Mid B p w (w.alloc (.cells (befV p Z pl) 31)) s Z pl a w.heap.size key value 0 (bytesL s.L : Int)) :=
    ⟨(h.at_.up G0).eq_ (fun k t _ => by unfold lnkM; rw [if_neg (by omega)]) (fun t _ => by unfold cntM; rw [if_neg (by omega)]; omega), (hnew.tu (S := fun _ => False) (Tu.of_grown G0) (fun h => h)).eq_ (fun t _ => by unfold lnkN; rw [if_neg (by omega)]), Blk.new _ _ _, Tu.of_grown G0⟩
  have hcl := fun t => cntL_le s.L t
  have hbl := bytesL_le s.L (fun m hm => ⟨(h.ok m hm).1, (h.ok m hm).2.1⟩)
  have Ha := Lib.hid ha
  have Hb := Lib.hid hb
  have Hpl := Lib.hid hpl
  have Hcl := Lib.hid (fun t => Nat.le_trans (hcl t) hL)
  have HH := Lib.hid hH
  have gw1 : wrap64 ((key.size : Int) + (value.size : Int)) = ((key.size + value.size : Nat) : Int) := (IntWalk.wrap64_in _ (by omega)).trans (by omega)
  have hbl2 : bytesL s.L ≤ 13107200000 := Nat.le_trans hbl (by omega)
  have gw2 : wrap64 ((bytesL s.L : Int) + ((key.size : Int) + (value.size : Int))) = ((bytesL s.L + key.size + value.size : Nat) : Int) := (IntWalk.wrap64_in _ (by omega)).trans (by omega)
  have Hg1 := Lib.hid gw1
  have Hg2 := Lib.hid gw2
  clear h hpl hnew ha hH hL hk hv G0 hb hcl hbl gw1 gw2 hbl2
  go_enter Tryz.func33, Tryz.ntmps33
  go_wp2_with fail
  go_loopw [10] (fun s10 wr => ∃ t : Nat, s10 = .int .i64 (t : Int) ∧ Hid (t ≤ H) ∧ Hid (Mid B p w wr s Z pl a w.heap.size key value t (bytesL s.L : Int))) (fun s10 _ => H - (intOf s10).toNat)
  case atStart => exact ⟨0, rfl, Lib.hid (Nat.zero_le _), M0⟩
  case round =>
    obtain ⟨t, rfl, Ht, M⟩ := hrel
    clear M0
    by_cases hl : t < H
    · have h1 := HH.out
      have ht : t < 12 := by omega
      have HT := Lib.hid ht
      have hk : bef Z t pl ≤ Z.length := Nat.le_trans (bef_le Z t pl) Hpl.out
      have g1 : (t : Int) < (H : Int) := by omega
      have g2 : (t : Int) < 12 := by omega
      have g3 : (0 : Int) ≤ (t : Int) := by omega
      have e1 : lnkM Z pl a t (bef Z t pl) t = lnk Z (bef Z t pl) t := by unfold lnkM; rw [if_neg (by omega)]
      have y0 : wr.cell? ⟨w.heap.size, t, none⟩ = some (.pointer (some ⟨padr p Z (bef Z t pl), 0, none⟩)) := by rw [M.out.arr.cell, befV_at _ _ _ ht]; rfl
      have y1 := M.out.at_.link hk ht
      rw [e1] at y1
      have y2 := M.out.new.link ht
      have y3 := M.out.new.frozen (2 + t)
      have S1 := Lib.hid (M.out.one Ha.out ht _ rfl)
      have Hhk := Lib.hid hk
      have HN1 : Hid (t + 1 ≤ H) := by show t + 1 ≤ H; omega
      clear h1 ht hk e1 Ht M
      go_upto_region 4 with fail
      go_region
      generalize (wr.setCell ⟨a, 2 + t, none⟩ (.pointer (lnk Z (bef Z t pl) t))).drew = W1 at *
      obtain ⟨h0, h1, h2, h3⟩ := S1.out
      clear y0 y1 y2 y3 S1
      have y0 : W1.cell? ⟨w.heap.size, t, none⟩ = some (.pointer (some ⟨padr p Z (bef Z t pl), 0, none⟩)) := by rw [h2.cell, befV_at _ _ _ HT.out]; rfl
      have y1 := h1.link Hhk.out HT.out
      have y2 := h1.frozen Hhk.out (2 + t)
      have S2 := Lib.hid (Mid.two h0 h1 h2 h3 Hpl.out Ha.out Hb.out HT.out)
      clear h0 h1 h2 h3
      go_upto_region 6 with fail
      generalize W1.setCell ⟨padr p Z (bef Z t pl), 2 + t, none⟩ (.pointer (some ⟨a, 0, none⟩)) = W2 at *
      obtain ⟨h0, h1, h2, h3⟩ := S2.out
      clear y0 y1 y2 S2
      have y0 := h1.hd.count HT.out
      have y1 := h1.hd.frozen (14 + t)
      have e2 : cntM s.L t t = (cntL s.L t : Int) := by unfold cntM; rw [if_neg (by omega)]; omega
      rw [e2] at y0
      have g4 : wrap64 ((cntL s.L t : Int) + 1) = (cntL s.L t : Int) + 1 := IntWalk.wrap64_in _ (by have := Hcl.out t; omega)
      have S3 := Lib.hid (Mid.three h0 h1 h2 h3 Ha.out Hb.out HT.out _ rfl)
      clear h0 h1 h2 h3 e2
      go_region
      generalize (W2.setCell ⟨p, 14 + t, none⟩ (.int .i64 ((cntL s.L t : Int) + 1))).drew = W3 at *
      clear y0 y1 g4
      go_wp2_with fail
      go_roundw
      case rel => exact ⟨t + 1, by go_num, HN1, S3⟩
      case measure => simp [intOf]; omega
    · obtain rfl : t = H := by have := Ht.out; omega
      have y0 := M.out.at_.hd.bytes
      have y1 := M.out.at_.hd.frozen 26
      have y2 := M.out.new.key
      have y3 := M.out.new.val
      have g1 := Hg1.out
      have S4 := Lib.hid (M.out.four (by2 := wrap64 ((bytesL s.L : Int) + ((key.size : Int) + (value.size : Int)))) Ha.out _ rfl)
      clear Ht M hl
      go_upto_region 8 with fail
      go_region
      generalize (wr.setCell ⟨p, 26, none⟩ (.int .i64 (wrap64 ((bytesL s.L : Int) + ((key.size : Int) + (value.size : Int)))))).drew = W4 at *
      obtain ⟨h1, h2, h3⟩ := S4.out
      rw [Hg2.out] at h1
      go_end0
      exact ⟨rfl, h1, h2, h3⟩
end Go.Proofs.YtmagkkkecihgmaaGreat
